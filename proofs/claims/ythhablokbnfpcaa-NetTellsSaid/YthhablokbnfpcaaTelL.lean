/- The law NetTells: its walk. -/
import Derived.Test.YthhablokbnfpcaaRfF
import Derived.Deep.CutRange
import Derived.Deep.CutBlock
namespace Go.Proofs.Ythhablokbnfpcaa
open Go.RowKit Go.Coop Go.Maps
set_option maxRecDepth 100000
/-- the law's net stands at S1, the reference's at S2 -/
structure TM (w0 w : World) (g c b9 n cc : Nat) (A : Option Addr) (S1 S2 : NS) : Prop where
  nt : Nt w w0.heap.size g c S1
  ra : RA w w0.heap.size A n cc S2
  row : w.heap[b9]? = some (.cells #[.int .i64 (S2.ends : Int), .int .i64 (S2.most : Int), .slice A n cc] 42 (0, 0))
  bel : Below w0.heap.size w0 w
  lo : w0.heap.size ≤ b9
section
variable {w0 w w' : World} {g c b9 n cc : Nat} {A : Option Addr} {S1 S2 : NS}
theorem TM.below (h : TM w0 w g c b9 n cc A S1 S2) (hb : Below w.heap.size w w') : TM w0 w' g c b9 n cc A S1 S2 :=
  ⟨h.nt.below hb, h.ra.below hb, rowk2 hb h.row, h.bel.trans (hb.mono h.bel.size), h.lo⟩
theorem TM.prog {S' : NS} (h : TM w0 w g c b9 n cc A S1 S2) (hn : Nt w' w0.heap.size g c S') (hb : Below w0.heap.size w w') (hk : Kp c w w') : TM w0 w' g c b9 n cc A S' S2 :=
  ⟨hn, h.ra.kp hk, hk.cells _ _ _ _ h.row (by decide) (by decide), h.bel.trans hb, h.lo⟩
theorem Nt.but1 {B b : Nat} {cs : Array Value} {T : TypeId} {fr : Nat × Nat} (h : Nt w B g c S1) (hb : w.heap[b]? = some (.cells cs T fr)) (h1 : T ≠ 59) (h2 : T ≠ 80) (hbt : But [b] w w') : Nt w' B g c S1 := by
  obtain ⟨h0, A, cap, hA, hN⟩ := h
  exact ⟨Nat.le_trans h0 hbt.size, A, cap, hA, hN.but hbt fun k hk hm => by
    simp at hm
    subst hm
    exact hN.nb34 hb h1 h2 hk⟩
theorem RA.but1 {lo b : Nat} {cs : Array Value} {T : TypeId} {fr : Nat × Nat} (h : RA w lo A n cc S2) (hb : w.heap[b]? = some (.cells cs T fr)) (h1 : T ≠ 87) (h2 : T ≠ 5) (hbt : But [b] w w') : RA w' lo A n cc S2 := by
  obtain ⟨L, hk, hl⟩ := h
  refine ⟨L, ⟨hk.row.but hbt fun j hj hm => ?_, fun o ho => (hk.its o ho).but hbt (ne5 hb h2)⟩, hl⟩
  simp at hm
  subst hm
  rcases hk.row.row.2 with ⟨hv, h0⟩ | ⟨g, cap, cur, hv, hbg, hg, _⟩
  · injection hv with hA _ _
    subst hA
    cases hj
  · injection hv with hA _ _
    subst hA
    injection hj with hj
    subst hj
    have := hb.symm.trans hg
    injection this with e
    injection e with _ e _
    exact h1 e
/-- another box is written -/
theorem TM.but1 {b : Nat} {cs : Array Value} {T : TypeId} {fr : Nat × Nat} (h : TM w0 w g c b9 n cc A S1 S2) (hb : w.heap[b]? = some (.cells cs T fr)) (hlo : w0.heap.size ≤ b) (h1 : T ≠ 59) (h2 : T ≠ 80) (h3 : T ≠ 87) (h4 : T ≠ 5) (h5 : T ≠ 42) (hbt : But [b] w w') : TM w0 w' g c b9 n cc A S1 S2 :=
  ⟨h.nt.but1 hb h1 h2 hbt, h.ra.but1 hb h3 h4 hbt, hbt.cells h.row (by
    simp
    rintro rfl
    have := hb.symm.trans h.row
    injection this with e
    injection e with _ e _
    exact h5 e), h.bel.trans (hbt.below h.bel.size (by simpa using hlo)), h.lo⟩
/-- the reference's box is written -/
theorem TM.book {n' cc' : Nat} {A' : Option Addr} {S' : NS} (h : TM w0 w g c b9 n cc A S1 S2) (hr : RA w w0.heap.size A' n' cc' S') (hw : ((w.setCell ⟨b9, 0, none⟩ (.int .i64 (S'.ends : Int))).setCell ⟨b9, 1, none⟩ (.int .i64 (S'.most : Int))).setCell ⟨b9, 2, none⟩ (.slice A' n' cc') = w') : TM w0 w' g c b9 n' cc' A' S1 S' ∧ But [b9] w w' := by
  have hbt : But [b9] w w' := hw ▸ (((But.refl [b9] w).setCell (p := ⟨b9, 0, none⟩) (by simp) _).setCell (p := ⟨b9, 1, none⟩) (by simp) _).setCell (p := ⟨b9, 2, none⟩) (by simp) _
  exact ⟨⟨h.nt.but1 h.row (by decide) (by decide) hbt, hr.but1 h.row (by decide) (by decide) hbt, hw ▸ row3 h.row, h.bel.trans (hbt.below h.bel.size (by simpa using h.lo)), h.lo⟩, hbt⟩
end
/-- .. in the midst of a round: the deed's box, the two datagrams' -/
structure TX (w0 w : World) (g c b9 n cc : Nat) (A : Option Addr) (S1 S2 : NS) (bx b15 b16 : Nat) (cs ds es : Array Value) : Prop where
  tm : TM w0 w g c b9 n cc A S1 S2
  rx : w.heap[bx]? = some (.cells cs 46 (0, 0))
  r15 : w.heap[b15]? = some (.cells ds 34 (0, 0))
  r16 : w.heap[b16]? = some (.cells es 34 (0, 0))
  l15 : w0.heap.size ≤ b15
  l16 : w0.heap.size ≤ b16
  ne : b15 ≠ b16
section
variable {w0 w w' : World} {g c b9 n cc bx b15 b16 : Nat} {A : Option Addr} {S1 S2 : NS} {cs ds es : Array Value}
theorem ne_of_rows {w : World} {a b : Nat} {xs ys : Array Value} {T U : TypeId} {fr gr : Nat × Nat} (ha : w.heap[a]? = some (.cells xs T fr)) (hb : w.heap[b]? = some (.cells ys U gr)) (h : T ≠ U) : a ≠ b := by
  rintro rfl
  have := ha.symm.trans hb
  injection this with e
  injection e with _ e _
  exact h e
theorem TX.below (h : TX w0 w g c b9 n cc A S1 S2 bx b15 b16 cs ds es) (hb : Below w.heap.size w w') : TX w0 w' g c b9 n cc A S1 S2 bx b15 b16 cs ds es :=
  ⟨h.tm.below hb, rowk2 hb h.rx, rowk2 hb h.r15, rowk2 hb h.r16, h.l15, h.l16, h.ne⟩
theorem TX.prog {S' : NS} (h : TX w0 w g c b9 n cc A S1 S2 bx b15 b16 cs ds es) (hn : Nt w' w0.heap.size g c S') (hb : Below w0.heap.size w w') (hk : Kp c w w') : TX w0 w' g c b9 n cc A S' S2 bx b15 b16 cs ds es :=
  ⟨h.tm.prog hn hb hk, hk.cells _ _ _ _ h.rx (by decide) (by decide), hk.cells _ _ _ _ h.r15 (by decide) (by decide), hk.cells _ _ _ _ h.r16 (by decide) (by decide), h.l15, h.l16, h.ne⟩
theorem TX.book {n' cc' : Nat} {A' : Option Addr} {S' : NS} (h : TX w0 w g c b9 n cc A S1 S2 bx b15 b16 cs ds es) (hr : RA w w0.heap.size A' n' cc' S') (hw : ((w.setCell ⟨b9, 0, none⟩ (.int .i64 (S'.ends : Int))).setCell ⟨b9, 1, none⟩ (.int .i64 (S'.most : Int))).setCell ⟨b9, 2, none⟩ (.slice A' n' cc') = w') : TX w0 w' g c b9 n' cc' A' S1 S' bx b15 b16 cs ds es := by
  obtain ⟨h1, hbt⟩ := h.tm.book hr hw
  exact ⟨h1, hbt.cells h.rx (by simp; exact ne_of_rows h.rx h.tm.row (by decide)), hbt.cells h.r15 (by simp; exact ne_of_rows h.r15 h.tm.row (by decide)), hbt.cells h.r16 (by simp; exact ne_of_rows h.r16 h.tm.row (by decide)), h.l15, h.l16, h.ne⟩
theorem TX.set15 {v0 v1 v2 x0 x1 x2 : Value} (h : TX w0 w g c b9 n cc A S1 S2 bx b15 b16 cs #[x0, x1, x2] es) (hw : ((w.setCell ⟨b15, 0, none⟩ v0).setCell ⟨b15, 1, none⟩ v1).setCell ⟨b15, 2, none⟩ v2 = w') : TX w0 w' g c b9 n cc A S1 S2 bx b15 b16 cs #[v0, v1, v2] es ∧ But [b15] w w' := by
  have hbt : But [b15] w w' := hw ▸ (((But.refl [b15] w).setCell (p := ⟨b15, 0, none⟩) (by simp) _).setCell (p := ⟨b15, 1, none⟩) (by simp) _).setCell (p := ⟨b15, 2, none⟩) (by simp) _
  exact ⟨⟨h.tm.but1 h.r15 h.l15 (by decide) (by decide) (by decide) (by decide) (by decide) hbt, hbt.cells h.rx (by simp; exact ne_of_rows h.rx h.r15 (by decide)), hw ▸ row3 h.r15, hbt.cells h.r16 (by simp; exact fun e => h.ne e.symm), h.l15, h.l16, h.ne⟩, hbt⟩
theorem TX.set16 {v0 v1 v2 x0 x1 x2 : Value} (h : TX w0 w g c b9 n cc A S1 S2 bx b15 b16 cs ds #[x0, x1, x2]) (hw : ((w.setCell ⟨b16, 0, none⟩ v0).setCell ⟨b16, 1, none⟩ v1).setCell ⟨b16, 2, none⟩ v2 = w') : TX w0 w' g c b9 n cc A S1 S2 bx b15 b16 cs ds #[v0, v1, v2] ∧ But [b16] w w' := by
  have hbt : But [b16] w w' := hw ▸ (((But.refl [b16] w).setCell (p := ⟨b16, 0, none⟩) (by simp) _).setCell (p := ⟨b16, 1, none⟩) (by simp) _).setCell (p := ⟨b16, 2, none⟩) (by simp) _
  exact ⟨⟨h.tm.but1 h.r16 h.l16 (by decide) (by decide) (by decide) (by decide) (by decide) hbt, hbt.cells h.rx (by simp; exact ne_of_rows h.rx h.r16 (by decide)), hbt.cells h.r15 (by simp; exact h.ne), hw ▸ row3 h.r16, h.l15, h.l16, h.ne⟩, hbt⟩
end
theorem Told.but5 {w w' : World} {lo b : Nat} {o : Option Dt} {X : Option Addr} {cx : Nat} {cs : Array Value} {T : TypeId} {fr : Nat × Nat} (h : Told w lo o X cx) (hb : w.heap[b]? = some (.cells cs T fr)) (hT : T ≠ 5) (hbt : But [b] w w') : Told w' lo o X cx := by
  cases o with
  | none => exact h
  | some d => exact Nw.but h hbt (ne5 hb hT)
/-- where the ways of the switch meet again -/
def TCut (w0 : World) (g c b9 J bx b15 b16 : Nat) (cs : Array Value) (a b p q r s : Value) (wc : World) : Prop :=
  ∃ (S : NS) (A : Option Addr) (n cc : Nat) (e : Int) (bb : Bool) (k : Int) (f t : Int) (X Y : Option Addr) (cx cy : Nat) (l : List UInt8), a = .int .i64 e ∧ b = .int .i64 e ∧ p = .bool bb ∧ q = .bool bb ∧ r = .int .i64 k ∧ s = .int .i64 k ∧
    TX w0 wc g c b9 n cc A S S bx b15 b16 cs #[.int .i64 f, .int .i64 t, .slice X l.length cx] #[.int .i64 f, .int .i64 t, .slice Y l.length cy] ∧ Rd wc X l.length l ∧ Rd wc Y l.length l ∧ n ≤ J + 1
theorem tells_bad (ends most : Int) (h : ends < 1 ∨ 300 < ends ∨ most < 1 ∨ 10000 < most) (F : Option Addr) (mo co : Nat) (w : World) : Calls Try.prog 4 #[.int .i64 ends, .int .i64 most, .slice F mo co] w (Awake w) := by
  have H := Lib.hid h
  clear h
  go_enter Try.func4, Try.ntmps4
  go_wp2_with fail
  refine (new_no w _ _ H.out).mono ?_
  rintro e _ ⟨rfl, rfl⟩
  go_wp2_with fail
  refine (rnew_no w H.out).mono ?_
  rintro e w2 ⟨rfl, hb⟩
  obtain ⟨w3, hw3⟩ : ∃ v, w2.alloc (.cells #[.int .i64 0, .int .i64 0, .slice none 0 0] 42) = v := ⟨_, rfl⟩
  have hB3 : Below w2.heap.size w2 w3 := hw3 ▸ (Below.refl _ _).alloc (Nat.le_refl _) _
  have HB := Lib.hid (And.intro (hb.trans (hB3.mono hb.size)) hw3)
  clear hb hB3 hw3
  go_upto_region 3 with (fail)
  rw [HB.out.2]
  go_wp2
  go_loopw [11] (fun i wr => i = .int .i64 0 ∧ w3 = wr) (fun _ _ => 0)
  case atStart => exact ⟨rfl, rfl⟩
  case round =>
    obtain ⟨rfl, rfl⟩ := hrel
    by_cases hm : mo = 0
    · subst hm
      go_wp2_with fail
      refine (awake_is _).mono ?_
      rintro e wz ⟨rfl, hz⟩
      have HZ := Lib.hid hz
      clear hz
      go_wp2
      go_ret
      exact ⟨rfl, HB.out.1.trans (HZ.out.mono HB.out.1.size)⟩
    · have hm1 : (0 : Int) < (mo : Int) := by omega
      clear hm
      go_wp2_with fail
      refine (awake_is _).mono ?_
      rintro e wz ⟨rfl, hz⟩
      have HZ := Lib.hid hz
      clear hz
      go_wp2
      go_ret
      exact ⟨rfl, HB.out.1.trans (HZ.out.mono HB.out.1.size)⟩
set_option maxHeartbeats 8000000 in
theorem tells_good (ends most : Nat) (h1 : 1 ≤ ends) (h2 : ends ≤ 300) (h3 : 1 ≤ most) (h4 : most ≤ 10000) (F : Option Addr) (mo co : Nat) (os : List DeedV) (w : World) (ho : DeedsAt w F mo os) (hm : mo ≤ 9223372036854775807) : Calls Try.prog 4 #[.int .i64 (ends : Int), .int .i64 (most : Int), .slice F mo co] w (Awake w) := by
  have HO := Lib.hid ho
  have hmo : (mo : Int) ≤ 9223372036854775807 := by omega
  have HE := Lib.hid (And.intro h1 (And.intro h2 (And.intro h3 h4)))
  clear ho hm h1 h2 h3 h4
  go_enter Try.func4, Try.ntmps4
  go_wp2_with fail
  refine (nt_new _ ends most HE.out.1 HE.out.2.1 HE.out.2.2.1 HE.out.2.2.2).mono ?_
  rintro e w1 ⟨g, c, rfl, hN, hb⟩
  have H1 := Lib.hid (And.intro hN hb)
  clear hN hb
  go_wp2_with fail
  refine (rnew_yes _ ends most HE.out.1 HE.out.2.1 HE.out.2.2.1 HE.out.2.2.2).mono ?_
  rintro e w2 ⟨rfl, hb⟩
  obtain ⟨w3, hw3⟩ : ∃ v, w2.alloc (.cells #[.int .i64 (ends : Int), .int .i64 (most : Int), .slice none 0 0] 42) = v := ⟨_, rfl⟩
  obtain ⟨b9, hb9⟩ : ∃ b, w2.heap.size = b := ⟨_, rfl⟩
  have hB3 : Below w2.heap.size w2 w3 := hw3 ▸ (Below.refl _ _).alloc (Nat.le_refl _) _
  have hB13 := hb.trans (hB3.mono hb.size)
  have h0 : Hid (TM w w3 g c b9 0 0 none (NS.new ends most) (NS.new ends most)) :=
    Lib.hid ⟨H1.out.1.below hB13, ⟨[], Bk.nil _ _, rfl⟩, by rw [← hb9, ← hw3]; exact heap_alloc_new _ _, H1.out.2.trans (hB13.mono H1.out.2.size), by rw [← hb9]; exact Nat.le_trans H1.out.2.size hb.size⟩
  have HW := Lib.hid (And.intro hw3 hb9)
  clear hb hB3 hB13 hw3 hb9 H1
  go_upto_region 3 with (fail)
  rw [HW.out.1, HW.out.2]
  go_wp2
  clear HW
  go_loopw [11] (fun i wr => ∃ (j n cc : Nat) (A : Option Addr) (S : NS), j ≤ mo ∧ j ≤ 70 ∧ i = .int .i64 j ∧ Hid (TM w wr g c b9 n cc A S S ∧ n ≤ j)) (fun i _ => 70 - (Go.RowKit.intOf i).toNat)
  case atStart => exact ⟨0, 0, 0, none, _, by omega, by omega, rfl, h0.out, by omega⟩
  case round =>
    obtain ⟨j, n, cc, A, S, hj, hj7, rfl, HR⟩ := hrel
    clear h0
    by_cases hjm : j < mo
    · by_cases hj70 : j < 70
      · obtain ⟨o, ad, hoj, hok, rfl, hload⟩ := (DeedsAt.below HO.out HR.out.1.bel (Nat.le_refl _)).get hjm
        have hok0 := (HO.out.at_ j o hoj).1
        obtain ⟨y, hy⟩ : ∃ y, o.kd = y := ⟨_, rfl⟩
        rw [hy] at hload
        have hij : (0 : Int) ≤ (j : Int) := by omega
        have hjn : (j : Int) < (mo : Int) := by omega
        have hj7i : (j : Int) < 70 := by omega
        have hw1 : IntKind.i64.wrap ((j : Int) + 1) = (j : Int) + 1 := IntWalk.i64_in _ (by omega)
        obtain ⟨w4, hw4⟩ : ∃ v, wr.alloc (.cells #[.int .u8 y, .int .i64 o.fr, .int .i64 o.tt, .int .i64 o.at_, .slice o.X o.n o.c] 46) = v := ⟨_, rfl⟩
        have hB4 : Below wr.heap.size wr w4 := hw4 ▸ (Below.refl _ _).alloc (Nat.le_refl _) _
        have hr4 : w4.heap[wr.heap.size]? = some (.cells #[.int .u8 y, .int .i64 o.fr, .int .i64 o.tt, .int .i64 o.at_, .slice o.X o.n o.c] 46 (0, 0)) := hw4 ▸ heap_alloc_new _ _
        obtain ⟨bx, hbx⟩ : ∃ b, wr.heap.size = b := ⟨_, rfl⟩
        have hk255 : 0 ≤ y ∧ y ≤ 255 := hy ▸ hok.kd
        have hlen := hok.rd.len
        have HOK := Lib.hid hok
        have HW := Lib.hid (And.intro hw4 hbx)
        have HRD0 : Hid (Rd w o.X o.n o.l) := Lib.hid hok0.rd
        have H3 := Lib.hid (And.intro (HR.out.1.below hB4) (And.intro (hbx ▸ hr4) (And.intro HR.out.2 hlen)))
        have HJ := Lib.hid (And.intro hjm hj70)
        by_cases hn200 : o.n ≤ 200
        · have hn1 : (o.n : Int) ≤ 200 := by omega
          have hbxw : w.heap.size ≤ bx := by rw [← hbx]; exact HR.out.1.bel.size
          have HBX := Lib.hid hbxw
          clear hok hjm hj70 hw4 hbx hB4 hr4 hn200 hj hj7 HR hoj hok0 hlen hy hbxw
          go_upto_region 9 with (refine wpList_load rfl 46 _ rfl _ rfl _ hload ?_)
          rw [HW.out.1, HW.out.2]
          clear HW hload
          have c4 : w4.cell? ⟨bx, 4, none⟩ = some (.slice o.X o.n o.c) := (cell_of_row _ _ 4 _ 46 (0, 0) H3.out.2.1).trans rfl
          go_upto_region 14 with (fail)
          clear c4
          obtain ⟨b15, hb15⟩ : ∃ b, w4.heap.size = b := ⟨_, rfl⟩
          obtain ⟨b16, hb16⟩ : ∃ b, b15 + 1 = b := ⟨_, rfl⟩
          obtain ⟨w5, hw5⟩ : ∃ v, (w4.alloc (.cells #[.int .i64 0, .int .i64 0, .slice none 0 0] 34)).alloc (.cells #[.int .i64 0, .int .i64 0, .slice none 0 0] 34) = v := ⟨_, rfl⟩
          have hbb := boxes2 hb15 hb16 hw5
          have HX : Hid (TX w w5 g c b9 n cc A S S bx b15 b16 #[.int .u8 y, .int .i64 o.fr, .int .i64 o.tt, .int .i64 o.at_, .slice o.X o.n o.c] #[.int .i64 0, .int .i64 0, .slice none 0 0] #[.int .i64 0, .int .i64 0, .slice none 0 0] ∧ n ≤ j ∧ o.l.length = o.n) :=
            Lib.hid ⟨⟨H3.out.1.below hbb.1, rowk2 hbb.1 H3.out.2.1, hbb.2.1, hbb.2.2.1, by have := H3.out.1.bel.size; omega, by have := H3.out.1.bel.size; omega, by omega⟩, H3.out.2.2.1, H3.out.2.2.2⟩
          rw [hw5, hb15, hb16]
          clear hbb hw5 hb15 hb16 H3
          have c0 : w5.cell? ⟨bx, 0, none⟩ = some (.int .u8 y) := (cell_of_row _ _ 0 _ 46 (0, 0) HX.out.1.rx).trans rfl
          go_upto_block 2 with (fail)
          clear c0
          go_cut [13, 14, 17, 18, 19, 20] from 67 to 152 (fun a b p q r s wc => Hid (TCut w g c b9 j bx b15 b16 #[.int .u8 y, .int .i64 o.fr, .int .i64 o.tt, .int .i64 o.at_, .slice o.X o.n o.c] a b p q r s wc))
          case first =>
            by_cases hy0 : y = 0
            · subst hy0
              obtain ⟨q, hq⟩ : ∃ q, S.sendE o.fr o.tt o.l = q := ⟨_, rfl⟩
              obtain ⟨S2, hS2⟩ : ∃ S', S.send o.fr o.tt o.l = S' := ⟨_, rfl⟩
              have HS := Lib.hid (And.intro hq (And.intro hS2 HX.out.1.tm.nt.ok))
              clear hq hS2
              have k1 : w5.cell? ⟨bx, 1, none⟩ = some (.int .i64 o.fr) := (cell_of_row _ _ 1 _ 46 (0, 0) HX.out.1.rx).trans rfl
              have k2 : w5.cell? ⟨bx, 2, none⟩ = some (.int .i64 o.tt) := (cell_of_row _ _ 2 _ 46 (0, 0) HX.out.1.rx).trans rfl
              have k4 : w5.cell? ⟨bx, 4, none⟩ = some (.slice o.X o.n o.c) := (cell_of_row _ _ 4 _ 46 (0, 0) HX.out.1.rx).trans rfl
              go_wp2_with fail
              refine (nt_send _ HX.out.1.tm.nt o.fr o.tt (HRD0.out.below HX.out.1.tm.bel (Nat.le_refl _)) o.c HS.out.1 HS.out.2.1).mono ?_
              rintro e v1 ⟨rfl, hn, hb, hk⟩
              have H1 := Lib.hid (HX.out.1.prog hn hb hk)
              clear hn hb hk k1 k2 k4
              have k1 : v1.cell? ⟨bx, 1, none⟩ = some (.int .i64 o.fr) := (cell_of_row _ _ 1 _ 46 (0, 0) H1.out.rx).trans rfl
              have k2 : v1.cell? ⟨bx, 2, none⟩ = some (.int .i64 o.tt) := (cell_of_row _ _ 2 _ 46 (0, 0) H1.out.rx).trans rfl
              have k4 : v1.cell? ⟨bx, 4, none⟩ = some (.slice o.X o.n o.c) := (cell_of_row _ _ 4 _ 46 (0, 0) H1.out.rx).trans rfl
              obtain ⟨⟨m0, m1, m2⟩, fm0, fm1, fm2⟩ := three H1.out.tm.row
              go_wp2_with fail
              refine (rf_send _ HS.out.2.2 H1.out.tm.ra (by have := HX.out.2.1; have := HJ.out.2; omega) H1.out.tm.bel.size o.fr o.tt (HRD0.out.below H1.out.tm.bel (Nat.le_refl _)) HS.out.1 HS.out.2.1).mono ?_
              rintro e v2 ⟨A', n', c', rfl, hra, hnn, hb2⟩
              have H2 := Lib.hid (H1.out.below hb2)
              obtain ⟨v3, hv3⟩ : ∃ zz, ((v2.setCell ⟨b9, 0, none⟩ (.int .i64 (S2.ends : Int))).setCell ⟨b9, 1, none⟩ (.int .i64 (S2.most : Int))).setCell ⟨b9, 2, none⟩ (.slice A' n' c') = zz := ⟨_, rfl⟩
              have H3 := Lib.hid (And.intro (H2.out.book hra hv3) hnn)
              clear m0 m1 m2 fm0 fm1 fm2
              obtain ⟨⟨m0, m1, m2⟩, fm0, fm1, fm2⟩ := three H2.out.tm.row
              clear hra hnn hb2
              clear k1 k2 k4
              go_wp2
              go_meet
              case rel => exact ⟨S2, A', n', c', q, false, 0, 0, 0, none, none, 0, 0, [], rfl, rfl, rfl, rfl, rfl, rfl, H3.out.1, Rd.nil _ _, Rd.nil _ _, by have := H3.out.2; have := HX.out.2.1; omega⟩
            by_cases hy1 : y = 1
            · subst hy1
              obtain ⟨q, hq⟩ : ∃ q, S.sendE o.fr o.tt o.l = q := ⟨_, rfl⟩
              obtain ⟨S2, hS2⟩ : ∃ S', S.send o.fr o.tt o.l = S' := ⟨_, rfl⟩
              have HS := Lib.hid (And.intro hq (And.intro hS2 HX.out.1.tm.nt.ok))
              clear hq hS2
              have k1 : w5.cell? ⟨bx, 1, none⟩ = some (.int .i64 o.fr) := (cell_of_row _ _ 1 _ 46 (0, 0) HX.out.1.rx).trans rfl
              have k2 : w5.cell? ⟨bx, 2, none⟩ = some (.int .i64 o.tt) := (cell_of_row _ _ 2 _ 46 (0, 0) HX.out.1.rx).trans rfl
              have k4 : w5.cell? ⟨bx, 4, none⟩ = some (.slice o.X o.n o.c) := (cell_of_row _ _ 4 _ 46 (0, 0) HX.out.1.rx).trans rfl
              go_wp2_with fail
              refine (nt_send _ HX.out.1.tm.nt o.fr o.tt (HRD0.out.below HX.out.1.tm.bel (Nat.le_refl _)) o.c HS.out.1 HS.out.2.1).mono ?_
              rintro e v1 ⟨rfl, hn, hb, hk⟩
              have H1 := Lib.hid (HX.out.1.prog hn hb hk)
              clear hn hb hk k1 k2 k4
              have k1 : v1.cell? ⟨bx, 1, none⟩ = some (.int .i64 o.fr) := (cell_of_row _ _ 1 _ 46 (0, 0) H1.out.rx).trans rfl
              have k2 : v1.cell? ⟨bx, 2, none⟩ = some (.int .i64 o.tt) := (cell_of_row _ _ 2 _ 46 (0, 0) H1.out.rx).trans rfl
              have k4 : v1.cell? ⟨bx, 4, none⟩ = some (.slice o.X o.n o.c) := (cell_of_row _ _ 4 _ 46 (0, 0) H1.out.rx).trans rfl
              obtain ⟨⟨m0, m1, m2⟩, fm0, fm1, fm2⟩ := three H1.out.tm.row
              go_wp2_with fail
              refine (rf_send _ HS.out.2.2 H1.out.tm.ra (by have := HX.out.2.1; have := HJ.out.2; omega) H1.out.tm.bel.size o.fr o.tt (HRD0.out.below H1.out.tm.bel (Nat.le_refl _)) HS.out.1 HS.out.2.1).mono ?_
              rintro e v2 ⟨A', n', c', rfl, hra, hnn, hb2⟩
              have H2 := Lib.hid (H1.out.below hb2)
              obtain ⟨v3, hv3⟩ : ∃ zz, ((v2.setCell ⟨b9, 0, none⟩ (.int .i64 (S2.ends : Int))).setCell ⟨b9, 1, none⟩ (.int .i64 (S2.most : Int))).setCell ⟨b9, 2, none⟩ (.slice A' n' c') = zz := ⟨_, rfl⟩
              have H3 := Lib.hid (And.intro (H2.out.book hra hv3) hnn)
              clear m0 m1 m2 fm0 fm1 fm2
              obtain ⟨⟨m0, m1, m2⟩, fm0, fm1, fm2⟩ := three H2.out.tm.row
              clear hra hnn hb2
              clear k1 k2 k4
              go_wp2
              go_meet
              case rel => exact ⟨S2, A', n', c', q, false, 0, 0, 0, none, none, 0, 0, [], rfl, rfl, rfl, rfl, rfl, rfl, H3.out.1, Rd.nil _ _, Rd.nil _ _, by have := H3.out.2; have := HX.out.2.1; omega⟩
            by_cases hy2 : y = 2
            · subst hy2
              obtain ⟨q, hq⟩ : ∃ q, S.sendE o.fr o.tt o.l = q := ⟨_, rfl⟩
              obtain ⟨S2, hS2⟩ : ∃ S', S.send o.fr o.tt o.l = S' := ⟨_, rfl⟩
              have HS := Lib.hid (And.intro hq (And.intro hS2 HX.out.1.tm.nt.ok))
              clear hq hS2
              have k1 : w5.cell? ⟨bx, 1, none⟩ = some (.int .i64 o.fr) := (cell_of_row _ _ 1 _ 46 (0, 0) HX.out.1.rx).trans rfl
              have k2 : w5.cell? ⟨bx, 2, none⟩ = some (.int .i64 o.tt) := (cell_of_row _ _ 2 _ 46 (0, 0) HX.out.1.rx).trans rfl
              have k4 : w5.cell? ⟨bx, 4, none⟩ = some (.slice o.X o.n o.c) := (cell_of_row _ _ 4 _ 46 (0, 0) HX.out.1.rx).trans rfl
              go_wp2_with fail
              refine (nt_send _ HX.out.1.tm.nt o.fr o.tt (HRD0.out.below HX.out.1.tm.bel (Nat.le_refl _)) o.c HS.out.1 HS.out.2.1).mono ?_
              rintro e v1 ⟨rfl, hn, hb, hk⟩
              have H1 := Lib.hid (HX.out.1.prog hn hb hk)
              clear hn hb hk k1 k2 k4
              have k1 : v1.cell? ⟨bx, 1, none⟩ = some (.int .i64 o.fr) := (cell_of_row _ _ 1 _ 46 (0, 0) H1.out.rx).trans rfl
              have k2 : v1.cell? ⟨bx, 2, none⟩ = some (.int .i64 o.tt) := (cell_of_row _ _ 2 _ 46 (0, 0) H1.out.rx).trans rfl
              have k4 : v1.cell? ⟨bx, 4, none⟩ = some (.slice o.X o.n o.c) := (cell_of_row _ _ 4 _ 46 (0, 0) H1.out.rx).trans rfl
              obtain ⟨⟨m0, m1, m2⟩, fm0, fm1, fm2⟩ := three H1.out.tm.row
              go_wp2_with fail
              refine (rf_send _ HS.out.2.2 H1.out.tm.ra (by have := HX.out.2.1; have := HJ.out.2; omega) H1.out.tm.bel.size o.fr o.tt (HRD0.out.below H1.out.tm.bel (Nat.le_refl _)) HS.out.1 HS.out.2.1).mono ?_
              rintro e v2 ⟨A', n', c', rfl, hra, hnn, hb2⟩
              have H2 := Lib.hid (H1.out.below hb2)
              obtain ⟨v3, hv3⟩ : ∃ zz, ((v2.setCell ⟨b9, 0, none⟩ (.int .i64 (S2.ends : Int))).setCell ⟨b9, 1, none⟩ (.int .i64 (S2.most : Int))).setCell ⟨b9, 2, none⟩ (.slice A' n' c') = zz := ⟨_, rfl⟩
              have H3 := Lib.hid (And.intro (H2.out.book hra hv3) hnn)
              clear m0 m1 m2 fm0 fm1 fm2
              obtain ⟨⟨m0, m1, m2⟩, fm0, fm1, fm2⟩ := three H2.out.tm.row
              clear hra hnn hb2
              clear k1 k2 k4
              go_wp2
              go_meet
              case rel => exact ⟨S2, A', n', c', q, false, 0, 0, 0, none, none, 0, 0, [], rfl, rfl, rfl, rfl, rfl, rfl, H3.out.1, Rd.nil _ _, Rd.nil _ _, by have := H3.out.2; have := HX.out.2.1; omega⟩
            by_cases hy3 : y = 3
            · subst hy3
              obtain ⟨q, hq⟩ : ∃ q, S.sendE o.fr o.tt o.l = q := ⟨_, rfl⟩
              obtain ⟨S2, hS2⟩ : ∃ S', S.send o.fr o.tt o.l = S' := ⟨_, rfl⟩
              have HS := Lib.hid (And.intro hq (And.intro hS2 HX.out.1.tm.nt.ok))
              clear hq hS2
              have k1 : w5.cell? ⟨bx, 1, none⟩ = some (.int .i64 o.fr) := (cell_of_row _ _ 1 _ 46 (0, 0) HX.out.1.rx).trans rfl
              have k2 : w5.cell? ⟨bx, 2, none⟩ = some (.int .i64 o.tt) := (cell_of_row _ _ 2 _ 46 (0, 0) HX.out.1.rx).trans rfl
              have k4 : w5.cell? ⟨bx, 4, none⟩ = some (.slice o.X o.n o.c) := (cell_of_row _ _ 4 _ 46 (0, 0) HX.out.1.rx).trans rfl
              go_wp2_with fail
              refine (nt_send _ HX.out.1.tm.nt o.fr o.tt (HRD0.out.below HX.out.1.tm.bel (Nat.le_refl _)) o.c HS.out.1 HS.out.2.1).mono ?_
              rintro e v1 ⟨rfl, hn, hb, hk⟩
              have H1 := Lib.hid (HX.out.1.prog hn hb hk)
              clear hn hb hk k1 k2 k4
              have k1 : v1.cell? ⟨bx, 1, none⟩ = some (.int .i64 o.fr) := (cell_of_row _ _ 1 _ 46 (0, 0) H1.out.rx).trans rfl
              have k2 : v1.cell? ⟨bx, 2, none⟩ = some (.int .i64 o.tt) := (cell_of_row _ _ 2 _ 46 (0, 0) H1.out.rx).trans rfl
              have k4 : v1.cell? ⟨bx, 4, none⟩ = some (.slice o.X o.n o.c) := (cell_of_row _ _ 4 _ 46 (0, 0) H1.out.rx).trans rfl
              obtain ⟨⟨m0, m1, m2⟩, fm0, fm1, fm2⟩ := three H1.out.tm.row
              go_wp2_with fail
              refine (rf_send _ HS.out.2.2 H1.out.tm.ra (by have := HX.out.2.1; have := HJ.out.2; omega) H1.out.tm.bel.size o.fr o.tt (HRD0.out.below H1.out.tm.bel (Nat.le_refl _)) HS.out.1 HS.out.2.1).mono ?_
              rintro e v2 ⟨A', n', c', rfl, hra, hnn, hb2⟩
              have H2 := Lib.hid (H1.out.below hb2)
              obtain ⟨v3, hv3⟩ : ∃ zz, ((v2.setCell ⟨b9, 0, none⟩ (.int .i64 (S2.ends : Int))).setCell ⟨b9, 1, none⟩ (.int .i64 (S2.most : Int))).setCell ⟨b9, 2, none⟩ (.slice A' n' c') = zz := ⟨_, rfl⟩
              have H3 := Lib.hid (And.intro (H2.out.book hra hv3) hnn)
              clear m0 m1 m2 fm0 fm1 fm2
              obtain ⟨⟨m0, m1, m2⟩, fm0, fm1, fm2⟩ := three H2.out.tm.row
              clear hra hnn hb2
              clear k1 k2 k4
              go_wp2
              go_meet
              case rel => exact ⟨S2, A', n', c', q, false, 0, 0, 0, none, none, 0, 0, [], rfl, rfl, rfl, rfl, rfl, rfl, H3.out.1, Rd.nil _ _, Rd.nil _ _, by have := H3.out.2; have := HX.out.2.1; omega⟩
            by_cases hy4 : y = 4
            · subst hy4
              obtain ⟨q, hq⟩ : ∃ q, S.copyE o.at_ = q := ⟨_, rfl⟩
              obtain ⟨S2, hS2⟩ : ∃ S', S.copy o.at_ = S' := ⟨_, rfl⟩
              have HS := Lib.hid (And.intro hq (And.intro hS2 HX.out.1.tm.nt.ok))
              clear hq hS2
              have k3 : w5.cell? ⟨bx, 3, none⟩ = some (.int .i64 o.at_) := (cell_of_row _ _ 3 _ 46 (0, 0) HX.out.1.rx).trans rfl
              go_wp2_with fail
              refine (nt_copy _ HX.out.1.tm.nt o.at_ HS.out.1 HS.out.2.1).mono ?_
              rintro e v1 ⟨rfl, hn, hb, hk⟩
              have H1 := Lib.hid (HX.out.1.prog hn hb hk)
              clear hn hb hk k3
              have k3 : v1.cell? ⟨bx, 3, none⟩ = some (.int .i64 o.at_) := (cell_of_row _ _ 3 _ 46 (0, 0) H1.out.rx).trans rfl
              obtain ⟨⟨m0, m1, m2⟩, fm0, fm1, fm2⟩ := three H1.out.tm.row
              go_wp2_with fail
              refine (rf_copy _ HS.out.2.2 H1.out.tm.ra (by have := HX.out.2.1; have := HJ.out.2; omega) H1.out.tm.bel.size o.at_ HOK.out.at_.2 HS.out.1 HS.out.2.1).mono ?_
              rintro e v2 ⟨A', n', c', rfl, hra, hnn, hb2⟩
              have H2 := Lib.hid (H1.out.below hb2)
              obtain ⟨v3, hv3⟩ : ∃ zz, ((v2.setCell ⟨b9, 0, none⟩ (.int .i64 (S2.ends : Int))).setCell ⟨b9, 1, none⟩ (.int .i64 (S2.most : Int))).setCell ⟨b9, 2, none⟩ (.slice A' n' c') = zz := ⟨_, rfl⟩
              have H3 := Lib.hid (And.intro (H2.out.book hra hv3) hnn)
              clear m0 m1 m2 fm0 fm1 fm2
              obtain ⟨⟨m0, m1, m2⟩, fm0, fm1, fm2⟩ := three H2.out.tm.row
              clear hra hnn hb2
              clear k3
              go_wp2
              go_meet
              case rel => exact ⟨S2, A', n', c', q, false, 0, 0, 0, none, none, 0, 0, [], rfl, rfl, rfl, rfl, rfl, rfl, H3.out.1, Rd.nil _ _, Rd.nil _ _, by have := H3.out.2; have := HX.out.2.1; omega⟩
            by_cases hy5 : y = 5
            · subst hy5
              obtain ⟨lk, hlk⟩ : ∃ lk, S.look o.at_ = lk := ⟨_, rfl⟩
              obtain ⟨dd, hdd⟩ : ∃ dd, lk.getD nod = dd := ⟨_, rfl⟩
              obtain ⟨bt, hbt⟩ : ∃ bt, lk.isSome = bt := ⟨_, rfl⟩
              obtain ⟨f, hf⟩ : ∃ f, dd.fr = f := ⟨_, rfl⟩
              obtain ⟨t, ht⟩ : ∃ f, dd.to = f := ⟨_, rfl⟩
              obtain ⟨S2, hS2⟩ : ∃ S', S.drop o.at_ = S' := ⟨_, rfl⟩
              have HL := Lib.hid (And.intro hlk (And.intro hdd (And.intro hbt (And.intro hf (And.intro ht hS2)))))
              clear hlk hdd hbt hf ht hS2
              have k3 : w5.cell? ⟨bx, 3, none⟩ = some (.int .i64 o.at_) := (cell_of_row _ _ 3 _ 46 (0, 0) HX.out.1.rx).trans rfl
              go_wp2_with fail
              refine (nt_take _ HX.out.1.tm.nt o.at_ HL.out.1 HL.out.2.2.2.2.2).mono ?_
              rintro e v1 ⟨X3, cx3, rfl, hT, hn, hb, hk⟩
              rw [HL.out.2.1, HL.out.2.2.1, HL.out.2.2.2.1, HL.out.2.2.2.2.1]
              have H1 := Lib.hid (And.intro (HX.out.1.prog hn hb hk) (hT.lower' (lo' := w.heap.size) HX.out.1.tm.bel.size))
              clear hT hn hb hk k3
              obtain ⟨⟨d0, d1, d2⟩, f0, f1, f2⟩ := three H1.out.1.r15
              obtain ⟨v2, hv2⟩ : ∃ zz, ((v1.setCell ⟨b15, 0, none⟩ (.int .i64 (f : Int))).setCell ⟨b15, 1, none⟩ (.int .i64 (t : Int))).setCell ⟨b15, 2, none⟩ (.slice X3 dd.b.length cx3) = zz := ⟨_, rfl⟩
              obtain ⟨h2, hbt2⟩ := H1.out.1.set15 hv2
              have H2 := Lib.hid (And.intro h2 (H1.out.2.but5 H1.out.1.r15 (by decide) hbt2))
              clear h2 hbt2
              go_upto_region 26 with (fail)
              clear hv2 d0 d1 d2 f0 f1 f2
              have k3 : v2.cell? ⟨bx, 3, none⟩ = some (.int .i64 o.at_) := (cell_of_row _ _ 3 _ 46 (0, 0) H2.out.1.rx).trans rfl
              obtain ⟨⟨m0, m1, m2⟩, fm0, fm1, fm2⟩ := three H2.out.1.tm.row
              go_wp2_with fail
              refine (rf_look _ H2.out.1.tm.ra o.at_ HOK.out.at_.2 HL.out.1).mono ?_
              rintro e v3 ⟨X4, cx4, rfl, hT, hb⟩
              rw [HL.out.2.1, HL.out.2.2.1, HL.out.2.2.2.1, HL.out.2.2.2.2.1]
              have H3 := Lib.hid (And.intro (H2.out.1.below hb) (And.intro (H2.out.2.below' hb) hT))
              clear hT hb k3
              clear m0 m1 m2 fm0 fm1 fm2
              obtain ⟨⟨d0, d1, d2⟩, f0, f1, f2⟩ := three H3.out.1.r16
              obtain ⟨v4, hv4⟩ : ∃ zz, ((v3.setCell ⟨b16, 0, none⟩ (.int .i64 (f : Int))).setCell ⟨b16, 1, none⟩ (.int .i64 (t : Int))).setCell ⟨b16, 2, none⟩ (.slice X4 dd.b.length cx4) = zz := ⟨_, rfl⟩
              obtain ⟨h4, hbt4⟩ := H3.out.1.set16 hv4
              have H4 := Lib.hid (And.intro h4 (And.intro (H3.out.2.1.but5 H3.out.1.r16 (by decide) hbt4) (H3.out.2.2.but5 H3.out.1.r16 (by decide) hbt4)))
              clear h4 hbt4
              go_upto_region 27 with (fail)
              clear hv4 d0 d1 d2 f0 f1 f2
              have k3 : v4.cell? ⟨bx, 3, none⟩ = some (.int .i64 o.at_) := (cell_of_row _ _ 3 _ 46 (0, 0) H4.out.1.rx).trans rfl
              obtain ⟨⟨m0, m1, m2⟩, fm0, fm1, fm2⟩ := three H4.out.1.tm.row
              go_wp2_with fail
              refine (rf_drop _ H4.out.1.tm.ra (by have := HX.out.2.1; have := HJ.out.2; omega) H4.out.1.tm.bel.size o.at_ HOK.out.at_.2 (q := bt) (by rw [HL.out.1]; exact HL.out.2.2.1) HL.out.2.2.2.2.2).mono ?_
              rintro e v5 ⟨A', n', c', rfl, hra, hnn, hb2⟩
              have HRA := Lib.hid hra
              have HT := Lib.hid (And.intro (H4.out.2.1.below' hb2) (H4.out.2.2.below' hb2))
              have H5 := Lib.hid (H4.out.1.below hb2)
              obtain ⟨v6, hv3⟩ : ∃ zz, ((v5.setCell ⟨b9, 0, none⟩ (.int .i64 (S2.ends : Int))).setCell ⟨b9, 1, none⟩ (.int .i64 (S2.most : Int))).setCell ⟨b9, 2, none⟩ (.slice A' n' c') = zz := ⟨_, rfl⟩
              have H6 := Lib.hid (And.intro (H5.out.book hra hv3) hnn)
              clear m0 m1 m2 fm0 fm1 fm2
              obtain ⟨⟨m0, m1, m2⟩, fm0, fm1, fm2⟩ := three H5.out.tm.row
              clear hra hnn hb2
              have HT6 := Lib.hid (And.intro (HT.out.1.but5 H5.out.tm.row (by decide) (H5.out.tm.book HRA.out hv3).2) (HT.out.2.but5 H5.out.tm.row (by decide) (H5.out.tm.book HRA.out hv3).2))
              clear k3
              go_wp2
              go_meet
              case rel => exact ⟨S2, A', n', c', 0, bt, 0, (f : Int), (t : Int), X3, X4, cx3, cx4, dd.b, rfl, rfl, rfl, rfl, rfl, rfl, H6.out.1, (by have := HT6.out.1.rd; rw [HL.out.2.1] at this; exact this), (by have := HT6.out.2.rd; rw [HL.out.2.1] at this; exact this), by have := H6.out.2; have := HX.out.2.1; omega⟩
            by_cases hy6 : y = 6
            · subst hy6
              obtain ⟨q, hq⟩ : ∃ q, (S.look o.at_).isSome = q := ⟨_, rfl⟩
              obtain ⟨S2, hS2⟩ : ∃ S', S.drop o.at_ = S' := ⟨_, rfl⟩
              have HS := Lib.hid (And.intro hq hS2)
              clear hq hS2
              have k3 : w5.cell? ⟨bx, 3, none⟩ = some (.int .i64 o.at_) := (cell_of_row _ _ 3 _ 46 (0, 0) HX.out.1.rx).trans rfl
              go_wp2_with fail
              refine (nt_drop _ HX.out.1.tm.nt o.at_ HS.out.1 HS.out.2).mono ?_
              rintro e v1 ⟨rfl, hn, hb, hk⟩
              have H1 := Lib.hid (HX.out.1.prog hn hb hk)
              clear hn hb hk k3
              have k3 : v1.cell? ⟨bx, 3, none⟩ = some (.int .i64 o.at_) := (cell_of_row _ _ 3 _ 46 (0, 0) H1.out.rx).trans rfl
              obtain ⟨⟨m0, m1, m2⟩, fm0, fm1, fm2⟩ := three H1.out.tm.row
              go_wp2_with fail
              refine (rf_drop _ H1.out.tm.ra (by have := HX.out.2.1; have := HJ.out.2; omega) H1.out.tm.bel.size o.at_ HOK.out.at_.2 HS.out.1 HS.out.2).mono ?_
              rintro e v2 ⟨A', n', c', rfl, hra, hnn, hb2⟩
              have H2 := Lib.hid (H1.out.below hb2)
              obtain ⟨v3, hv3⟩ : ∃ zz, ((v2.setCell ⟨b9, 0, none⟩ (.int .i64 (S2.ends : Int))).setCell ⟨b9, 1, none⟩ (.int .i64 (S2.most : Int))).setCell ⟨b9, 2, none⟩ (.slice A' n' c') = zz := ⟨_, rfl⟩
              have H3 := Lib.hid (And.intro (H2.out.book hra hv3) hnn)
              clear m0 m1 m2 fm0 fm1 fm2
              obtain ⟨⟨m0, m1, m2⟩, fm0, fm1, fm2⟩ := three H2.out.tm.row
              clear hra hnn hb2
              clear k3
              go_wp2
              go_meet
              case rel => exact ⟨S2, A', n', c', 0, q, 0, 0, 0, none, none, 0, 0, [], rfl, rfl, rfl, rfl, rfl, rfl, H3.out.1, Rd.nil _ _, Rd.nil _ _, by have := H3.out.2; have := HX.out.2.1; omega⟩
            by_cases hy7 : y = 7
            · subst hy7
              obtain ⟨q, hq⟩ : ∃ q : Int, (S.wait o.tt : Int) = q := ⟨_, rfl⟩
              obtain ⟨S2, hS2⟩ : ∃ S', S.forget o.tt = S' := ⟨_, rfl⟩
              have HS := Lib.hid (And.intro hq hS2)
              clear hq hS2
              have k2 : w5.cell? ⟨bx, 2, none⟩ = some (.int .i64 o.tt) := (cell_of_row _ _ 2 _ 46 (0, 0) HX.out.1.rx).trans rfl
              go_wp2_with fail
              refine (nt_forget _ HX.out.1.tm.nt (k := o.tt) HOK.out.tt.1 HOK.out.tt.2 HS.out.1 HS.out.2).mono ?_
              rintro e v1 ⟨rfl, hn, hb, hk⟩
              have H1 := Lib.hid (HX.out.1.prog hn hb hk)
              clear hn hb hk k2
              have k2 : v1.cell? ⟨bx, 2, none⟩ = some (.int .i64 o.tt) := (cell_of_row _ _ 2 _ 46 (0, 0) H1.out.rx).trans rfl
              obtain ⟨⟨m0, m1, m2⟩, fm0, fm1, fm2⟩ := three H1.out.tm.row
              go_wp2_with fail
              refine (rf_forget _ H1.out.tm.ra (by have := HX.out.2.1; have := HJ.out.2; omega) H1.out.tm.bel.size o.tt HS.out.1 HS.out.2).mono ?_
              rintro e v2 ⟨A', n', c', rfl, hra, hnn, hb2⟩
              have H2 := Lib.hid (H1.out.below hb2)
              obtain ⟨v3, hv3⟩ : ∃ zz, ((v2.setCell ⟨b9, 0, none⟩ (.int .i64 (S2.ends : Int))).setCell ⟨b9, 1, none⟩ (.int .i64 (S2.most : Int))).setCell ⟨b9, 2, none⟩ (.slice A' n' c') = zz := ⟨_, rfl⟩
              have H3 := Lib.hid (And.intro (H2.out.book hra hv3) hnn)
              clear m0 m1 m2 fm0 fm1 fm2
              obtain ⟨⟨m0, m1, m2⟩, fm0, fm1, fm2⟩ := three H2.out.tm.row
              clear hra hnn hb2
              clear k2
              go_wp2
              go_meet
              case rel => exact ⟨S2, A', n', c', 0, false, q, 0, 0, none, none, 0, 0, [], rfl, rfl, rfl, rfl, rfl, rfl, H3.out.1, Rd.nil _ _, Rd.nil _ _, by have := H3.out.2; have := HX.out.2.1; omega⟩
            go_wp2
            go_meet
            case rel => exact ⟨S, A, n, cc, 0, false, 0, 0, 0, none, none, 0, 0, [], rfl, rfl, rfl, rfl, rfl, rfl, HX.out.1, Rd.nil _ _, Rd.nil _ _, by have := HX.out.2.1; omega⟩
          case rest =>
            obtain ⟨S3, A3, n3, cc3, e3, bb, kk, f, t, X, Y, cx, cy, l, rfl, rfl, rfl, rfl, rfl, rfl, hX, hr1, hr2, hn3⟩ := hcut.out
            have HC := Lib.hid (And.intro hX (And.intro hr1 (And.intro hr2 hn3)))
            obtain ⟨kw, hkw⟩ : ∃ k : Int, (S3.wait o.tt : Int) = k := ⟨_, rfl⟩
            have HKW := Lib.hid hkw
            clear hX hr1 hr2 hn3 hkw hcut HX
            go_upto_region 34 with (fail)
            refine wp_region_held_drew (S := fun v => Below wc.heap.size wc v) (by kernel_rfl) ((Below.refl wc.heap.size wc).drew) (fun hHeld => ?_)
            refine wpAnyH_take (i := 0) (oi := ⟨some 153, _, _, _, _, _⟩) (v := ?_) rfl (by kernel_rfl) (by kernel_rfl) (by kernel_rfl) (fun _ _ _ h => h) (Or.inl ⟨by rfl, ?_⟩) (by assumption) ?_
            rotate_left
            · intro w hSw
              (try dsimp only at hSw)
              go_simp
              all_goals (with_reducible rfl)
            try simp only [Act.put, List.setIfInBounds_toArray, List.set_cons_zero, List.set_cons_succ]
            refine wpAnyH_take (i := 1) (oi := ⟨some 154, _, _, _, _, _⟩) (v := ?_) rfl (by kernel_rfl) (by kernel_rfl) (by kernel_rfl) (fun _ _ _ h => h) (Or.inl ⟨by rfl, ?_⟩) (by assumption) ?_
            rotate_left
            · intro w hSw
              (try dsimp only at hSw)
              go_simp
              all_goals (with_reducible rfl)
            try simp only [Act.put, List.setIfInBounds_toArray, List.set_cons_zero, List.set_cons_succ]
            refine wpAnyH_take (i := 2) (oi := ⟨some 155, _, _, _, _, _⟩) (v := ?_) rfl (by kernel_rfl) (by kernel_rfl) (by kernel_rfl) (fun _ _ _ h => h) (Or.inl ⟨by rfl, ?_⟩) (by assumption) ?_
            rotate_left
            · intro w hSw
              (try dsimp only at hSw)
              go_simp
              all_goals (with_reducible rfl)
            try simp only [Act.put, List.setIfInBounds_toArray, List.set_cons_zero, List.set_cons_succ]
            refine wpAnyH_take (i := 3) (oi := ⟨some 156, _, _, _, _, _⟩) (v := ?_) rfl (by kernel_rfl) (by kernel_rfl) (by kernel_rfl) (fun _ _ _ h => h) (Or.inl ⟨by rfl, ?_⟩) (by assumption) ?_
            rotate_left
            · intro w hSw
              (try dsimp only at hSw)
              go_simp
              all_goals (with_reducible rfl)
            try simp only [Act.put, List.setIfInBounds_toArray, List.set_cons_zero, List.set_cons_succ]
            refine wpAnyH_take (i := 4) (oi := ⟨some 157, _, _, _, _, _⟩) (v := ?_) rfl (by kernel_rfl) (by kernel_rfl) (by kernel_rfl) (fun _ _ _ h => h) (Or.inl ⟨by rfl, ?_⟩) (by assumption) ?_
            rotate_left
            · intro w hSw
              obtain ⟨⟨c0, c1, c2⟩, _, _, _⟩ := three (rowk2 hSw HC.out.1.r15)
              go_simp
              all_goals (with_reducible rfl)
            try simp only [Act.put, List.setIfInBounds_toArray, List.set_cons_zero, List.set_cons_succ]
            refine wpAnyH_take (i := 5) (oi := ⟨some 158, _, _, _, _, _⟩) (v := ?_) rfl (by kernel_rfl) (by kernel_rfl) (by kernel_rfl) (fun _ _ _ h => h) (Or.inl ⟨by rfl, ?_⟩) (by assumption) ?_
            rotate_left
            · intro w hSw
              obtain ⟨⟨c0, c1, c2⟩, _, _, _⟩ := three (rowk2 hSw HC.out.1.r16)
              go_simp
              all_goals (with_reducible rfl)
            try simp only [Act.put, List.setIfInBounds_toArray, List.set_cons_zero, List.set_cons_succ]
            have hH1 := hHeld
            refine wpAnyH_ready (rs := [6]) (by kernel_rfl) (by simp) (AllReadyH.cons (o := ⟨some 159, _, _, _, _, _⟩) rfl (fun K hK => ?_) AllReadyH.nil)
            go_simp
            refine (like_is _ (HC.out.2.1.below hH1 (Nat.le_refl _)) (HC.out.2.2.1.below hH1 (Nat.le_refl _)) (q := true) (by simp)).mono ?_
            rintro e x1 ⟨rfl, hx1⟩
            refine hK.out _ _ (hH1.trans (hx1.mono hH1.size)) (fun hHeld => ?_)
            clear hK K
            try simp only [Act.put, List.setIfInBounds_toArray, List.set_cons_zero, List.set_cons_succ]
            clear hH1 hx1
            refine wpAnyH_take (i := 7) (oi := ⟨some 160, _, _, _, _, _⟩) (v := ?_) rfl (by kernel_rfl) (by kernel_rfl) (by kernel_rfl) (fun _ _ _ h => h) (Or.inl ⟨by rfl, ?_⟩) (by assumption) ?_
            rotate_left
            · intro w hSw
              (try dsimp only at hSw)
              go_simp
              all_goals (with_reducible rfl)
            try simp only [Act.put, List.setIfInBounds_toArray, List.set_cons_zero, List.set_cons_succ]
            refine wpAnyH_take (i := 8) (oi := ⟨some 161, _, _, _, _, _⟩) (v := ?_) rfl (by kernel_rfl) (by kernel_rfl) (by kernel_rfl) (fun _ _ _ h => h) (Or.inl ⟨by rfl, ?_⟩) (by assumption) ?_
            rotate_left
            · intro w hSw
              (try dsimp only at hSw)
              go_simp
              all_goals (with_reducible rfl)
            try simp only [Act.put, List.setIfInBounds_toArray, List.set_cons_zero, List.set_cons_succ]
            refine wpAnyH_take (i := 9) (oi := ⟨some 162, _, _, _, _, _⟩) (v := ?_) rfl (by kernel_rfl) (by kernel_rfl) (by kernel_rfl) (fun _ _ _ h => h) (Or.inl ⟨by rfl, ?_⟩) (by assumption) ?_
            rotate_left
            · intro w hSw
              (try dsimp only at hSw)
              go_simp
              all_goals (with_reducible rfl)
            try simp only [Act.put, List.setIfInBounds_toArray, List.set_cons_zero, List.set_cons_succ]
            refine wpAnyH_take (i := 10) (oi := ⟨some 163, _, _, _, _, _⟩) (v := ?_) rfl (by kernel_rfl) (by kernel_rfl) (by kernel_rfl) (fun _ _ _ h => h) (Or.inl ⟨by rfl, ?_⟩) (by assumption) ?_
            rotate_left
            · intro w hSw
              (try dsimp only at hSw)
              go_simp
              all_goals (with_reducible rfl)
            try simp only [Act.put, List.setIfInBounds_toArray, List.set_cons_zero, List.set_cons_succ]
            refine wpAnyH_take (i := 11) (oi := ⟨some 164, _, _, _, _, _⟩) (v := ?_) rfl (by kernel_rfl) (by kernel_rfl) (by kernel_rfl) (fun _ _ _ h => h) (Or.inl ⟨by rfl, ?_⟩) (by assumption) ?_
            rotate_left
            · intro w hSw
              (try dsimp only at hSw)
              go_simp
              all_goals (with_reducible rfl)
            try simp only [Act.put, List.setIfInBounds_toArray, List.set_cons_zero, List.set_cons_succ]
            refine wpAnyH_take (i := 12) (oi := ⟨some 165, _, _, _, _, _⟩) (v := ?_) rfl (by kernel_rfl) (by kernel_rfl) (by kernel_rfl) (fun _ _ _ h => h) (Or.inl ⟨by rfl, ?_⟩) (by assumption) ?_
            rotate_left
            · intro w hSw
              (try dsimp only at hSw)
              go_simp
              all_goals (with_reducible rfl)
            try simp only [Act.put, List.setIfInBounds_toArray, List.set_cons_zero, List.set_cons_succ]
            refine wpAnyH_take (i := 13) (oi := ⟨some 166, _, _, _, _, _⟩) (v := ?_) rfl (by kernel_rfl) (by kernel_rfl) (by kernel_rfl) (fun _ _ _ h => h) (Or.inl ⟨by rfl, ?_⟩) (by assumption) ?_
            rotate_left
            · intro w hSw
              (try dsimp only at hSw)
              go_simp
              all_goals (with_reducible rfl)
            try simp only [Act.put, List.setIfInBounds_toArray, List.set_cons_zero, List.set_cons_succ]
            refine wpAnyH_take (i := 14) (oi := ⟨some 167, _, _, _, _, _⟩) (v := ?_) rfl (by kernel_rfl) (by kernel_rfl) (by kernel_rfl) (fun _ _ _ h => h) (Or.inl ⟨by rfl, ?_⟩) (by assumption) ?_
            rotate_left
            · intro w hSw
              (try dsimp only at hSw)
              go_simp
              all_goals (with_reducible rfl)
            try simp only [Act.put, List.setIfInBounds_toArray, List.set_cons_zero, List.set_cons_succ]
            refine wpAnyH_take (i := 15) (oi := ⟨some 168, _, _, _, _, _⟩) (v := ?_) rfl (by kernel_rfl) (by kernel_rfl) (by kernel_rfl) (fun _ _ _ h => h) (Or.inl ⟨by rfl, ?_⟩) (by assumption) ?_
            rotate_left
            · intro w hSw
              (try dsimp only at hSw)
              go_simp
              all_goals (with_reducible rfl)
            try simp only [Act.put, List.setIfInBounds_toArray, List.set_cons_zero, List.set_cons_succ]
            refine wpAnyH_take (i := 16) (oi := ⟨some 169, _, _, _, _, _⟩) (v := ?_) rfl (by kernel_rfl) (by kernel_rfl) (by kernel_rfl) (fun _ _ _ h => h) (Or.inl ⟨by rfl, ?_⟩) (by assumption) ?_
            rotate_left
            · intro w hSw
              (try dsimp only at hSw)
              go_simp
              all_goals (with_reducible rfl)
            try simp only [Act.put, List.setIfInBounds_toArray, List.set_cons_zero, List.set_cons_succ]
            refine wpAnyH_take (i := 17) (oi := ⟨some 170, _, _, _, _, _⟩) (v := ?_) rfl (by kernel_rfl) (by kernel_rfl) (by kernel_rfl) (fun _ _ _ h => h) (Or.inl ⟨by rfl, ?_⟩) (by assumption) ?_
            rotate_left
            · intro w hSw
              (try dsimp only at hSw)
              go_simp
              all_goals (with_reducible rfl)
            try simp only [Act.put, List.setIfInBounds_toArray, List.set_cons_zero, List.set_cons_succ]
            refine wpAnyH_take (i := 18) (oi := ⟨some 171, _, _, _, _, _⟩) (v := ?_) rfl (by kernel_rfl) (by kernel_rfl) (by kernel_rfl) (fun _ _ _ h => h) (Or.inl ⟨by rfl, ?_⟩) (by assumption) ?_
            rotate_left
            · intro w hSw
              (try dsimp only at hSw)
              go_simp
              all_goals (with_reducible rfl)
            try simp only [Act.put, List.setIfInBounds_toArray, List.set_cons_zero, List.set_cons_succ]
            refine wpAnyH_take (i := 19) (oi := ⟨some 172, _, _, _, _, _⟩) (v := ?_) rfl (by kernel_rfl) (by kernel_rfl) (by kernel_rfl) (fun _ _ _ h => h) (Or.inl ⟨by rfl, ?_⟩) (by assumption) ?_
            rotate_left
            · intro w hSw
              (try dsimp only at hSw)
              go_simp
              all_goals (with_reducible rfl)
            try simp only [Act.put, List.setIfInBounds_toArray, List.set_cons_zero, List.set_cons_succ]
            refine wpAnyH_take (i := 20) (oi := ⟨some 173, _, _, _, _, _⟩) (v := ?_) rfl (by kernel_rfl) (by kernel_rfl) (by kernel_rfl) (fun _ _ _ h => h) (Or.inl ⟨by rfl, ?_⟩) (by assumption) ?_
            rotate_left
            · intro w hSw
              (try dsimp only at hSw)
              go_simp
              all_goals (with_reducible rfl)
            try simp only [Act.put, List.setIfInBounds_toArray, List.set_cons_zero, List.set_cons_succ]
            refine wpAnyH_take (i := 21) (oi := ⟨some 174, _, _, _, _, _⟩) (v := ?_) rfl (by kernel_rfl) (by kernel_rfl) (by kernel_rfl) (fun _ _ _ h => h) (Or.inl ⟨by rfl, ?_⟩) (by assumption) ?_
            rotate_left
            · intro w hSw
              obtain ⟨⟨c0, c1, c2⟩, _, _, _⟩ := three (rowk2 hSw HC.out.1.tm.row)
              go_simp
              all_goals (with_reducible rfl)
            try simp only [Act.put, List.setIfInBounds_toArray, List.set_cons_zero, List.set_cons_succ]
            have hH1 := hHeld
            refine wpAnyH_ready (rs := [22]) (by kernel_rfl) (by simp) (AllReadyH.cons (o := ⟨some 175, _, _, _, _, _⟩) rfl (fun K hK => ?_) AllReadyH.nil)
            go_simp
            refine (heaped_is _ (HC.out.1.tm.nt.below hH1) (HC.out.1.tm.ra.below hH1)).mono ?_
            rintro e x2 ⟨rfl, hx2⟩
            refine hK.out _ _ (hH1.trans (hx2.mono hH1.size)) (fun hHeld => ?_)
            clear hK K
            try simp only [Act.put, List.setIfInBounds_toArray, List.set_cons_zero, List.set_cons_succ]
            clear hH1 hx2
            refine wpAnyH_take (i := 23) (oi := ⟨some 176, _, _, _, _, _⟩) (v := ?_) rfl (by kernel_rfl) (by kernel_rfl) (by kernel_rfl) (fun _ _ _ h => h) (Or.inl ⟨by rfl, ?_⟩) (by assumption) ?_
            rotate_left
            · intro w hSw
              (try dsimp only at hSw)
              go_simp
              all_goals (with_reducible rfl)
            try simp only [Act.put, List.setIfInBounds_toArray, List.set_cons_zero, List.set_cons_succ]
            refine wpAnyH_take (i := 24) (oi := ⟨some 177, _, _, _, _, _⟩) (v := ?_) rfl (by kernel_rfl) (by kernel_rfl) (by kernel_rfl) (fun _ _ _ h => h) (Or.inl ⟨by rfl, ?_⟩) (by assumption) ?_
            rotate_left
            · intro w hSw
              (try dsimp only at hSw)
              go_simp
              all_goals (with_reducible rfl)
            try simp only [Act.put, List.setIfInBounds_toArray, List.set_cons_zero, List.set_cons_succ]
            refine wpAnyH_take (i := 25) (oi := ⟨some 178, _, _, _, _, _⟩) (v := ?_) rfl (by kernel_rfl) (by kernel_rfl) (by kernel_rfl) (fun _ _ _ h => h) (Or.inl ⟨by rfl, ?_⟩) (by assumption) ?_
            rotate_left
            · intro w hSw
              (try dsimp only at hSw)
              go_simp
              all_goals (with_reducible rfl)
            try simp only [Act.put, List.setIfInBounds_toArray, List.set_cons_zero, List.set_cons_succ]
            refine wpAnyH_take (i := 26) (oi := ⟨some 179, _, _, _, _, _⟩) (v := ?_) rfl (by kernel_rfl) (by kernel_rfl) (by kernel_rfl) (fun _ _ _ h => h) (Or.inl ⟨by rfl, ?_⟩) (by assumption) ?_
            rotate_left
            · intro w hSw
              (try dsimp only at hSw)
              go_simp
              all_goals (with_reducible rfl)
            try simp only [Act.put, List.setIfInBounds_toArray, List.set_cons_zero, List.set_cons_succ]
            refine wpAnyH_take (i := 27) (oi := ⟨some 180, _, _, _, _, _⟩) (v := ?_) rfl (by kernel_rfl) (by kernel_rfl) (by kernel_rfl) (fun _ _ _ h => h) (Or.inl ⟨by rfl, ?_⟩) (by assumption) ?_
            rotate_left
            · intro w hSw
              (try dsimp only at hSw)
              go_simp
              all_goals (with_reducible rfl)
            try simp only [Act.put, List.setIfInBounds_toArray, List.set_cons_zero, List.set_cons_succ]
            refine wpAnyH_take (i := 28) (oi := ⟨some 181, _, _, _, _, _⟩) (v := ?_) rfl (by kernel_rfl) (by kernel_rfl) (by kernel_rfl) (fun _ _ _ h => h) (Or.inl ⟨by rfl, ?_⟩) (by assumption) ?_
            rotate_left
            · intro w hSw
              have cc2 : w.cell? ⟨bx, 2, none⟩ = some (.int .i64 o.tt) := (cell_of_row _ _ 2 _ 46 (0, 0) (rowk2 hSw HC.out.1.rx)).trans rfl
              go_simp
              all_goals (with_reducible rfl)
            try simp only [Act.put, List.setIfInBounds_toArray, List.set_cons_zero, List.set_cons_succ]
            refine wpAnyH_take (i := 30) (oi := ⟨some 183, _, _, _, _, _⟩) (v := ?_) rfl (by kernel_rfl) (by kernel_rfl) (by kernel_rfl) (fun _ _ _ h => h) (Or.inl ⟨by rfl, ?_⟩) (by assumption) ?_
            rotate_left
            · intro w hSw
              obtain ⟨⟨c0, c1, c2⟩, _, _, _⟩ := three (rowk2 hSw HC.out.1.tm.row)
              go_simp
              all_goals (with_reducible rfl)
            try simp only [Act.put, List.setIfInBounds_toArray, List.set_cons_zero, List.set_cons_succ]
            refine wpAnyH_take (i := 31) (oi := ⟨some 184, _, _, _, _, _⟩) (v := ?_) rfl (by kernel_rfl) (by kernel_rfl) (by kernel_rfl) (fun _ _ _ h => h) (Or.inl ⟨by rfl, ?_⟩) (by assumption) ?_
            rotate_left
            · intro w hSw
              (try dsimp only at hSw)
              go_simp
              all_goals (with_reducible rfl)
            try simp only [Act.put, List.setIfInBounds_toArray, List.set_cons_zero, List.set_cons_succ]
            refine wpAnyH_take (i := 32) (oi := ⟨some 185, _, _, _, _, _⟩) (v := ?_) rfl (by kernel_rfl) (by kernel_rfl) (by kernel_rfl) (fun _ _ _ h => h) (Or.inl ⟨by rfl, ?_⟩) (by assumption) ?_
            rotate_left
            · intro w hSw
              have cc2 : w.cell? ⟨bx, 2, none⟩ = some (.int .i64 o.tt) := (cell_of_row _ _ 2 _ 46 (0, 0) (rowk2 hSw HC.out.1.rx)).trans rfl
              go_simp
              all_goals (with_reducible rfl)
            try simp only [Act.put, List.setIfInBounds_toArray, List.set_cons_zero, List.set_cons_succ]
            have hH1 := hHeld
            refine wpAnyH_ready (rs := [29]) (by kernel_rfl) (by simp) (AllReadyH.cons (o := ⟨some 182, _, _, _, _, _⟩) rfl (fun K hK => ?_) AllReadyH.nil)
            go_simp
            refine (nt_waiting _ (HC.out.1.tm.nt.below hH1) (k := o.tt) HOK.out.tt.1 HOK.out.tt.2 (q := kw) HKW.out).mono ?_
            rintro e _ ⟨rfl, rfl⟩
            refine hK.out _ _ (hH1) (fun hHeld => ?_)
            clear hK K
            try simp only [Act.put, List.setIfInBounds_toArray, List.set_cons_zero, List.set_cons_succ]
            clear hH1
            have hH1 := hHeld
            refine wpAnyH_ready (rs := [33]) (by kernel_rfl) (by simp) (AllReadyH.cons (o := ⟨some 186, _, _, _, _, _⟩) rfl (fun K hK => ?_) AllReadyH.nil)
            go_simp
            refine (rf_wait _ (HC.out.1.tm.ra.below hH1) o.tt (q := kw) HKW.out).mono ?_
            rintro e x4 ⟨rfl, hx4⟩
            refine hK.out _ _ (hH1.trans (hx4.mono hH1.size)) (fun hHeld => ?_)
            clear hK K
            try simp only [Act.put, List.setIfInBounds_toArray, List.set_cons_zero, List.set_cons_succ]
            have HX4 := Lib.hid (hH1.trans (hx4.mono hH1.size))
            clear hH1 hx4
            refine wpAnyH_take (i := 34) (oi := ⟨some 187, _, _, _, _, _⟩) (v := ?_) rfl (by kernel_rfl) (by kernel_rfl) (by kernel_rfl) (fun _ _ _ h => h) (Or.inl ⟨by rfl, ?_⟩) (by assumption) ?_
            rotate_left
            · intro w hSw
              (try dsimp only at hSw)
              go_simp
              all_goals (with_reducible rfl)
            try simp only [Act.put, List.setIfInBounds_toArray, List.set_cons_zero, List.set_cons_succ]
            refine wpAnyH_take (i := 35) (oi := ⟨some 188, _, _, _, _, _⟩) (v := ?_) rfl (by kernel_rfl) (by kernel_rfl) (by kernel_rfl) (fun _ _ _ h => h) (Or.inl ⟨by rfl, ?_⟩) (by assumption) ?_
            rotate_left
            · intro w hSw
              (try dsimp only at hSw)
              go_simp
              all_goals (with_reducible rfl)
            try simp only [Act.put, List.setIfInBounds_toArray, List.set_cons_zero, List.set_cons_succ]
            refine wpAnyH_done (by kernel_rfl) ?_ _
            clear hHeld
            have HE2 : Hid (TM w x4 g c b9 n3 cc3 A3 S3 S3 ∧ n3 ≤ j + 1) := Lib.hid ⟨HC.out.1.tm.below HX4.out, HC.out.2.2.2⟩
            clear HC HX4
            go_wp2
            go_roundw
            case rel => exact ⟨j + 1, _, _, _, _, by have := HJ.out.1; omega, by have := HJ.out.2; omega, by go_num, HE2⟩
            case measure => have := HJ.out; simp [Go.RowKit.intOf]; omega
        · have hn2 : (200 : Int) < (o.n : Int) := by omega
          have hn3 : ¬ (o.n : Int) ≤ 200 := by omega
          clear hok hjm hj70 hw4 hbx hB4 hr4 hn200 hj hj7 HR hoj hok0 hlen hy
          go_upto_region 9 with (refine wpList_load rfl 46 _ rfl _ rfl _ hload ?_)
          rw [HW.out.1, HW.out.2]
          clear HW hload
          have c4 : w4.cell? ⟨bx, 4, none⟩ = some (.slice o.X o.n o.c) := (cell_of_row _ _ 4 _ 46 (0, 0) H3.out.2.1).trans rfl
          have HE2 : Hid (TM w w4 g c b9 n cc A S S ∧ n ≤ j + 1) := Lib.hid ⟨H3.out.1, by have := H3.out.2.2.1; omega⟩
          clear H3
          go_wp2
          go_roundw
          case rel => exact ⟨j + 1, _, _, _, _, by have := HJ.out.1; omega, by have := HJ.out.2; omega, by go_num, HE2⟩
          case measure => have := HJ.out; simp [Go.RowKit.intOf]; omega
      · obtain rfl : j = 70 := by omega
        have hjn : ((70 : Nat) : Int) < (mo : Int) := by omega
        have HE2 := Lib.hid HR.out.1.bel
        clear HR hjm hj70 hj hj7
        go_wp2_with fail
        refine (awake_is _).mono ?_
        rintro e wz ⟨rfl, hz⟩
        have HZ := Lib.hid hz
        clear hz
        go_wp2
        go_ret
        exact ⟨rfl, HE2.out.trans (HZ.out.mono HE2.out.size)⟩
    · obtain rfl : j = mo := by omega
      have HE2 := Lib.hid HR.out.1.bel
      clear HR hjm hj hj7
      go_wp2_with fail
      refine (awake_is _).mono ?_
      rintro e wz ⟨rfl, hz⟩
      have HZ := Lib.hid hz
      clear hz
      go_wp2
      go_ret
      exact ⟨rfl, HE2.out.trans (HZ.out.mono HE2.out.size)⟩
theorem tells_law (ends most : Int) (F : Option Addr) (mo co : Nat) (os : List DeedV) (w : World) (ho : DeedsAt w F mo os) (hm : mo ≤ 9223372036854775807) : Calls Try.prog 4 #[.int .i64 ends, .int .i64 most, .slice F mo co] w (Awake w) := by
  by_cases h : ends < 1 ∨ 300 < ends ∨ most < 1 ∨ 10000 < most
  · exact tells_bad ends most h F mo co w
  · obtain ⟨ends, rfl⟩ := Int.eq_ofNat_of_zero_le (show 0 ≤ ends by omega)
    obtain ⟨most, rfl⟩ := Int.eq_ofNat_of_zero_le (show 0 ≤ most by omega)
    exact tells_good ends most (by omega) (by omega) (by omega) (by omega) F mo co os w ho hm
end Go.Proofs.Ythhablokbnfpcaa
