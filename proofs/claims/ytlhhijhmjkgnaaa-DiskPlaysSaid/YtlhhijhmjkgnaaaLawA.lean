/- The law DiskApart. -/
import Derived.Test.YtlhhijhmjkgnaaaOne
import Derived.Deep.RegionHeld
namespace Go.Proofs.Ytlhhijhmjkgnaaa
open Go.RowKit Go.Coop
set_option maxRecDepth 100000

/-- the sector 7 is as it was flushed -/
structure ApI (b : UInt8) (S : DS) : Prop where
  n : S.n = 8
  up : S.down = false
  un : S.armed = false
  c7 : S.cache 7 = none
  m7 : S.med 7 = ofB b
theorem ApI.fails {b : UInt8} {S : DS} (h : ApI b S) : S.fails = false := by unfold DS.fails; rw [h.un]; rfl
theorem ApI.took {b : UInt8} {S : DS} (h : ApI b S) : ApI b S.took := ⟨h.n, h.up, h.un, h.c7, h.m7⟩
theorem ApI.put {b : UInt8} {S : DS} (h : ApI b S) {p : Nat} (hp : p < 7) (l : List UInt8) : ApI b (S.put p l) := ⟨h.n, h.up, h.un, by show upd S.cache p (some l) 7 = none; rw [upd_other _ _ (by omega)]; exact h.c7, h.m7⟩
theorem ApI.at7 {b : UInt8} {S : DS} (h : ApI b S) : (S.at_ 7 == ofB b) = true := by
  unfold DS.at_
  rw [h.c7, h.m7]
  exact beq_self_eq_true _
theorem write_eq {S : DS} (hd : S.down = false) (hf : S.fails = false) {p : Nat} (hp : p < S.n) (l : List UInt8) : S.writeOf (p : Int) l = S.took.put p l := by
  unfold DS.writeOf
  rw [hd, hf, if_neg (by simp), if_neg (by omega), if_neg (by simp), Int.toNat_natCast]
theorem ApI.does {b : UInt8} {S : DS} (h : ApI b S) {o : OpV} {p : Nat} (hp : p < 7) (ho : o.i = (p : Int)) (hk : o.kind ≠ 9) : ApI b (S.does o) := by
  unfold DS.does
  rw [if_neg hk]
  split
  · rw [ho, write_eq h.up h.fails (by rw [h.n]; omega)]
    exact h.took.put hp _
  · split
    · unfold DS.flushOf
      rw [h.up, h.fails, if_neg (by simp), if_neg (by simp)]
      exact ⟨h.n, h.up, h.un, rfl, by show S.took.at_ 7 = ofB b; exact beq_iff_eq.1 h.took.at7⟩
    · split
      · unfold DS.spoilOf
        split
        · exact h
        · split
          · exact h
          · refine ⟨h.n, h.up, h.un, h.c7, ?_⟩
            show upd S.med o.i.toNat _ 7 = ofB b
            rw [upd_other _ _ (by omega)]
            exact h.m7
      · split
        · refine ⟨h.n, rfl, rfl, rfl, ?_⟩
          show (if S.kept o.ks 7 = true then S.at_ 7 else S.med 7) = ofB b
          have : S.kept o.ks 7 = false := by unfold DS.kept; rw [h.c7]; rfl
          rw [this]
          exact h.m7
        · exact h
theorem put_cached (S : DS) {p : Nat} (hp : (S.cache p).isSome = true) (l : List UInt8) : (S.put p l).cached = S.cached := by
  unfold DS.cached DS.put
  congr 1
  funext i
  show (upd S.cache p (some l) i).isSome = (S.cache i).isSome
  unfold upd
  split
  · rename_i e
    subst e
    rw [hp]
    rfl
  · rfl
theorem put_at (S : DS) (p : Nat) (l : List UInt8) : ((S.put p l).at_ p == l) = true := by
  unfold DS.at_ DS.put
  simp [upd]
theorem DiskAt.box_off {w : World} {g m c : Nat} {S : DS} (h : DiskAt w g m c S) {bx : Nat} {cs : Array Value} (hh : w.heap[bx]? = some (.cells cs 47 (0, 0))) : bx ∉ [g, m, c] := by
  have h1 : bx ≠ g := by
    rintro rfl
    have := hh.symm.trans h.blk
    injection this with e
    injection e with _ e _
    cases e
  have h2 : bx ≠ m := by
    rintro rfl
    have := hh.symm.trans h.med
    injection this with e
    injection e with _ e _
    cases e
  have h3 : bx ≠ c := by
    rintro rfl
    obtain ⟨D, ⟨es, clock, hb, _⟩, _⟩ := h.cache
    have := hh.symm.trans hb
    injection this with e
    cases e
  simp
  exact ⟨h1, h2, h3⟩
def ApRel (w0 : World) (g m : Nat) (b : UInt8) (wr : World) : Prop := ∃ c S, ApI b S ∧ One wr w0.heap.size g m c S ∧ Below w0.heap.size w0 wr
theorem u8_succ (b : UInt8) : ((b.toNat : Int) + 1) % 256 = (((b + 1 : UInt8).toNat : Nat) : Int) := by
  rw [UInt8.toNat_add]
  have := b.toNat_lt
  simp
theorem apart_law (F : Option Addr) (mo co : Nat) (os : List OpV) (b : UInt8) (w : World) (ho : OpsAt w F mo os) (hob : ∀ o ∈ os, -9223372036854775808 ≤ o.i ∧ o.i ≤ 9223372036854775807 ∧ -9223372036854775808 ≤ o.n) (hmo : mo ≤ 9223372036854775807) :
    Calls Try.prog 9 #[.slice F mo co, .int .u8 (b.toNat : Int)] w (LawP w) := by
  have HO := Lib.hid ho
  have HOB := Lib.hid hob
  clear ho hob
  go_enter Try.func9, Try.ntmps9
  go_wp2_with fail
  refine (new_yes 8 (by omega) (by omega) _).mono ?_
  rintro e w1 ⟨g, m, c, rfl, hD, h1, h2, h3, hB⟩
  have H1 := Lib.hid (And.intro (⟨hB.size, hD, ⟨h1, h2, h3⟩⟩ : One w1 w.heap.size g m c (DS.new 8)) hB)
  clear hD h1 h2 h3 hB
  go_wp2_with fail
  refine (of_any b _).mono ?_
  rintro e w2 ⟨rfl, hw⟩
  have hb2 : Below w1.heap.size w1 w2 := by rw [hw]; exact (Below.refl _ _).alloc (Nat.le_refl _) _
  have hr2 : Rd w2 (some ⟨w1.heap.size, 0, none⟩) 64 (ofB b) := by rw [hw]; exact rd_new w1 _ (ofB_len b) 5
  have H2 := Lib.hid (And.intro (H1.out.1.below hb2) (And.intro (H1.out.2.trans (hb2.mono H1.out.2.size)) hr2))
  clear hw hb2 hr2 H1
  go_wp2_with fail
  refine (write_goes _ H2.out.1.d rfl rfl (i := 7) (by show 7 < 8; decide) H2.out.2.2 _).mono ?_
  rintro e w3 ⟨rfl, hD, hB⟩
  have hlo := H2.out.1.lo
  have hB3 : Below w.heap.size w2 w3 := hB.below H2.out.1.base (by simp; exact ⟨hlo.1, hlo.2.2⟩)
  have H3 := Lib.hid (And.intro (⟨Nat.le_trans H2.out.1.base hB.size, hD, hlo⟩ : One w3 w.heap.size g m c ((DS.new 8).took.put 7 (ofB b))) (H2.out.2.1.trans hB3))
  clear hD hB hlo hB3 H2
  go_wp2_with fail
  refine (dd_flush_goes _ H3.out.1.d rfl rfl).mono ?_
  rintro e w4 hd
  obtain ⟨c4, rfl, hO, hB, _⟩ := H3.out.1.step hd
  have h0 : Hid (ApRel w g m b w4) := ⟨c4, _, ⟨rfl, rfl, rfl, rfl, rfl⟩, hO, H3.out.2.trans hB⟩
  clear hd hO hB H3
  go_wp2
  go_loopw [7] (fun i wr => ∃ j : Nat, j ≤ mo ∧ j ≤ 60 ∧ i = .int .i64 j ∧ Hid (ApRel w g m b wr)) (fun i _ => 60 - (Go.RowKit.intOf i).toNat)
  case atStart => exact ⟨0, by omega, by omega, rfl, h0.out⟩
  case round =>
    obtain ⟨j, hj, hj6, rfl, HR⟩ := hrel
    clear h0
    by_cases hjm : j < mo
    · by_cases hj60 : j < 60
      · obtain ⟨c, S, hI, hO, hB⟩ := HR.out
        obtain ⟨o, ad, hoj, hok, rfl, hload, _⟩ := (HO.out.below hB (Nat.le_refl _)).get hjm
        obtain ⟨kd, oi, oa, on, bo, A, len, cap, ks⟩ := o
        have hoi := HOB.out _ (List.mem_of_getElem? hoj)
        change -9223372036854775808 ≤ oi ∧ oi ≤ 9223372036854775807 ∧ _ at hoi
        have hload : (Instr.loadAt 47 (.pointer (some (ad.add (j * 6))))).run Try.prog wr = .ok (.agg #[.int .i64 kd, .int .i64 oi, .int .i64 oa, .int .i64 on, .int .u8 (bo.toNat : Int), .slice A len cap]) wr := hload
        have HX := Lib.hid (And.intro hI (And.intro hO (And.intro hB (And.intro hok hoi))))
        clear hI hO hB hok hoj hoi
        go_wp2_with (refine wpList_load rfl 47 _ rfl _ rfl _ hload ?_)
        refine (pick_any oi 7 (by omega) (by omega) ⟨HX.out.2.2.2.2.1, HX.out.2.2.2.2.2.1⟩ _).mono ?_
        rintro e v1 ⟨rfl, rfl⟩
        obtain ⟨p, hp⟩ : ∃ p, pk oi 7 = p := ⟨_, rfl⟩
        have HP : Hid (p < 7) := by rw [← hp]; exact pk_lt oi (by omega)
        rw [hp]
        clear hp hload
        obtain ⟨w1, hw1⟩ : ∃ w1, wr.alloc (.cells #[.int .i64 kd, .int .i64 (p : Int), .int .i64 oa, .int .i64 on, .int .u8 (bo.toNat : Int), .slice A len cap] 47) = w1 := ⟨_, rfl⟩
        obtain ⟨bx, hbx⟩ : ∃ bx, wr.heap.size = bx := ⟨_, rfl⟩
        have hh : w1.heap[bx]? = some (.cells #[.int .i64 kd, .int .i64 (p : Int), .int .i64 oa, .int .i64 on, .int .u8 (bo.toNat : Int), .slice A len cap] 47 (0, 0)) := by rw [← hw1, ← hbx]; exact heap_alloc_new wr _
        have hb1 : Below wr.heap.size wr w1 := by rw [← hw1]; exact (Below.refl _ _).alloc (Nat.le_refl _) _
        have hoff : bx ∉ [g, m, c] := by rw [← hbx]; exact HX.out.2.1.off
        have HW := Lib.hid (And.intro hw1 hbx)
        have HY := Lib.hid (And.intro (HX.out.2.1.below hb1) (And.intro hoff (And.intro hh (And.intro (HX.out.2.2.1.trans (hb1.mono HX.out.2.2.1.size)) (HX.out.2.2.2.1.below hb1 (Nat.le_refl _))))))
        clear hw1 hbx hh hb1 hoff
        by_cases hk9 : kd = 9
        · subst hk9
          go_wp2
          rw [HW.out.1]
          go_roundw
          case rel => exact ⟨j + 1, by omega, by omega, by go_num, c, S, HX.out.1, HY.out.1, HY.out.2.2.2.1⟩
          case measure => simp [Go.RowKit.intOf]; omega
        · have hk9' : decide (kd = 9) = false := by simpa using hk9
          obtain ⟨oo, hoo⟩ : ∃ oo : OpV, OpV.mk kd (p : Int) oa on bo A len cap ks = oo := ⟨_, rfl⟩
          have HKD := Lib.hid (And.intro hk9 hoo)
          clear hoo
          go_wp2_with fail
          rw [HW.out.1, HW.out.2]
          have hok : (OpV.mk kd (p : Int) oa on bo A len cap ks).Ok w1 := ⟨HY.out.2.2.2.2.n, HY.out.2.2.2.2.len, HY.out.2.2.2.2.ks⟩
          refine (does_any _ HY.out.1.d (OpV.mk kd (p : Int) oa on bo A len cap ks) hok).mono ?_
          rintro e v2 hd
          rw [HKD.out.2] at hd
          obtain ⟨y2, rfl, hO2, hB2, hbt2⟩ := HY.out.1.step hd
          have hI2 : ApI b (S.does oo) := by rw [← HKD.out.2]; exact HX.out.1.does HP.out rfl HKD.out.1
          have hh2 : v2.heap[bx]? = some (.cells #[.int .i64 kd, .int .i64 (p : Int), .int .i64 oa, .int .i64 on, .int .u8 (bo.toNat : Int), .slice A len cap] 47 (0, 0)) := hbt2.cells HY.out.2.2.1 HY.out.2.1
          have hc0 : v2.cell? ⟨bx, 0, none⟩ = some (.int .i64 kd) := cell_of_row v2 bx 0 _ 47 (0, 0) hh2
          have hofs : bx ∉ [g, m, y2] := hO2.d.box_off hh2
          have HZ := Lib.hid (And.intro hO2 (And.intro hI2 (And.intro hh2 (And.intro hofs (HY.out.2.2.2.1.trans hB2)))))
          clear hd hO2 hB2 hbt2 hI2 hh2 hofs hok
          by_cases h1 : 1 ≤ kd
          · by_cases h4 : kd ≤ 4
            · have hdo : S.does oo = S.took.put p (ofB bo) := by rw [← HKD.out.2]; show (if _ then _ else _) = _; rw [if_pos (by show kd = 1 ∨ kd = 2 ∨ kd = 3 ∨ kd = 4; omega)]; exact write_eq HX.out.1.up HX.out.1.fails (by rw [HX.out.1.n]; have := HP.out; omega) _
              have HDO := Lib.hid hdo
              clear hdo
              go_wp2_with fail
              refine (cached_len _ HZ.out.1.d rfl).mono ?_
              rintro e v3 ⟨C1, cc1, rfl, hb3⟩
              have hh3 : v3.heap[bx]? = some (.cells #[.int .i64 kd, .int .i64 (p : Int), .int .i64 oa, .int .i64 on, .int .u8 (bo.toNat : Int), .slice A len cap] 47 (0, 0)) := (But.of_below (gs := []) hb3).cells HZ.out.2.2.1 (by simp)
              have HC := Lib.hid (And.intro (HZ.out.1.below hb3) (And.intro (HZ.out.2.2.2.2.trans (hb3.mono HZ.out.2.2.2.2.size)) (And.intro (Array.getElem?_eq_some_iff.1 hh3).1 HZ.out.2.2.2.1)))
              have c0 : v3.cell? ⟨bx, 0, none⟩ = some (.int .i64 kd) := cell_of_row v3 bx 0 _ 47 (0, 0) hh3
              have c1 : v3.cell? ⟨bx, 1, none⟩ = some (.int .i64 (p : Int)) := cell_of_row v3 bx 1 _ 47 (0, 0) hh3
              have c4 : v3.cell? ⟨bx, 4, none⟩ = some (.int .u8 (bo.toNat : Int)) := cell_of_row v3 bx 4 _ 47 (0, 0) hh3
              obtain ⟨L1, hL1⟩ : ∃ L1, (S.does oo).cached.length = L1 := ⟨_, rfl⟩
              rw [hL1]
              have HL1 := Lib.hid hL1
              have HH3 := Lib.hid hh3
              obtain ⟨b1, hb1⟩ : ∃ b1 : UInt8, ((bo.toNat : Int) + 1) % 256 = (b1.toNat : Int) := ⟨bo + 1, u8_succ bo⟩
              have hb1w : IntKind.u8.wrap ((bo.toNat : Int) + 1) = (b1.toNat : Int) := by rw [← hb1]; rfl
              clear hc0 hb3 hh3 hL1
              go_wp2
              refine wp_region_held_drew (S := fun w' => w'.cell? ⟨bx, 1, none⟩ = some (.int .i64 (p : Int)) ∧ w'.cell? ⟨bx, 4, none⟩ = some (.int .u8 (bo.toNat : Int))) (by kernel_rfl) (⟨c1, c4⟩) (fun hHeld => ?_)
              refine wpAnyH_take (i := 0) (oi := ⟨some 63, _, _, _, _, _⟩) (v := ?_) rfl (by kernel_rfl) (by kernel_rfl) (by kernel_rfl) (fun _ _ _ h => h) (Or.inl ⟨by rfl, ?_⟩) (by assumption) ?_
              rotate_left
              · intro w hSw
                (try dsimp only at hSw)
                go_simp
                all_goals (with_reducible rfl)
              try simp only [Act.put, List.setIfInBounds_toArray, List.set_cons_zero, List.set_cons_succ]
              refine wpAnyH_take (i := 1) (oi := ⟨some 64, _, _, _, _, _⟩) (v := ?_) rfl (by kernel_rfl) (by kernel_rfl) (by kernel_rfl) (fun _ _ _ h => h) (Or.inl ⟨by rfl, ?_⟩) (by assumption) ?_
              rotate_left
              · intro w hSw
                (try dsimp only at hSw)
                go_simp
                all_goals (with_reducible rfl)
              try simp only [Act.put, List.setIfInBounds_toArray, List.set_cons_zero, List.set_cons_succ]
              refine wpAnyH_take (i := 2) (oi := ⟨some 65, _, _, _, _, _⟩) (v := ?_) rfl (by kernel_rfl) (by kernel_rfl) (by kernel_rfl) (fun _ _ _ h => h) (Or.inl ⟨by rfl, ?_⟩) (by assumption) ?_
              rotate_left
              · intro w hSw
                (try dsimp only at hSw)
                go_simp
                all_goals (with_reducible rfl)
              try simp only [Act.put, List.setIfInBounds_toArray, List.set_cons_zero, List.set_cons_succ]
              refine wpAnyH_take (i := 3) (oi := ⟨some 66, _, _, _, _, _⟩) (v := ?_) rfl (by kernel_rfl) (by kernel_rfl) (by kernel_rfl) (fun _ _ _ h => h) (Or.inl ⟨by rfl, ?_⟩) (by assumption) ?_
              rotate_left
              · intro w hSw
                (try dsimp only at hSw)
                go_simp
                all_goals (with_reducible rfl)
              try simp only [Act.put, List.setIfInBounds_toArray, List.set_cons_zero, List.set_cons_succ]
              refine wpAnyH_take (i := 4) (oi := ⟨some 67, _, _, _, _, _⟩) (v := ?_) rfl (by kernel_rfl) (by kernel_rfl) (by kernel_rfl) (fun _ _ _ h => h) (Or.inl ⟨by rfl, ?_⟩) (by assumption) ?_
              rotate_left
              · intro w hSw
                (try dsimp only at hSw)
                go_simp
                all_goals (with_reducible rfl)
              try simp only [Act.put, List.setIfInBounds_toArray, List.set_cons_zero, List.set_cons_succ]
              refine wpAnyH_take (i := 5) (oi := ⟨some 68, _, _, _, _, _⟩) (v := ?_) rfl (by kernel_rfl) (by kernel_rfl) (by kernel_rfl) (fun _ _ _ h => h) (Or.inl ⟨by rfl, ?_⟩) (by assumption) ?_
              rotate_left
              · intro w hSw
                (try dsimp only at hSw)
                go_simp
                all_goals (with_reducible rfl)
              try simp only [Act.put, List.setIfInBounds_toArray, List.set_cons_zero, List.set_cons_succ]
              refine wpAnyH_ready (rs := [6]) (by kernel_rfl) (by simp) (AllReadyH.cons (o := ⟨some 69, _, _, _, _, _⟩) rfl (fun K hK => ?_) AllReadyH.nil)
              go_simp
              refine (of_any b1 _).mono ?_
              rintro e v5 ⟨rfl, hw5⟩
              have hD5 : DiskAt v5 g m y2 (S.does oo) := by rw [hw5]; exact HC.out.1.d.drew.alloc _
              have hB5 : Below v3.heap.size v3 v5 := by rw [hw5]; exact (Below.refl v3.heap.size v3).drew.alloc (Nat.le_refl _) _
              have hR5 : Rd v5 (some ⟨v3.heap.size, 0, none⟩) 64 (ofB b1) := by rw [hw5]; exact rd_new v3.drew _ (ofB_len b1) 5
              clear hw5
              refine hK.out _ _ (⟨(hB5.cell (p := ⟨bx, 1, none⟩) HC.out.2.2.1).trans hHeld.1, (hB5.cell (p := ⟨bx, 4, none⟩) HC.out.2.2.1).trans hHeld.2⟩) (fun hHeld => ?_)
              clear hK K
              try simp only [Act.put, List.setIfInBounds_toArray, List.set_cons_zero, List.set_cons_succ]
              refine wpAnyH_ready (rs := [7]) (by kernel_rfl) (by simp) (AllReadyH.cons (o := ⟨some 70, _, _, _, _, _⟩) rfl (fun K hK => ?_) AllReadyH.nil)
              go_simp
              refine (dd_write _ hD5 (p : Int) hR5 _).mono ?_
              rintro e v6 hd6
              obtain ⟨r6, y6, rfl, hO6, hB6, hbt6⟩ := One.stepE ⟨Nat.le_trans HC.out.1.base hB5.size, hD5, HC.out.1.lo⟩ hd6
              refine hK.out _ _ (⟨(box_keep hbt6 HC.out.2.2.2 (Nat.lt_of_lt_of_le HC.out.2.2.1 hB5.size) 1).trans hHeld.1, (box_keep hbt6 HC.out.2.2.2 (Nat.lt_of_lt_of_le HC.out.2.2.1 hB5.size) 4).trans hHeld.2⟩) (fun hHeld => ?_)
              clear hK K
              try simp only [Act.put, List.setIfInBounds_toArray, List.set_cons_zero, List.set_cons_succ]
              refine wpAnyH_done (by kernel_rfl) ?_ _
              have HS6 : Hid ((S.does oo).writeOf (p : Int) (ofB b1) = (S.does oo).took.put p (ofB b1)) := write_eq HZ.out.2.1.up HZ.out.2.1.fails (by rw [HZ.out.2.1.n]; have := HP.out; omega) _
              rw [HS6.out] at hO6
              have hh6 : v6.heap[bx]? = some (.cells #[.int .i64 kd, .int .i64 (p : Int), .int .i64 oa, .int .i64 on, .int .u8 (bo.toNat : Int), .slice A len cap] 47 (0, 0)) := hbt6.cells ((But.of_below (gs := []) hB5).cells HH3.out (by simp)) HC.out.2.2.2
              have HI6 : Hid (ApI b ((S.does oo).took.put p (ofB b1))) := HZ.out.2.1.took.put HP.out _
              have HQ := Lib.hid (And.intro hO6 (And.intro (HC.out.2.1.trans ((hB5.mono HC.out.2.1.size).trans hB6)) hh6))
              clear hO6 hB6 hbt6 hD5 hB5 hR5 hd6 hHeld hh6 c0 c1 c4
              have HL6 : Hid (((S.does oo).took.put p (ofB b1)).cached.length = L1) := by show _ = L1; rw [← HL1.out, put_cached _ (by rw [HDO.out]; show Option.isSome (upd S.cache p (some (ofB bo)) p) = true; rw [upd_same]; rfl)]; rfl
              go_wp2_with fail
              refine (cached_len _ HQ.out.1.d HL6.out).mono ?_
              rintro e v7 ⟨C2, cc2, rfl, hb7⟩
              have hh7 : v7.heap[bx]? = some (.cells #[.int .i64 kd, .int .i64 (p : Int), .int .i64 oa, .int .i64 on, .int .u8 (bo.toNat : Int), .slice A len cap] 47 (0, 0)) := (But.of_below (gs := []) hb7).cells HQ.out.2.2 (by simp)
              have c1 : v7.cell? ⟨bx, 1, none⟩ = some (.int .i64 (p : Int)) := cell_of_row v7 bx 1 _ 47 (0, 0) hh7
              have c4 : v7.cell? ⟨bx, 4, none⟩ = some (.int .u8 (bo.toNat : Int)) := cell_of_row v7 bx 4 _ 47 (0, 0) hh7
              have HQ7 := Lib.hid (And.intro (HQ.out.1.below hb7) (HQ.out.2.1.trans (hb7.mono HQ.out.2.1.size)))
              clear hb7 hh7
              go_wp2_with fail
              refine (reads_k _ HQ7.out.1.d HI6.out.up (i := p) (by rw [HI6.out.n]; have := HP.out; omega) b1 (put_at _ p (ofB b1))).mono ?_
              rintro e v8 ⟨rfl, hb8⟩
              have HQ8 := Lib.hid (And.intro (HQ7.out.1.below hb8) (HQ7.out.2.trans (hb8.mono HQ7.out.2.size)))
              clear hb8 c1 c4
              go_wp2_with fail
              refine (reads_k _ HQ8.out.1.d HI6.out.up (i := 7) (by rw [HI6.out.n]; omega) b HI6.out.at7).mono ?_
              rintro e v9 ⟨rfl, hb9⟩
              have H9 := Lib.hid (And.intro (HQ8.out.1.below hb9) (HQ8.out.2.trans (hb9.mono HQ8.out.2.size)))
              clear hb9
              go_wp2
              go_roundw
              case rel => exact ⟨j + 1, by omega, by omega, by go_num, _, _, HI6.out, H9.out.1, H9.out.2⟩
              case measure => simp [Go.RowKit.intOf]; omega
            · have hk4 : decide (kd ≤ 4) = false := by simp; omega
              go_wp2_with fail
              refine (reads_k _ HZ.out.1.d HZ.out.2.1.up (i := 7) (by rw [HZ.out.2.1.n]; omega) b HZ.out.2.1.at7).mono ?_
              rintro e v9 ⟨rfl, hb9⟩
              have H9 := Lib.hid (And.intro (HZ.out.1.below hb9) (HZ.out.2.2.2.2.trans (hb9.mono HZ.out.2.2.2.2.size)))
              clear hb9
              go_wp2
              go_roundw
              case rel => exact ⟨j + 1, by omega, by omega, by go_num, _, _, HZ.out.2.1, H9.out.1, H9.out.2⟩
              case measure => simp [Go.RowKit.intOf]; omega
          · have hk1 : decide (1 ≤ kd) = false := by simp; omega
            go_wp2_with fail
            refine (reads_k _ HZ.out.1.d HZ.out.2.1.up (i := 7) (by rw [HZ.out.2.1.n]; omega) b HZ.out.2.1.at7).mono ?_
            rintro e v9 ⟨rfl, hb9⟩
            have H9 := Lib.hid (And.intro (HZ.out.1.below hb9) (HZ.out.2.2.2.2.trans (hb9.mono HZ.out.2.2.2.2.size)))
            clear hb9
            go_wp2
            go_roundw
            case rel => exact ⟨j + 1, by omega, by omega, by go_num, _, _, HZ.out.2.1, H9.out.1, H9.out.2⟩
            case measure => simp [Go.RowKit.intOf]; omega
      · obtain rfl : j = 60 := by omega
        go_wp2_with fail
        refine (awake_any _).mono ?_
        rintro e wz ⟨rfl, hz⟩
        have HZ := Lib.hid hz
        clear hz
        go_wp2
        go_ret
        obtain ⟨c, S, hI, hO, hB⟩ := HR.out
        exact ⟨rfl, hB.trans (HZ.out.mono hB.size)⟩
    · obtain rfl : j = mo := by omega
      go_wp2_with fail
      refine (awake_any _).mono ?_
      rintro e wz ⟨rfl, hz⟩
      have HZ := Lib.hid hz
      clear hz
      go_wp2
      go_ret
      obtain ⟨c, S, hI, hO, hB⟩ := HR.out
      exact ⟨rfl, hB.trans (HZ.out.mono hB.size)⟩
end Go.Proofs.Ytlhhijhmjkgnaaa
