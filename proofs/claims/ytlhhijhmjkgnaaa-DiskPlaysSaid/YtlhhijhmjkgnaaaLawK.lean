/- The law DiskKeeps. -/
import Derived.Test.YtlhhijhmjkgnaaaKp
import Derived.Deep.CutRange
import Derived.Deep.CutBlock
namespace Go.Proofs.Ytlhhijhmjkgnaaa
open Go.RowKit Go.Coop
set_option maxRecDepth 100000
theorem info63 : (Try.prog.info? 63).map (·.size) = some 8 := by kernel_rfl
theorem info64 : (Try.prog.info? 64).map (·.size) = some 8 := by kernel_rfl
theorem load63 {w : World} {b : Nat} {f : Nat → Value} (h : w.heap[b]? = some (.cells (arr8 f) 63 (0, 0))) : (Instr.loadAt 63 (.pointer (some ⟨b, 0, none⟩))).run Try.prog w = .ok (.agg (arr8 f)) w := by
  simp only [Instr.loadAt, Instr.sureAddr, Sem.run_bind, Sem.run_pure, Result.andThen_ok]
  exact run_loadVar_row w b 63 63 (arr8 f) (0, 0) _ h Try.underlying63 rfl (by rw [info63, arr8_size])
theorem store63 {w : World} {b : Nat} {f g : Nat → Value} (h : w.heap[b]? = some (.cells (arr8 f) 63 (0, 0))) (hg : ∀ i, (g i).oneCell' = true) : (Instr.storeAt 63 (.pointer (some ⟨b, 0, none⟩)) (.agg (arr8 g))).run Try.prog w = .ok () (w.setRow b (arr8 g)) := by
  simp only [Instr.storeAt, Instr.sureAddr, Sem.run_bind, Sem.run_pure, Result.andThen_ok]
  exact run_storeVar_row w b 63 63 (arr8 f) (arr8 g) h (by rw [info63, arr8_size]) (by rw [arr8_size, arr8_size]) (arr8_one g hg)
theorem store64 {w : World} {b : Nat} {f g : Nat → Value} (h : w.heap[b]? = some (.cells (arr8 f) 64 (0, 0))) (hg : ∀ i, (g i).oneCell' = true) : (Instr.storeAt 64 (.pointer (some ⟨b, 0, none⟩)) (.agg (arr8 g))).run Try.prog w = .ok () (w.setRow b (arr8 g)) := by
  simp only [Instr.storeAt, Instr.sureAddr, Sem.run_bind, Sem.run_pure, Result.andThen_ok]
  exact run_storeVar_row w b 64 64 (arr8 f) (arr8 g) h (by rw [info64, arr8_size]) (by rw [arr8_size, arr8_size]) (arr8_one g hg)
theorem keeps_start {w w1 : World} {B g m c : Nat} {S : DS} (h : One w1 B g m c S) (hB : Below B w w1) : Kp (((w1.alloc (.cells #[.int .u8 0, .int .u8 0, .int .u8 0, .int .u8 0, .int .u8 0, .int .u8 0, .int .u8 0, .int .u8 0] 63)).alloc (.cells #[.int .u8 0, .int .u8 0, .int .u8 0, .int .u8 0, .int .u8 0, .int .u8 0, .int .u8 0, .int .u8 0] 63)).alloc (.cells #[.bool false, .bool false, .bool false, .bool false, .bool false, .bool false, .bool false, .bool false] 64)) B g m c w1.heap.size (w1.heap.size + 1) (w1.heap.size + 1 + 1) S (fun _ => 0) (fun _ => 0) (fun _ => false) ∧
    Below B w (((w1.alloc (.cells #[.int .u8 0, .int .u8 0, .int .u8 0, .int .u8 0, .int .u8 0, .int .u8 0, .int .u8 0, .int .u8 0] 63)).alloc (.cells #[.int .u8 0, .int .u8 0, .int .u8 0, .int .u8 0, .int .u8 0, .int .u8 0, .int .u8 0, .int .u8 0] 63)).alloc (.cells #[.bool false, .bool false, .bool false, .bool false, .bool false, .bool false, .bool false, .bool false] 64)) := by
  have e1 : #[Value.int .u8 0, .int .u8 0, .int .u8 0, .int .u8 0, .int .u8 0, .int .u8 0, .int .u8 0, .int .u8 0] = arr8 fun _ => BV 0 := rfl
  have e2 : #[Value.bool false, .bool false, .bool false, .bool false, .bool false, .bool false, .bool false, .bool false] = arr8 fun _ => .bool false := rfl
  rw [e1, e2]
  have hbase := h.base
  have hb : Below w1.heap.size w1 (((w1.alloc (.cells (arr8 fun _ => BV 0) 63)).alloc (.cells (arr8 fun _ => BV 0) 63)).alloc (.cells (arr8 fun _ => .bool false) 64)) := (((Below.refl _ _).alloc (Nat.le_refl _) _).alloc (by simp) _).alloc (by simp; omega) _
  refine ⟨⟨h.below hb, ?_, ?_, ?_, by omega, by omega, by omega, by omega, by omega, by omega⟩, hB.trans (hb.mono hbase)⟩
  · rw [Below.heap_alloc _ _ _ (by simp; omega), Below.heap_alloc _ _ _ (by simp)]
    exact heap_alloc_new w1 _
  · rw [Below.heap_alloc _ _ _ (by simp)]
    have := heap_alloc_new (w1.alloc (.cells (arr8 fun _ => BV 0) 63)) (.cells (arr8 fun _ => BV 0) 63)
    rw [World.size_alloc] at this
    exact this
  · have := heap_alloc_new ((w1.alloc (.cells (arr8 fun _ => BV 0) 63)).alloc (.cells (arr8 fun _ => BV 0) 63)) (.cells (arr8 fun _ => .bool false) 64)
    rw [World.size_alloc, World.size_alloc] at this
    exact this
theorem KI.congr {S : DS} {su la su2 la2 : Nat → UInt8} {op : Nat → Bool} (h : KI S su la op) (h1 : ∀ j, j < 8 → su j = su2 j) (h2 : ∀ j, j < 8 → la j = la2 j) : KI S su2 la2 op :=
  ⟨h.n, fun j hj => by rw [← h1 j hj]; exact h.med j hj, fun j hj ho => by rw [← h2 j hj]; exact h.yes j hj ho, fun j hj ho => by rw [← h1 j hj, ← h2 j hj]; exact h.no j hj ho⟩
/-- so many are looked at behind a crash -/
def mix (su la : Nat → UInt8) (op : Nat → Bool) (ks : List Bool) (j : Nat) : Nat → UInt8 := fun i => if i < j then su' su la op ks i else su i
theorem mix_zero (su la : Nat → UInt8) (op : Nat → Bool) (ks : List Bool) : mix su la op ks 0 = su := by funext i; simp [mix]
theorem mix_yes (su la : Nat → UInt8) (op : Nat → Bool) (ks : List Bool) {j : Nat} (h : (op j && (ks[rk op j]?).getD false) = true) : mix su la op ks (j + 1) = upd (mix su la op ks j) j (la j) := by
  funext i
  unfold mix upd
  dsimp only
  by_cases e : i = j
  · subst e
    rw [if_pos (by omega), if_pos rfl]
    unfold su'
    rw [h]
    rfl
  · rw [if_neg e]
    by_cases h2 : i < j
    · rw [if_pos (by omega), if_pos h2]
    · rw [if_neg (by omega), if_neg h2]
theorem mix_no (su la : Nat → UInt8) (op : Nat → Bool) (ks : List Bool) {j : Nat} (h : (op j && (ks[rk op j]?).getD false) = false) : mix su la op ks (j + 1) = mix su la op ks j := by
  funext i
  unfold mix
  by_cases e : i = j
  · subst e
    rw [if_pos (by omega), if_neg (by omega)]
    unfold su'
    rw [h]
    rfl
  · by_cases h2 : i < j
    · rw [if_pos (by omega), if_pos h2]
    · rw [if_neg (by omega), if_neg h2]
theorem mix_at (su la : Nat → UInt8) (op : Nat → Bool) (ks : List Bool) (j : Nat) : mix su la op ks (j + 1) j = su' su la op ks j := by unfold mix; rw [if_pos (by omega)]
section
variable {w : World} {B g m c bs bl bo : Nat} {S : DS} {su la : Nat → UInt8} {op : Nat → Bool}
theorem Kp.cs (h : Kp w B g m c bs bl bo S su la op) {j : Nat} (hj : j < 8) : w.cell? ⟨bs, j, none⟩ = some (.int .u8 ((su j).toNat : Int)) := by rw [cell_of_row w bs j _ 63 (0, 0) h.s, arr8_get _ hj]; rfl
theorem Kp.cl (h : Kp w B g m c bs bl bo S su la op) {j : Nat} (hj : j < 8) : w.cell? ⟨bl, j, none⟩ = some (.int .u8 ((la j).toNat : Int)) := by rw [cell_of_row w bl j _ 63 (0, 0) h.l, arr8_get _ hj]; rfl
theorem Kp.co (h : Kp w B g m c bs bl bo S su la op) {j : Nat} (hj : j < 8) : w.cell? ⟨bo, j, none⟩ = some (.bool (op j)) := by rw [cell_of_row w bo j _ 64 (0, 0) h.o, arr8_get _ hj]
end
theorem dd_write_goes (w : World) {g m c : Nat} {S : DS} (h : DiskAt w g m c S) (hd : S.down = false) (hf : S.fails = false) {i : Nat} (hi : i < S.n) {A : Option Addr} {l : List UInt8} (hr : Rd w A 64 l) (cap : Nat) : Calls Try.prog 13 #[.pointer (some ⟨g, 0, none⟩), .int .i64 (i : Int), .slice A 64 cap] w (Did g m c (S.took.put i l) (.int .i64 0) w) :=
  (write_goes w h hd hf hi hr cap).mono fun _ _ ⟨he, hD, hB⟩ => ⟨he, c, hD, hB.mono (by simp; try omega), .inl rfl⟩
theorem dd_write_fails (w : World) {g m c : Nat} {S : DS} (h : DiskAt w g m c S) (hd : S.down = false) (hf : S.fails = true) {i : Nat} (hi : i < S.n) (A : Option Addr) (cap : Nat) : Calls Try.prog 13 #[.pointer (some ⟨g, 0, none⟩), .int .i64 (i : Int), .slice A 64 cap] w (Did g m c S.failed (.int .i64 15) w) :=
  (write_fails w h hd hf hi A cap).mono fun _ _ ⟨he, hD, hB⟩ => ⟨he, c, hD, hB.mono (by simp), .inl rfl⟩
theorem dd_flush_fails (w : World) {g m c : Nat} {S : DS} (h : DiskAt w g m c S) (hd : S.down = false) (hf : S.fails = true) : Calls Try.prog 20 #[.pointer (some ⟨g, 0, none⟩)] w (Did g m c S.failed (.int .i64 15) w) :=
  (flush_fails w h hd hf).mono fun _ _ ⟨he, hD, hB⟩ => ⟨he, c, hD, hB.mono (by simp), .inl rfl⟩
/-- bools lie elsewhere than an array of bytes -/
theorem rdv_set {w : World} {A : Option Addr} {n : Nat} {ks : List Bool} {b q : Nat} {f : Nat → UInt8} (hr : RdV w A n (bools ks)) (hb : w.heap[b]? = some (.cells (arr8 fun i => BV (f i)) 63 (0, 0))) (x : UInt8) : RdV (w.setCell ⟨b, q, none⟩ (BV x)) A n (bools ks) := by
  rcases Nat.eq_zero_or_pos n with h0 | h0
  · subst h0
    have := List.eq_nil_of_length_eq_zero hr.len
    rw [this]
    exact RdV.nil _ _
  · obtain ⟨ad, rfl, _⟩ := hr.cells h0
    refine rdv_but hr (gs := [b]) ((But.refl _ _).setCell (by simp) _) ?_
    simp
    rintro rfl
    obtain ⟨ad', v, e, _, hj, hc⟩ := hr.at_ h0
    injection e with e
    subst e
    have e0 : ad.add 0 = ad := by simp [Addr.add]
    rw [e0] at hc
    simp only [World.cell?, hb] at hc
    split at hc
    · cases hc
    · by_cases hi : ad.off < 8
      · rw [arr8_get _ hi] at hc
        injection hc with hc
        exact bools_no ks v (List.mem_of_getElem? hj) _ hc.symm
      · rw [Array.getElem?_eq_none (by rw [arr8_size]; omega)] at hc
        cases hc
set_option maxHeartbeats 8000000 in
theorem keeps_law (F : Option Addr) (mo co : Nat) (os : List OpV) (w : World) (ho : OpsAt w F mo os) (hob : ∀ o ∈ os, -9223372036854775808 ≤ o.i ∧ o.i ≤ 9223372036854775807 ∧ -9223372036854775808 ≤ o.n) (hmo : mo ≤ 9223372036854775807) :
    Calls Try.prog 6 #[.slice F mo co] w (LawP w) := by
  have HO := Lib.hid ho
  have HOB := Lib.hid hob
  clear ho hob
  go_enter Try.func6, Try.ntmps6
  go_wp2_with fail
  refine (new_yes 8 (by omega) (by omega) _).mono ?_
  rintro e w1 ⟨g, m, c, rfl, hD, h1, h2, h3, hB⟩
  have hst := keeps_start (⟨hB.size, hD, ⟨h1, h2, h3⟩⟩ : One w1 w.heap.size g m c (DS.new 8)) hB
  have HST := Lib.hid hst
  clear hD h1 h2 h3 hB hst
  go_wp2_with fail
  obtain ⟨bs, hbs⟩ : ∃ bs, w1.heap.size = bs := ⟨_, rfl⟩
  rw [hbs] at HST ⊢
  obtain ⟨bl, hbl⟩ : ∃ bl, bs + 1 = bl := ⟨_, rfl⟩
  rw [hbl] at HST ⊢
  obtain ⟨bo, hbo⟩ : ∃ bo, bl + 1 = bo := ⟨_, rfl⟩
  rw [hbo] at HST ⊢
  clear hbs hbl hbo
  generalize ((w1.alloc (.cells #[.int .u8 0, .int .u8 0, .int .u8 0, .int .u8 0, .int .u8 0, .int .u8 0, .int .u8 0, .int .u8 0] 63)).alloc (.cells #[.int .u8 0, .int .u8 0, .int .u8 0, .int .u8 0, .int .u8 0, .int .u8 0, .int .u8 0, .int .u8 0] 63)).alloc (.cells #[.bool false, .bool false, .bool false, .bool false, .bool false, .bool false, .bool false, .bool false] 64) = w4 at HST ⊢
  have h0 : Hid (KRel w g m bs bl bo w4) := ⟨c, _, _, _, _, ⟨rfl, fun _ _ => rfl, (fun _ _ h => by cases h), fun _ _ _ => ⟨rfl, rfl⟩⟩, HST.out.1, HST.out.2⟩
  clear HST
  go_loopw [8] (fun i wr => ∃ j : Nat, j ≤ mo ∧ j ≤ 80 ∧ i = .int .i64 j ∧ Hid (KRel w g m bs bl bo wr)) (fun i _ => 80 - (Go.RowKit.intOf i).toNat)
  case atStart => exact ⟨0, by omega, by omega, rfl, h0.out⟩
  case round =>
    obtain ⟨j, hj, hj6, rfl, HR⟩ := hrel
    clear h0
    by_cases hjm : j < mo
    · by_cases hj60 : j < 80
      · obtain ⟨c, S, su, la, op, hI, hO, hB⟩ := HR.out
        obtain ⟨o, ad, hoj, hok, rfl, hload, _⟩ := (HO.out.below hB (Nat.le_refl _)).get hjm
        obtain ⟨kd, oi, oa, on, bb, A, len, cap, ks⟩ := o
        have hoi := HOB.out _ (List.mem_of_getElem? hoj)
        have HOKK := Lib.hid (HO.out.at_ _ _ hoj).1
        change -9223372036854775808 ≤ oi ∧ oi ≤ 9223372036854775807 ∧ _ at hoi
        have hload : (Instr.loadAt 47 (.pointer (some (ad.add (j * 6))))).run Try.prog wr = .ok (.agg #[.int .i64 kd, .int .i64 oi, .int .i64 oa, .int .i64 on, .int .u8 (bb.toNat : Int), .slice A len cap]) wr := hload
        have HX := Lib.hid (And.intro hI (And.intro hO (And.intro hB (And.intro hok hoi))))
        clear hI hO hB hok hoj hoi HR
        go_wp2_with (refine wpList_load rfl 47 _ rfl _ rfl _ hload ?_)
        refine (pick_any oi 8 (by omega) (by omega) ⟨HX.out.2.2.2.2.1, HX.out.2.2.2.2.2.1⟩ _).mono ?_
        rintro e v1 ⟨rfl, rfl⟩
        obtain ⟨p, hp⟩ : ∃ p, pk oi 8 = p := ⟨_, rfl⟩
        have HP : Hid (p < 8) := by rw [← hp]; exact pk_lt oi (by omega)
        rw [hp]
        clear hp hload
        obtain ⟨w5, hw5⟩ : ∃ w5, wr.alloc (.cells #[.int .i64 kd, .int .i64 oi, .int .i64 oa, .int .i64 on, .int .u8 (bb.toNat : Int), .slice A len cap] 47) = w5 := ⟨_, rfl⟩
        obtain ⟨bx, hbx⟩ : ∃ bx, wr.heap.size = bx := ⟨_, rfl⟩
        have hh : w5.heap[bx]? = some (.cells #[.int .i64 kd, .int .i64 oi, .int .i64 oa, .int .i64 on, .int .u8 (bb.toNat : Int), .slice A len cap] 47 (0, 0)) := by rw [← hw5, ← hbx]; exact heap_alloc_new wr _
        have hb1 : Below wr.heap.size wr w5 := by rw [← hw5]; exact (Below.refl _ _).alloc (Nat.le_refl _) _
        have HW := Lib.hid (And.intro hw5 hbx)
        have HY := Lib.hid (And.intro (HX.out.2.1.below hb1) (And.intro hh (And.intro (HX.out.2.2.1.trans (hb1.mono HX.out.2.2.1.size)) (HX.out.2.2.2.1.below hb1 (Nat.le_refl _)))))
        have c0 : w5.cell? ⟨bx, 0, none⟩ = some (.int .i64 kd) := cell_of_row w5 bx 0 _ 47 (0, 0) hh
        rw [hw5, hbx]
        clear hw5 hbx hh hb1
        go_upto_block 2 with (fail)
        go_cut [11, 12] from 20 to 125 (fun _ _ wc => Hid (KRel w g m bs bl bo wc))
        case first =>
          by_cases h1 : kd = 1
          · subst h1
            have c4 : w5.cell? ⟨bx, 4, none⟩ = some (.int .u8 (bb.toNat : Int)) := cell_of_row w5 bx 4 _ 47 (0, 0) HY.out.2.1
            go_wp2_with fail
            refine (of_any bb _).mono ?_
            rintro e v1 ⟨rfl, hw⟩
            have hb1 : Below w5.heap.size w5 v1 := by rw [hw]; exact (Below.refl _ _).alloc (Nat.le_refl _) _
            have hr1 : Rd v1 (some ⟨w5.heap.size, 0, none⟩) 64 (ofB bb) := by rw [hw]; exact rd_new w5 _ (ofB_len bb) 5
            have H1 := Lib.hid (And.intro (HY.out.1.below hb1) (And.intro ((But.of_below (gs := []) hb1).cells HY.out.2.1 (by simp)) (And.intro (HY.out.2.2.1.trans (hb1.mono HY.out.2.2.1.size)) hr1)))
            clear hw hb1 hr1 c0 c4
            have HPn : Hid (p < S.n) := by show p < S.n; rw [HX.out.1.n]; exact HP.out
            cases hsd : S.down
            · have HS := Lib.hid hsd
              clear hsd
              cases hsf : S.fails
              · have HSF := Lib.hid hsf
                clear hsf
                go_wp2_with fail
                refine (dd_write_goes _ H1.out.1.one.d HS.out HSF.out HPn.out H1.out.2.2.2 _).mono ?_
                rintro e v2 hd
                obtain ⟨c2, rfl, hK2, hB2, hbt2⟩ := H1.out.1.stepB hd
                have hh2 := hbt2.cells H1.out.2.1 (off_disk H1.out.1.one.d (by decide) H1.out.2.1)
                have c4 : v2.cell? ⟨bx, 4, none⟩ = some (.int .u8 (bb.toNat : Int)) := cell_of_row v2 bx 4 _ 47 (0, 0) hh2
                have hcl := hK2.cl HP.out
                have hco := hK2.co HP.out
                have hfl : v2.frozen? ⟨bl, p, none⟩ = false := frozen_of_row v2 bl p _ 63 hK2.l
                have hfo : v2.frozen? ⟨bo, p, none⟩ = false := frozen_of_row v2 bo p _ 64 hK2.o
                have hlo : bl ≠ bo := hK2.lo
                have hp8 := HP.out
                have H2 := Lib.hid (And.intro hK2 (H1.out.2.2.1.trans hB2))
                clear hd hK2 hB2 hbt2 hh2
                go_wp2
                go_meet
                case rel =>
                  obtain ⟨h1, h2⟩ := H2.out.1.setL HP.out bb
                  obtain ⟨h3, h4⟩ := h1.setO HP.out true
                  exact ⟨c2, _, _, _, _, HX.out.1.took.put bb, h3, (H2.out.2.trans h2).trans h4⟩
              · have HSF := Lib.hid hsf
                clear hsf
                go_wp2_with fail
                refine (dd_write_fails _ H1.out.1.one.d HS.out HSF.out HPn.out _ _).mono ?_
                rintro e v2 hd
                obtain ⟨c2, rfl, hK2, hB2⟩ := H1.out.1.step hd
                have H2 := Lib.hid (And.intro hK2 (H1.out.2.2.1.trans hB2))
                clear hd hK2 hB2
                go_wp2
                go_meet
                case rel => exact ⟨c2, _, su, la, op, HX.out.1.failed, H2.out.1, H2.out.2⟩
            · have HS := Lib.hid hsd
              clear hsd
              go_wp2_with fail
              refine (write_down _ H1.out.1.one.d HS.out _ _).mono ?_
              rintro e v2 ⟨rfl, rfl⟩
              go_wp2
              go_meet
              case rel => exact ⟨c, S, su, la, op, HX.out.1, H1.out.1, H1.out.2.2.1⟩
          by_cases h2 : kd = 2
          · subst h2
            have c4 : w5.cell? ⟨bx, 4, none⟩ = some (.int .u8 (bb.toNat : Int)) := cell_of_row w5 bx 4 _ 47 (0, 0) HY.out.2.1
            go_wp2_with fail
            refine (of_any bb _).mono ?_
            rintro e v1 ⟨rfl, hw⟩
            have hb1 : Below w5.heap.size w5 v1 := by rw [hw]; exact (Below.refl _ _).alloc (Nat.le_refl _) _
            have hr1 : Rd v1 (some ⟨w5.heap.size, 0, none⟩) 64 (ofB bb) := by rw [hw]; exact rd_new w5 _ (ofB_len bb) 5
            have H1 := Lib.hid (And.intro (HY.out.1.below hb1) (And.intro ((But.of_below (gs := []) hb1).cells HY.out.2.1 (by simp)) (And.intro (HY.out.2.2.1.trans (hb1.mono HY.out.2.2.1.size)) hr1)))
            clear hw hb1 hr1 c0 c4
            have HPn : Hid (p < S.n) := by show p < S.n; rw [HX.out.1.n]; exact HP.out
            cases hsd : S.down
            · have HS := Lib.hid hsd
              clear hsd
              cases hsf : S.fails
              · have HSF := Lib.hid hsf
                clear hsf
                go_wp2_with fail
                refine (dd_write_goes _ H1.out.1.one.d HS.out HSF.out HPn.out H1.out.2.2.2 _).mono ?_
                rintro e v2 hd
                obtain ⟨c2, rfl, hK2, hB2, hbt2⟩ := H1.out.1.stepB hd
                have hh2 := hbt2.cells H1.out.2.1 (off_disk H1.out.1.one.d (by decide) H1.out.2.1)
                have c4 : v2.cell? ⟨bx, 4, none⟩ = some (.int .u8 (bb.toNat : Int)) := cell_of_row v2 bx 4 _ 47 (0, 0) hh2
                have hcl := hK2.cl HP.out
                have hco := hK2.co HP.out
                have hfl : v2.frozen? ⟨bl, p, none⟩ = false := frozen_of_row v2 bl p _ 63 hK2.l
                have hfo : v2.frozen? ⟨bo, p, none⟩ = false := frozen_of_row v2 bo p _ 64 hK2.o
                have hlo : bl ≠ bo := hK2.lo
                have hp8 := HP.out
                have H2 := Lib.hid (And.intro hK2 (H1.out.2.2.1.trans hB2))
                clear hd hK2 hB2 hbt2 hh2
                go_wp2
                go_meet
                case rel =>
                  obtain ⟨h1, h2⟩ := H2.out.1.setL HP.out bb
                  obtain ⟨h3, h4⟩ := h1.setO HP.out true
                  exact ⟨c2, _, _, _, _, HX.out.1.took.put bb, h3, (H2.out.2.trans h2).trans h4⟩
              · have HSF := Lib.hid hsf
                clear hsf
                go_wp2_with fail
                refine (dd_write_fails _ H1.out.1.one.d HS.out HSF.out HPn.out _ _).mono ?_
                rintro e v2 hd
                obtain ⟨c2, rfl, hK2, hB2⟩ := H1.out.1.step hd
                have H2 := Lib.hid (And.intro hK2 (H1.out.2.2.1.trans hB2))
                clear hd hK2 hB2
                go_wp2
                go_meet
                case rel => exact ⟨c2, _, su, la, op, HX.out.1.failed, H2.out.1, H2.out.2⟩
            · have HS := Lib.hid hsd
              clear hsd
              go_wp2_with fail
              refine (write_down _ H1.out.1.one.d HS.out _ _).mono ?_
              rintro e v2 ⟨rfl, rfl⟩
              go_wp2
              go_meet
              case rel => exact ⟨c, S, su, la, op, HX.out.1, H1.out.1, H1.out.2.2.1⟩
          by_cases h3 : kd = 3
          · subst h3
            have c4 : w5.cell? ⟨bx, 4, none⟩ = some (.int .u8 (bb.toNat : Int)) := cell_of_row w5 bx 4 _ 47 (0, 0) HY.out.2.1
            go_wp2_with fail
            refine (of_any bb _).mono ?_
            rintro e v1 ⟨rfl, hw⟩
            have hb1 : Below w5.heap.size w5 v1 := by rw [hw]; exact (Below.refl _ _).alloc (Nat.le_refl _) _
            have hr1 : Rd v1 (some ⟨w5.heap.size, 0, none⟩) 64 (ofB bb) := by rw [hw]; exact rd_new w5 _ (ofB_len bb) 5
            have H1 := Lib.hid (And.intro (HY.out.1.below hb1) (And.intro ((But.of_below (gs := []) hb1).cells HY.out.2.1 (by simp)) (And.intro (HY.out.2.2.1.trans (hb1.mono HY.out.2.2.1.size)) hr1)))
            clear hw hb1 hr1 c0 c4
            have HPn : Hid (p < S.n) := by show p < S.n; rw [HX.out.1.n]; exact HP.out
            cases hsd : S.down
            · have HS := Lib.hid hsd
              clear hsd
              cases hsf : S.fails
              · have HSF := Lib.hid hsf
                clear hsf
                go_wp2_with fail
                refine (dd_write_goes _ H1.out.1.one.d HS.out HSF.out HPn.out H1.out.2.2.2 _).mono ?_
                rintro e v2 hd
                obtain ⟨c2, rfl, hK2, hB2, hbt2⟩ := H1.out.1.stepB hd
                have hh2 := hbt2.cells H1.out.2.1 (off_disk H1.out.1.one.d (by decide) H1.out.2.1)
                have c4 : v2.cell? ⟨bx, 4, none⟩ = some (.int .u8 (bb.toNat : Int)) := cell_of_row v2 bx 4 _ 47 (0, 0) hh2
                have hcl := hK2.cl HP.out
                have hco := hK2.co HP.out
                have hfl : v2.frozen? ⟨bl, p, none⟩ = false := frozen_of_row v2 bl p _ 63 hK2.l
                have hfo : v2.frozen? ⟨bo, p, none⟩ = false := frozen_of_row v2 bo p _ 64 hK2.o
                have hlo : bl ≠ bo := hK2.lo
                have hp8 := HP.out
                have H2 := Lib.hid (And.intro hK2 (H1.out.2.2.1.trans hB2))
                clear hd hK2 hB2 hbt2 hh2
                go_wp2
                go_meet
                case rel =>
                  obtain ⟨h1, h2⟩ := H2.out.1.setL HP.out bb
                  obtain ⟨h3, h4⟩ := h1.setO HP.out true
                  exact ⟨c2, _, _, _, _, HX.out.1.took.put bb, h3, (H2.out.2.trans h2).trans h4⟩
              · have HSF := Lib.hid hsf
                clear hsf
                go_wp2_with fail
                refine (dd_write_fails _ H1.out.1.one.d HS.out HSF.out HPn.out _ _).mono ?_
                rintro e v2 hd
                obtain ⟨c2, rfl, hK2, hB2⟩ := H1.out.1.step hd
                have H2 := Lib.hid (And.intro hK2 (H1.out.2.2.1.trans hB2))
                clear hd hK2 hB2
                go_wp2
                go_meet
                case rel => exact ⟨c2, _, su, la, op, HX.out.1.failed, H2.out.1, H2.out.2⟩
            · have HS := Lib.hid hsd
              clear hsd
              go_wp2_with fail
              refine (write_down _ H1.out.1.one.d HS.out _ _).mono ?_
              rintro e v2 ⟨rfl, rfl⟩
              go_wp2
              go_meet
              case rel => exact ⟨c, S, su, la, op, HX.out.1, H1.out.1, H1.out.2.2.1⟩
          by_cases h4 : kd = 4
          · subst h4
            have c4 : w5.cell? ⟨bx, 4, none⟩ = some (.int .u8 (bb.toNat : Int)) := cell_of_row w5 bx 4 _ 47 (0, 0) HY.out.2.1
            go_wp2_with fail
            refine (of_any bb _).mono ?_
            rintro e v1 ⟨rfl, hw⟩
            have hb1 : Below w5.heap.size w5 v1 := by rw [hw]; exact (Below.refl _ _).alloc (Nat.le_refl _) _
            have hr1 : Rd v1 (some ⟨w5.heap.size, 0, none⟩) 64 (ofB bb) := by rw [hw]; exact rd_new w5 _ (ofB_len bb) 5
            have H1 := Lib.hid (And.intro (HY.out.1.below hb1) (And.intro ((But.of_below (gs := []) hb1).cells HY.out.2.1 (by simp)) (And.intro (HY.out.2.2.1.trans (hb1.mono HY.out.2.2.1.size)) hr1)))
            clear hw hb1 hr1 c0 c4
            have HPn : Hid (p < S.n) := by show p < S.n; rw [HX.out.1.n]; exact HP.out
            cases hsd : S.down
            · have HS := Lib.hid hsd
              clear hsd
              cases hsf : S.fails
              · have HSF := Lib.hid hsf
                clear hsf
                go_wp2_with fail
                refine (dd_write_goes _ H1.out.1.one.d HS.out HSF.out HPn.out H1.out.2.2.2 _).mono ?_
                rintro e v2 hd
                obtain ⟨c2, rfl, hK2, hB2, hbt2⟩ := H1.out.1.stepB hd
                have hh2 := hbt2.cells H1.out.2.1 (off_disk H1.out.1.one.d (by decide) H1.out.2.1)
                have c4 : v2.cell? ⟨bx, 4, none⟩ = some (.int .u8 (bb.toNat : Int)) := cell_of_row v2 bx 4 _ 47 (0, 0) hh2
                have hcl := hK2.cl HP.out
                have hco := hK2.co HP.out
                have hfl : v2.frozen? ⟨bl, p, none⟩ = false := frozen_of_row v2 bl p _ 63 hK2.l
                have hfo : v2.frozen? ⟨bo, p, none⟩ = false := frozen_of_row v2 bo p _ 64 hK2.o
                have hlo : bl ≠ bo := hK2.lo
                have hp8 := HP.out
                have H2 := Lib.hid (And.intro hK2 (H1.out.2.2.1.trans hB2))
                clear hd hK2 hB2 hbt2 hh2
                go_wp2
                go_meet
                case rel =>
                  obtain ⟨h1, h2⟩ := H2.out.1.setL HP.out bb
                  obtain ⟨h3, h4⟩ := h1.setO HP.out true
                  exact ⟨c2, _, _, _, _, HX.out.1.took.put bb, h3, (H2.out.2.trans h2).trans h4⟩
              · have HSF := Lib.hid hsf
                clear hsf
                go_wp2_with fail
                refine (dd_write_fails _ H1.out.1.one.d HS.out HSF.out HPn.out _ _).mono ?_
                rintro e v2 hd
                obtain ⟨c2, rfl, hK2, hB2⟩ := H1.out.1.step hd
                have H2 := Lib.hid (And.intro hK2 (H1.out.2.2.1.trans hB2))
                clear hd hK2 hB2
                go_wp2
                go_meet
                case rel => exact ⟨c2, _, su, la, op, HX.out.1.failed, H2.out.1, H2.out.2⟩
            · have HS := Lib.hid hsd
              clear hsd
              go_wp2_with fail
              refine (write_down _ H1.out.1.one.d HS.out _ _).mono ?_
              rintro e v2 ⟨rfl, rfl⟩
              go_wp2
              go_meet
              case rel => exact ⟨c, S, su, la, op, HX.out.1, H1.out.1, H1.out.2.2.1⟩
          by_cases h5 : kd = 5
          · subst h5
            cases hsd : S.down
            · have HS := Lib.hid hsd
              clear hsd
              cases hsf : S.fails
              · have HSF := Lib.hid hsf
                clear hsf
                go_wp2_with fail
                refine (dd_flush_goes _ HY.out.1.one.d HS.out HSF.out).mono ?_
                rintro e v2 hd
                obtain ⟨c2, rfl, hK2, hB2⟩ := HY.out.1.step hd
                have hld := load63 hK2.l
                have hr := hK2.rowS la
                have hst := store63 (g := fun i => BV (la i)) hK2.s (fun _ => rfl)
                have hst2 := store64 (g := fun _ => .bool false) hr.1.o (fun _ => rfl)
                have HRR := Lib.hid (And.intro (hr.1.rowO (fun _ => false)) (And.intro hr.2 (HY.out.2.2.1.trans hB2)))
                have HL1 := Lib.hid (And.intro hld (And.intro hst hst2))
                clear hd hK2 hB2 c0 hld hr hst hst2
                go_wp2_with (first
                  | (refine wpList_load rfl 63 _ rfl _ rfl _ HL1.out.1 ?_)
                  | (refine wpList_store rfl 63 _ _ rfl _ _ rfl rfl _ HL1.out.2.1 ?_)
                  | (refine wpList_store rfl 64 _ _ rfl _ _ rfl rfl _ HL1.out.2.2 ?_))
                go_meet
                case rel => exact ⟨c2, _, _, _, _, HX.out.1.took.flush, HRR.out.1.1, (HRR.out.2.2.trans HRR.out.2.1).trans HRR.out.1.2⟩
              · have HSF := Lib.hid hsf
                clear hsf
                go_wp2_with fail
                refine (dd_flush_fails _ HY.out.1.one.d HS.out HSF.out).mono ?_
                rintro e v2 hd
                obtain ⟨c2, rfl, hK2, hB2⟩ := HY.out.1.step hd
                have H2 := Lib.hid (And.intro hK2 (HY.out.2.2.1.trans hB2))
                clear hd hK2 hB2 c0
                go_wp2
                go_meet
                case rel => exact ⟨c2, _, su, la, op, HX.out.1.failed, H2.out.1, H2.out.2⟩
            · have HS := Lib.hid hsd
              clear hsd
              go_wp2_with fail
              refine (flush_down _ HY.out.1.one.d HS.out).mono ?_
              rintro e v2 ⟨rfl, rfl⟩
              go_wp2
              go_meet
              case rel => exact ⟨c, S, su, la, op, HX.out.1, HY.out.1, HY.out.2.2.1⟩
          by_cases h6 : kd = 6
          · subst h6
            cases hsd : S.down
            · have HS := Lib.hid hsd
              clear hsd
              cases hsf : S.fails
              · have HSF := Lib.hid hsf
                clear hsf
                go_wp2_with fail
                refine (dd_flush_goes _ HY.out.1.one.d HS.out HSF.out).mono ?_
                rintro e v2 hd
                obtain ⟨c2, rfl, hK2, hB2⟩ := HY.out.1.step hd
                have hld := load63 hK2.l
                have hr := hK2.rowS la
                have hst := store63 (g := fun i => BV (la i)) hK2.s (fun _ => rfl)
                have hst2 := store64 (g := fun _ => .bool false) hr.1.o (fun _ => rfl)
                have HRR := Lib.hid (And.intro (hr.1.rowO (fun _ => false)) (And.intro hr.2 (HY.out.2.2.1.trans hB2)))
                have HL1 := Lib.hid (And.intro hld (And.intro hst hst2))
                clear hd hK2 hB2 c0 hld hr hst hst2
                go_wp2_with (first
                  | (refine wpList_load rfl 63 _ rfl _ rfl _ HL1.out.1 ?_)
                  | (refine wpList_store rfl 63 _ _ rfl _ _ rfl rfl _ HL1.out.2.1 ?_)
                  | (refine wpList_store rfl 64 _ _ rfl _ _ rfl rfl _ HL1.out.2.2 ?_))
                go_meet
                case rel => exact ⟨c2, _, _, _, _, HX.out.1.took.flush, HRR.out.1.1, (HRR.out.2.2.trans HRR.out.2.1).trans HRR.out.1.2⟩
              · have HSF := Lib.hid hsf
                clear hsf
                go_wp2_with fail
                refine (dd_flush_fails _ HY.out.1.one.d HS.out HSF.out).mono ?_
                rintro e v2 hd
                obtain ⟨c2, rfl, hK2, hB2⟩ := HY.out.1.step hd
                have H2 := Lib.hid (And.intro hK2 (HY.out.2.2.1.trans hB2))
                clear hd hK2 hB2 c0
                go_wp2
                go_meet
                case rel => exact ⟨c2, _, su, la, op, HX.out.1.failed, H2.out.1, H2.out.2⟩
            · have HS := Lib.hid hsd
              clear hsd
              go_wp2_with fail
              refine (flush_down _ HY.out.1.one.d HS.out).mono ?_
              rintro e v2 ⟨rfl, rfl⟩
              go_wp2
              go_meet
              case rel => exact ⟨c, S, su, la, op, HX.out.1, HY.out.1, HY.out.2.2.1⟩
          by_cases h9 : kd = 9
          · subst h9
            have c3 : w5.cell? ⟨bx, 3, none⟩ = some (.int .i64 on) := cell_of_row w5 bx 3 _ 47 (0, 0) HY.out.2.1
            go_wp2_with fail
            refine (dd_arm _ HY.out.1.one.d on HX.out.2.2.2.1.n).mono ?_
            rintro e v2 hd
            obtain ⟨c2, rfl, hK2, hB2⟩ := HY.out.1.step hd
            have H2 := Lib.hid (And.intro hK2 (HY.out.2.2.1.trans hB2))
            clear hd hK2 hB2 c0 c3
            go_wp2
            go_meet
            case rel => exact ⟨c2, _, su, la, op, HX.out.1.arm on, H2.out.1, H2.out.2⟩
          by_cases h10 : kd = 10
          · subst h10
            have c5 : w5.cell? ⟨bx, 5, none⟩ = some (.slice A len cap) := cell_of_row w5 bx 5 _ 47 (0, 0) HY.out.2.1
            go_wp2_with fail
            refine (dd_crash _ HY.out.1.one.d A len cap ks HY.out.2.2.2.ks HY.out.2.2.2.len).mono ?_
            rintro e v2 hd
            obtain ⟨c2, rfl, hK2, hB2, hbt2⟩ := HY.out.1.stepB hd
            have hks2 : RdV v2 A len (bools ks) := HOKK.out.ks.below (HY.out.2.2.1.trans hB2) (Nat.le_refl _)
            have H2 := Lib.hid (And.intro hK2 (And.intro (HY.out.2.2.1.trans hB2) (And.intro (hbt2.cells HY.out.2.1 (off_disk HY.out.1.one.d (by decide) HY.out.2.1)) hks2)))
            have HLEN := Lib.hid HOKK.out.len
            clear hd hK2 hB2 hbt2 hks2 c0 c5
            go_wp2
            go_loopw [11, 12] (fun nv qv wr => ∃ q : Nat, q ≤ 8 ∧ qv = .int .i64 q ∧ nv = .int .i64 (rk op q : Nat) ∧ Hid (Kp wr w.heap.size g m c2 bs bl bo (S.crashed ks) (mix su la op ks q) la op ∧ Below w.heap.size w wr ∧ wr.heap[bx]? = some (.cells #[.int .i64 10, .int .i64 oi, .int .i64 oa, .int .i64 on, .int .u8 (bb.toNat : Int), .slice A len cap] 47 (0, 0)) ∧ RdV wr A len (bools ks))) (fun _ qv _ => 8 - (Go.RowKit.intOf qv).toNat)
            case atStart => exact ⟨0, by omega, rfl, rfl, by rw [mix_zero]; exact H2.out⟩
            case round =>
              obtain ⟨q, hq, rfl, rfl, HQ⟩ := hrel
              have hrk := rk_le op q
              by_cases hlt : q < 8
              · have HQL := Lib.hid hlt
                have HBX := Lib.hid HQ.out.2.2
                have hco := HQ.out.1.co hlt
                have hcs := HQ.out.1.cs hlt
                have e0 : mix su la op ks q q = su q := by unfold mix; rw [if_neg (by omega)]
                rw [e0] at hcs
                clear e0
                cases hoq : op q
                · rw [hoq] at hco
                  have HOQ := Lib.hid hoq
                  have HN : Hid ((op q && (ks[rk op q]?).getD false) = false) := by show _ = false; rw [hoq]; rfl
                  clear hoq
                  go_wp2_with fail
                  refine (reads_k _ HQ.out.1.one.d rfl (i := q) (by show q < S.n; rw [HX.out.1.n]; exact HQL.out) (su q) (q := true) (by have := (HX.out.1.crash ks).at_ HQL.out; unfold su' at this; rw [HN.out] at this; exact this)).mono ?_
                  rintro e v9 ⟨rfl, hb9⟩
                  have H9 := Lib.hid (And.intro (HQ.out.1.below hb9) (And.intro (HQ.out.2.1.trans (hb9.mono HQ.out.2.1.size)) (And.intro ((But.of_below (gs := []) hb9).cells HBX.out.1 (by simp)) (HBX.out.2.below hb9 (Nat.le_refl _)))))
                  clear hb9
                  go_wp2
                  go_roundw
                  case rel => exact ⟨q + 1, by omega, by go_num, by rw [rk_succ, HOQ.out]; rfl, by show Kp _ _ _ _ _ _ _ _ _ _ _ _ ∧ _; rw [mix_no su la op ks HN.out]; exact ⟨H9.out.1, H9.out.2.1, H9.out.2.2.1, H9.out.2.2.2⟩⟩
                  case measure => simp [Go.RowKit.intOf]; omega
                · rw [hoq] at hco
                  have HOQ := Lib.hid hoq
                  clear hoq
                  have c5 : wr.cell? ⟨bx, 5, none⟩ = some (.slice A len cap) := cell_of_row wr bx 5 _ 47 (0, 0) HBX.out.1
                  by_cases hnl : rk op q < len
                  · obtain ⟨adk, v', rfl, _, hv', hck⟩ := HBX.out.2.at_ hnl
                    obtain ⟨bk, hbk⟩ : ∃ bk, ks[rk op q]? = some bk := by
                      have := HBX.out.2.len
                      exact ⟨_, List.getElem?_eq_getElem (by unfold bools at this; rw [List.length_map] at this; omega)⟩
                    obtain rfl : v' = .bool bk := by
                      unfold bools at hv'
                      rw [List.getElem?_map, hbk] at hv'
                      injection hv' with hv'
                      exact hv'.symm
                    have HBK := Lib.hid hbk
                    clear hv' hbk
                    cases bk
                    · have HN : Hid ((op q && (ks[rk op q]?).getD false) = false) := by show _ = false; rw [HOQ.out, HBK.out]; rfl
                      go_wp2_with fail
                      refine (reads_k _ HQ.out.1.one.d rfl (i := q) (by show q < S.n; rw [HX.out.1.n]; exact HQL.out) (su q) (q := true) (by have := (HX.out.1.crash ks).at_ HQL.out; unfold su' at this; rw [HN.out] at this; exact this)).mono ?_
                      rintro e v9 ⟨rfl, hb9⟩
                      have H9 := Lib.hid (And.intro (HQ.out.1.below hb9) (And.intro (HQ.out.2.1.trans (hb9.mono HQ.out.2.1.size)) (And.intro ((But.of_below (gs := []) hb9).cells HBX.out.1 (by simp)) (HBX.out.2.below hb9 (Nat.le_refl _)))))
                      clear hb9
                      go_wp2
                      go_roundw
                      case rel => exact ⟨q + 1, by omega, by go_num, by rw [rk_succ, HOQ.out]; go_num, by show Kp _ _ _ _ _ _ _ _ _ _ _ _ ∧ _; rw [mix_no su la op ks HN.out]; exact ⟨H9.out.1, H9.out.2.1, H9.out.2.2.1, H9.out.2.2.2⟩⟩
                      case measure => simp [Go.RowKit.intOf]; omega
                    · have HN : Hid ((op q && (ks[rk op q]?).getD false) = true) := by show _ = true; rw [HOQ.out, HBK.out]; rfl
                      have hcl := HQ.out.1.cl HQL.out
                      have hfs : wr.frozen? ⟨bs, q, none⟩ = false := frozen_of_row wr bs q _ 63 HQ.out.1.s
                      obtain ⟨hset, hbel⟩ := HQ.out.1.setS HQL.out (la q)
                      have HSET := Lib.hid (And.intro hset (And.intro (HQ.out.2.1.trans hbel) (And.intro ((show But [bs] wr (wr.setCell ⟨bs, q, none⟩ (BV (la q))) from (But.refl _ _).setCell (by simp) _).cells HBX.out.1 (by simp; exact fun e => by have h1 := HBX.out.1; rw [e] at h1; have h2 := h1.symm.trans HQ.out.1.s; injection h2 with h3; injection h3 with _ h3 _; cases h3)) (rdv_set (q := q) HBX.out.2 HQ.out.1.s (la q)))))
                      clear hset hbel
                      clear HBX
                      have HBX := Lib.hid HSET.out.2.2
                      go_wp2_with fail
                      refine (reads_k _ HSET.out.1.one.d rfl (i := q) (by show q < S.n; rw [HX.out.1.n]; exact HQL.out) (la q) (q := true) (by have := (HX.out.1.crash ks).at_ HQL.out; unfold su' at this; rw [HN.out] at this; exact this)).mono ?_
                      rintro e v9 ⟨rfl, hb9⟩
                      have H9 := Lib.hid (And.intro (HSET.out.1.below hb9) (And.intro (HSET.out.2.1.trans (hb9.mono HSET.out.2.1.size)) (And.intro ((But.of_below (gs := []) hb9).cells HBX.out.1 (by simp)) (HBX.out.2.below hb9 (Nat.le_refl _)))))
                      clear hb9
                      go_wp2
                      go_roundw
                      case rel => exact ⟨q + 1, by omega, by go_num, by rw [rk_succ, HOQ.out]; go_num, by show Kp _ _ _ _ _ _ _ _ _ _ _ _ ∧ _; rw [mix_yes su la op ks HN.out]; exact ⟨H9.out.1, H9.out.2.1, H9.out.2.2.1, H9.out.2.2.2⟩⟩
                      case measure => simp [Go.RowKit.intOf]; omega
                  · have HN : Hid ((op q && (ks[rk op q]?).getD false) = false) := by
                      have := HBX.out.2.len
                      unfold bools at this
                      rw [List.length_map] at this
                      show _ = false
                      rw [HOQ.out, List.getElem?_eq_none (by omega)]
                      rfl
                    go_wp2_with fail
                    refine (reads_k _ HQ.out.1.one.d rfl (i := q) (by show q < S.n; rw [HX.out.1.n]; exact HQL.out) (su q) (q := true) (by have := (HX.out.1.crash ks).at_ HQL.out; unfold su' at this; rw [HN.out] at this; exact this)).mono ?_
                    rintro e v9 ⟨rfl, hb9⟩
                    have H9 := Lib.hid (And.intro (HQ.out.1.below hb9) (And.intro (HQ.out.2.1.trans (hb9.mono HQ.out.2.1.size)) (And.intro ((But.of_below (gs := []) hb9).cells HBX.out.1 (by simp)) (HBX.out.2.below hb9 (Nat.le_refl _)))))
                    clear hb9
                    go_wp2
                    go_roundw
                    case rel => exact ⟨q + 1, by omega, by go_num, by rw [rk_succ, HOQ.out]; go_num, by show Kp _ _ _ _ _ _ _ _ _ _ _ _ ∧ _; rw [mix_no su la op ks HN.out]; exact ⟨H9.out.1, H9.out.2.1, H9.out.2.2.1, H9.out.2.2.2⟩⟩
                    case measure => simp [Go.RowKit.intOf]; omega
              · obtain rfl : q = 8 := by omega
                have hK2 := HQ.out.1
                have hld := load63 hK2.s
                have hr := hK2.rowL (mix su la op ks 8)
                have hst := store63 (g := fun i => BV (mix su la op ks 8 i)) hK2.l (fun _ => rfl)
                have hst2 := store64 (g := fun _ => .bool false) hr.1.o (fun _ => rfl)
                have HRR := Lib.hid (And.intro (hr.1.rowO (fun _ => false)) (And.intro hr.2 HQ.out.2.1))
                have HL1 := Lib.hid (And.intro hld (And.intro hst hst2))
                clear hK2 hld hr hst hst2 hrk hlt
                go_wp2_with (first
                  | (refine wpList_load rfl 63 _ rfl _ rfl _ HL1.out.1 ?_)
                  | (refine wpList_store rfl 63 _ _ rfl _ _ rfl rfl _ HL1.out.2.1 ?_)
                  | (refine wpList_store rfl 64 _ _ rfl _ _ rfl rfl _ HL1.out.2.2 ?_))
                go_meet
                case rel => exact ⟨c2, _, _, _, _, (HX.out.1.crash ks).congr (fun j hj => by unfold mix; rw [if_pos hj]) (fun j hj => by unfold mix; rw [if_pos hj]), HRR.out.1.1, (HRR.out.2.2.trans HRR.out.2.1).trans HRR.out.1.2⟩
          by_cases h11 : kd = 11
          · subst h11
            have c5 : w5.cell? ⟨bx, 5, none⟩ = some (.slice A len cap) := cell_of_row w5 bx 5 _ 47 (0, 0) HY.out.2.1
            go_wp2_with fail
            refine (dd_crash _ HY.out.1.one.d A len cap ks HY.out.2.2.2.ks HY.out.2.2.2.len).mono ?_
            rintro e v2 hd
            obtain ⟨c2, rfl, hK2, hB2, hbt2⟩ := HY.out.1.stepB hd
            have hks2 : RdV v2 A len (bools ks) := HOKK.out.ks.below (HY.out.2.2.1.trans hB2) (Nat.le_refl _)
            have H2 := Lib.hid (And.intro hK2 (And.intro (HY.out.2.2.1.trans hB2) (And.intro (hbt2.cells HY.out.2.1 (off_disk HY.out.1.one.d (by decide) HY.out.2.1)) hks2)))
            have HLEN := Lib.hid HOKK.out.len
            clear hd hK2 hB2 hbt2 hks2 c0 c5
            go_wp2
            go_loopw [11, 12] (fun nv qv wr => ∃ q : Nat, q ≤ 8 ∧ qv = .int .i64 q ∧ nv = .int .i64 (rk op q : Nat) ∧ Hid (Kp wr w.heap.size g m c2 bs bl bo (S.crashed ks) (mix su la op ks q) la op ∧ Below w.heap.size w wr ∧ wr.heap[bx]? = some (.cells #[.int .i64 11, .int .i64 oi, .int .i64 oa, .int .i64 on, .int .u8 (bb.toNat : Int), .slice A len cap] 47 (0, 0)) ∧ RdV wr A len (bools ks))) (fun _ qv _ => 8 - (Go.RowKit.intOf qv).toNat)
            case atStart => exact ⟨0, by omega, rfl, rfl, by rw [mix_zero]; exact H2.out⟩
            case round =>
              obtain ⟨q, hq, rfl, rfl, HQ⟩ := hrel
              have hrk := rk_le op q
              by_cases hlt : q < 8
              · have HQL := Lib.hid hlt
                have HBX := Lib.hid HQ.out.2.2
                have hco := HQ.out.1.co hlt
                have hcs := HQ.out.1.cs hlt
                have e0 : mix su la op ks q q = su q := by unfold mix; rw [if_neg (by omega)]
                rw [e0] at hcs
                clear e0
                cases hoq : op q
                · rw [hoq] at hco
                  have HOQ := Lib.hid hoq
                  have HN : Hid ((op q && (ks[rk op q]?).getD false) = false) := by show _ = false; rw [hoq]; rfl
                  clear hoq
                  go_wp2_with fail
                  refine (reads_k _ HQ.out.1.one.d rfl (i := q) (by show q < S.n; rw [HX.out.1.n]; exact HQL.out) (su q) (q := true) (by have := (HX.out.1.crash ks).at_ HQL.out; unfold su' at this; rw [HN.out] at this; exact this)).mono ?_
                  rintro e v9 ⟨rfl, hb9⟩
                  have H9 := Lib.hid (And.intro (HQ.out.1.below hb9) (And.intro (HQ.out.2.1.trans (hb9.mono HQ.out.2.1.size)) (And.intro ((But.of_below (gs := []) hb9).cells HBX.out.1 (by simp)) (HBX.out.2.below hb9 (Nat.le_refl _)))))
                  clear hb9
                  go_wp2
                  go_roundw
                  case rel => exact ⟨q + 1, by omega, by go_num, by rw [rk_succ, HOQ.out]; rfl, by show Kp _ _ _ _ _ _ _ _ _ _ _ _ ∧ _; rw [mix_no su la op ks HN.out]; exact ⟨H9.out.1, H9.out.2.1, H9.out.2.2.1, H9.out.2.2.2⟩⟩
                  case measure => simp [Go.RowKit.intOf]; omega
                · rw [hoq] at hco
                  have HOQ := Lib.hid hoq
                  clear hoq
                  have c5 : wr.cell? ⟨bx, 5, none⟩ = some (.slice A len cap) := cell_of_row wr bx 5 _ 47 (0, 0) HBX.out.1
                  by_cases hnl : rk op q < len
                  · obtain ⟨adk, v', rfl, _, hv', hck⟩ := HBX.out.2.at_ hnl
                    obtain ⟨bk, hbk⟩ : ∃ bk, ks[rk op q]? = some bk := by
                      have := HBX.out.2.len
                      exact ⟨_, List.getElem?_eq_getElem (by unfold bools at this; rw [List.length_map] at this; omega)⟩
                    obtain rfl : v' = .bool bk := by
                      unfold bools at hv'
                      rw [List.getElem?_map, hbk] at hv'
                      injection hv' with hv'
                      exact hv'.symm
                    have HBK := Lib.hid hbk
                    clear hv' hbk
                    cases bk
                    · have HN : Hid ((op q && (ks[rk op q]?).getD false) = false) := by show _ = false; rw [HOQ.out, HBK.out]; rfl
                      go_wp2_with fail
                      refine (reads_k _ HQ.out.1.one.d rfl (i := q) (by show q < S.n; rw [HX.out.1.n]; exact HQL.out) (su q) (q := true) (by have := (HX.out.1.crash ks).at_ HQL.out; unfold su' at this; rw [HN.out] at this; exact this)).mono ?_
                      rintro e v9 ⟨rfl, hb9⟩
                      have H9 := Lib.hid (And.intro (HQ.out.1.below hb9) (And.intro (HQ.out.2.1.trans (hb9.mono HQ.out.2.1.size)) (And.intro ((But.of_below (gs := []) hb9).cells HBX.out.1 (by simp)) (HBX.out.2.below hb9 (Nat.le_refl _)))))
                      clear hb9
                      go_wp2
                      go_roundw
                      case rel => exact ⟨q + 1, by omega, by go_num, by rw [rk_succ, HOQ.out]; go_num, by show Kp _ _ _ _ _ _ _ _ _ _ _ _ ∧ _; rw [mix_no su la op ks HN.out]; exact ⟨H9.out.1, H9.out.2.1, H9.out.2.2.1, H9.out.2.2.2⟩⟩
                      case measure => simp [Go.RowKit.intOf]; omega
                    · have HN : Hid ((op q && (ks[rk op q]?).getD false) = true) := by show _ = true; rw [HOQ.out, HBK.out]; rfl
                      have hcl := HQ.out.1.cl HQL.out
                      have hfs : wr.frozen? ⟨bs, q, none⟩ = false := frozen_of_row wr bs q _ 63 HQ.out.1.s
                      obtain ⟨hset, hbel⟩ := HQ.out.1.setS HQL.out (la q)
                      have HSET := Lib.hid (And.intro hset (And.intro (HQ.out.2.1.trans hbel) (And.intro ((show But [bs] wr (wr.setCell ⟨bs, q, none⟩ (BV (la q))) from (But.refl _ _).setCell (by simp) _).cells HBX.out.1 (by simp; exact fun e => by have h1 := HBX.out.1; rw [e] at h1; have h2 := h1.symm.trans HQ.out.1.s; injection h2 with h3; injection h3 with _ h3 _; cases h3)) (rdv_set (q := q) HBX.out.2 HQ.out.1.s (la q)))))
                      clear hset hbel
                      clear HBX
                      have HBX := Lib.hid HSET.out.2.2
                      go_wp2_with fail
                      refine (reads_k _ HSET.out.1.one.d rfl (i := q) (by show q < S.n; rw [HX.out.1.n]; exact HQL.out) (la q) (q := true) (by have := (HX.out.1.crash ks).at_ HQL.out; unfold su' at this; rw [HN.out] at this; exact this)).mono ?_
                      rintro e v9 ⟨rfl, hb9⟩
                      have H9 := Lib.hid (And.intro (HSET.out.1.below hb9) (And.intro (HSET.out.2.1.trans (hb9.mono HSET.out.2.1.size)) (And.intro ((But.of_below (gs := []) hb9).cells HBX.out.1 (by simp)) (HBX.out.2.below hb9 (Nat.le_refl _)))))
                      clear hb9
                      go_wp2
                      go_roundw
                      case rel => exact ⟨q + 1, by omega, by go_num, by rw [rk_succ, HOQ.out]; go_num, by show Kp _ _ _ _ _ _ _ _ _ _ _ _ ∧ _; rw [mix_yes su la op ks HN.out]; exact ⟨H9.out.1, H9.out.2.1, H9.out.2.2.1, H9.out.2.2.2⟩⟩
                      case measure => simp [Go.RowKit.intOf]; omega
                  · have HN : Hid ((op q && (ks[rk op q]?).getD false) = false) := by
                      have := HBX.out.2.len
                      unfold bools at this
                      rw [List.length_map] at this
                      show _ = false
                      rw [HOQ.out, List.getElem?_eq_none (by omega)]
                      rfl
                    go_wp2_with fail
                    refine (reads_k _ HQ.out.1.one.d rfl (i := q) (by show q < S.n; rw [HX.out.1.n]; exact HQL.out) (su q) (q := true) (by have := (HX.out.1.crash ks).at_ HQL.out; unfold su' at this; rw [HN.out] at this; exact this)).mono ?_
                    rintro e v9 ⟨rfl, hb9⟩
                    have H9 := Lib.hid (And.intro (HQ.out.1.below hb9) (And.intro (HQ.out.2.1.trans (hb9.mono HQ.out.2.1.size)) (And.intro ((But.of_below (gs := []) hb9).cells HBX.out.1 (by simp)) (HBX.out.2.below hb9 (Nat.le_refl _)))))
                    clear hb9
                    go_wp2
                    go_roundw
                    case rel => exact ⟨q + 1, by omega, by go_num, by rw [rk_succ, HOQ.out]; go_num, by show Kp _ _ _ _ _ _ _ _ _ _ _ _ ∧ _; rw [mix_no su la op ks HN.out]; exact ⟨H9.out.1, H9.out.2.1, H9.out.2.2.1, H9.out.2.2.2⟩⟩
                    case measure => simp [Go.RowKit.intOf]; omega
              · obtain rfl : q = 8 := by omega
                have hK2 := HQ.out.1
                have hld := load63 hK2.s
                have hr := hK2.rowL (mix su la op ks 8)
                have hst := store63 (g := fun i => BV (mix su la op ks 8 i)) hK2.l (fun _ => rfl)
                have hst2 := store64 (g := fun _ => .bool false) hr.1.o (fun _ => rfl)
                have HRR := Lib.hid (And.intro (hr.1.rowO (fun _ => false)) (And.intro hr.2 HQ.out.2.1))
                have HL1 := Lib.hid (And.intro hld (And.intro hst hst2))
                clear hK2 hld hr hst hst2 hrk hlt
                go_wp2_with (first
                  | (refine wpList_load rfl 63 _ rfl _ rfl _ HL1.out.1 ?_)
                  | (refine wpList_store rfl 63 _ _ rfl _ _ rfl rfl _ HL1.out.2.1 ?_)
                  | (refine wpList_store rfl 64 _ _ rfl _ _ rfl rfl _ HL1.out.2.2 ?_))
                go_meet
                case rel => exact ⟨c2, _, _, _, _, (HX.out.1.crash ks).congr (fun j hj => by unfold mix; rw [if_pos hj]) (fun j hj => by unfold mix; rw [if_pos hj]), HRR.out.1.1, (HRR.out.2.2.trans HRR.out.2.1).trans HRR.out.1.2⟩
          go_wp2
          go_meet
          case rel => exact ⟨c, S, su, la, op, HX.out.1, HY.out.1, HY.out.2.2.1⟩
        case rest =>
          have HC : Hid (KRel w g m bs bl bo wc) := hcut
          obtain ⟨c2, S2, su2, la2, op2, hI2, hO2, hB2⟩ := HC.out
          have HZ := Lib.hid (And.intro hI2 (And.intro hO2 hB2))
          clear hI2 hO2 hB2 HC c0
          cases hsd : S2.down
          · have HS := Lib.hid hsd
            clear hsd
            go_wp2_with fail
            refine (down_k _ HZ.out.2.1.one.d HS.out).mono ?_
            rintro e v5 ⟨rfl, rfl⟩
            go_wp2
            go_loopw [13] (fun i wr => ∃ k : Nat, k ≤ 8 ∧ i = .int .i64 k ∧ Hid (Kp wr w.heap.size g m c2 bs bl bo S2 su2 la2 op2 ∧ Below w.heap.size w wr)) (fun i _ => 8 - (Go.RowKit.intOf i).toNat)
            case atStart => exact ⟨0, by omega, rfl, HZ.out.2.1, HZ.out.2.2⟩
            case round =>
              obtain ⟨k, hk, rfl, HQ⟩ := hrel
              by_cases hlt : k < 8
              · have HKL := Lib.hid hlt
                have hcl := HQ.out.1.cl hlt
                go_wp2_with fail
                refine (reads_k _ HQ.out.1.one.d HS.out (i := k) (by rw [HZ.out.1.n]; exact HKL.out) (la2 k) (HZ.out.1.at_ HKL.out)).mono ?_
                rintro e v9 ⟨rfl, hb9⟩
                have H9 := Lib.hid (And.intro (HQ.out.1.below hb9) (HQ.out.2.trans (hb9.mono HQ.out.2.size)))
                clear hb9 hcl
                go_wp2
                go_roundw
                case rel => exact ⟨k + 1, by omega, by go_num, H9.out⟩
                case measure => simp [Go.RowKit.intOf]; omega
              · obtain rfl : k = 8 := by omega
                go_wp2
                go_roundw
                case rel => exact ⟨j + 1, by omega, by omega, by go_num, c2, S2, su2, la2, op2, HZ.out.1, HQ.out.1, HQ.out.2⟩
                case measure => simp [Go.RowKit.intOf]; omega
          · have HS := Lib.hid hsd
            clear hsd
            go_wp2_with fail
            refine (down_k _ HZ.out.2.1.one.d HS.out).mono ?_
            rintro e v5 ⟨rfl, rfl⟩
            go_wp2
            go_roundw
            case rel => exact ⟨j + 1, by omega, by omega, by go_num, c2, S2, su2, la2, op2, HZ.out⟩
            case measure => simp [Go.RowKit.intOf]; omega
      · obtain rfl : j = 80 := by omega
        go_wp2_with fail
        refine (awake_any _).mono ?_
        rintro e wz ⟨rfl, hz⟩
        have HZ := Lib.hid hz
        clear hz
        go_wp2
        go_ret
        obtain ⟨c, S, su, la, op, hI, hO, hB⟩ := HR.out
        exact ⟨rfl, hB.trans (HZ.out.mono hB.size)⟩
    · obtain rfl : j = mo := by omega
      go_wp2_with fail
      refine (awake_any _).mono ?_
      rintro e wz ⟨rfl, hz⟩
      have HZ := Lib.hid hz
      clear hz
      go_wp2
      go_ret
      obtain ⟨c, S, su, la, op, hI, hO, hB⟩ := HR.out
      exact ⟨rfl, hB.trans (HZ.out.mono hB.size)⟩
end Go.Proofs.Ytlhhijhmjkgnaaa
