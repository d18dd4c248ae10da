/- Finds in memory; phase, Right. -/
import Derived.Test.YtkkpfehgobanbaaSrtB
import Derived.Deep.RegionHeld3
import Derived.Deep.RegionWith
import Derived.BigQuiet
namespace Go.Proofs.Ytkkpfehgobanbaa
open Go.RowKit Go.Coop
set_option maxRecDepth 100000
/-- a call that tells this and turns nothing that was there -/
def Told (w : World) (q : Bool) (e : Ending) (w' : World) : Prop := e = .returned (.bool q) ∧ Below w.heap.size w w'
theorem told_mk {w w' : World} {p q : Bool} (h : p = q) (hb : Below w.heap.size w w') : Told w q (.returned (.bool p)) w' := ⟨by rw [h], hb⟩
theorem seven {w : World} {b : Nat} {x0 x1 x2 x3 x4 x5 x6 : Value} {T : TypeId} (h : w.heap[b]? = some (.cells #[x0, x1, x2, x3, x4, x5, x6] T (0, 0))) : (w.cell? ⟨b, 0, none⟩ = some x0 ∧ w.cell? ⟨b, 1, none⟩ = some x1 ∧ w.cell? ⟨b, 2, none⟩ = some x2 ∧ w.cell? ⟨b, 3, none⟩ = some x3 ∧ w.cell? ⟨b, 4, none⟩ = some x4 ∧ w.cell? ⟨b, 5, none⟩ = some x5 ∧ w.cell? ⟨b, 6, none⟩ = some x6) ∧ b < w.heap.size :=
  ⟨⟨cell_of_row _ b 0 _ T (0, 0) h, cell_of_row _ b 1 _ T (0, 0) h, cell_of_row _ b 2 _ T (0, 0) h, cell_of_row _ b 3 _ T (0, 0) h, cell_of_row _ b 4 _ T (0, 0) h, cell_of_row _ b 5 _ T (0, 0) h, cell_of_row _ b 6 _ T (0, 0) h⟩, lt_of_block h⟩
/-- what a find's slices read as -/
structure FR (w : World) (A : Option Addr) (n : Nat) (ms : List Int) (B : Option Addr) (m : Nat) (ws : List Int) (C : Option Addr) (q : Nat) (bs : List (List UInt8)) : Prop where
  ma : RdV w A n (ms.map IV)
  wa : RdV w B m (ws.map IV)
  sh : MR w C q bs
  sm : ∀ r ∈ bs, r.length ≤ 140737488355328
  le : n ≤ 1000000 ∧ m ≤ 1000000 ∧ q ≤ 1000000
theorem FR.below {w w' : World} {A : Option Addr} {n : Nat} {ms : List Int} {B : Option Addr} {m : Nat} {ws : List Int} {C : Option Addr} {q : Nat} {bs : List (List UInt8)} {Z : Nat} (h : FR w A n ms B m ws C q bs) (hb : Below Z w w') (hB : w.heap.size ≤ Z) : FR w' A n ms B m ws C q bs :=
  ⟨h.ma.below hb hB, h.wa.below hb hB, h.sh.below hb hB, h.sm, h.le⟩
theorem FR.lens {w : World} {A : Option Addr} {n : Nat} {ms : List Int} {B : Option Addr} {m : Nat} {ws : List Int} {C : Option Addr} {q : Nat} {bs : List (List UInt8)} (h : FR w A n ms B m ws C q bs) : ms.length = n ∧ ws.length = m ∧ bs.length = q := ⟨by simpa using h.ma.len, by simpa using h.wa.len, h.sh.len⟩
/-- the phase, of the counts -/
def phN (need : Int) (n c1 c2 : Nat) : Int := if (c1 : Int) = need then 2 else if (n : Int) - need < c2 then 3 else 1
theorem phF_eq {need : Int} {ms : List Int} {n c1 c2 : Nat} (hn : ms.length = n) (h1 : (ixs 1 ms).length = c1) (h2 : (ixs 2 ms).length = c2) : phF need ms = phN need n c1 c2 := by
  subst hn h1 h2
  rfl
section
variable (w : World)
theorem phase_is (s v need ph : Int) {A : Option Addr} {n c : Nat} {ms : List Int} (B : Option Addr) (m d : Nat) (C : Option Addr) (q k : Nat) (h : RdV w A n (ms.map IV)) (hn : n ≤ 1000000) (hnn : -9223372036854775808 ≤ (n : Int) - need ∧ (n : Int) - need ≤ 9223372036854775807) {p : Int} (hp : phF need ms = p) : Calls Try.prog 36 #[.agg #[.int .i64 s, .int .i64 v, .int .i64 need, .int .i64 ph, .slice A n c, .slice B m d, .slice C q k]] w fun e w' => e = .returned (.int .i64 p) ∧ Below w.heap.size w w' := by
  have hln : ms.length = n := by simpa using h.len
  obtain ⟨w1, hw1⟩ : ∃ z, w.alloc (.cells #[.int .i64 s, .int .i64 v, .int .i64 need, .int .i64 ph, .slice A n c, .slice B m d, .slice C q k] 27) = z := ⟨_, rfl⟩
  obtain ⟨hb1, hx1⟩ := box_mk hw1
  obtain ⟨b, hb⟩ : ∃ b, w.heap.size = b := ⟨_, rfl⟩
  rw [hb] at hx1
  have HB1 := Lib.hid hb1
  have HX1 := Lib.hid hx1
  have HR1 := Lib.hid (h.below hb1 (Nat.le_refl _))
  obtain ⟨⟨f0, f1, f2, f3, f4, f5, f6⟩, fbl⟩ := seven hx1
  clear h hb1 hx1
  obtain ⟨c1, h1⟩ : ∃ c, (ixs 1 ms).length = c := ⟨_, rfl⟩
  obtain ⟨c2, h2⟩ : ∃ c, (ixs 2 ms).length = c := ⟨_, rfl⟩
  have HP : Hid (phN need n c1 c2 = p) := (phF_eq hln h1 h2).symm.trans hp
  have hc1 : c1 ≤ n := by rw [← h1, ← hln]; exact ixs_len _ _
  have hc2 : c2 ≤ n := by rw [← h2, ← hln]; exact ixs_len _ _
  have H1 := Lib.hid h1
  have H2 := Lib.hid h2
  clear h1 h2 hp hln
  go_enter Try.func36, Try.ntmps36
  go_wp2_with fail
  (try rw [hw1]); (try rw [hb])
  refine (gatherer_is _ A n c).mono ?_
  rintro e w2 ⟨rfl, hw2⟩
  obtain ⟨hb2, hx2⟩ := box_mk hw2.symm
  obtain ⟨g, hg⟩ : ∃ g, w1.heap.size = g := ⟨_, rfl⟩
  rw [hg] at hx2
  have HB2 := Lib.hid (HB1.out.trans (hb2.mono HB1.out.size))
  have HX2 := Lib.hid ((hb2.block _ (lt_of_block HX1.out)).trans HX1.out)
  have HR2 := Lib.hid (HR1.out.below hb2 (Nat.le_refl _))
  have HG2 := Lib.hid hx2
  clear hb2 hx2 hw2 hw1 hb f0 f1 f2 f3 f4 f5 f6 fbl
  go_wp2_with fail
  (try rw [hg])
  clear hg
  refine (gat_is _ HR2.out hn (cell_of_row _ g 0 _ 24 (0, 0) HG2.out) 1 rfl H1.out).mono ?_
  rintro e w3 ⟨A3, d3, rfl, _, hb3⟩
  have HB3 := Lib.hid (HB2.out.trans (hb3.mono HB2.out.size))
  have HX3 := Lib.hid ((hb3.block _ (lt_of_block HX2.out)).trans HX2.out)
  have HR3 := Lib.hid (HR2.out.below hb3 (Nat.le_refl _))
  have HG3 := Lib.hid ((hb3.block _ (lt_of_block HG2.out)).trans HG2.out)
  clear hb3
  go_wp2_with fail
  refine (gat_is _ HR3.out hn (cell_of_row _ g 0 _ 24 (0, 0) HG3.out) 2 rfl H2.out).mono ?_
  rintro e w4 ⟨A4, d4, rfl, _, hb4⟩
  have HB4 := Lib.hid (HB3.out.trans (hb4.mono HB3.out.size))
  have HX4 := Lib.hid ((hb4.block _ (lt_of_block HX3.out)).trans HX3.out)
  clear hb4
  obtain ⟨⟨f0, f1, f2, f3, f4, f5, f6⟩, fbl⟩ := seven HX4.out
  have hw : IntKind.i64.wrap ((n : Int) - need) = (n : Int) - need := IntWalk.i64_in _ hnn
  by_cases z0 : (c1 : Int) = need
  · obtain rfl : p = 2 := by rw [← HP.out]; unfold phN; rw [if_pos z0]
    have u0 : ((c1 : Int) == need) = true := by simpa using z0
    clear z0
    go_wp2
    go_ret
    exact ⟨rfl, HB4.out⟩
  · have u0 : ((c1 : Int) == need) = false := by simpa using z0
    by_cases z1 : (n : Int) - need < c2
    · obtain rfl : p = 3 := by rw [← HP.out]; unfold phN; rw [if_neg z0, if_pos z1]
      clear z0
      go_wp2
      go_ret
      exact ⟨rfl, HB4.out⟩
    · obtain rfl : p = 1 := by rw [← HP.out]; unfold phN; rw [if_neg z0, if_neg z1]
      clear z0
      go_wp2
      go_ret
      exact ⟨rfl, HB4.out⟩
set_option maxHeartbeats 4000000 in
theorem right_is (s v need ph : Int) {A : Option Addr} {n c : Nat} {ms : List Int} {B : Option Addr} {m d : Nat} {ws : List Int} {C : Option Addr} {q k : Nat} {bs : List (List UInt8)} (h : FR w A n ms B m ws C q bs) {z : Bool} (hz : decide (RightF ⟨s, v, need, ph, ms, ws, bs⟩) = z) : Calls Try.prog 9 #[.agg #[.int .i64 s, .int .i64 v, .int .i64 need, .int .i64 ph, .slice A n c, .slice B m d, .slice C q k]] w (Told w z) := by
  obtain ⟨hln, hlm, hlq⟩ := h.lens
  obtain ⟨bn, bm, bq⟩ := h.le
  obtain ⟨w1, hw1⟩ : ∃ z, w.alloc (.cells #[.int .i64 s, .int .i64 v, .int .i64 need, .int .i64 ph, .slice A n c, .slice B m d, .slice C q k] 27) = z := ⟨_, rfl⟩
  obtain ⟨hb1, hx1⟩ := box_mk hw1
  obtain ⟨b, hb⟩ : ∃ b, w.heap.size = b := ⟨_, rfl⟩
  rw [hb] at hx1
  have HB1 := Lib.hid hb1
  have HX1 := Lib.hid hx1
  have HR1 := Lib.hid (h.below hb1 (Nat.le_refl _))
  obtain ⟨⟨f0, f1, f2, f3, f4, f5, f6⟩, fbl⟩ := seven hx1
  clear h hb1 hx1
  obtain ⟨c0, e0⟩ : ∃ c, (ixs 0 ms).length = c := ⟨_, rfl⟩
  obtain ⟨l1, el⟩ : ∃ l, ixs 1 ms = l := ⟨_, rfl⟩
  obtain ⟨c1, e1⟩ : ∃ c, l1.length = c := ⟨_, rfl⟩
  obtain ⟨c2, e2⟩ : ∃ c, (ixs 2 ms).length = c := ⟨_, rfl⟩
  have hc0 : c0 ≤ n := by rw [← e0, ← hln]; exact ixs_len _ _
  have hc1 : c1 ≤ n := by rw [← e1, ← el, ← hln]; exact ixs_len _ _
  have hc2 : c2 ≤ n := by rw [← e2, ← hln]; exact ixs_len _ _
  have E0 := Lib.hid e0
  have EL := Lib.hid el
  have E1 := Lib.hid e1
  have E2 := Lib.hid e2
  have HZ : Hid (z = true ↔ (MayF s v n need ∧ c0 + c1 + c2 = n) ∧ (((c1 : Int) ≤ need ∧ m = c1 ∧ q = c1 ∧ levelB bs = true) ∧ (srt ws = l1 ∧ ph = phF need ms))) := by
    show _ ↔ _
    rw [← hz, decide_eq_true_iff, rightF_iff]
    simp only [hln, hlm, hlq, e0, el, e1, e2]
  clear e0 el e1 e2 hz
  have HNo : Hid (∀ {P : Prop}, ((z = true) → P) → ¬ P → z = false) := fun h1 h2 => by
    cases z with
    | false => rfl
    | true => exact absurd (h1 rfl) h2
  go_enter Try.func9, Try.ntmps9
  go_wp2
  (try rw [hw1]); (try rw [hb])
  clear hw1 hb
  refine wp_region_held_drew (S := fun u => Below w1.heap.size w1 u) (by kernel_rfl) ((Below.refl _ _).drew) (fun hHeld => ?_)
  refine wpAnyH_take (i := 0) (oi := ⟨some 6, _, _, _, _, _⟩) (v := ?_) rfl (by kernel_rfl) (by kernel_rfl) (by kernel_rfl) (fun _ _ _ h => h) (Or.inl ⟨by rfl, ?_⟩) (by assumption) ?_
  rotate_left
  · intro w hSw
    (try dsimp only at hSw)
    go_simp
    all_goals (with_reducible rfl)
  try simp only [Act.put, List.setIfInBounds_toArray, List.set_cons_zero, List.set_cons_succ]
  refine wpAnyH_take (i := 1) (oi := ⟨some 7, _, _, _, _, _⟩) (v := ?_) rfl (by kernel_rfl) (by kernel_rfl) (by kernel_rfl) (fun _ _ _ h => h) (Or.inl ⟨by rfl, ?_⟩) (by assumption) ?_
  rotate_left
  · intro w hSw
    have kk := (hSw.cell (p := ⟨b, 4, none⟩) fbl).trans f4
    clear hSw
    go_simp
    all_goals (with_reducible rfl)
  try simp only [Act.put, List.setIfInBounds_toArray, List.set_cons_zero, List.set_cons_succ]
  refine wpAnyH_take (i := 2) (oi := ⟨some 8, _, _, _, _, _⟩) (v := ?_) rfl (by kernel_rfl) (by kernel_rfl) (by kernel_rfl) (fun _ _ _ h => h) (Or.inl ⟨by rfl, ?_⟩) (by assumption) ?_
  rotate_left
  · intro w hSw
    (try dsimp only at hSw)
    go_simp
    all_goals (with_reducible rfl)
  try simp only [Act.put, List.setIfInBounds_toArray, List.set_cons_zero, List.set_cons_succ]
  refine wpAnyH_take (i := 3) (oi := ⟨some 9, _, _, _, _, _⟩) (v := ?_) rfl (by kernel_rfl) (by kernel_rfl) (by kernel_rfl) (fun _ _ _ h => h) (Or.inl ⟨by rfl, ?_⟩) (by assumption) ?_
  rotate_left
  · intro w hSw
    (try dsimp only at hSw)
    go_simp
    all_goals (with_reducible rfl)
  try simp only [Act.put, List.setIfInBounds_toArray, List.set_cons_zero, List.set_cons_succ]
  refine wpAnyH_take (i := 4) (oi := ⟨some 10, _, _, _, _, _⟩) (v := ?_) rfl (by kernel_rfl) (by kernel_rfl) (by kernel_rfl) (fun _ _ _ h => h) (Or.inl ⟨by rfl, ?_⟩) (by assumption) ?_
  rotate_left
  · intro w hSw
    have kk := (hSw.cell (p := ⟨b, 4, none⟩) fbl).trans f4
    clear hSw
    go_simp
    all_goals (with_reducible rfl)
  try simp only [Act.put, List.setIfInBounds_toArray, List.set_cons_zero, List.set_cons_succ]
  refine wpAnyH_ready (rs := [5]) (by kernel_rfl) (by simp) (AllReadyH.cons (o := ⟨some 11, _, _, _, _, _⟩) rfl (fun K hK => ?_) AllReadyH.nil)
  go_simp
  refine (gatherer_is _ A n c).mono ?_
  rintro e w2 ⟨rfl, hw2⟩
  have HB2 : Hid (Below w1.heap.size w1 w2) := by show Below _ _ _; rw [hw2]; exact (Below.refl w1.heap.size w1).drew.alloc (Nat.le_refl _) _
  obtain ⟨g, hg⟩ : ∃ g, w1.drew.heap.size = g := ⟨_, rfl⟩
  have HG2 : Hid (w2.heap[g]? = some (.cells #[.slice A n c] 24 (0, 0))) := by show _ = _; rw [← hg, hw2]; exact heap_alloc_new _ _
  rw [hg]
  clear hw2 hg
  refine hK.out _ _ (HB2.out) (fun hHeld => ?_)
  clear hK K
  try simp only [Act.put, List.setIfInBounds_toArray, List.set_cons_zero, List.set_cons_succ]
  refine wpAnyH_take (i := 6) (oi := ⟨some 3, _, _, _, _, _⟩) (v := ?_) rfl (by kernel_rfl) (by kernel_rfl) (by kernel_rfl) (fun _ _ _ h => h) (Or.inl ⟨by rfl, ?_⟩) (by assumption) ?_
  rotate_left
  · intro w hSw
    (try dsimp only at hSw)
    go_simp
    all_goals (with_reducible rfl)
  try simp only [Act.put, List.setIfInBounds_toArray, List.set_cons_zero, List.set_cons_succ]
  refine wpAnyH_take (i := 7) (oi := ⟨some 4, _, _, _, _, _⟩) (v := ?_) rfl (by kernel_rfl) (by kernel_rfl) (by kernel_rfl) (fun _ _ _ h => h) (Or.inl ⟨by rfl, ?_⟩) (by assumption) ?_
  rotate_left
  · intro w hSw
    (try dsimp only at hSw)
    go_simp
    all_goals (with_reducible rfl)
  try simp only [Act.put, List.setIfInBounds_toArray, List.set_cons_zero, List.set_cons_succ]
  refine wpAnyH_done (by kernel_rfl) ?_ _
  have HX2 := Lib.hid ((HB2.out.block _ (lt_of_block HX1.out)).trans HX1.out)
  have HR2 := Lib.hid (HR1.out.below HB2.out (Nat.le_refl _))
  have HW2 := Lib.hid (HB1.out.trans (HB2.out.mono HB1.out.size))
  clear f0 f1 f2 f3 f4 f5 f6 fbl HX1 HR1 HB1 HB2
  go_wp2_with fail
  refine (gat_is _ HR2.out.ma bn (cell_of_row _ g 0 _ 24 (0, 0) HG2.out) 1 EL.out E1.out).mono ?_
  rintro e w3 ⟨A3, d3, rfl, ho3, hb3⟩
  have HX3 := Lib.hid ((hb3.block _ (lt_of_block HX2.out)).trans HX2.out)
  have HR3 := Lib.hid (HR2.out.below hb3 (Nat.le_refl _))
  have HG3 := Lib.hid ((hb3.block _ (lt_of_block HG2.out)).trans HG2.out)
  have HO3 := Lib.hid ho3.rd
  have HW3 := Lib.hid (HW2.out.trans (hb3.mono HW2.out.size))
  clear ho3 hb3
  obtain ⟨⟨f0, f1, f2, f3, f4, f5, f6⟩, fbl⟩ := seven HX3.out
  by_cases hmay : MayF s v n need
  · have hm := Lib.hid (decide_eq_true hmay)
    have HM := Lib.hid hmay
    have hnd : 1 ≤ need ∧ need ≤ n := hmay.2.2.2
    clear hmay
    go_wp2_with fail
    refine (may_q _ s v n need hm.out).mono ?_
    rintro e w' ⟨rfl, rfl⟩
    go_wp2_with fail
    refine (gat_is _ HR3.out.ma bn (cell_of_row _ g 0 _ 24 (0, 0) HG3.out) 0 rfl E0.out).mono ?_
    rintro e w4 ⟨A4, d4, rfl, _, hb4⟩
    have HX4 := Lib.hid ((hb4.block _ (lt_of_block HX3.out)).trans HX3.out)
    have HR4 := Lib.hid (HR3.out.below hb4 (Nat.le_refl _))
    have HG4 := Lib.hid ((hb4.block _ (lt_of_block HG3.out)).trans HG3.out)
    have HO4 := Lib.hid (HO3.out.below hb4 (Nat.le_refl _))
    have HW4 := Lib.hid (HW3.out.trans (hb4.mono HW3.out.size))
    clear hb4 f0 f1 f2 f3 f4 f5 f6 fbl
    obtain ⟨⟨f0, f1, f2, f3, f4, f5, f6⟩, fbl⟩ := seven HX4.out
    have hs1 : IntKind.i64.wrap ((c0 : Int) + (c1 : Int)) = (c0 : Int) + (c1 : Int) := IntWalk.i64_in _ (by omega)
    have hs2 : IntKind.i64.wrap ((c0 : Int) + (c1 : Int) + (c2 : Int)) = (c0 : Int) + (c1 : Int) + (c2 : Int) := IntWalk.i64_in _ (by omega)
    go_wp2_with fail
    refine (gat_is _ HR4.out.ma bn (cell_of_row _ g 0 _ 24 (0, 0) HG4.out) 2 rfl E2.out).mono ?_
    rintro e w5 ⟨A5, d5, rfl, _, hb5⟩
    have HX5 := Lib.hid ((hb5.block _ (lt_of_block HX4.out)).trans HX4.out)
    have HR5 := Lib.hid (HR4.out.below hb5 (Nat.le_refl _))
    have HO5 := Lib.hid (HO4.out.below hb5 (Nat.le_refl _))
    have HW5 := Lib.hid (HW4.out.trans (hb5.mono HW4.out.size))
    clear hb5 f0 f1 f2 f3 f4 f5 f6 fbl HR2 HX2 HG2 HR3 HX3 HG3 HO3 HR4 HX4 HG4 HO4 HW2 HW3 HW4
    obtain ⟨⟨f0, f1, f2, f3, f4, f5, f6⟩, fbl⟩ := seven HX5.out
    by_cases hk : c0 + c1 + c2 = n
    · have hkk : ((c0 : Int) + (c1 : Int) + (c2 : Int) == (n : Int)) = true := by simp; omega
      by_cases hg : (c1 : Int) ≤ need
      · have hgg : decide (need < (c1 : Int)) = false := decide_eq_false (by omega)
        by_cases hwm : m = c1
        · subst hwm
          by_cases hqm : q = m
          · subst hqm
            obtain ⟨lv, hlv⟩ : ∃ b, levelB bs = b := ⟨_, rfl⟩
            have HLV := Lib.hid hlv
            have HCN := Lib.hid (And.intro hk (And.intro hg (And.intro (rfl : q = q) (rfl : q = q))))
            clear hlv hk
            go_wp2_with fail
            refine (flevel_any C q k bs _ HR5.out.sh (by omega) HR5.out.sm).mono ?_
            rintro e w' ⟨rfl, rfl⟩
            rw [HLV.out]
            cases lv with
            | false =>
              obtain rfl : z = false := HNo.out (fun h => (HZ.out.1 h).2.1.2.2.2) (by rw [HLV.out]; decide)
              go_wp2
              go_ret
              exact told_mk rfl HW5.out
            | true =>
              obtain ⟨ss, hss⟩ : ∃ l, srt ws = l := ⟨_, rfl⟩
              have HSS := Lib.hid hss
              have hsl : ss.length = ws.length := by rw [← hss]; exact (srt_perm ws).length_eq
              rw [hlm] at hsl
              clear hss
              go_wp2_with fail
              obtain ⟨y0, h_y0⟩ : ∃ z, w5.drew = z := ⟨_, rfl⟩
              have HB0 : Hid (Below w5.heap.size w5 y0) := h_y0 ▸ (Below.refl _ _).drew
              have HS0 : Hid (Below y0.heap.size y0 y0) := Below.refl _ _
              have HX0 := Lib.hid ((HB0.out.block _ (lt_of_block HX5.out)).trans HX5.out)
              have HR0 := Lib.hid (HR5.out.below HB0.out (Nat.le_refl _))
              have HO0 := Lib.hid (HO5.out.below HB0.out (Nat.le_refl _))
              have HW0 := Lib.hid (HW5.out.trans (HB0.out.mono HW5.out.size))
              clear f0 f1 f2 f3 f4 f5 f6 fbl HX5 HR5 HO5 HW5 HB0
              obtain ⟨⟨f0, f1, f2, f3, f4, f5, f6⟩, fbl⟩ := seven HX0.out
              refine wp_region_held_drew (S := fun z => Below y0.heap.size y0 z) (by kernel_rfl) (by show Below _ _ _; rw [h_y0]; exact Below.refl _ _) (fun hHeld => ?_)
              rw [h_y0]
              clear h_y0
              refine wpAnyH_take (i := 0) (oi := ⟨some 64, _, _, _, _, _⟩) (v := ?_) rfl (by kernel_rfl) (by kernel_rfl) (by kernel_rfl) (fun _ _ _ h => h) (Or.inl ⟨by rfl, ?_⟩) (by assumption) ?_
              rotate_left
              · intro w hSw
                (try dsimp only at hSw)
                go_simp
                all_goals (with_reducible rfl)
              try simp only [Act.put, List.setIfInBounds_toArray, List.set_cons_zero, List.set_cons_succ]
              refine wpAnyH_take (i := 1) (oi := ⟨some 65, _, _, _, _, _⟩) (v := ?_) rfl (by kernel_rfl) (by kernel_rfl) (by kernel_rfl) (fun _ _ _ h => h) (Or.inl ⟨by rfl, ?_⟩) (by assumption) ?_
              rotate_left
              · intro w hSw
                have kk := (hSw.cell (p := ⟨b, 5, none⟩) fbl).trans f5
                clear hSw
                go_simp
                all_goals (with_reducible rfl)
              try simp only [Act.put, List.setIfInBounds_toArray, List.set_cons_zero, List.set_cons_succ]
              refine wpAnyH_take (i := 4) (oi := ⟨some 68, _, _, _, _, _⟩) (v := ?_) rfl (by kernel_rfl) (by kernel_rfl) (by kernel_rfl) (fun _ _ _ h => h) (Or.inl ⟨by rfl, ?_⟩) (by assumption) ?_
              rotate_left
              · intro w hSw
                (try dsimp only at hSw)
                go_simp
                all_goals (with_reducible rfl)
              try simp only [Act.put, List.setIfInBounds_toArray, List.set_cons_zero, List.set_cons_succ]
              refine wpAnyH_ready (rs := [2]) (by kernel_rfl) (by simp) (AllReadyH.cons (o := ⟨some 66, _, _, _, _, _⟩) rfl (fun K hK => ?_) AllReadyH.nil)
              go_simp
              refine (values_is B _ d _).mono ?_
              rintro e y1 ⟨rfl, hy1⟩
              have hbv : Below y0.heap.size y0 y1 := hy1 ▸ (Below.refl _ _).alloc (Nat.le_refl _) _
              have HBX : Hid (Boxed y1 y0.heap.size 24 (.slice B q d)) := hy1 ▸ Boxed.new y0 _ _
              have HS1 := Lib.hid hbv
              clear hbv hy1
              refine hK.out _ _ (HS1.out) (fun hHeld => ?_)
              clear hK K
              try simp only [Act.put, List.setIfInBounds_toArray, List.set_cons_zero, List.set_cons_succ]
              refine wpAnyH_ready (rs := [3]) (by kernel_rfl) (by simp) (AllReadyH.cons (o := ⟨some 67, _, _, _, _, _⟩) rfl (fun K hK => ?_) AllReadyH.nil)
              go_simp
              refine (sorted_is y0.heap.size B _ d ws bm y1 HBX.out (HR0.out.wa.below HS1.out (Nat.le_refl _)) HSS.out).mono ?_
              rintro e y2 ⟨A6, d6, rfl, ho6, hb6⟩
              have HS2 := Lib.hid (HS1.out.trans (hb6.mono HS1.out.size))
              have HO6 := Lib.hid ho6.rd
              clear ho6 hb6
              rw [hsl] at HO6 ⊢
              refine hK.out _ _ (HS2.out) (fun hHeld => ?_)
              clear hK K
              try simp only [Act.put, List.setIfInBounds_toArray, List.set_cons_zero, List.set_cons_succ]
              obtain ⟨eq, heq⟩ : ∃ b, decide (ss = l1) = b := ⟨_, rfl⟩
              have HEQ := Lib.hid heq
              clear heq
              refine wpAnyH_ready (rs := [5]) (by kernel_rfl) (by simp) (AllReadyH.cons (o := ⟨some 69, _, _, _, _, _⟩) rfl (fun K hK => ?_) AllReadyH.nil)
              go_simp
              refine (equal_is _ HO6.out (HO0.out.below HS2.out (Nat.le_refl _)) (by omega) HEQ.out).mono ?_
              rintro e y3 ⟨rfl, dd, hdd⟩
              have HS3 : Hid (Below y0.heap.size y0 y3) := HS2.out.trans ((show Below y2.heap.size y2 y3 from hdd ▸ ⟨rfl, rfl, rfl, Nat.le_refl _, fun _ _ => rfl⟩).mono HS2.out.size)
              clear hdd
              refine hK.out _ _ (HS3.out) (fun hHeld => ?_)
              clear hK K
              try simp only [Act.put, List.setIfInBounds_toArray, List.set_cons_zero, List.set_cons_succ]
              refine wpAnyH_take (i := 6) (oi := ⟨some 70, _, _, _, _, _⟩) (v := ?_) rfl (by kernel_rfl) (by kernel_rfl) (by kernel_rfl) (fun _ _ _ h => h) (Or.inl ⟨by rfl, ?_⟩) (by assumption) ?_
              rotate_left
              · intro w hSw
                (try dsimp only at hSw)
                go_simp
                all_goals (with_reducible rfl)
              try simp only [Act.put, List.setIfInBounds_toArray, List.set_cons_zero, List.set_cons_succ]
              cases eq with
              | false =>
                obtain rfl : z = false := HNo.out (fun h => (HZ.out.1 h).2.2.1) (by rw [HSS.out]; exact of_decide_eq_false HEQ.out)
                skip
                refine wpAnyH_take (i := 7) (oi := ⟨some 71, _, _, _, _, _⟩) (v := undef) rfl (by kernel_rfl) (by kernel_rfl) (by kernel_rfl) (fun _ _ _ h => h) (Or.inr ⟨by rfl, rfl⟩) (by assumption) ?_
                try simp only [Act.put, List.setIfInBounds_toArray, List.set_cons_zero, List.set_cons_succ]
                refine wpAnyH_take (i := 8) (oi := ⟨some 72, _, _, _, _, _⟩) (v := undef) rfl (by kernel_rfl) (by kernel_rfl) (by kernel_rfl) (fun _ _ _ h => h) (Or.inr ⟨by rfl, rfl⟩) (by assumption) ?_
                try simp only [Act.put, List.setIfInBounds_toArray, List.set_cons_zero, List.set_cons_succ]
                refine wpAnyH_take (i := 9) (oi := ⟨some 73, _, _, _, _, _⟩) (v := undef) rfl (by kernel_rfl) (by kernel_rfl) (by kernel_rfl) (fun _ _ _ h => h) (Or.inr ⟨by rfl, rfl⟩) (by assumption) ?_
                try simp only [Act.put, List.setIfInBounds_toArray, List.set_cons_zero, List.set_cons_succ]
                refine wpAnyH_take (i := 10) (oi := ⟨some 74, _, _, _, _, _⟩) (v := undef) rfl (by kernel_rfl) (by kernel_rfl) (by kernel_rfl) (fun _ _ _ h => h) (Or.inr ⟨by rfl, rfl⟩) (by assumption) ?_
                try simp only [Act.put, List.setIfInBounds_toArray, List.set_cons_zero, List.set_cons_succ]
                refine wpAnyH_take (i := 11) (oi := ⟨some 75, _, _, _, _, _⟩) (v := undef) rfl (by kernel_rfl) (by kernel_rfl) (by kernel_rfl) (fun _ _ _ h => h) (Or.inr ⟨by rfl, rfl⟩) (by assumption) ?_
                try simp only [Act.put, List.setIfInBounds_toArray, List.set_cons_zero, List.set_cons_succ]
                refine wpAnyH_take (i := 12) (oi := ⟨some 76, _, _, _, _, _⟩) (v := ?_) rfl (by kernel_rfl) (by kernel_rfl) (by kernel_rfl) (fun _ _ _ h => h) (Or.inl ⟨by rfl, ?_⟩) (by assumption) ?_
                rotate_left
                · intro w hSw
                  (try dsimp only at hSw)
                  go_simp
                  all_goals (with_reducible rfl)
                try simp only [Act.put, List.setIfInBounds_toArray, List.set_cons_zero, List.set_cons_succ]
                refine wpAnyH_take (i := 13) (oi := ⟨some 2, _, _, _, _, _⟩) (v := ?_) rfl (by kernel_rfl) (by kernel_rfl) (by kernel_rfl) (fun _ _ _ h => h) (Or.inl ⟨by rfl, ?_⟩) (by assumption) ?_
                rotate_left
                · intro w hSw
                  (try dsimp only at hSw)
                  go_simp
                  all_goals (with_reducible rfl)
                try simp only [Act.put, List.setIfInBounds_toArray, List.set_cons_zero, List.set_cons_succ]
                refine wpAnyH_done (by kernel_rfl) ?_ _
                go_wp2
                go_ret
                exact told_mk rfl (HW0.out.trans (HS3.out.mono HW0.out.size))
              | true =>
                obtain ⟨pp, hpp⟩ : ∃ p, phF need ms = p := ⟨_, rfl⟩
                have HPP := Lib.hid hpp
                clear hpp
                refine wpAnyH_take (i := 7) (oi := ⟨some 71, _, _, _, _, _⟩) (v := ?_) rfl (by kernel_rfl) (by kernel_rfl) (by kernel_rfl) (fun _ _ _ h => h) (Or.inl ⟨by rfl, ?_⟩) (by assumption) ?_
                rotate_left
                · intro w hSw
                  (try dsimp only at hSw)
                  go_simp
                  all_goals (with_reducible rfl)
                try simp only [Act.put, List.setIfInBounds_toArray, List.set_cons_zero, List.set_cons_succ]
                refine wpAnyH_take (i := 8) (oi := ⟨some 72, _, _, _, _, _⟩) (v := ?_) rfl (by kernel_rfl) (by kernel_rfl) (by kernel_rfl) (fun _ _ _ h => h) (Or.inl ⟨by rfl, ?_⟩) (by assumption) ?_
                rotate_left
                · intro w hSw
                  have kk := (hSw.cell (p := ⟨b, 3, none⟩) fbl).trans f3
                  clear hSw
                  go_simp
                  all_goals (with_reducible rfl)
                try simp only [Act.put, List.setIfInBounds_toArray, List.set_cons_zero, List.set_cons_succ]
                refine wpAnyH_take (i := 9) (oi := ⟨some 73, _, _, _, _, _⟩) (v := ?_) rfl (by kernel_rfl) (by kernel_rfl) (by kernel_rfl) (fun _ _ _ h => h) (Or.inl ⟨by rfl, ?_⟩) (by assumption) ?_
                rotate_left
                · intro w hSw
                  have kk0 := (hSw.cell (p := ⟨b, 0, none⟩) fbl).trans f0
                  have kk1 := (hSw.cell (p := ⟨b, 1, none⟩) fbl).trans f1
                  have kk2 := (hSw.cell (p := ⟨b, 2, none⟩) fbl).trans f2
                  have kk3 := (hSw.cell (p := ⟨b, 3, none⟩) fbl).trans f3
                  have kk4 := (hSw.cell (p := ⟨b, 4, none⟩) fbl).trans f4
                  have kk5 := (hSw.cell (p := ⟨b, 5, none⟩) fbl).trans f5
                  have kk6 := (hSw.cell (p := ⟨b, 6, none⟩) fbl).trans f6
                  clear hSw
                  go_simp
                  all_goals (with_reducible rfl)
                try simp only [Act.put, List.setIfInBounds_toArray, List.set_cons_zero, List.set_cons_succ]
                refine wpAnyH_ready (rs := [10]) (by kernel_rfl) (by simp) (AllReadyH.cons (o := ⟨some 74, _, _, _, _, _⟩) rfl (fun K hK => ?_) AllReadyH.nil)
                go_simp
                refine (phase_is _ s v need ph B _ d C _ k (HR0.out.ma.below HS3.out (Nat.le_refl _)) bn (by omega) HPP.out).mono ?_
                rintro e y4 ⟨rfl, hb4⟩
                have HS4 := Lib.hid (HS3.out.trans (hb4.mono HS3.out.size))
                clear hb4
                refine hK.out _ _ (HS4.out) (fun hHeld => ?_)
                clear hK K
                try simp only [Act.put, List.setIfInBounds_toArray, List.set_cons_zero, List.set_cons_succ]
                obtain ⟨pe, hpe⟩ : ∃ x, (ph == pp) = x := ⟨_, rfl⟩
                have HPE := Lib.hid hpe
                refine wpAnyH_take (i := 11) (oi := ⟨some 75, _, _, _, _, _⟩) (v := ?_) rfl (by kernel_rfl) (by kernel_rfl) (by kernel_rfl) (fun _ _ _ h => h) (Or.inl ⟨by rfl, ?_⟩) (by assumption) ?_
                rotate_left
                · intro w hSw
                  (try dsimp only at hSw)
                  go_simp
                  all_goals (with_reducible rfl)
                try simp only [Act.put, List.setIfInBounds_toArray, List.set_cons_zero, List.set_cons_succ]
                refine wpAnyH_take (i := 12) (oi := ⟨some 76, _, _, _, _, _⟩) (v := ?_) rfl (by kernel_rfl) (by kernel_rfl) (by kernel_rfl) (fun _ _ _ h => h) (Or.inl ⟨by rfl, ?_⟩) (by assumption) ?_
                rotate_left
                · intro w hSw
                  (try dsimp only at hSw)
                  go_simp
                  all_goals (with_reducible rfl)
                try simp only [Act.put, List.setIfInBounds_toArray, List.set_cons_zero, List.set_cons_succ]
                refine wpAnyH_take (i := 13) (oi := ⟨some 2, _, _, _, _, _⟩) (v := ?_) rfl (by kernel_rfl) (by kernel_rfl) (by kernel_rfl) (fun _ _ _ h => h) (Or.inl ⟨by rfl, ?_⟩) (by assumption) ?_
                rotate_left
                · intro w hSw
                  (try dsimp only at hSw)
                  go_simp
                  all_goals (with_reducible rfl)
                try simp only [Act.put, List.setIfInBounds_toArray, List.set_cons_zero, List.set_cons_succ]
                refine wpAnyH_done (by kernel_rfl) ?_ _
                obtain rfl : z = pe := by
                  rw [← HPE.out]
                  rw [Bool.eq_iff_iff, HZ.out, HPP.out, HSS.out]
                  simp only [beq_iff_eq]
                  exact ⟨fun h => h.2.2.2, fun h => ⟨⟨HM.out, HCN.out.1⟩, ⟨HCN.out.2.1, HCN.out.2.2.1, HCN.out.2.2.2, HLV.out⟩, of_decide_eq_true HEQ.out, h⟩⟩
                skip
                go_wp2
                go_ret
                exact told_mk rfl (HW0.out.trans (HS4.out.mono HW0.out.size))
          · obtain rfl : z = false := HNo.out (fun h => (HZ.out.1 h).2.1.2.2.1) hqm
            have hqq : ((q : Int) == (m : Int)) = false := by simp; omega
            have hqq3 : decide ((q : Int) = (m : Int)) = false := decide_eq_false (by omega)
            have hqq2 : ¬ (q : Int) = (m : Int) := by omega
            clear hqm hk
            go_wp2
            go_ret
            exact told_mk rfl HW5.out
        · obtain rfl : z = false := HNo.out (fun h => (HZ.out.1 h).2.1.2.1) hwm
          have hww : ((m : Int) == (c1 : Int)) = false := by simp; omega
          have hww3 : decide ((m : Int) = (c1 : Int)) = false := decide_eq_false (by omega)
          have hww2 : ¬ (m : Int) = (c1 : Int) := by omega
          clear hwm hk
          go_wp2
          go_ret
          exact told_mk rfl HW5.out
      · obtain rfl : z = false := HNo.out (fun h => (HZ.out.1 h).2.1.1) hg
        have hgg : decide (need < (c1 : Int)) = true := decide_eq_true (by omega)
        clear hg hk
        go_wp2
        go_ret
        exact told_mk rfl HW5.out
    · obtain rfl : z = false := HNo.out (fun h => (HZ.out.1 h).1.2) hk
      have hkk : ((c0 : Int) + (c1 : Int) + (c2 : Int) == (n : Int)) = false := by simp; omega
      clear hk
      go_wp2
      go_ret
      exact told_mk rfl HW5.out
  · obtain rfl : z = false := HNo.out (fun h => (HZ.out.1 h).1.1) hmay
    have hm := Lib.hid (decide_eq_false hmay)
    clear hmay
    go_wp2_with fail
    refine (may_q _ s v n need hm.out).mono ?_
    rintro e w' ⟨rfl, rfl⟩
    go_wp2
    go_ret
    exact told_mk rfl HW3.out
end
end Go.Proofs.Ytkkpfehgobanbaa
