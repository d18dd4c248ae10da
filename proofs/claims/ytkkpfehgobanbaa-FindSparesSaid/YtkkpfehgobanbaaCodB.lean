/- What a row makes of shards; what is done for each row. -/
import Derived.Test.YtkkpfehgobanbaaCodA
import Derived.Deep.RegionHeld
namespace Go.Proofs.Ytkkpfehgobanbaa
open Go.RowKit Go.Coop
set_option maxRecDepth 100000

/-- the sum of the first j shards, each times the row's element -/
def rowP (j : Nat) (f : Nat → UInt8) (D : Fn2) : Nat → UInt8 := fun p => UInt8.ofNat (xs j fun i => mul (f i).toNat (D i p).toNat)
theorem rowP_nat (j : Nat) (f : Nat → UInt8) (D : Fn2) (p : Nat) : (rowP j f D p).toNat = xs j fun i => mul (f i).toNat (D i p).toNat := by
  unfold rowP; rw [UInt8.toNat_ofNat']; exact Nat.mod_eq_of_lt (xs_lt fun _ _ => mul_lt _ _)
theorem rowP_zero (f : Nat → UInt8) (D : Fn2) : rowP 0 f D = fun _ => 0 := by funext p; rfl
theorem rowP_skip {j : Nat} {f : Nat → UInt8} (D : Fn2) (h : f j = 0) : rowP (j + 1) f D = rowP j f D := by
  funext p
  apply UInt8.toNat_inj.1
  rw [rowP_nat, rowP_nat]
  show xs j _ ^^^ mul (f j).toNat (D j p).toNat = _
  rw [h, show (0 : UInt8).toNat = 0 from rfl, zero_mul, Nat.xor_zero]
theorem rowP_step (j : Nat) (f : Nat → UInt8) (D : Fn2) (s : Nat) : rowL s (rowP (j + 1) f D) = lay (f j).toNat (rowL s (rowP j f D)) (rowL s (D j)) := by
  rw [lay_rowL]
  refine rowL_congr fun p _ => UInt8.toNat_inj.1 ?_
  rw [lay1_toNat, rowP_nat, rowP_nat]
  rfl
theorem mulF_row (k : Nat) (F D : Fn2) (i : Nat) : mulF k F D i = rowP k (F i) D := rfl
theorem own_zero (w : World) (s : Nat) (h : s ≤ 140737488355328) : Own (w.alloc (.cells (rowC s (fun _ => 0)) 5)) w.heap.size 5 (some ⟨w.heap.size, 0, none⟩) s s (rowL s fun _ => 0) := own_new w _ s (rowL_len _ _) (by simp only [maxLen]; omega)

theorem addr_add_0 (a : Addr) : a.add 0 = a := by unfold Addr.add; cases a; split <;> simp_all
set_option maxHeartbeats 1000000 in
theorem product_any (gf : Nat) (S : Option Addr) (m d s : Nat) (D : Fn2) (R : Option Addr) (k rc : Nat) (f : Nat → UInt8) (w : World) (hf : FldAt w gf) (hS : MR w S m (tabM m s D)) (hR : Rd w R k (rowL k f)) (hkm : k ≤ m) (hm1 : 1 ≤ m) (hm : m ≤ 1000000) (hs : s ≤ 140737488355328) :
    Calls Try.prog 61 #[.agg #[.pointer (some ⟨gf, 0, none⟩), .slice S m d], .slice R k rc] w (Fresh w s (rowL s (rowP k f D))) := by
  obtain ⟨ad, B0, d0, r0, rfl, hadb, hr0, hc0, hd0⟩ := hS.row (show 0 < m by omega)
  rw [tabM_at s D (show 0 < m by omega)] at hr0
  injection hr0 with hr0
  rw [← hr0, rowL_len] at hc0
  have hc0' : (w.alloc (.cells #[.pointer (some ⟨gf, 0, none⟩), .slice (some ad) m d] 111)).cell? ad = some (.slice B0 s d0) := (World.cell?_alloc_lt _ _ _ hadb).trans (by rw [← hc0, addr_add_0])
  have HF := Lib.hid hf
  have HS := Lib.hid hS
  have HR := Lib.hid hR
  have HD := Lib.hid hadb
  have hmk := make31 s (by omega)
  clear hf hS hR hr0 hc0 hd0
  obtain ⟨C, hC⟩ : ∃ C, rowC s (fun _ => (0 : UInt8)) = C := ⟨_, rfl⟩
  have HC := Lib.hid hC
  rw [hC] at hmk
  go_enter Try.func61, Try.ntmps61
  go_wp2_with fail
  obtain ⟨w0, hw0⟩ : ∃ w0, w.alloc (.cells #[.pointer (some ⟨gf, 0, none⟩), .slice (some ad) m d] 111) = w0 := ⟨_, rfl⟩
  obtain ⟨w1, hw1⟩ : ∃ w1, w0.alloc (.cells C 5) = w1 := ⟨_, rfl⟩
  have e0 : w0.heap.size = w.heap.size + 1 := by rw [← hw0]; simp
  have hB1 : Below w.heap.size w w1 := by rw [← hw1, ← hw0]; exact ((Below.refl _ _).alloc (Nat.le_refl _) _).alloc (by simp) _
  have HO1 : Hid (Own w1 w.heap.size 5 (some ⟨w.heap.size + 1, 0, none⟩) s s (rowL s (rowP 0 f D))) := by
    have := own_zero w0 s hs
    rw [HC.out, hw1] at this
    show Own _ _ _ _ _ _ _
    rw [rowP_zero, ← e0]
    exact this.lower (by omega)
  have hx0 : w1.cell? ⟨w.heap.size, 0, none⟩ = some (.pointer (some ⟨gf, 0, none⟩)) := by
    rw [← hw1, World.cell?_alloc_lt _ _ _ (by show w.heap.size < w0.heap.size; omega), ← hw0]
    exact cell_of_row _ w.heap.size 0 _ 111 (0, 0) (heap_alloc_new w _)
  have hx1 : w1.cell? ⟨w.heap.size, 1, none⟩ = some (.slice (some ad) m d) := by
    rw [← hw1, World.cell?_alloc_lt _ _ _ (by show w.heap.size < w0.heap.size; omega), ← hw0]
    exact cell_of_row _ w.heap.size 1 _ 111 (0, 0) (heap_alloc_new w _)
  have hsz1 : w.heap.size < w1.heap.size := by rw [← hw1, size_alloc]; omega
  have HX := Lib.hid (And.intro hx0 (And.intro hx1 hsz1))
  have HB1 := Lib.hid hB1
  try rw [hw0]
  try rw [hw1]
  clear hc0' hmk hx0 hx1 hB1 hsz1 hw1 hw0 HC hC
  go_loopw [5, 16] (fun v i wr => ∃ (q : Nat) (A : Option Addr) (c : Nat), q ≤ k ∧ i = .int .i64 q ∧ v = .slice A s c ∧ Hid (Own wr w.heap.size 5 A s c (rowL s (rowP q f D))) ∧ Hid (Below w1.heap.size w1 wr ∨ Below (w.heap.size + 1) w1 wr)) (fun _ i _ => k - (intOf i).toNat)
  case atStart => exact ⟨0, _, _, by omega, rfl, rfl, HO1.out, .inl (Below.refl _ _)⟩
  case round =>
    obtain ⟨q, A, c, hq, rfl, rfl, HO, HB⟩ := hrel
    have HBb : Hid (Below (w.heap.size + 1) w1 wr) := by
      rcases HB.out with h | h
      · exact h.mono (by have := HX.out.2.2; omega)
      · exact h
    have HBw : Hid (Below w.heap.size w wr) := HB1.out.trans (HBb.out.mono (by omega))
    by_cases hlt : q < k
    · obtain ⟨adr, x, rfl, hadr, hx, hcx⟩ := (HR.out.below HBw.out (Nat.le_refl _)).at_ hlt
      rw [rowL_at f hlt] at hx
      injection hx with hx
      subst hx
      unfold BV at hcx
      by_cases hz : f q = 0
      · rw [hz] at hcx
        have hcx : wr.cell? (adr.add q) = some (.int .u8 0) := hcx
        go_wp2
        go_roundw
        case rel => exact ⟨q + 1, A, c, by omega, by go_num, rfl, by show Own _ _ _ _ _ _ _; rw [rowP_skip D hz]; exact HO.out, HB⟩
        case measure => simp [intOf]; omega
      · obtain ⟨t, ht⟩ : ∃ t, (f q).toNat = t := ⟨_, rfl⟩
        have htb := (f q).toNat_lt
        have ht0 : t ≠ 0 := fun e => hz (UInt8.toNat_inj.1 (by rw [ht, e]; rfl))
        rw [ht] at hcx htb
        have htn : ((t : Int) == 0) = false := beq_eq_false_iff_ne.2 (by omega)
        have HT := Lib.hid ht
        obtain ⟨ad', B, d', r, ea, _, hr, hcs, hds⟩ := (HS.out.below HBw.out (Nat.le_refl _)).row (show q < m by omega)
        injection ea with ea
        subst ea
        rw [tabM_at s D (show q < m by omega)] at hr
        injection hr with hr
        rw [← hr, rowL_len] at hcs hds
        have HDS := Lib.hid hds
        have HFF := Lib.hid (HF.out.below HBw.out HF.out.lt)
        have hq1 : (q : Int) < m := by omega
        have h1 : wr.cell? ⟨w.heap.size, 0, none⟩ = some (.pointer (some ⟨gf, 0, none⟩)) := (HBb.out.cell (p := ⟨w.heap.size, 0, none⟩) (by show w.heap.size < w.heap.size + 1; omega)).trans HX.out.1
        have h2 : wr.cell? ⟨w.heap.size, 1, none⟩ = some (.slice (some ad) m d) := (HBb.out.cell (p := ⟨w.heap.size, 1, none⟩) (by show w.heap.size < w.heap.size + 1; omega)).trans HX.out.2.1
        have HH := Lib.hid (And.intro h1 (And.intro h2 hcs))
        clear hr hds hcs h1 h2 hz ht
        go_wp2_with fail
        refine wp_region_held_drew (S := fun u : World => u.cell? ⟨w.heap.size, 0, none⟩ = some (.pointer (some ⟨gf, 0, none⟩)) ∧ u.cell? ⟨w.heap.size, 1, none⟩ = some (.slice (some ad) m d) ∧ u.cell? (ad.add q) = some (.slice B s d')) (by kernel_rfl) (by exact HH.out) (fun hHeld => ?_)
        refine wpAnyH_take (i := 0) (oi := ⟨some 23, _, _, _, _, _⟩) (v := ?_) rfl (by kernel_rfl) (by kernel_rfl) (by kernel_rfl) (fun _ _ _ h => h) (Or.inl ⟨by rfl, ?_⟩) (by assumption) ?_
        rotate_left
        · intro w hSw
          (try dsimp only at hSw)
          go_simp
          all_goals (with_reducible rfl)
        try simp only [Act.put, List.setIfInBounds_toArray, List.set_cons_zero, List.set_cons_succ]
        refine wpAnyH_take (i := 1) (oi := ⟨some 24, _, _, _, _, _⟩) (v := ?_) rfl (by kernel_rfl) (by kernel_rfl) (by kernel_rfl) (fun _ _ _ h => h) (Or.inl ⟨by rfl, ?_⟩) (by assumption) ?_
        rotate_left
        · intro w hSw
          (try dsimp only at hSw)
          have hcc := hSw.1
          go_simp
          all_goals (with_reducible rfl)
        try simp only [Act.put, List.setIfInBounds_toArray, List.set_cons_zero, List.set_cons_succ]
        refine wpAnyH_take (i := 2) (oi := ⟨some 25, _, _, _, _, _⟩) (v := ?_) rfl (by kernel_rfl) (by kernel_rfl) (by kernel_rfl) (fun _ _ _ h => h) (Or.inl ⟨by rfl, ?_⟩) (by assumption) ?_
        rotate_left
        · intro w hSw
          (try dsimp only at hSw)
          go_simp
          all_goals (with_reducible rfl)
        try simp only [Act.put, List.setIfInBounds_toArray, List.set_cons_zero, List.set_cons_succ]
        refine wpAnyH_take (i := 3) (oi := ⟨some 26, _, _, _, _, _⟩) (v := ?_) rfl (by kernel_rfl) (by kernel_rfl) (by kernel_rfl) (fun _ _ _ h => h) (Or.inl ⟨by rfl, ?_⟩) (by assumption) ?_
        rotate_left
        · intro w hSw
          (try dsimp only at hSw)
          go_simp
          all_goals (with_reducible rfl)
        try simp only [Act.put, List.setIfInBounds_toArray, List.set_cons_zero, List.set_cons_succ]
        refine wpAnyH_take (i := 4) (oi := ⟨some 27, _, _, _, _, _⟩) (v := ?_) rfl (by kernel_rfl) (by kernel_rfl) (by kernel_rfl) (fun _ _ _ h => h) (Or.inl ⟨by rfl, ?_⟩) (by assumption) ?_
        rotate_left
        · intro w hSw
          (try dsimp only at hSw)
          go_simp
          all_goals (with_reducible rfl)
        try simp only [Act.put, List.setIfInBounds_toArray, List.set_cons_zero, List.set_cons_succ]
        refine wpAnyH_take (i := 5) (oi := ⟨some 28, _, _, _, _, _⟩) (v := ?_) rfl (by kernel_rfl) (by kernel_rfl) (by kernel_rfl) (fun _ _ _ h => h) (Or.inl ⟨by rfl, ?_⟩) (by assumption) ?_
        rotate_left
        · intro w hSw
          (try dsimp only at hSw)
          have hcc := hSw.2.1
          go_simp
          all_goals (with_reducible rfl)
        try simp only [Act.put, List.setIfInBounds_toArray, List.set_cons_zero, List.set_cons_succ]
        refine wpAnyH_take (i := 6) (oi := ⟨some 29, _, _, _, _, _⟩) (v := ?_) rfl (by kernel_rfl) (by kernel_rfl) (by kernel_rfl) (fun _ _ _ h => h) (Or.inl ⟨by rfl, ?_⟩) (by assumption) ?_
        rotate_left
        · intro w hSw
          (try dsimp only at hSw)
          go_simp
          all_goals (with_reducible rfl)
        try simp only [Act.put, List.setIfInBounds_toArray, List.set_cons_zero, List.set_cons_succ]
        refine wpAnyH_take (i := 7) (oi := ⟨some 30, _, _, _, _, _⟩) (v := ?_) rfl (by kernel_rfl) (by kernel_rfl) (by kernel_rfl) (fun _ _ _ h => h) (Or.inl ⟨by rfl, ?_⟩) (by assumption) ?_
        rotate_left
        · intro w hSw
          (try dsimp only at hSw)
          go_simp
          all_goals (with_reducible rfl)
        try simp only [Act.put, List.setIfInBounds_toArray, List.set_cons_zero, List.set_cons_succ]
        refine wpAnyH_take (i := 8) (oi := ⟨some 31, _, _, _, _, _⟩) (v := ?_) rfl (by kernel_rfl) (by kernel_rfl) (by kernel_rfl) (fun _ _ _ h => h) (Or.inl ⟨by rfl, ?_⟩) (by assumption) ?_
        rotate_left
        · intro w hSw
          (try dsimp only at hSw)
          have hcc := hSw.2.2
          go_simp
          all_goals (with_reducible rfl)
        try simp only [Act.put, List.setIfInBounds_toArray, List.set_cons_zero, List.set_cons_succ]
        refine wpAnyH_ready (rs := [9]) (by kernel_rfl) (by simp) (AllReadyH.cons (o := ⟨some 32, _, _, _, _, _⟩) rfl (fun K hK => ?_) AllReadyH.nil)
        go_simp
        refine (lay_any gf A s c (rowL s (rowP q f D)) t B s d' (rowL s (D q)) _ (by exact HFF.out.drew) (by exact HO.out.rd.drew) (by exact HDS.out.drew) htb hs).mono ?_
        rintro e w2 ⟨A2, c2, rfl, hO2, hB2⟩
        refine hK.out _ _ (by exact ⟨(hB2.cell (p := ⟨w.heap.size, 0, none⟩) (block_lt_of_cell hHeld.1)).trans hHeld.1, (hB2.cell (p := ⟨w.heap.size, 1, none⟩) (block_lt_of_cell hHeld.2.1)).trans hHeld.2.1, (hB2.cell (block_lt_of_cell hHeld.2.2)).trans hHeld.2.2⟩) (fun hHeld => ?_)
        clear hK K
        try simp only [Act.put, List.setIfInBounds_toArray, List.set_cons_zero, List.set_cons_succ]
        refine wpAnyH_take (i := 10) (oi := ⟨some 5, _, _, _, _, _⟩) (v := ?_) rfl (by kernel_rfl) (by kernel_rfl) (by kernel_rfl) (fun _ _ _ h => h) (Or.inl ⟨by rfl, ?_⟩) (by assumption) ?_
        rotate_left
        · intro w hSw
          (try dsimp only at hSw)
          go_simp
          all_goals (with_reducible rfl)
        try simp only [Act.put, List.setIfInBounds_toArray, List.set_cons_zero, List.set_cons_succ]
        refine wpAnyH_done (by kernel_rfl) ?_ _
        go_wp2
        go_roundw
        case rel =>
          refine ⟨q + 1, A2, c2, by omega, by go_num, rfl, ?_, ?_⟩
          · show Own _ _ _ _ _ _ _
            rw [rowP_step, HT.out]
            exact hO2.lower (Nat.le_trans HBw.out.size (Nat.le_refl _))
          · exact .inr (HBb.out.trans (Below.mono (show Below wr.heap.size wr w2 from (Below.refl _ wr).drew.trans hB2) (by have := HBb.out.size; have := HX.out.2.2; omega)))
        case measure => simp [intOf]; omega
    · obtain rfl : q = k := by omega
      go_wp2
      go_ret
      exact ⟨A, c, rfl, HO.out, HBw.out⟩
end Go.Proofs.Ytkkpfehgobanbaa
