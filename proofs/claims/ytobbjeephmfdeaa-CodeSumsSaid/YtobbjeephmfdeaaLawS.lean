/- CodeSums. -/
import Derived.Test.YtobbjeephmfdeaaLawJ
namespace Go.Proofs.Ytobbjeephmfdeaa
open Go.RowKit Go.Coop
set_option maxRecDepth 100000

/-- one stripe and another one, times an element -/
def layF (c : Nat) (A B : Fn2) : Fn2 := fun i j => lay1 c (A i j) (B i j)
theorem nf_layF (c : Nat) (A B : Fn2) (i j : Nat) : nf (layF c A B) i j = nf A i j ^^^ mul c (nf B i j) := lay1_toNat _ _ _
theorem lay_row (c s : Nat) (A B : Fn2) (i : Nat) : lay c (rowL s (A i)) (rowL s (B i)) = rowL s (layF c A B i) := lay_rowL _ _ _ _
theorem enc_lay (c k : Nat) (A B : Fn2) (i j : Nat) (_ : c < 256) : encF k (layF c A B) i j = layF c (encF k A) (encF k B) i j := by
  apply fn_eq
  rw [nf_layF, nf_encF, nf_encF, nf_encF]
  unfold mm
  rw [xs_mul _ fun _ _ => mul_lt _ _, ← xs_xor]
  refine xs_congr fun r _ => ?_
  rw [nf_layF, mul_dist _ _ _ (nf_lt _ _ _) (mul_lt _ _)]
  congr 1
  rw [← mul_assoc, mul_comm (nf (codF k) i r) c, mul_assoc]

theorem step_appMM {w : World} {ops : Array Oper} {o : Oper} {a : Act} {Kx : Act → World → Prop} {Q : Exit → Act → World → Prop} {Z : Prop} (hgd : o.guard = none) (s x : Operand) (T : TypeId) (hT : Try.prog.underlying T = some (.slice 31))
    (ho : o.op = .call { callee := .builtin .append, args := #[s, x], argTypes := #[T, T] }) {bo br bo' : Nat}
    {A : Option Addr} {n c : Nat} {M : List (List UInt8)} (hs : a.eval s = .slice A n c) (hM : MO w bo br A n c M) {X : Option Addr} {m d : Nat} {K : List (List UInt8)} (hx : a.eval x = .slice X m d)
    (hX : MO w bo' br X m d K) (hn : n ≤ 1000000) (hm : m ≤ 1000000) (hbase : bo ≤ w.heap.size) (N : Nat) (hN : N = n + m)
    (h : ∀ A' c' w', MO w' bo br A' N c' (M ++ K) → w.grownBy w' (A.map (·.block)) → Kx (a.put o.dst (.slice A' N c')) w') : if Region.wanted o (yielded ops a.tmps) = true then Oper.wp Try.prog o a w Kx Q else Z := by
  have hw : Region.wanted o (yielded ops a.tmps) = true := by simp [Region.wanted, hgd]
  rw [if_pos hw]
  obtain ⟨vs, hv, hr⟩ := hM.out
  obtain ⟨us, hu, hq⟩ := hX.out
  have h1 := mo_vs_one (by rw [hu.len, hX.len]) hq
  refine wp_appV w s x T ho bo 31 (.slice none 0 0) 24 hT info31 rfl hs hv hx hu.rd h1 (by omega) (by omega) hbase N hN fun A' c' w' h1 h2 _ => h A' c' w' ⟨?_, _, h1, fun i q hi => ?_⟩ h2
  · rw [List.length_append, hM.len, hX.len, hN]
  · have hl : vs.length = M.length := by rw [hv.len, hM.len]
    rw [List.getElem?_append] at hi
    rw [List.getElem?_append]
    split at hi
    · rename_i hlt
      obtain ⟨B', d', hv', ho'⟩ := hr i q hi
      rw [if_pos (by omega)]
      exact ⟨B', d', hv', own_grown ho' hv h2⟩
    · rename_i hlt
      rw [if_neg (by omega), hl]
      obtain ⟨B', d', hv', ho'⟩ := hq _ q hi
      exact ⟨B', d', hv', own_grown ho' hv h2⟩

set_option maxHeartbeats 8000000 in
theorem sums_law (kz mz sz : Nat) (B : Option Addr) (m d : Nat) (l : List UInt8) (By : Option Addr) (mb db : Nat) (lb : List UInt8) (z : Nat) (w : World) (hX : Rd w B m l) (hmd : m ≤ d) (hY : Rd w By mb lb) (hmb : mb ≤ db) (h1 : kz < 256) (h2 : mz < 256) (h3 : sz < 256) (h4 : z < 256) :
    Calls Try.prog 8 #[.agg #[.int .u8 (kz : Int), .int .u8 (mz : Int), .int .u8 (sz : Int), .slice B m d], .slice By mb db, .int .u8 (z : Int)] w fun e w' => e = .returned (.bool true) ∧ Below w.heap.size w w' := by
  obtain ⟨k, hk⟩ : ∃ k, k = 1 + kz % 8 := ⟨_, rfl⟩
  obtain ⟨n, hn⟩ : ∃ n, n = 1 + kz % 8 + mz % 9 := ⟨_, rfl⟩
  obtain ⟨s, hs⟩ : ∃ s, s = sz % 21 := ⟨_, rfl⟩
  have hk1 : 1 ≤ k := by omega
  have hk8 : k ≤ 8 := by omega
  have hkn : k ≤ n := by omega
  have hn16 : n ≤ 16 := by omega
  have hs20 : s ≤ 20 := by omega
  have HX0 := Lib.hid hX
  have HY0 := Lib.hid hY
  clear hX hY
  obtain ⟨w0, hw0⟩ : ∃ w0, w.alloc (.cells #[.int .u8 (kz : Int), .int .u8 (mz : Int), .int .u8 (sz : Int), .slice B m d] 66) = w0 := ⟨_, rfl⟩
  have HBX : Hid (w0.heap[w.heap.size]? = some (.cells #[.int .u8 (kz : Int), .int .u8 (mz : Int), .int .u8 (sz : Int), .slice B m d] 66 (0, 0))) := by rw [← hw0]; exact heap_alloc_new _ _
  have HB0 : Hid (Below w.heap.size w w0) := by rw [← hw0]; exact balloc (Below.refl _ _) _
  have hs0 : w0.heap.size = w.heap.size + 1 := by rw [← hw0]; exact size_alloc _ _
  have HKN := Lib.hid (And.intro hk (And.intro hn hs))
  clear hk hn hs
  go_enter Try.func8, Try.ntmps8
  go_wp2_with fail
  (try rw [hw0])
  clear hw0
  refine (new_any w0).mono ?_
  rintro e w1 ⟨g0, rfl, hF, hg, hB⟩
  have HB1 : Hid (Below w.heap.size w w1) := HB0.out.trans (hB.mono HB0.out.size)
  have HF1 := Lib.hid hF
  have hb1 : w1.heap[w.heap.size]? = some (.cells #[.int .u8 (kz : Int), .int .u8 (mz : Int), .int .u8 (sz : Int), .slice B m d] 66 (0, 0)) := (hB.block _ (by omega)).trans HBX.out
  have HBY1 := Lib.hid hb1
  have c0 := cell_of_row _ _ 0 _ 66 (0, 0) hb1
  have c1 := cell_of_row _ _ 1 _ 66 (0, 0) hb1
  have c2 := cell_of_row _ _ 2 _ 66 (0, 0) hb1
  have c3 := cell_of_row _ _ 3 _ 66 (0, 0) hb1
  have c0 : w1.cell? ⟨w.heap.size, 0, none⟩ = some (.int .u8 (kz : Int)) := c0
  have c1 : w1.cell? ⟨w.heap.size, 1, none⟩ = some (.int .u8 (mz : Int)) := c1
  have c2 : w1.cell? ⟨w.heap.size, 2, none⟩ = some (.int .u8 (sz : Int)) := c2
  have c3 : w1.cell? ⟨w.heap.size, 3, none⟩ = some (.slice B m d) := c3
  have hbs : w.heap.size < w1.heap.size := (Array.getElem?_eq_some_iff.1 hb1).1
  clear hF hg hB hb1
  go_wp2_with fail
  refine (lmade_k kz mz sz k n s B m d l w1 (HX0.out.below HB1.out (Nat.le_refl _)) hmd h1 h2 h3 HKN.out.1 HKN.out.2.1 HKN.out.2.2).mono ?_
  rintro e w2 ⟨g, gf, A, c, S, dS, rfl, hC, hM, hkd, hB⟩
  have HB2 : Hid (Below w.heap.size w w2) := HB1.out.trans (hB.mono HB1.out.size)
  have HF2 := Lib.hid (HF1.out.below hB HF1.out.lt)
  have HC2 := Lib.hid hC
  have HD2 := Lib.hid hM.mr
  have hb2 : w2.heap[w.heap.size]? = some (.cells #[.int .u8 (kz : Int), .int .u8 (mz : Int), .int .u8 (sz : Int), .slice B m d] 66 (0, 0)) := (hB.block _ hbs).trans HBY1.out
  have c0 : w2.cell? ⟨w.heap.size, 0, none⟩ = some (.int .u8 (kz : Int)) := cell_of_row _ _ 0 _ 66 (0, 0) hb2
  have c1 : w2.cell? ⟨w.heap.size, 1, none⟩ = some (.int .u8 (mz : Int)) := cell_of_row _ _ 1 _ 66 (0, 0) hb2
  have c2 : w2.cell? ⟨w.heap.size, 2, none⟩ = some (.int .u8 (sz : Int)) := cell_of_row _ _ 2 _ 66 (0, 0) hb2
  clear hC hM hB hb2 hbs HF1 c3
  go_wp2_with fail
  refine (lmade_k kz mz sz k n s By mb db lb w2 (HY0.out.below HB2.out (Nat.le_refl _)) hmb h1 h2 h3 HKN.out.1 HKN.out.2.1 HKN.out.2.2).mono ?_
  rintro e w3 ⟨_, _, _, _, S2, dS2, rfl, _, hM, _, hB⟩
  have HB3 : Hid (Below w.heap.size w w3) := HB2.out.trans (hB.mono HB2.out.size)
  have HF3 := Lib.hid (HF2.out.below hB HF2.out.lt)
  have HC3 := Lib.hid (HC2.out.below hB (Nat.le_refl _))
  have HD3 := Lib.hid (HD2.out.below hB (Nat.le_refl _))
  have HG3 := Lib.hid hM.mr
  clear hM hB c0 c1 c2 HF2 HC2 HD2
  go_wp2
  go_loopw [14, 57] (fun v i wr => ∃ (q : Nat) (R : Option Addr) (e : Nat), q ≤ k ∧ i = .int .i64 q ∧ v = .slice R q e ∧ Hid (MO wr w3.heap.size w3.heap.size R q e (tabM q s (layF z (cutF s l) (cutF s lb)))) ∧ Hid (Below w3.heap.size w3 wr)) (fun _ i _ => k - (intOf i).toNat)
  case atStart => exact ⟨0, none, 0, by omega, rfl, rfl, MO.nil _ _ _, Below.refl _ _⟩
  case round =>
    obtain ⟨q, R, e, hq, rfl, rfl, HM, HB⟩ := hrel
    by_cases hlt : q < k
    · obtain ⟨a1, B1, d1, r1, rfl, _, hr1, hc1, hd1⟩ := (HD3.out.below HB.out (Nat.le_refl _)).row hlt
      obtain ⟨a2, B2, d2, r2, rfl, _, hr2, hc2, hd2⟩ := (HG3.out.below HB.out (Nat.le_refl _)).row hlt
      rw [tabM_at _ _ hlt] at hr1 hr2
      injection hr1 with hr1
      injection hr2 with hr2
      rw [← hr1, rowL_len] at hc1 hd1
      rw [← hr2, rowL_len] at hc2 hd2
      have HD1 := Lib.hid (And.intro hd1 hd2)
      obtain ⟨b1, _, _, _, e1, hb1, _, hcc1, _⟩ := HD3.out.row hlt
      obtain ⟨b2, _, _, _, e2, hb2, _, hcc2, _⟩ := HG3.out.row hlt
      injection e1 with e1
      injection e2 with e2
      subst e1
      subst e2
      have f1 : w3.cell? (a1.add q) = some (.slice B1 s d1) := ((HB.out.cell (p := a1.add q) (by rw [addr_add_block]; exact hb1)).symm).trans hc1
      have f2 : w3.cell? (a2.add q) = some (.slice B2 s d2) := ((HB.out.cell (p := a2.add q) (by rw [addr_add_block]; exact hb2)).symm).trans hc2
      have HLT : Hid ((a1.add q).block < w3.heap.size ∧ (a2.add q).block < w3.heap.size ∧ w3.cell? (a1.add q) = some (.slice B1 s d1) ∧ w3.cell? (a2.add q) = some (.slice B2 s d2)) := ⟨by rw [addr_add_block]; exact hb1, by rw [addr_add_block]; exact hb2, f1, f2⟩
      clear f1 f2 hcc1 hcc2 hb1 hb2
      have hqk : (q : Int) < k := by omega
      have hs1 := HB.out.size
      have HH := Lib.hid (And.intro hc1 hc2)
      clear hr1 hr2 hd1 hd2 hc1 hc2
      go_wp2
      refine wp_region_held_drew (S := fun u : World => u.cell? (a1.add q) = some (.slice B1 s d1) ∧ u.cell? (a2.add q) = some (.slice B2 s d2)) (by kernel_rfl) (by exact HH.out) (fun hHeld => ?_)
      refine wpAnyH_take (i := 0) (oi := ⟨some 60, _, _, _, _, _⟩) (v := ?_) rfl (by kernel_rfl) (by kernel_rfl) (by kernel_rfl) (fun _ _ _ h => h) (Or.inl ⟨by rfl, ?_⟩) (by assumption) ?_
      rotate_left
      · intro w hSw
        (try dsimp only at hSw)
        go_simp
        all_goals (with_reducible rfl)
      try simp only [Act.put, List.setIfInBounds_toArray, List.set_cons_zero, List.set_cons_succ]
      refine wpAnyH_take (i := 1) (oi := ⟨some 61, _, _, _, _, _⟩) (v := ?_) rfl (by kernel_rfl) (by kernel_rfl) (by kernel_rfl) (fun _ _ _ h => h) (Or.inl ⟨by rfl, ?_⟩) (by assumption) ?_
      rotate_left
      · intro w hSw
        (try dsimp only at hSw)
        go_simp
        all_goals (with_reducible rfl)
      try simp only [Act.put, List.setIfInBounds_toArray, List.set_cons_zero, List.set_cons_succ]
      refine wpAnyH_take (i := 2) (oi := ⟨some 62, _, _, _, _, _⟩) (v := ?_) rfl (by kernel_rfl) (by kernel_rfl) (by kernel_rfl) (fun _ _ _ h => h) (Or.inl ⟨by rfl, ?_⟩) (by assumption) ?_
      rotate_left
      · intro w hSw
        (try dsimp only at hSw)
        go_simp
        all_goals (with_reducible rfl)
      try simp only [Act.put, List.setIfInBounds_toArray, List.set_cons_zero, List.set_cons_succ]
      refine wpAnyH_take (i := 3) (oi := ⟨some 63, _, _, _, _, _⟩) (v := ?_) rfl (by kernel_rfl) (by kernel_rfl) (by kernel_rfl) (fun _ _ _ h => h) (Or.inl ⟨by rfl, ?_⟩) (by assumption) ?_
      rotate_left
      · intro w hSw
        (try dsimp only at hSw)
        go_simp
        all_goals (with_reducible rfl)
      try simp only [Act.put, List.setIfInBounds_toArray, List.set_cons_zero, List.set_cons_succ]
      refine wpAnyH_take (i := 4) (oi := ⟨some 64, _, _, _, _, _⟩) (v := ?_) rfl (by kernel_rfl) (by kernel_rfl) (by kernel_rfl) (fun _ _ _ h => h) (Or.inl ⟨by rfl, ?_⟩) (by assumption) ?_
      rotate_left
      · intro w hSw
        (try dsimp only at hSw)
        go_simp
        all_goals (with_reducible rfl)
      try simp only [Act.put, List.setIfInBounds_toArray, List.set_cons_zero, List.set_cons_succ]
      refine wpAnyH_take (i := 5) (oi := ⟨some 65, _, _, _, _, _⟩) (v := ?_) rfl (by kernel_rfl) (by kernel_rfl) (by kernel_rfl) (fun _ _ _ h => h) (Or.inl ⟨by rfl, ?_⟩) (by assumption) ?_
      rotate_left
      · intro w hSw
        (try dsimp only at hSw)
        have hcc := hSw.1
        go_simp
        all_goals (with_reducible rfl)
      try simp only [Act.put, List.setIfInBounds_toArray, List.set_cons_zero, List.set_cons_succ]
      refine wpAnyH_take (i := 6) (oi := ⟨some 66, _, _, _, _, _⟩) (v := ?_) rfl (by kernel_rfl) (by kernel_rfl) (by kernel_rfl) (fun _ _ _ h => h) (Or.inl ⟨by rfl, ?_⟩) (by assumption) ?_
      rotate_left
      · intro w hSw
        (try dsimp only at hSw)
        go_simp
        all_goals (with_reducible rfl)
      try simp only [Act.put, List.setIfInBounds_toArray, List.set_cons_zero, List.set_cons_succ]
      refine wpAnyH_take (i := 7) (oi := ⟨some 67, _, _, _, _, _⟩) (v := ?_) rfl (by kernel_rfl) (by kernel_rfl) (by kernel_rfl) (fun _ _ _ h => h) (Or.inl ⟨by rfl, ?_⟩) (by assumption) ?_
      rotate_left
      · intro w hSw
        (try dsimp only at hSw)
        go_simp
        all_goals (with_reducible rfl)
      try simp only [Act.put, List.setIfInBounds_toArray, List.set_cons_zero, List.set_cons_succ]
      refine wpAnyH_take (i := 8) (oi := ⟨some 68, _, _, _, _, _⟩) (v := ?_) rfl (by kernel_rfl) (by kernel_rfl) (by kernel_rfl) (fun _ _ _ h => h) (Or.inl ⟨by rfl, ?_⟩) (by assumption) ?_
      rotate_left
      · intro w hSw
        (try dsimp only at hSw)
        go_simp
        all_goals (with_reducible rfl)
      try simp only [Act.put, List.setIfInBounds_toArray, List.set_cons_zero, List.set_cons_succ]
      refine wpAnyH_take (i := 9) (oi := ⟨some 69, _, _, _, _, _⟩) (v := ?_) rfl (by kernel_rfl) (by kernel_rfl) (by kernel_rfl) (fun _ _ _ h => h) (Or.inl ⟨by rfl, ?_⟩) (by assumption) ?_
      rotate_left
      · intro w hSw
        (try dsimp only at hSw)
        go_simp
        all_goals (with_reducible rfl)
      try simp only [Act.put, List.setIfInBounds_toArray, List.set_cons_zero, List.set_cons_succ]
      refine wpAnyH_take (i := 10) (oi := ⟨some 70, _, _, _, _, _⟩) (v := ?_) rfl (by kernel_rfl) (by kernel_rfl) (by kernel_rfl) (fun _ _ _ h => h) (Or.inl ⟨by rfl, ?_⟩) (by assumption) ?_
      rotate_left
      · intro w hSw
        (try dsimp only at hSw)
        have hcc := hSw.2
        go_simp
        all_goals (with_reducible rfl)
      try simp only [Act.put, List.setIfInBounds_toArray, List.set_cons_zero, List.set_cons_succ]
      refine wpAnyH_ready (rs := [11]) (by kernel_rfl) (by simp) (AllReadyH.cons (o := ⟨some 71, _, _, _, _, _⟩) rfl (fun K hK => ?_) AllReadyH.nil)
      go_simp
      refine (lay_any g0 B1 s d1 (rowL s (cutF s l q)) z B2 s d2 (rowL s (cutF s lb q)) _ (by exact (HF3.out.below HB.out HF3.out.lt).drew) (by exact HD1.out.1.drew) (by exact HD1.out.2.drew) h4 (by omega)).mono ?_
      rintro e w4 ⟨A4, c4, rfl, hO4, hB4⟩
      refine hK.out _ _ (by exact ⟨(hB4.cell (block_lt_of_cell hHeld.1)).trans hHeld.1, (hB4.cell (block_lt_of_cell hHeld.2)).trans hHeld.2⟩) (fun hHeld => ?_)
      clear hK K
      try simp only [Act.put, List.setIfInBounds_toArray, List.set_cons_zero, List.set_cons_succ]
      have hB4' : Below wr.heap.size wr w4 := (Below.refl _ wr).drew.trans hB4
      have HB4 := Lib.hid hB4'
      have HM4 := Lib.hid (HM.out.below hB4' (Nat.le_refl _))
      have HO4 : Hid (Go.Coop.Own w4 w3.heap.size 5 A4 s c4 (rowL s (layF z (cutF s l) (cutF s lb) q))) := by rw [← lay_row]; exact hO4.lower hs1
      have HL4 := Lib.hid (lit_one HO4.out)
      have hs4 := HB4.out.size
      clear hB4 hB4' hO4
      refine wpAnyH_ready (rs := [12]) (by kernel_rfl) (by simp) (AllReadyH.cons (o := ⟨some 72, _, _, _, _, _⟩) rfl (fun K hK => ?_) AllReadyH.nil)
      go_simp
      refine hK.out _ _ (by exact ⟨(World.cell?_alloc_lt _ _ _ (block_lt_of_cell hHeld.1)).trans hHeld.1, (World.cell?_alloc_lt _ _ _ (block_lt_of_cell hHeld.2)).trans hHeld.2⟩) (fun hHeld => ?_)
      clear hK K
      try simp only [Act.put, List.setIfInBounds_toArray, List.set_cons_zero, List.set_cons_succ]
      refine wpAnyH_ready (rs := [13]) (by kernel_rfl) (by simp) (AllReadyH.cons (o := ⟨some 73, _, _, _, _, _⟩) rfl (fun K hK => ?_) AllReadyH.nil)
      refine step_appMM (bo := w3.heap.size) rfl (.tmp 60) (.tmp 72) 32 Try.underlying32 rfl rfl (HM4.out.alloc _) rfl HL4.out (by omega) (by omega) (by rw [size_alloc]; omega) (q + 1) rfl ?_
      intro R' e' w5 hM5 hg5
      have HB5 : Hid (Below w3.heap.size w3 w5) := ((HB.out.trans (HB4.out.mono hs1)).alloc (by omega) (.cells #[.slice A4 s c4] 31)).grown hg5 (by rw [size_alloc]; omega) (fun j hj => (mo_block HM4.out j hj).1)
      have hd2 := (HG3.out.below HB5.out (Nat.le_refl _)).row hlt
      refine hK.out _ _ (by exact ⟨(HB5.out.cell (p := a1.add q) HLT.out.1).trans HLT.out.2.2.1, (HB5.out.cell (p := a2.add q) HLT.out.2.1).trans HLT.out.2.2.2⟩) (fun hHeld => ?_)
      clear hK K
      try simp only [Act.put, List.setIfInBounds_toArray, List.set_cons_zero, List.set_cons_succ]
      refine wpAnyH_take (i := 14) (oi := ⟨some 14, _, _, _, _, _⟩) (v := ?_) rfl (by kernel_rfl) (by kernel_rfl) (by kernel_rfl) (fun _ _ _ h => h) (Or.inl ⟨by rfl, ?_⟩) (by assumption) ?_
      rotate_left
      · intro w hSw
        (try dsimp only at hSw)
        go_simp
        all_goals (with_reducible rfl)
      try simp only [Act.put, List.setIfInBounds_toArray, List.set_cons_zero, List.set_cons_succ]
      refine wpAnyH_done (by kernel_rfl) ?_ _
      go_wp2
      go_roundw
      case rel => exact ⟨q + 1, R', e', by omega, by go_num, rfl, by rw [tabM_snoc]; exact hM5, HB5.out⟩
      case measure => simp [intOf]; omega
    · obtain rfl : q = k := by omega
      have HF4 := Lib.hid (HF3.out.below HB.out HF3.out.lt)
      have HC4 := Lib.hid (HC3.out.below HB.out (Nat.le_refl _))
      have HD4 := Lib.hid (HD3.out.below HB.out (Nat.le_refl _))
      have HG4 := Lib.hid (HG3.out.below HB.out (Nat.le_refl _))
      have HM4 := Lib.hid HM.out.mr
      have HBw : Hid (Below w.heap.size w wr) := HB3.out.trans (HB.out.mono HB3.out.size)
      clear HF3 HC3 HD3 HG3
      go_wp2_with fail
      refine (enc_yes (g := g) S dS s (cutF s l) wr HC4.out HD4.out (by omega)).mono ?_
      rintro e w5 ⟨A5, c5, rfl, hM, hB⟩
      have hW : Below wr.heap.size wr w5 := hB
      have HF5 := Lib.hid (HF4.out.below hW HF4.out.lt)
      have HC5 := Lib.hid (HC4.out.below hW (Nat.le_refl _))
      have HG5 := Lib.hid (HG4.out.below hW (Nat.le_refl _))
      have HM5 := Lib.hid (HM4.out.below hW (Nat.le_refl _))
      have HB5 : Hid (Below wr.heap.size wr w5) := hW
      have HP5 := Lib.hid ((show MR w5 A5 n (tabM n s (encF q (cutF s l))) from hM.mr))
      clear hW HF4 HC4 HD4 HG4 HM4
      clear hM hB
      go_wp2_with fail
      refine (enc_yes (g := g) S2 dS2 s (cutF s lb) w5 HC5.out HG5.out (by omega)).mono ?_
      rintro e w6 ⟨A6, c6, rfl, hM, hB⟩
      have hW : Below w5.heap.size w5 w6 := hB
      have HF6 := Lib.hid (HF5.out.below hW HF5.out.lt)
      have HC6 := Lib.hid (HC5.out.below hW (Nat.le_refl _))
      have HM6 := Lib.hid (HM5.out.below hW (Nat.le_refl _))
      have HP6 := Lib.hid (HP5.out.below hW (Nat.le_refl _))
      have HB6 : Hid (Below wr.heap.size wr w6) := HB5.out.trans (hW.mono HB5.out.size)
      have HQ6 := Lib.hid ((show MR w6 A6 n (tabM n s (encF q (cutF s lb))) from hM.mr))
      clear hW HF5 HC5 HG5 HM5 HP5 HB5
      clear hM hB
      go_wp2_with fail
      refine (enc_yes (g := g) R e s (layF z (cutF s l) (cutF s lb)) w6 HC6.out HM6.out (by omega)).mono ?_
      rintro e w7 ⟨A7, c7, rfl, hM, hB⟩
      have e7 : tabM n s (mulF q (codF q) (layF z (cutF s l) (cutF s lb))) = tabM n s (layF z (encF q (cutF s l)) (encF q (cutF s lb))) := tabM_congr fun i j _ _ => enc_lay z q _ _ i j h4
      rw [e7] at hM
      clear e7
      have hW : Below w6.heap.size w6 w7 := hB
      have HF7 := Lib.hid (HF6.out.below hW HF6.out.lt)
      have HC7 := Lib.hid (HC6.out.below hW (Nat.le_refl _))
      have HP7 := Lib.hid (HP6.out.below hW (Nat.le_refl _))
      have HQ7 := Lib.hid (HQ6.out.below hW (Nat.le_refl _))
      have HB7 : Hid (Below wr.heap.size wr w7) := HB6.out.trans (hW.mono HB6.out.size)
      have HR7 := Lib.hid (hM.mr)
      clear hW HF6 HC6 HM6 HP6 HQ6 HB6
      clear hM hB
      go_wp2_with (go_at_call 13; refine (all_yes _ HC7.out).mono ?_; rintro e w' ⟨rfl, rfl⟩)
      go_loopw [122] (fun i wq => ∃ j : Nat, j ≤ n ∧ i = .int .i64 j ∧ Hid (Below w7.heap.size w7 wq)) (fun i _ => n - (intOf i).toNat)
      case atStart => exact ⟨0, by omega, rfl, Below.refl _ _⟩
      case round =>
        obtain ⟨j, hj, rfl, HW⟩ := hrel
        by_cases hjn : j < n
        · obtain ⟨a1, B1, d1, r1, rfl, hl1, hr1, hc1, hd1⟩ := (HP7.out.below HW.out (Nat.le_refl _)).row hjn
          obtain ⟨a2, B2, d2, r2, rfl, hl2, hr2, hc2, hd2⟩ := (HQ7.out.below HW.out (Nat.le_refl _)).row hjn
          obtain ⟨a3, B3, d3, r3, rfl, hl3, hr3, hc3, hd3⟩ := (HR7.out.below HW.out (Nat.le_refl _)).row hjn
          rw [tabM_at _ _ hjn] at hr1 hr2 hr3
          injection hr1 with hr1
          injection hr2 with hr2
          injection hr3 with hr3
          rw [← hr1, rowL_len] at hc1 hd1
          rw [← hr2, rowL_len] at hc2 hd2
          rw [← hr3, rowL_len] at hc3 hd3
          have HDD := Lib.hid (And.intro hd1 (And.intro hd2 hd3))
          have HH := Lib.hid (And.intro hc1 (And.intro hc2 hc3))
          have hjn2 : (j : Int) < n := by omega
          have hj0 : (0 : Int) ≤ (j : Int) := by omega
          clear hr1 hr2 hr3 hd1 hd2 hd3 hc1 hc2 hc3 hl1 hl2 hl3
          go_wp2
          refine wp_region_held_drew (S := fun u : World => u.cell? (a1.add j) = some (.slice B1 s d1) ∧ u.cell? (a2.add j) = some (.slice B2 s d2) ∧ u.cell? (a3.add j) = some (.slice B3 s d3)) (by kernel_rfl) (by exact HH.out) (fun hHeld => ?_)
          refine wpAnyH_take (i := 0) (oi := ⟨some 125, _, _, _, _, _⟩) (v := ?_) rfl (by kernel_rfl) (by kernel_rfl) (by kernel_rfl) (fun _ _ _ h => h) (Or.inl ⟨by rfl, ?_⟩) (by assumption) ?_
          rotate_left
          · intro w hSw
            (try dsimp only at hSw)
            go_simp
            all_goals (with_reducible rfl)
          try simp only [Act.put, List.setIfInBounds_toArray, List.set_cons_zero, List.set_cons_succ]
          refine wpAnyH_take (i := 1) (oi := ⟨some 126, _, _, _, _, _⟩) (v := ?_) rfl (by kernel_rfl) (by kernel_rfl) (by kernel_rfl) (fun _ _ _ h => h) (Or.inl ⟨by rfl, ?_⟩) (by assumption) ?_
          rotate_left
          · intro w hSw
            (try dsimp only at hSw)
            go_simp
            all_goals (with_reducible rfl)
          try simp only [Act.put, List.setIfInBounds_toArray, List.set_cons_zero, List.set_cons_succ]
          refine wpAnyH_take (i := 2) (oi := ⟨some 127, _, _, _, _, _⟩) (v := ?_) rfl (by kernel_rfl) (by kernel_rfl) (by kernel_rfl) (fun _ _ _ h => h) (Or.inl ⟨by rfl, ?_⟩) (by assumption) ?_
          rotate_left
          · intro w hSw
            (try dsimp only at hSw)
            go_simp
            all_goals (with_reducible rfl)
          try simp only [Act.put, List.setIfInBounds_toArray, List.set_cons_zero, List.set_cons_succ]
          refine wpAnyH_take (i := 3) (oi := ⟨some 128, _, _, _, _, _⟩) (v := ?_) rfl (by kernel_rfl) (by kernel_rfl) (by kernel_rfl) (fun _ _ _ h => h) (Or.inl ⟨by rfl, ?_⟩) (by assumption) ?_
          rotate_left
          · intro w hSw
            (try dsimp only at hSw)
            have hcc := hSw.2.2
            go_simp
            all_goals (with_reducible rfl)
          try simp only [Act.put, List.setIfInBounds_toArray, List.set_cons_zero, List.set_cons_succ]
          refine wpAnyH_take (i := 4) (oi := ⟨some 129, _, _, _, _, _⟩) (v := ?_) rfl (by kernel_rfl) (by kernel_rfl) (by kernel_rfl) (fun _ _ _ h => h) (Or.inl ⟨by rfl, ?_⟩) (by assumption) ?_
          rotate_left
          · intro w hSw
            (try dsimp only at hSw)
            go_simp
            all_goals (with_reducible rfl)
          try simp only [Act.put, List.setIfInBounds_toArray, List.set_cons_zero, List.set_cons_succ]
          refine wpAnyH_take (i := 5) (oi := ⟨some 130, _, _, _, _, _⟩) (v := ?_) rfl (by kernel_rfl) (by kernel_rfl) (by kernel_rfl) (fun _ _ _ h => h) (Or.inl ⟨by rfl, ?_⟩) (by assumption) ?_
          rotate_left
          · intro w hSw
            (try dsimp only at hSw)
            go_simp
            all_goals (with_reducible rfl)
          try simp only [Act.put, List.setIfInBounds_toArray, List.set_cons_zero, List.set_cons_succ]
          refine wpAnyH_take (i := 6) (oi := ⟨some 131, _, _, _, _, _⟩) (v := ?_) rfl (by kernel_rfl) (by kernel_rfl) (by kernel_rfl) (fun _ _ _ h => h) (Or.inl ⟨by rfl, ?_⟩) (by assumption) ?_
          rotate_left
          · intro w hSw
            (try dsimp only at hSw)
            go_simp
            all_goals (with_reducible rfl)
          try simp only [Act.put, List.setIfInBounds_toArray, List.set_cons_zero, List.set_cons_succ]
          refine wpAnyH_take (i := 7) (oi := ⟨some 132, _, _, _, _, _⟩) (v := ?_) rfl (by kernel_rfl) (by kernel_rfl) (by kernel_rfl) (fun _ _ _ h => h) (Or.inl ⟨by rfl, ?_⟩) (by assumption) ?_
          rotate_left
          · intro w hSw
            (try dsimp only at hSw)
            go_simp
            all_goals (with_reducible rfl)
          try simp only [Act.put, List.setIfInBounds_toArray, List.set_cons_zero, List.set_cons_succ]
          refine wpAnyH_take (i := 8) (oi := ⟨some 133, _, _, _, _, _⟩) (v := ?_) rfl (by kernel_rfl) (by kernel_rfl) (by kernel_rfl) (fun _ _ _ h => h) (Or.inl ⟨by rfl, ?_⟩) (by assumption) ?_
          rotate_left
          · intro w hSw
            (try dsimp only at hSw)
            have hcc := hSw.1
            go_simp
            all_goals (with_reducible rfl)
          try simp only [Act.put, List.setIfInBounds_toArray, List.set_cons_zero, List.set_cons_succ]
          refine wpAnyH_take (i := 9) (oi := ⟨some 134, _, _, _, _, _⟩) (v := ?_) rfl (by kernel_rfl) (by kernel_rfl) (by kernel_rfl) (fun _ _ _ h => h) (Or.inl ⟨by rfl, ?_⟩) (by assumption) ?_
          rotate_left
          · intro w hSw
            (try dsimp only at hSw)
            go_simp
            all_goals (with_reducible rfl)
          try simp only [Act.put, List.setIfInBounds_toArray, List.set_cons_zero, List.set_cons_succ]
          refine wpAnyH_take (i := 10) (oi := ⟨some 135, _, _, _, _, _⟩) (v := ?_) rfl (by kernel_rfl) (by kernel_rfl) (by kernel_rfl) (fun _ _ _ h => h) (Or.inl ⟨by rfl, ?_⟩) (by assumption) ?_
          rotate_left
          · intro w hSw
            (try dsimp only at hSw)
            go_simp
            all_goals (with_reducible rfl)
          try simp only [Act.put, List.setIfInBounds_toArray, List.set_cons_zero, List.set_cons_succ]
          refine wpAnyH_take (i := 11) (oi := ⟨some 136, _, _, _, _, _⟩) (v := ?_) rfl (by kernel_rfl) (by kernel_rfl) (by kernel_rfl) (fun _ _ _ h => h) (Or.inl ⟨by rfl, ?_⟩) (by assumption) ?_
          rotate_left
          · intro w hSw
            (try dsimp only at hSw)
            go_simp
            all_goals (with_reducible rfl)
          try simp only [Act.put, List.setIfInBounds_toArray, List.set_cons_zero, List.set_cons_succ]
          refine wpAnyH_take (i := 12) (oi := ⟨some 137, _, _, _, _, _⟩) (v := ?_) rfl (by kernel_rfl) (by kernel_rfl) (by kernel_rfl) (fun _ _ _ h => h) (Or.inl ⟨by rfl, ?_⟩) (by assumption) ?_
          rotate_left
          · intro w hSw
            (try dsimp only at hSw)
            go_simp
            all_goals (with_reducible rfl)
          try simp only [Act.put, List.setIfInBounds_toArray, List.set_cons_zero, List.set_cons_succ]
          refine wpAnyH_take (i := 13) (oi := ⟨some 138, _, _, _, _, _⟩) (v := ?_) rfl (by kernel_rfl) (by kernel_rfl) (by kernel_rfl) (fun _ _ _ h => h) (Or.inl ⟨by rfl, ?_⟩) (by assumption) ?_
          rotate_left
          · intro w hSw
            (try dsimp only at hSw)
            have hcc := hSw.2.1
            go_simp
            all_goals (with_reducible rfl)
          try simp only [Act.put, List.setIfInBounds_toArray, List.set_cons_zero, List.set_cons_succ]
          refine wpAnyH_ready (rs := [14]) (by kernel_rfl) (by simp) (AllReadyH.cons (o := ⟨some 139, _, _, _, _, _⟩) rfl (fun K hK => ?_) AllReadyH.nil)
          go_simp
          refine (lay_any g0 B1 s d1 (rowL s (encF q (cutF s l) j)) z B2 s d2 (rowL s (encF q (cutF s lb) j)) _ (by exact (HF7.out.below HW.out HF7.out.lt).drew) (by exact HDD.out.1.drew) (by exact HDD.out.2.1.drew) h4 (by omega)).mono ?_
          rintro e w8 ⟨A8, c8, rfl, hO8, hB8⟩
          refine hK.out _ _ (by exact ⟨(hB8.cell (block_lt_of_cell hHeld.1)).trans hHeld.1, (hB8.cell (block_lt_of_cell hHeld.2.1)).trans hHeld.2.1, (hB8.cell (block_lt_of_cell hHeld.2.2)).trans hHeld.2.2⟩) (fun hHeld => ?_)
          clear hK K
          try simp only [Act.put, List.setIfInBounds_toArray, List.set_cons_zero, List.set_cons_succ]
          have hB8' : Below wr.heap.size wr w8 := (Below.refl _ wr).drew.trans hB8
          have HB8 := Lib.hid hB8'
          have HO8 : Hid (Rd w8 A8 s (rowL s (layF z (encF q (cutF s l)) (encF q (cutF s lb)) j))) := by rw [← lay_row]; exact hO8.rd
          have HR8 := Lib.hid (HDD.out.2.2.below hB8' (Nat.le_refl _))
          clear hB8 hB8' hO8
          refine wpAnyH_ready (rs := [15]) (by kernel_rfl) (by simp) (AllReadyH.cons (o := ⟨some 140, _, _, _, _, _⟩) rfl (fun K hK => ?_) AllReadyH.nil)
          go_simp
          refine (same_yes B3 s d3 _ A8 s c8 _ HR8.out HO8.out).mono ?_
          rintro e w9 ⟨rfl, rfl⟩
          refine hK.out _ _ (by exact hHeld) (fun hHeld => ?_)
          clear hK K
          try simp only [Act.put, List.setIfInBounds_toArray, List.set_cons_zero, List.set_cons_succ]
          refine wpAnyH_take (i := 16) (oi := ⟨some 141, _, _, _, _, _⟩) (v := ?_) rfl (by kernel_rfl) (by kernel_rfl) (by kernel_rfl) (fun _ _ _ h => h) (Or.inl ⟨by rfl, ?_⟩) (by assumption) ?_
          rotate_left
          · intro w hSw
            (try dsimp only at hSw)
            go_simp
            all_goals (with_reducible rfl)
          try simp only [Act.put, List.setIfInBounds_toArray, List.set_cons_zero, List.set_cons_succ]
          refine wpAnyH_done (by kernel_rfl) ?_ _
          go_wp2
          go_roundw
          case rel => exact ⟨j + 1, by omega, by go_num, HW.out.trans (HB8.out.mono HW.out.size)⟩
          case measure => simp [intOf]; omega
        · obtain rfl : j = n := by omega
          have HBv : Hid (Below w.heap.size w wr) := (HBw.out.trans (HB7.out.mono HBw.out.size)).trans (HW.out.mono (HBw.out.trans (HB7.out.mono HBw.out.size)).size)
          go_wp2_with fail
          refine (awake_any wr).mono ?_
          rintro e w8 ⟨rfl, hB⟩
          go_wp2
          go_ret
          exact ⟨rfl, HBv.out.trans (hB.mono HBv.out.size)⟩
end Go.Proofs.Ytobbjeephmfdeaa
