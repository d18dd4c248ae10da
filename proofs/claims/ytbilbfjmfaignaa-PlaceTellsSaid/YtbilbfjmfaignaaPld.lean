/- placed: the laws' placements. -/
import Derived.Test.YtbilbfjmfaignaaAwk
import Derived.Test.YtbilbfjmfaignaaPldP
import Derived.Deep.RegionHeld3
namespace Go.Proofs.Ytbilbfjmfaignaa
open Go.RowKit Go.Coop
set_option maxRecDepth 100000
/-- the laws' list of moves -/
structure MsAt (w : World) (M : Option Addr) (m : Nat) (ms : List (Nat × Nat)) : Prop where
  len : ms.length = m
  at_ : ∀ (i : Nat) (p : Nat × Nat), ms[i]? = some p → (p.1 < 256 ∧ p.2 < 256) ∧ ∃ ad, M = some ad ∧ ad.block < w.heap.size ∧ w.cell? (ad.add (i * 2)) = some (.int .u8 p.1) ∧ w.cell? ⟨(ad.add (i * 2)).block, (ad.add (i * 2)).off + 1, none⟩ = some (.int .u8 p.2)
theorem MsAt.below {w w' : World} {M : Option Addr} {m : Nat} {ms : List (Nat × Nat)} {B : Nat} (h : MsAt w M m ms) (hb : Below B w w') (hB : w.heap.size ≤ B) : MsAt w' M m ms :=
  ⟨h.len, fun i p hi => by
    obtain ⟨h1, ad, h2, h3, h4, h5⟩ := h.at_ i p hi
    exact ⟨h1, ad, h2, Nat.lt_of_lt_of_le h3 hb.size, (hb.cell (by rw [addr_add_block]; omega)).trans h4, (hb.cell (by simp only [addr_add_block]; omega)).trans h5⟩⟩
theorem MsAt.nil (w : World) : MsAt w none 0 [] := ⟨rfl, by simp⟩
/-- what placed tells -/
def Placed (w : World) (L : List Pl) (e : Ending) (w' : World) : Prop := ∃ A n ps, e = .returned (.tuple #[.slice A n n, .bool true]) ∧ PO w' w.heap.size A n n ps ∧ ps.map Pc.pl = L ∧ Below w.heap.size w w'
section
variable (w : World)
set_option maxHeartbeats 2000000 in
theorem placed_is {M : Option Addr} {m cm : Nat} {ms : List (Nat × Nat)} (hM : MsAt w M m ms) (hm : m ≤ 9223372036854775807) (x0 x1 x2 : Nat) (h0 : x0 < 256) (h1 : x1 < 256) (h2 : x2 < 256) :
    Calls Try.prog 31 #[.agg #[.int .u8 x0, .int .u8 x1, .int .u8 x2], .slice M m cm] w (Placed w (placedP x0 x1 x2 ms)) := by
  obtain ⟨w1, hw1⟩ : ∃ v, w.alloc (.cells #[.int .u8 x0, .int .u8 x1, .int .u8 x2] 49) = v := ⟨_, rfl⟩
  obtain ⟨hb1, hx1⟩ := box_new hw1
  obtain ⟨b, hb⟩ : ∃ b, w.heap.size = b := ⟨_, rfl⟩
  rw [hb] at hx1
  have c0 := cell_of_row _ b 0 _ 49 (0, 0) hx1
  have c1 := cell_of_row _ b 1 _ 49 (0, 0) hx1
  have c2 := cell_of_row _ b 2 _ 49 (0, 0) hx1
  simp at c0 c1 c2
  obtain ⟨a, ha⟩ : ∃ a, x0 % 20 = a := ⟨_, rfl⟩
  obtain ⟨nodes, hnodes⟩ : ∃ v, 1 + a = v := ⟨_, rfl⟩
  obtain ⟨k0, hk0⟩ : ∃ v, x1 % nodes = v := ⟨_, rfl⟩
  obtain ⟨k, hk⟩ : ∃ v, 1 + k0 = v := ⟨_, rfl⟩
  obtain ⟨g0, hg0⟩ : ∃ v, x2 % 40 = v := ⟨_, rfl⟩
  obtain ⟨gr, hgr⟩ : ∃ v, 1 + g0 = v := ⟨_, rfl⟩
  have hal : a < 20 := by have := Nat.mod_lt x0 (show 0 < 20 by omega); omega
  have hkl : k0 < nodes := by rw [← hk0]; exact Nat.mod_lt _ (by omega)
  have hgl : g0 < 40 := by have := Nat.mod_lt x2 (show 0 < 40 by omega); omega
  have f0 : (x0 : Int) % 20 = (a : Int) := by omega
  have f1 : (x1 : Int) % (nodes : Int) = (k0 : Int) := by omega
  have f2 : (x2 : Int) % 40 = (g0 : Int) := by omega
  have s0 : IntKind.i64.wrap (1 + (a : Int)) = (nodes : Int) := (IntWalk.i64_in _ (by omega)).trans (by omega)
  have s1 : IntKind.i64.wrap (1 + (k0 : Int)) = (k : Int) := (IntWalk.i64_in _ (by omega)).trans (by omega)
  have s2 : IntKind.i64.wrap (1 + (g0 : Int)) = (gr : Int) := (IntWalk.i64_in _ (by omega)).trans (by omega)
  have hnz : ((nodes : Int) == 0) = false := by simp; omega
  have hnz' : (nodes = 0) = False := by simp; omega
  have t1 : (x1 : Int).tmod (nodes : Int) = (k0 : Int) := by rw [Int.tmod_eq_emod_of_nonneg (by omega)]; exact f1
  have t2 : (x2 : Int).tmod 40 = (g0 : Int) := by rw [Int.tmod_eq_emod_of_nonneg (by omega)]; exact f2
  have q1 : IntKind.i64.wrap (x1 : Int) = (x1 : Int) := IntWalk.i64_in _ (by omega)
  have q2 : IntKind.i64.wrap (g0 : Int) = (g0 : Int) := IntWalk.i64_in _ (by omega)
  have hmm := hM.below hb1 (Nat.le_refl _)
  have hP : placedP x0 x1 x2 ms = (ms.take 8).foldl stepP (firstL nodes k gr) := by
    unfold placedP
    rw [ha, hnodes, hk0, hk, hg0, hgr]
  have HN := Lib.hid (show (1 ≤ nodes ∧ nodes ≤ 20) ∧ (1 ≤ k ∧ k ≤ nodes) ∧ (1 ≤ gr ∧ gr ≤ 40) by omega)
  have HE := Lib.hid (And.intro hb1 (And.intro hmm hb))
  have HP := Lib.hid hP
  clear hM hb1 hx1 hal hkl hgl hmm hP hk hg0 hgr hnodes ha hk0 h0 h1 h2
  go_enter Try.func31, Try.ntmps31
  go_wp2
  (try rw [hb]); (try rw [hw1])
  clear hb hw1 c0 f0 s0
  refine wp_region_held_drew (S := fun u => Below w1.heap.size w1 u) (by kernel_rfl) ((Below.refl _ _).drew) (fun hHeld => ?_)
  refine wpAnyH_take (i := 0) (oi := ⟨some 19, _, _, _, _, _⟩) (v := ?_) rfl (by kernel_rfl) (by kernel_rfl) (by kernel_rfl) (fun _ _ _ h => h) (Or.inl ⟨by rfl, ?_⟩) (by assumption) ?_
  rotate_left
  · intro w hSw
    (try dsimp only at hSw)
    go_simp
    all_goals (with_reducible rfl)
  try simp only [Act.put, List.setIfInBounds_toArray, List.set_cons_zero, List.set_cons_succ]
  refine wpAnyH_take (i := 1) (oi := ⟨some 20, _, _, _, _, _⟩) (v := ?_) rfl (by kernel_rfl) (by kernel_rfl) (by kernel_rfl) (fun _ _ _ h => h) (Or.inl ⟨by rfl, ?_⟩) (by assumption) ?_
  rotate_left
  · intro w hSw
    (try dsimp only at hSw)
    go_simp
    all_goals (with_reducible rfl)
  try simp only [Act.put, List.setIfInBounds_toArray, List.set_cons_zero, List.set_cons_succ]
  refine wpAnyH_take (i := 2) (oi := ⟨some 21, _, _, _, _, _⟩) (v := ?_) rfl (by kernel_rfl) (by kernel_rfl) (by kernel_rfl) (fun _ _ _ h => h) (Or.inl ⟨by rfl, ?_⟩) (by assumption) ?_
  rotate_left
  · intro w hSw
    have hl := (hSw.cell (block_lt_of_cell c1)).trans c1
    go_simp
    all_goals (with_reducible rfl)
  try simp only [Act.put, List.setIfInBounds_toArray, List.set_cons_zero, List.set_cons_succ]
  refine wpAnyH_take (i := 3) (oi := ⟨some 22, _, _, _, _, _⟩) (v := ?_) rfl (by kernel_rfl) (by kernel_rfl) (by kernel_rfl) (fun _ _ _ h => h) (Or.inl ⟨by rfl, ?_⟩) (by assumption) ?_
  rotate_left
  · intro w hSw
    (try dsimp only at hSw)
    go_simp
    all_goals (with_reducible rfl)
  try simp only [Act.put, List.setIfInBounds_toArray, List.set_cons_zero, List.set_cons_succ]
  refine wpAnyH_take (i := 4) (oi := ⟨some 23, _, _, _, _, _⟩) (v := ?_) rfl (by kernel_rfl) (by kernel_rfl) (by kernel_rfl) (fun _ _ _ h => h) (Or.inl ⟨by rfl, ?_⟩) (by assumption) ?_
  rotate_left
  · intro w hSw
    (try dsimp only at hSw)
    go_simp
    all_goals (with_reducible rfl)
  try simp only [Act.put, List.setIfInBounds_toArray, List.set_cons_zero, List.set_cons_succ]
  refine wpAnyH_take (i := 5) (oi := ⟨some 24, _, _, _, _, _⟩) (v := ?_) rfl (by kernel_rfl) (by kernel_rfl) (by kernel_rfl) (fun _ _ _ h => h) (Or.inl ⟨by rfl, ?_⟩) (by assumption) ?_
  rotate_left
  · intro w hSw
    (try dsimp only at hSw)
    go_simp
    all_goals (with_reducible rfl)
  try simp only [Act.put, List.setIfInBounds_toArray, List.set_cons_zero, List.set_cons_succ]
  refine wpAnyH_take (i := 6) (oi := ⟨some 25, _, _, _, _, _⟩) (v := ?_) rfl (by kernel_rfl) (by kernel_rfl) (by kernel_rfl) (fun _ _ _ h => h) (Or.inl ⟨by rfl, ?_⟩) (by assumption) ?_
  rotate_left
  · intro w hSw
    (try dsimp only at hSw)
    go_simp
    all_goals (with_reducible rfl)
  try simp only [Act.put, List.setIfInBounds_toArray, List.set_cons_zero, List.set_cons_succ]
  refine wpAnyH_take (i := 7) (oi := ⟨some 26, _, _, _, _, _⟩) (v := ?_) rfl (by kernel_rfl) (by kernel_rfl) (by kernel_rfl) (fun _ _ _ h => h) (Or.inl ⟨by rfl, ?_⟩) (by assumption) ?_
  rotate_left
  · intro w hSw
    (try dsimp only at hSw)
    go_simp
    all_goals (with_reducible rfl)
  try simp only [Act.put, List.setIfInBounds_toArray, List.set_cons_zero, List.set_cons_succ]
  refine wpAnyH_take (i := 8) (oi := ⟨some 27, _, _, _, _, _⟩) (v := ?_) rfl (by kernel_rfl) (by kernel_rfl) (by kernel_rfl) (fun _ _ _ h => h) (Or.inl ⟨by rfl, ?_⟩) (by assumption) ?_
  rotate_left
  · intro w hSw
    have hl := (hSw.cell (block_lt_of_cell c2)).trans c2
    go_simp
    all_goals (with_reducible rfl)
  try simp only [Act.put, List.setIfInBounds_toArray, List.set_cons_zero, List.set_cons_succ]
  refine wpAnyH_take (i := 9) (oi := ⟨some 28, _, _, _, _, _⟩) (v := ?_) rfl (by kernel_rfl) (by kernel_rfl) (by kernel_rfl) (fun _ _ _ h => h) (Or.inl ⟨by rfl, ?_⟩) (by assumption) ?_
  rotate_left
  · intro w hSw
    (try dsimp only at hSw)
    go_simp
    all_goals (with_reducible rfl)
  try simp only [Act.put, List.setIfInBounds_toArray, List.set_cons_zero, List.set_cons_succ]
  refine wpAnyH_take (i := 10) (oi := ⟨some 29, _, _, _, _, _⟩) (v := ?_) rfl (by kernel_rfl) (by kernel_rfl) (by kernel_rfl) (fun _ _ _ h => h) (Or.inl ⟨by rfl, ?_⟩) (by assumption) ?_
  rotate_left
  · intro w hSw
    (try dsimp only at hSw)
    go_simp
    all_goals (with_reducible rfl)
  try simp only [Act.put, List.setIfInBounds_toArray, List.set_cons_zero, List.set_cons_succ]
  refine wpAnyH_take (i := 11) (oi := ⟨some 30, _, _, _, _, _⟩) (v := ?_) rfl (by kernel_rfl) (by kernel_rfl) (by kernel_rfl) (fun _ _ _ h => h) (Or.inl ⟨by rfl, ?_⟩) (by assumption) ?_
  rotate_left
  · intro w hSw
    (try dsimp only at hSw)
    go_simp
    all_goals (with_reducible rfl)
  try simp only [Act.put, List.setIfInBounds_toArray, List.set_cons_zero, List.set_cons_succ]
  refine wpAnyH_ready (rs := [12]) (by kernel_rfl) (by simp) (AllReadyH.cons (o := ⟨some 31, _, _, _, _, _⟩) rfl (fun K hK => ?_) AllReadyH.nil)
  go_simp
  refine (first_yes _ nodes k gr (by have := HN.out; omega) (by have := HN.out; omega) (by have := HN.out; omega)).mono ?_
  rintro e w2 ⟨A, n, ps, rfl, hpo, hpl, _, hb2⟩
  refine hK.out _ _ (hHeld.trans (hb2.mono hHeld.size)) (fun hHeld => ?_)
  clear hK K
  try simp only [Act.put, List.setIfInBounds_toArray, List.set_cons_zero, List.set_cons_succ]
  refine wpAnyH_take (i := 13) (oi := ⟨some 18, _, _, _, _, _⟩) (v := ?_) rfl (by kernel_rfl) (by kernel_rfl) (by kernel_rfl) (fun _ _ _ h => h) (Or.inl ⟨by rfl, ?_⟩) (by assumption) ?_
  rotate_left
  · intro w hSw
    (try dsimp only at hSw)
    go_simp
    all_goals (with_reducible rfl)
  try simp only [Act.put, List.setIfInBounds_toArray, List.set_cons_zero, List.set_cons_succ]
  refine wpAnyH_take (i := 14) (oi := ⟨some 32, _, _, _, _, _⟩) (v := ?_) rfl (by kernel_rfl) (by kernel_rfl) (by kernel_rfl) (fun _ _ _ h => h) (Or.inl ⟨by rfl, ?_⟩) (by assumption) ?_
  rotate_left
  · intro w hSw
    (try dsimp only at hSw)
    go_simp
    all_goals (with_reducible rfl)
  try simp only [Act.put, List.setIfInBounds_toArray, List.set_cons_zero, List.set_cons_succ]
  refine wpAnyH_take (i := 15) (oi := ⟨some 33, _, _, _, _, _⟩) (v := ?_) rfl (by kernel_rfl) (by kernel_rfl) (by kernel_rfl) (fun _ _ _ h => h) (Or.inl ⟨by rfl, ?_⟩) (by assumption) ?_
  rotate_left
  · intro w hSw
    (try dsimp only at hSw)
    go_simp
    all_goals (with_reducible rfl)
  try simp only [Act.put, List.setIfInBounds_toArray, List.set_cons_zero, List.set_cons_succ]
  refine wpAnyH_take (i := 16) (oi := ⟨some 7, _, _, _, _, _⟩) (v := ?_) rfl (by kernel_rfl) (by kernel_rfl) (by kernel_rfl) (fun _ _ _ h => h) (Or.inl ⟨by rfl, ?_⟩) (by assumption) ?_
  rotate_left
  · intro w hSw
    (try dsimp only at hSw)
    go_simp
    all_goals (with_reducible rfl)
  try simp only [Act.put, List.setIfInBounds_toArray, List.set_cons_zero, List.set_cons_succ]
  refine wpAnyH_take (i := 17) (oi := ⟨some 8, _, _, _, _, _⟩) (v := ?_) rfl (by kernel_rfl) (by kernel_rfl) (by kernel_rfl) (fun _ _ _ h => h) (Or.inl ⟨by rfl, ?_⟩) (by assumption) ?_
  rotate_left
  · intro w hSw
    (try dsimp only at hSw)
    go_simp
    all_goals (with_reducible rfl)
  try simp only [Act.put, List.setIfInBounds_toArray, List.set_cons_zero, List.set_cons_succ]
  refine wpAnyH_done (by kernel_rfl) ?_ _
  have hn : n = gr := by
    have h1 := hpo.len
    have h2 := congrArg List.length hpl
    rw [List.length_map] at h2
    rw [← h1, h2]
    simp [firstL]
  subst hn
  have HO := Lib.hid (And.intro (hpo.lower (show w.heap.size ≤ _ from HE.out.1.size)) (And.intro hpl (And.intro (HE.out.2.1.below hHeld (Nat.le_refl _)) (And.intro (HE.out.1.trans (hHeld.mono HE.out.1.size)) hHeld))))
  clear hpo hpl hb2 hHeld c1 c2 f1 f2 s1 s2 hnz hnz' t1 t2 q1 q2
  go_wp2
  go_loopw [7, 9, 10, 11, 12] (fun s7 s9 _ _ _ wr => ∃ (i : Nat) (A : Option Addr) (ps : List Pc), i ≤ m ∧ i ≤ 8 ∧ s9 = .int .i64 i ∧ s7 = .slice A n n ∧ Hid (PO wr w.heap.size A n n ps ∧ ps.map Pc.pl = (ms.take i).foldl stepP (firstL nodes k n) ∧ Below w.heap.size w wr ∧ Below w1.heap.size w1 wr)) (fun _ s9 _ _ _ _ => 8 - (Go.RowKit.intOf s9).toNat)
  case atStart => exact ⟨0, A, ps, by omega, by omega, rfl, rfl, (⟨HO.out.1, HO.out.2.1, HO.out.2.2.2.1, HO.out.2.2.2.2⟩ : PO w2 w.heap.size A n n ps ∧ ps.map Pc.pl = (ms.take 0).foldl stepP (firstL nodes k n) ∧ Below w.heap.size w w2 ∧ Below w1.heap.size w1 w2)⟩
  case round =>
    clear HO
    obtain ⟨i, A, ps, him, hi8, rfl, rfl, HR⟩ := hrel
    have hnn := HN.out.2.2.2
    have hlm := HE.out.2.1.len
    by_cases l1 : i < m
    · by_cases l2 : i < 8
      · obtain ⟨p, hp⟩ : ∃ p, ms[i]? = some p := ⟨_, List.getElem?_eq_getElem (by omega)⟩
        obtain ⟨⟨p1, p2⟩, ad, rfl, hadl, e1, e2⟩ := HE.out.2.1.at_ i p hp
        have hbw : Below w1.heap.size w1 wr := HR.out.2.2.2
        have e1 := (hbw.cell (block_lt_of_cell e1)).trans e1
        have e2 := (hbw.cell (block_lt_of_cell e2)).trans e2
        obtain ⟨x, y⟩ := p
        simp only at p1 p2 e1 e2
        obtain ⟨a1, ha1⟩ : ∃ v, x % 40 = v := ⟨_, rfl⟩
        obtain ⟨b1, hb1⟩ : ∃ v, y % 40 = v := ⟨_, rfl⟩
        have al : a1 < 40 := by have := Nat.mod_lt x (show 0 < 40 by omega); omega
        have bl : b1 < 40 := by have := Nat.mod_lt y (show 0 < 40 by omega); omega
        have f1 : (x : Int) % 40 = (a1 : Int) := by omega
        have f2 : (y : Int) % 40 = (b1 : Int) := by omega
        have t1 : (x : Int).tmod 40 = (a1 : Int) := by rw [Int.tmod_eq_emod_of_nonneg (by omega)]; exact f1
        have t2 : (y : Int).tmod 40 = (b1 : Int) := by rw [Int.tmod_eq_emod_of_nonneg (by omega)]; exact f2
        have q1 : IntKind.i64.wrap (a1 : Int) = (a1 : Int) := IntWalk.i64_in _ (by omega)
        have q2 : IntKind.i64.wrap (b1 : Int) = (b1 : Int) := IntWalk.i64_in _ (by omega)
        have hi1 : (0 : Int) ≤ (i : Int) := by omega
        have hi2 : (i : Int) < (m : Int) := by omega
        have hi3 : (i : Int) < 8 := by omega
        have hw1 : IntKind.i64.wrap ((i : Int) + 1) = (i : Int) + 1 := IntWalk.i64_in _ (by omega)
        have HT := Lib.hid (And.intro hp (And.intro ha1 (And.intro hb1 (And.intro l1 l2))))
        clear hp ha1 hb1 hadl hbw al bl p1 p2 hlm l1 l2
        go_wp2
        refine wp_region_held_drew (S := fun u => Below wr.heap.size wr u) (by kernel_rfl) ((Below.refl _ _).drew) (fun hHeld => ?_)
        refine wpAnyH_take (i := 0) (oi := ⟨some 45, _, _, _, _, _⟩) (v := ?_) rfl (by kernel_rfl) (by kernel_rfl) (by kernel_rfl) (fun _ _ _ h => h) (Or.inl ⟨by rfl, ?_⟩) (by assumption) ?_
        rotate_left
        · intro w hSw
          (try dsimp only at hSw)
          go_simp
          all_goals (with_reducible rfl)
        try simp only [Act.put, List.setIfInBounds_toArray, List.set_cons_zero, List.set_cons_succ]
        refine wpAnyH_take (i := 1) (oi := ⟨some 46, _, _, _, _, _⟩) (v := ?_) rfl (by kernel_rfl) (by kernel_rfl) (by kernel_rfl) (fun _ _ _ h => h) (Or.inl ⟨by rfl, ?_⟩) (by assumption) ?_
        rotate_left
        · intro w hSw
          (try dsimp only at hSw)
          go_simp
          all_goals (with_reducible rfl)
        try simp only [Act.put, List.setIfInBounds_toArray, List.set_cons_zero, List.set_cons_succ]
        refine wpAnyH_take (i := 2) (oi := ⟨some 47, _, _, _, _, _⟩) (v := ?_) rfl (by kernel_rfl) (by kernel_rfl) (by kernel_rfl) (fun _ _ _ h => h) (Or.inl ⟨by rfl, ?_⟩) (by assumption) ?_
        rotate_left
        · intro w hSw
          (try dsimp only at hSw)
          go_simp
          all_goals (with_reducible rfl)
        try simp only [Act.put, List.setIfInBounds_toArray, List.set_cons_zero, List.set_cons_succ]
        refine wpAnyH_take (i := 3) (oi := ⟨some 48, _, _, _, _, _⟩) (v := ?_) rfl (by kernel_rfl) (by kernel_rfl) (by kernel_rfl) (fun _ _ _ h => h) (Or.inl ⟨by rfl, ?_⟩) (by assumption) ?_
        rotate_left
        · intro w hSw
          (try dsimp only at hSw)
          go_simp
          all_goals (with_reducible rfl)
        try simp only [Act.put, List.setIfInBounds_toArray, List.set_cons_zero, List.set_cons_succ]
        refine wpAnyH_take (i := 4) (oi := ⟨some 49, _, _, _, _, _⟩) (v := ?_) rfl (by kernel_rfl) (by kernel_rfl) (by kernel_rfl) (fun _ _ _ h => h) (Or.inl ⟨by rfl, ?_⟩) (by assumption) ?_
        rotate_left
        · intro w hSw
          (try dsimp only at hSw)
          go_simp
          all_goals (with_reducible rfl)
        try simp only [Act.put, List.setIfInBounds_toArray, List.set_cons_zero, List.set_cons_succ]
        refine wpAnyH_take (i := 5) (oi := ⟨some 50, _, _, _, _, _⟩) (v := ?_) rfl (by kernel_rfl) (by kernel_rfl) (by kernel_rfl) (fun _ _ _ h => h) (Or.inl ⟨by rfl, ?_⟩) (by assumption) ?_
        rotate_left
        · intro w hSw
          have hl := (hSw.cell (block_lt_of_cell e1)).trans e1
          go_simp
          all_goals (with_reducible rfl)
        try simp only [Act.put, List.setIfInBounds_toArray, List.set_cons_zero, List.set_cons_succ]
        refine wpAnyH_take (i := 6) (oi := ⟨some 51, _, _, _, _, _⟩) (v := ?_) rfl (by kernel_rfl) (by kernel_rfl) (by kernel_rfl) (fun _ _ _ h => h) (Or.inl ⟨by rfl, ?_⟩) (by assumption) ?_
        rotate_left
        · intro w hSw
          (try dsimp only at hSw)
          go_simp
          all_goals (with_reducible rfl)
        try simp only [Act.put, List.setIfInBounds_toArray, List.set_cons_zero, List.set_cons_succ]
        refine wpAnyH_take (i := 7) (oi := ⟨some 52, _, _, _, _, _⟩) (v := ?_) rfl (by kernel_rfl) (by kernel_rfl) (by kernel_rfl) (fun _ _ _ h => h) (Or.inl ⟨by rfl, ?_⟩) (by assumption) ?_
        rotate_left
        · intro w hSw
          (try dsimp only at hSw)
          go_simp
          all_goals (with_reducible rfl)
        try simp only [Act.put, List.setIfInBounds_toArray, List.set_cons_zero, List.set_cons_succ]
        refine wpAnyH_take (i := 8) (oi := ⟨some 53, _, _, _, _, _⟩) (v := ?_) rfl (by kernel_rfl) (by kernel_rfl) (by kernel_rfl) (fun _ _ _ h => h) (Or.inl ⟨by rfl, ?_⟩) (by assumption) ?_
        rotate_left
        · intro w hSw
          (try dsimp only at hSw)
          go_simp
          all_goals (with_reducible rfl)
        try simp only [Act.put, List.setIfInBounds_toArray, List.set_cons_zero, List.set_cons_succ]
        refine wpAnyH_take (i := 9) (oi := ⟨some 54, _, _, _, _, _⟩) (v := ?_) rfl (by kernel_rfl) (by kernel_rfl) (by kernel_rfl) (fun _ _ _ h => h) (Or.inl ⟨by rfl, ?_⟩) (by assumption) ?_
        rotate_left
        · intro w hSw
          (try dsimp only at hSw)
          go_simp
          all_goals (with_reducible rfl)
        try simp only [Act.put, List.setIfInBounds_toArray, List.set_cons_zero, List.set_cons_succ]
        refine wpAnyH_take (i := 10) (oi := ⟨some 55, _, _, _, _, _⟩) (v := ?_) rfl (by kernel_rfl) (by kernel_rfl) (by kernel_rfl) (fun _ _ _ h => h) (Or.inl ⟨by rfl, ?_⟩) (by assumption) ?_
        rotate_left
        · intro w hSw
          (try dsimp only at hSw)
          go_simp
          all_goals (with_reducible rfl)
        try simp only [Act.put, List.setIfInBounds_toArray, List.set_cons_zero, List.set_cons_succ]
        refine wpAnyH_take (i := 11) (oi := ⟨some 56, _, _, _, _, _⟩) (v := ?_) rfl (by kernel_rfl) (by kernel_rfl) (by kernel_rfl) (fun _ _ _ h => h) (Or.inl ⟨by rfl, ?_⟩) (by assumption) ?_
        rotate_left
        · intro w hSw
          (try dsimp only at hSw)
          go_simp
          all_goals (with_reducible rfl)
        try simp only [Act.put, List.setIfInBounds_toArray, List.set_cons_zero, List.set_cons_succ]
        refine wpAnyH_take (i := 12) (oi := ⟨some 57, _, _, _, _, _⟩) (v := ?_) rfl (by kernel_rfl) (by kernel_rfl) (by kernel_rfl) (fun _ _ _ h => h) (Or.inl ⟨by rfl, ?_⟩) (by assumption) ?_
        rotate_left
        · intro w hSw
          have hl := (hSw.cell (block_lt_of_cell e2)).trans e2
          go_simp
          all_goals (with_reducible rfl)
        try simp only [Act.put, List.setIfInBounds_toArray, List.set_cons_zero, List.set_cons_succ]
        refine wpAnyH_take (i := 13) (oi := ⟨some 58, _, _, _, _, _⟩) (v := ?_) rfl (by kernel_rfl) (by kernel_rfl) (by kernel_rfl) (fun _ _ _ h => h) (Or.inl ⟨by rfl, ?_⟩) (by assumption) ?_
        rotate_left
        · intro w hSw
          (try dsimp only at hSw)
          go_simp
          all_goals (with_reducible rfl)
        try simp only [Act.put, List.setIfInBounds_toArray, List.set_cons_zero, List.set_cons_succ]
        refine wpAnyH_take (i := 14) (oi := ⟨some 59, _, _, _, _, _⟩) (v := ?_) rfl (by kernel_rfl) (by kernel_rfl) (by kernel_rfl) (fun _ _ _ h => h) (Or.inl ⟨by rfl, ?_⟩) (by assumption) ?_
        rotate_left
        · intro w hSw
          (try dsimp only at hSw)
          go_simp
          all_goals (with_reducible rfl)
        try simp only [Act.put, List.setIfInBounds_toArray, List.set_cons_zero, List.set_cons_succ]
        refine wpAnyH_ready (rs := [15]) (by kernel_rfl) (by simp) (AllReadyH.cons (o := ⟨some 60, _, _, _, _, _⟩) rfl (fun K hK => ?_) AllReadyH.nil)
        go_simp
        refine (move_is _ (HR.out.1.pl.below hHeld (Nat.le_refl _)) (by omega) (a1 : Int) (b1 : Int)).mono ?_
        rintro e w3 ⟨A', n', qs, G, mm, mc, rfl, hpo, hq, _, _, _, hb3⟩
        refine hK.out _ _ (hHeld.trans (hb3.mono hHeld.size)) (fun hHeld => ?_)
        clear hK K
        try simp only [Act.put, List.setIfInBounds_toArray, List.set_cons_zero, List.set_cons_succ]
        refine wpAnyH_take (i := 16) (oi := ⟨some 44, _, _, _, _, _⟩) (v := ?_) rfl (by kernel_rfl) (by kernel_rfl) (by kernel_rfl) (fun _ _ _ h => h) (Or.inl ⟨by rfl, ?_⟩) (by assumption) ?_
        rotate_left
        · intro w hSw
          (try dsimp only at hSw)
          go_simp
          all_goals (with_reducible rfl)
        try simp only [Act.put, List.setIfInBounds_toArray, List.set_cons_zero, List.set_cons_succ]
        refine wpAnyH_take (i := 17) (oi := ⟨some 61, _, _, _, _, _⟩) (v := ?_) rfl (by kernel_rfl) (by kernel_rfl) (by kernel_rfl) (fun _ _ _ h => h) (Or.inl ⟨by rfl, ?_⟩) (by assumption) ?_
        rotate_left
        · intro w hSw
          (try dsimp only at hSw)
          go_simp
          all_goals (with_reducible rfl)
        try simp only [Act.put, List.setIfInBounds_toArray, List.set_cons_zero, List.set_cons_succ]
        refine wpAnyH_take (i := 18) (oi := ⟨some 62, _, _, _, _, _⟩) (v := ?_) rfl (by kernel_rfl) (by kernel_rfl) (by kernel_rfl) (fun _ _ _ h => h) (Or.inl ⟨by rfl, ?_⟩) (by assumption) ?_
        rotate_left
        · intro w hSw
          (try dsimp only at hSw)
          go_simp
          all_goals (with_reducible rfl)
        try simp only [Act.put, List.setIfInBounds_toArray, List.set_cons_zero, List.set_cons_succ]
        refine wpAnyH_take (i := 19) (oi := ⟨some 63, _, _, _, _, _⟩) (v := ?_) rfl (by kernel_rfl) (by kernel_rfl) (by kernel_rfl) (fun _ _ _ h => h) (Or.inl ⟨by rfl, ?_⟩) (by assumption) ?_
        rotate_left
        · intro w hSw
          (try dsimp only at hSw)
          go_simp
          all_goals (with_reducible rfl)
        try simp only [Act.put, List.setIfInBounds_toArray, List.set_cons_zero, List.set_cons_succ]
        refine wpAnyH_take (i := 20) (oi := ⟨some 10, _, _, _, _, _⟩) (v := ?_) rfl (by kernel_rfl) (by kernel_rfl) (by kernel_rfl) (fun _ _ _ h => h) (Or.inl ⟨by rfl, ?_⟩) (by assumption) ?_
        rotate_left
        · intro w hSw
          (try dsimp only at hSw)
          go_simp
          all_goals (with_reducible rfl)
        try simp only [Act.put, List.setIfInBounds_toArray, List.set_cons_zero, List.set_cons_succ]
        refine wpAnyH_take (i := 21) (oi := ⟨some 11, _, _, _, _, _⟩) (v := ?_) rfl (by kernel_rfl) (by kernel_rfl) (by kernel_rfl) (fun _ _ _ h => h) (Or.inl ⟨by rfl, ?_⟩) (by assumption) ?_
        rotate_left
        · intro w hSw
          (try dsimp only at hSw)
          go_simp
          all_goals (with_reducible rfl)
        try simp only [Act.put, List.setIfInBounds_toArray, List.set_cons_zero, List.set_cons_succ]
        refine wpAnyH_take (i := 22) (oi := ⟨some 12, _, _, _, _, _⟩) (v := ?_) rfl (by kernel_rfl) (by kernel_rfl) (by kernel_rfl) (fun _ _ _ h => h) (Or.inl ⟨by rfl, ?_⟩) (by assumption) ?_
        rotate_left
        · intro w hSw
          (try dsimp only at hSw)
          go_simp
          all_goals (with_reducible rfl)
        try simp only [Act.put, List.setIfInBounds_toArray, List.set_cons_zero, List.set_cons_succ]
        refine wpAnyH_done (by kernel_rfl) ?_ _
        have HB3 := Lib.hid hHeld
        have HO := Lib.hid (And.intro hpo hq)
        have hsn : Hid ((ms.take (i + 1)).foldl stepP (firstL nodes k n) = stepP (ps.map Pc.pl) (x, y)) := by
          show _ = _
          rw [take_snoc HT.out.1, List.foldl_append, HR.out.2.1]
          rfl
        obtain ⟨er, her⟩ : ∃ er, (moveP (ps.map Pc.pl) (a1 : Int) (b1 : Int)).2.2 = er := ⟨_, rfl⟩
        rw [her]
        have HER := Lib.hid her
        clear hpo hq hb3 hHeld her e1 e2 f1 f2 t1 t2 q1 q2
        by_cases he : er = 0
        · subst he
          go_wp2
          go_roundw
          case rel =>
            have hst : stepP (ps.map Pc.pl) (x, y) = (moveP (ps.map Pc.pl) (a1 : Int) (b1 : Int)).1 := by
              unfold stepP
              simp only
              rw [HT.out.2.1, HT.out.2.2.1, if_pos HER.out]
            have hnn' : n' = n := by
              have h1 := HO.out.1.len
              have h2 := congrArg List.length HO.out.2
              rw [(moveP_ok HER.out).2.2.2] at h2
              simp at h2
              have h3 := HR.out.1.len
              omega
            subst hnn'
            refine ⟨i + 1, A', qs, by have := HT.out.2.2.2.1; omega, by have := HT.out.2.2.2.2; omega, by go_num, rfl, (⟨HO.out.1.lower HR.out.2.2.1.size, ?_, HR.out.2.2.1.trans (HB3.out.mono HR.out.2.2.1.size), HR.out.2.2.2.trans (HB3.out.mono HR.out.2.2.2.size)⟩ : PO w3 w.heap.size A' n' n' qs ∧ _ ∧ _ ∧ _)⟩
            rw [hsn.out, hst]
            exact HO.out.2
          case measure => have := HT.out.2.2.2.2; simp [Go.RowKit.intOf]; omega
        · have heb : (er == 0) = false := by simpa using he
          have HEE := Lib.hid he
          clear he
          go_wp2
          go_roundw
          case rel =>
            have hst : stepP (ps.map Pc.pl) (x, y) = ps.map Pc.pl := by
              unfold stepP
              simp only
              rw [HT.out.2.1, HT.out.2.2.1, if_neg (by rw [HER.out]; exact HEE.out)]
            refine ⟨i + 1, A, ps, by have := HT.out.2.2.2.1; omega, by have := HT.out.2.2.2.2; omega, by go_num, rfl, (⟨HR.out.1.below HB3.out (Nat.le_refl _), ?_, HR.out.2.2.1.trans (HB3.out.mono HR.out.2.2.1.size), HR.out.2.2.2.trans (HB3.out.mono HR.out.2.2.2.size)⟩ : PO w3 w.heap.size A n n ps ∧ _ ∧ _ ∧ _)⟩
            rw [hsn.out, hst]
          case measure => have := HT.out.2.2.2.2; simp [Go.RowKit.intOf]; omega
      · obtain rfl : i = 8 := by omega
        have l1' : (8 : Int) < (m : Int) := by omega
        have HL := Lib.hid hlm
        clear l1 l2 hlm
        go_wp2
        go_ret2
        exact ⟨A, n, ps, rfl, HR.out.1, by rw [HP.out]; exact HR.out.2.1, HR.out.2.2.1⟩
    · obtain rfl : i = m := by omega
      have HL := Lib.hid hlm
      have hi8' := Lib.hid hi8
      clear l1 hlm
      go_wp2
      go_ret2
      refine ⟨A, n, ps, rfl, HR.out.1, ?_, HR.out.2.2.1⟩
      rw [HP.out, HR.out.2.1, List.take_of_length_le (by rw [HL.out]; exact Nat.le_refl _), List.take_of_length_le (by rw [HL.out]; exact hi8'.out)]
end
end Go.Proofs.Ytbilbfjmfaignaa
