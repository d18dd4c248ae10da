/- The reference's tellBytes. -/
import Derived.Test.YtmiapegecoaccaaTelC
namespace Go.Proofs.Ytmiapegecoaccaa
open Go.RowKit Go.Coop
set_option maxRecDepth 100000
theorem Bk.re {w u : World} {R R' : List (Nat × Array Value × TypeId)} {B B' : List (Option Addr × Nat × List UInt8)} {I : List (Option Addr × Nat × List InfP)} (h : Bk w R B I u) (h1 : ∀ p ∈ R', p ∈ R) (h2 : ∀ p ∈ B', p ∈ B) : Bk w R' B' I u :=
  ⟨h.1, fun p hp => h.2.rows p (h1 p hp), fun p hp => h.2.reads p (h2 p hp), h.2.ils, h.2.tabs⟩
section
variable (w : World)
set_option maxHeartbeats 4000000 in
theorem tellB_is (l s o er room : Nat) (hl : l ≤ 1099511627776) (hs : s ≤ 1099511627776) (ho : o ≤ 6) (her : er ≤ 1000) (hroom : room ≤ 65536) {I : Option Addr} {m mc : Nat} {L : List InfP} (hI : IL w I m L) (hm : m ≤ 50) (hL : ∀ i ∈ L, InfOk i) (bs : List UInt8) {B : Option Addr} {n c : Nat} (hr : Rd w B n bs) (hn : n ≤ 1000000) :
    Calls Try.prog 44 #[.agg #[.int .i64 (l : Int), .int .i64 (s : Int), .int .u8 (o : Int), .int .i64 (er : Int), .slice I m mc, .slice B n c, .int .i64 (room : Int)]] w (Made w (encT ⟨l, s, o, er, L, bs, room⟩) 1010100) := by
  have hlen := Lib.hid hr.len
  have hlm := Lib.hid hI.len
  have HL := Lib.hid hL
  obtain ⟨w1, hw1⟩ : ∃ x, w.alloc (.cells #[.int .i64 (l : Int), .int .i64 (s : Int), .int .u8 (o : Int), .int .i64 (er : Int), .slice I m mc, .slice B n c, .int .i64 (room : Int)] 34) = x := ⟨_, rfl⟩
  obtain ⟨hb1, hx1⟩ := box_new hw1
  obtain ⟨g, hg⟩ : ∃ g, w.heap.size = g := ⟨_, rfl⟩
  rw [hg] at hx1
  have HB := Lib.hid (((((Bk.start w).add hr).il hI).step hb1).row hx1)
  have hwo : IntKind.i64.wrap (o : Int) = (o : Int) := IntWalk.i64_in _ (by omega)
  clear hr hb1 hx1 hI hL
  go_enter Try.func44, Try.ntmps44
  go_wp2_with fail
  (try rw [hg])
  (try rw [hw1])
  clear hw1
  refine wp_region_held_drew (S := Bk w [(g, #[.int .i64 (l : Int), .int .i64 (s : Int), .int .u8 (o : Int), .int .i64 (er : Int), .slice I m mc, .slice B n c, .int .i64 (room : Int)], 34)] [(B, n, bs)] [(I, m, L)]) (by kernel_rfl) (HB.out.drew) (fun hHeld => ?_)
  clear HB
  refine wpAnyH_take (i := 1) (oi := ⟨some 7, _, _, _, _, _⟩) (v := ?_) rfl (by kernel_rfl) (by kernel_rfl) (by kernel_rfl) (fun _ _ _ h => h) (Or.inl ⟨by rfl, ?_⟩) (by assumption) ?_
  rotate_left
  · intro w hSw
    (try dsimp only at hSw)
    go_simp
    all_goals (with_reducible rfl)
  try simp only [Act.put, List.setIfInBounds_toArray, List.set_cons_zero, List.set_cons_succ]
  refine wpAnyH_take (i := 2) (oi := ⟨some 8, _, _, _, _, _⟩) (v := ?_) rfl (by kernel_rfl) (by kernel_rfl) (by kernel_rfl) (fun _ _ _ h => h) (Or.inl ⟨by rfl, ?_⟩) (by assumption) ?_
  rotate_left
  · intro w hSw
    obtain ⟨l0, l1, l2, l3, l4, l5, l6⟩ := arr7 (hSw.2.rows _ (.head _))
    go_simp
    all_goals (with_reducible rfl)
  try simp only [Act.put, List.setIfInBounds_toArray, List.set_cons_zero, List.set_cons_succ]
  refine wpAnyH_take (i := 4) (oi := ⟨some 10, _, _, _, _, _⟩) (v := ?_) rfl (by kernel_rfl) (by kernel_rfl) (by kernel_rfl) (fun _ _ _ h => h) (Or.inl ⟨by rfl, ?_⟩) (by assumption) ?_
  rotate_left
  · intro w hSw
    (try dsimp only at hSw)
    go_simp
    all_goals (with_reducible rfl)
  try simp only [Act.put, List.setIfInBounds_toArray, List.set_cons_zero, List.set_cons_succ]
  refine wpAnyH_take (i := 5) (oi := ⟨some 11, _, _, _, _, _⟩) (v := ?_) rfl (by kernel_rfl) (by kernel_rfl) (by kernel_rfl) (fun _ _ _ h => h) (Or.inl ⟨by rfl, ?_⟩) (by assumption) ?_
  rotate_left
  · intro w hSw
    obtain ⟨l0, l1, l2, l3, l4, l5, l6⟩ := arr7 (hSw.2.rows _ (.head _))
    go_simp
    all_goals (with_reducible rfl)
  try simp only [Act.put, List.setIfInBounds_toArray, List.set_cons_zero, List.set_cons_succ]
  refine wpAnyH_take (i := 7) (oi := ⟨some 13, _, _, _, _, _⟩) (v := ?_) rfl (by kernel_rfl) (by kernel_rfl) (by kernel_rfl) (fun _ _ _ h => h) (Or.inl ⟨by rfl, ?_⟩) (by assumption) ?_
  rotate_left
  · intro w hSw
    (try dsimp only at hSw)
    go_simp
    all_goals (with_reducible rfl)
  try simp only [Act.put, List.setIfInBounds_toArray, List.set_cons_zero, List.set_cons_succ]
  refine wpAnyH_take (i := 8) (oi := ⟨some 14, _, _, _, _, _⟩) (v := ?_) rfl (by kernel_rfl) (by kernel_rfl) (by kernel_rfl) (fun _ _ _ h => h) (Or.inl ⟨by rfl, ?_⟩) (by assumption) ?_
  rotate_left
  · intro w hSw
    obtain ⟨l0, l1, l2, l3, l4, l5, l6⟩ := arr7 (hSw.2.rows _ (.head _))
    go_simp
    all_goals (with_reducible rfl)
  try simp only [Act.put, List.setIfInBounds_toArray, List.set_cons_zero, List.set_cons_succ]
  refine wpAnyH_take (i := 9) (oi := ⟨some 15, _, _, _, _, _⟩) (v := ?_) rfl (by kernel_rfl) (by kernel_rfl) (by kernel_rfl) (fun _ _ _ h => h) (Or.inl ⟨by rfl, ?_⟩) (by assumption) ?_
  rotate_left
  · intro w hSw
    (try dsimp only at hSw)
    go_simp
    all_goals (with_reducible rfl)
  try simp only [Act.put, List.setIfInBounds_toArray, List.set_cons_zero, List.set_cons_succ]
  have hS1 := rd_one8 w1.drew 2
  have hB1 : Below w1.drew.heap.size w1.drew (w1.drew.alloc (.cells #[.int .u8 2] 5)) := (Below.refl _ _).alloc (Nat.le_refl _) _
  refine wpAnyH_ready (rs := [0]) (by as_aux_lemma => kernel_rfl) (by simp) (AllReadyH.cons (o := ⟨some 6, _, _, _, _, _⟩) rfl (fun K hK => ?_) AllReadyH.nil)
  go_simp
  refine hK.out _ _ (hHeld.step hB1) (fun hHeld => ?_)
  clear hK K
  replace hHeld := hHeld.add hS1
  refine wpAnyH_stronger (S' := Bk w [(g, #[.int .i64 (l : Int), .int .i64 (s : Int), .int .u8 (o : Int), .int .i64 (er : Int), .slice I m mc, .slice B n c, .int .i64 (room : Int)], 34)] [(some ⟨w1.drew.heap.size, 0, none⟩, 1, [2]), (B, n, bs)] [(I, m, L)]) (fun _ h => h.less) _ _ _ _ ?_
  clear hS1 hB1
  try simp only [Act.put, List.setIfInBounds_toArray, List.set_cons_zero, List.set_cons_succ]
  refine wpAnyH_ready (rs := [3]) (by as_aux_lemma => kernel_rfl) (by simp) (AllReadyH.cons (o := ⟨some 9, _, _, _, _, _⟩) rfl (fun K hK => ?_) AllReadyH.nil)
  go_simp
  refine (rnumber_is _ (n := 1) (hHeld.2.reads _ (.head _)) (by omega) (l) (by omega)).mono ?_
  rintro e u1 ⟨A1, n1, c1, rfl, hr1, hn1, hb1⟩
  replace hn1 : n1 ≤ 1 + 10 := hn1
  refine hK.out _ _ (hHeld.step hb1) (fun hHeld => ?_)
  clear hK K
  replace hHeld := hHeld.add hr1
  refine wpAnyH_stronger (S' := Bk w [(g, #[.int .i64 (l : Int), .int .i64 (s : Int), .int .u8 (o : Int), .int .i64 (er : Int), .slice I m mc, .slice B n c, .int .i64 (room : Int)], 34)] [(A1, n1, [2] ++ dig l), (some ⟨w1.drew.heap.size, 0, none⟩, 1, [2]), (B, n, bs)] [(I, m, L)]) (fun _ h => h.less) _ _ _ _ ?_
  clear hr1 hb1
  try simp only [Act.put, List.setIfInBounds_toArray, List.set_cons_zero, List.set_cons_succ]
  refine wpAnyH_ready (rs := [6]) (by as_aux_lemma => kernel_rfl) (by simp) (AllReadyH.cons (o := ⟨some 12, _, _, _, _, _⟩) rfl (fun K hK => ?_) AllReadyH.nil)
  go_simp
  refine (rnumber_is _ (n := n1) (hHeld.2.reads _ (.head _)) (by omega) (s) (by omega)).mono ?_
  rintro e u2 ⟨A2, n2, c2, rfl, hr2, hn2, hb2⟩
  replace hn2 : n2 ≤ n1 + 10 := hn2
  refine hK.out _ _ (hHeld.step hb2) (fun hHeld => ?_)
  clear hK K
  replace hHeld := hHeld.add hr2
  refine wpAnyH_stronger (S' := Bk w [(g, #[.int .i64 (l : Int), .int .i64 (s : Int), .int .u8 (o : Int), .int .i64 (er : Int), .slice I m mc, .slice B n c, .int .i64 (room : Int)], 34)] [(A2, n2, [2] ++ dig l ++ dig s), (A1, n1, [2] ++ dig l), (some ⟨w1.drew.heap.size, 0, none⟩, 1, [2]), (B, n, bs)] [(I, m, L)]) (fun _ h => h.less) _ _ _ _ ?_
  clear hr2 hb2
  try simp only [Act.put, List.setIfInBounds_toArray, List.set_cons_zero, List.set_cons_succ]
  refine wpAnyH_ready (rs := [10]) (by as_aux_lemma => kernel_rfl) (by simp) (AllReadyH.cons (o := ⟨some 16, _, _, _, _, _⟩) rfl (fun K hK => ?_) AllReadyH.nil)
  go_simp
  refine (rnumber_is _ (n := n2) (hHeld.2.reads _ (.head _)) (by omega) (o) (by omega)).mono ?_
  rintro e u3 ⟨A3, n3, c3, rfl, hr3, hn3, hb3⟩
  replace hn3 : n3 ≤ n2 + 10 := hn3
  refine hK.out _ _ (hHeld.step hb3) (fun hHeld => ?_)
  clear hK K
  replace hHeld := hHeld.add hr3
  refine wpAnyH_stronger (S' := Bk w [(g, #[.int .i64 (l : Int), .int .i64 (s : Int), .int .u8 (o : Int), .int .i64 (er : Int), .slice I m mc, .slice B n c, .int .i64 (room : Int)], 34)] [(A3, n3, [2] ++ dig l ++ dig s ++ dig o), (A2, n2, [2] ++ dig l ++ dig s), (A1, n1, [2] ++ dig l), (some ⟨w1.drew.heap.size, 0, none⟩, 1, [2]), (B, n, bs)] [(I, m, L)]) (fun _ h => h.less) _ _ _ _ ?_
  clear hr3 hb3
  try simp only [Act.put, List.setIfInBounds_toArray, List.set_cons_zero, List.set_cons_succ]
  refine wpAnyH_take (i := 11) (oi := ⟨some 3, _, _, _, _, _⟩) (v := ?_) rfl (by kernel_rfl) (by kernel_rfl) (by kernel_rfl) (fun _ _ _ h => h) (Or.inl ⟨by rfl, ?_⟩) (by assumption) ?_
  rotate_left
  · intro w hSw
    (try dsimp only at hSw)
    go_simp
    all_goals (with_reducible rfl)
  try simp only [Act.put, List.setIfInBounds_toArray, List.set_cons_zero, List.set_cons_succ]
  refine wpAnyH_done (by kernel_rfl) ?_ _
  have HB := Lib.hid hHeld
  clear hHeld
  go_wp2_with fail
  refine wp_region_held_drew (S := Bk w [(g, #[.int .i64 (l : Int), .int .i64 (s : Int), .int .u8 (o : Int), .int .i64 (er : Int), .slice I m mc, .slice B n c, .int .i64 (room : Int)], 34)] [(A3, n3, [2] ++ dig l ++ dig s ++ dig o), (A2, n2, [2] ++ dig l ++ dig s), (A1, n1, [2] ++ dig l), (some ⟨w1.drew.heap.size, 0, none⟩, 1, [2]), (B, n, bs)] [(I, m, L)]) (by kernel_rfl) (HB.out.drew) (fun hHeld => ?_)
  clear HB
  refine wpAnyH_take (i := 0) (oi := ⟨some 17, _, _, _, _, _⟩) (v := ?_) rfl (by kernel_rfl) (by kernel_rfl) (by kernel_rfl) (fun _ _ _ h => h) (Or.inl ⟨by rfl, ?_⟩) (by assumption) ?_
  rotate_left
  · intro w hSw
    (try dsimp only at hSw)
    go_simp
    all_goals (with_reducible rfl)
  try simp only [Act.put, List.setIfInBounds_toArray, List.set_cons_zero, List.set_cons_succ]
  refine wpAnyH_take (i := 1) (oi := ⟨some 18, _, _, _, _, _⟩) (v := ?_) rfl (by kernel_rfl) (by kernel_rfl) (by kernel_rfl) (fun _ _ _ h => h) (Or.inl ⟨by rfl, ?_⟩) (by assumption) ?_
  rotate_left
  · intro w hSw
    (try dsimp only at hSw)
    go_simp
    all_goals (with_reducible rfl)
  try simp only [Act.put, List.setIfInBounds_toArray, List.set_cons_zero, List.set_cons_succ]
  refine wpAnyH_take (i := 2) (oi := ⟨some 19, _, _, _, _, _⟩) (v := ?_) rfl (by kernel_rfl) (by kernel_rfl) (by kernel_rfl) (fun _ _ _ h => h) (Or.inl ⟨by rfl, ?_⟩) (by assumption) ?_
  rotate_left
  · intro w hSw
    obtain ⟨l0, l1, l2, l3, l4, l5, l6⟩ := arr7 (hSw.2.rows _ (.head _))
    go_simp
    all_goals (with_reducible rfl)
  try simp only [Act.put, List.setIfInBounds_toArray, List.set_cons_zero, List.set_cons_succ]
  refine wpAnyH_take (i := 4) (oi := ⟨some 21, _, _, _, _, _⟩) (v := ?_) rfl (by kernel_rfl) (by kernel_rfl) (by kernel_rfl) (fun _ _ _ h => h) (Or.inl ⟨by rfl, ?_⟩) (by assumption) ?_
  rotate_left
  · intro w hSw
    (try dsimp only at hSw)
    go_simp
    all_goals (with_reducible rfl)
  try simp only [Act.put, List.setIfInBounds_toArray, List.set_cons_zero, List.set_cons_succ]
  refine wpAnyH_take (i := 5) (oi := ⟨some 22, _, _, _, _, _⟩) (v := ?_) rfl (by kernel_rfl) (by kernel_rfl) (by kernel_rfl) (fun _ _ _ h => h) (Or.inl ⟨by rfl, ?_⟩) (by assumption) ?_
  rotate_left
  · intro w hSw
    obtain ⟨l0, l1, l2, l3, l4, l5, l6⟩ := arr7 (hSw.2.rows _ (.head _))
    go_simp
    all_goals (with_reducible rfl)
  try simp only [Act.put, List.setIfInBounds_toArray, List.set_cons_zero, List.set_cons_succ]
  refine wpAnyH_take (i := 7) (oi := ⟨some 24, _, _, _, _, _⟩) (v := ?_) rfl (by kernel_rfl) (by kernel_rfl) (by kernel_rfl) (fun _ _ _ h => h) (Or.inl ⟨by rfl, ?_⟩) (by assumption) ?_
  rotate_left
  · intro w hSw
    (try dsimp only at hSw)
    go_simp
    all_goals (with_reducible rfl)
  try simp only [Act.put, List.setIfInBounds_toArray, List.set_cons_zero, List.set_cons_succ]
  refine wpAnyH_take (i := 8) (oi := ⟨some 25, _, _, _, _, _⟩) (v := ?_) rfl (by kernel_rfl) (by kernel_rfl) (by kernel_rfl) (fun _ _ _ h => h) (Or.inl ⟨by rfl, ?_⟩) (by assumption) ?_
  rotate_left
  · intro w hSw
    obtain ⟨l0, l1, l2, l3, l4, l5, l6⟩ := arr7 (hSw.2.rows _ (.head _))
    go_simp
    all_goals (with_reducible rfl)
  try simp only [Act.put, List.setIfInBounds_toArray, List.set_cons_zero, List.set_cons_succ]
  refine wpAnyH_take (i := 9) (oi := ⟨some 26, _, _, _, _, _⟩) (v := ?_) rfl (by kernel_rfl) (by kernel_rfl) (by kernel_rfl) (fun _ _ _ h => h) (Or.inl ⟨by rfl, ?_⟩) (by assumption) ?_
  rotate_left
  · intro w hSw
    (try dsimp only at hSw)
    go_simp
    all_goals (with_reducible rfl)
  try simp only [Act.put, List.setIfInBounds_toArray, List.set_cons_zero, List.set_cons_succ]
  refine wpAnyH_ready (rs := [3]) (by as_aux_lemma => kernel_rfl) (by simp) (AllReadyH.cons (o := ⟨some 20, _, _, _, _, _⟩) rfl (fun K hK => ?_) AllReadyH.nil)
  go_simp
  refine (rnumber_is _ (n := n3) (hHeld.2.reads _ (.head _)) (by omega) (er) (by omega)).mono ?_
  rintro e u4 ⟨A4, n4, c4, rfl, hr4, hn4, hb4⟩
  replace hn4 : n4 ≤ n3 + 10 := hn4
  refine hK.out _ _ (hHeld.step hb4) (fun hHeld => ?_)
  clear hK K
  replace hHeld := hHeld.add hr4
  refine wpAnyH_stronger (S' := Bk w [(g, #[.int .i64 (l : Int), .int .i64 (s : Int), .int .u8 (o : Int), .int .i64 (er : Int), .slice I m mc, .slice B n c, .int .i64 (room : Int)], 34)] [(A4, n4, [2] ++ dig l ++ dig s ++ dig o ++ dig er), (A3, n3, [2] ++ dig l ++ dig s ++ dig o), (A2, n2, [2] ++ dig l ++ dig s), (A1, n1, [2] ++ dig l), (some ⟨w1.drew.heap.size, 0, none⟩, 1, [2]), (B, n, bs)] [(I, m, L)]) (fun _ h => h.less) _ _ _ _ ?_
  clear hr4 hb4
  try simp only [Act.put, List.setIfInBounds_toArray, List.set_cons_zero, List.set_cons_succ]
  refine wpAnyH_ready (rs := [6]) (by as_aux_lemma => kernel_rfl) (by simp) (AllReadyH.cons (o := ⟨some 23, _, _, _, _, _⟩) rfl (fun K hK => ?_) AllReadyH.nil)
  go_simp
  refine (rnumber_is _ (n := n4) (hHeld.2.reads _ (.head _)) (by omega) (room) (by omega)).mono ?_
  rintro e u5 ⟨A5, n5, c5, rfl, hr5, hn5, hb5⟩
  replace hn5 : n5 ≤ n4 + 10 := hn5
  refine hK.out _ _ (hHeld.step hb5) (fun hHeld => ?_)
  clear hK K
  replace hHeld := hHeld.add hr5
  refine wpAnyH_stronger (S' := Bk w [(g, #[.int .i64 (l : Int), .int .i64 (s : Int), .int .u8 (o : Int), .int .i64 (er : Int), .slice I m mc, .slice B n c, .int .i64 (room : Int)], 34)] [(A5, n5, [2] ++ dig l ++ dig s ++ dig o ++ dig er ++ dig room), (A4, n4, [2] ++ dig l ++ dig s ++ dig o ++ dig er), (A3, n3, [2] ++ dig l ++ dig s ++ dig o), (A2, n2, [2] ++ dig l ++ dig s), (A1, n1, [2] ++ dig l), (some ⟨w1.drew.heap.size, 0, none⟩, 1, [2]), (B, n, bs)] [(I, m, L)]) (fun _ h => h.less) _ _ _ _ ?_
  clear hr5 hb5
  try simp only [Act.put, List.setIfInBounds_toArray, List.set_cons_zero, List.set_cons_succ]
  refine wpAnyH_ready (rs := [10]) (by as_aux_lemma => kernel_rfl) (by simp) (AllReadyH.cons (o := ⟨some 27, _, _, _, _, _⟩) rfl (fun K hK => ?_) AllReadyH.nil)
  go_simp
  refine (rnumber_is _ (n := n5) (hHeld.2.reads _ (.head _)) (by omega) (m) (by omega)).mono ?_
  rintro e u6 ⟨A6, n6, c6, rfl, hr6, hn6, hb6⟩
  replace hn6 : n6 ≤ n5 + 10 := hn6
  refine hK.out _ _ (hHeld.step hb6) (fun hHeld => ?_)
  clear hK K
  replace hHeld := hHeld.add hr6
  refine wpAnyH_stronger (S' := Bk w [(g, #[.int .i64 (l : Int), .int .i64 (s : Int), .int .u8 (o : Int), .int .i64 (er : Int), .slice I m mc, .slice B n c, .int .i64 (room : Int)], 34)] [(A6, n6, [2] ++ dig l ++ dig s ++ dig o ++ dig er ++ dig room ++ dig m), (A5, n5, [2] ++ dig l ++ dig s ++ dig o ++ dig er ++ dig room), (A4, n4, [2] ++ dig l ++ dig s ++ dig o ++ dig er), (A3, n3, [2] ++ dig l ++ dig s ++ dig o), (A2, n2, [2] ++ dig l ++ dig s), (A1, n1, [2] ++ dig l), (some ⟨w1.drew.heap.size, 0, none⟩, 1, [2]), (B, n, bs)] [(I, m, L)]) (fun _ h => h.less) _ _ _ _ ?_
  clear hr6 hb6
  try simp only [Act.put, List.setIfInBounds_toArray, List.set_cons_zero, List.set_cons_succ]
  refine wpAnyH_take (i := 11) (oi := ⟨some 3, _, _, _, _, _⟩) (v := ?_) rfl (by kernel_rfl) (by kernel_rfl) (by kernel_rfl) (fun _ _ _ h => h) (Or.inl ⟨by rfl, ?_⟩) (by assumption) ?_
  rotate_left
  · intro w hSw
    (try dsimp only at hSw)
    go_simp
    all_goals (with_reducible rfl)
  try simp only [Act.put, List.setIfInBounds_toArray, List.set_cons_zero, List.set_cons_succ]
  refine wpAnyH_done (by kernel_rfl) ?_ _
  have HB := Lib.hid hHeld
  clear hHeld
  obtain ⟨D, hD⟩ : ∃ D, [2] ++ dig l ++ dig s ++ dig o ++ dig er ++ dig room ++ dig m = D := ⟨_, rfl⟩
  have HE := Lib.hid (show Bk w [(g, #[.int .i64 (l : Int), .int .i64 (s : Int), .int .u8 (o : Int), .int .i64 (er : Int), .slice I m mc, .slice B n c, .int .i64 (room : Int)], 34)] [(A6, n6, D), (B, n, bs)] [(I, m, L)] u6 from hD ▸ (HB.out.re (R' := [(g, #[.int .i64 (l : Int), .int .i64 (s : Int), .int .u8 (o : Int), .int .i64 (er : Int), .slice I m mc, .slice B n c, .int .i64 (room : Int)], 34)]) (B' := [(A6, n6, [2] ++ dig l ++ dig s ++ dig o ++ dig er ++ dig room ++ dig m), (B, n, bs)]) (by simp) (by simp)))
  have hnb : n6 ≤ 100 := by omega
  replace hnb := Lib.hid hnb
  clear HB
  obtain ⟨d0, d1, d2, d3, d4, d5, d6⟩ := arr7 (HE.out.2.rows _ (.head _))
  go_wp2
  clear d0 d1 d2 d3 d4 d5 d6
  go_loopw [3, 4, 5] (fun s3 s4 _ wr => ∃ (k r : Nat) (A : Option Addr) (c' : Nat), k ≤ m ∧ s4 = .int .i64 k ∧ s3 = .slice A r c' ∧ r ≤ 100 + 40 * k ∧ Hid (Bk w [(g, #[.int .i64 (l : Int), .int .i64 (s : Int), .int .u8 (o : Int), .int .i64 (er : Int), .slice I m mc, .slice B n c, .int .i64 (room : Int)], 34)] [(A, r, D ++ encI (L.take k)), (B, n, bs)] [(I, m, L)] wr)) (fun _ s4 _ _ => m - (Go.RowKit.intOf s4).toNat)
  case atStart => exact ⟨0, n6, A6, c6, by omega, rfl, rfl, by have := hnb.out; omega, by rw [show D ++ encI (L.take 0) = D from by simp [encI]]; exact HE.out⟩
  case round =>
    clear HE
    obtain ⟨k, r, A, c', hk, rfl, rfl, hrk, HK⟩ := hrel
    obtain ⟨d0, d1, d2, d3, d4, d5, d6⟩ := arr7 (HK.out.2.rows _ (.head _))
    by_cases hlt : k < m
    · obtain ⟨p, hp⟩ : ∃ p, L[k]? = some p := ⟨_, List.getElem?_eq_getElem (by rw [hlm.out]; exact hlt)⟩
      have hok := HL.out p (List.mem_of_getElem? hp)
      obtain ⟨ia, rfl, hadl, hload, _, _, _, _⟩ := (HK.out.2.ils _ (.head _)).get hp
      obtain ⟨ps, pi, pv, pz⟩ := p
      obtain ⟨⟨p1, p2, p3⟩, p4⟩ := hok
      simp only at p1 p2 p3 p4
      obtain ⟨ps, rfl⟩ := Int.eq_ofNat_of_zero_le p1.1
      obtain ⟨pi, rfl⟩ := Int.eq_ofNat_of_zero_le p2.1
      obtain ⟨pv, rfl⟩ := Int.eq_ofNat_of_zero_le (show 0 ≤ pv by omega)
      obtain ⟨pz, rfl⟩ := Int.eq_ofNat_of_zero_le (show 0 ≤ pz by omega)
      have hi1 : (0 : Int) ≤ (k : Int) := by omega
      have hi2 : (k : Int) < (m : Int) := by omega
      have hwk : IntKind.i64.wrap ((k : Int) + 1) = (k : Int) + 1 := IntWalk.i64_in _ (by omega)
      have hwz : IntKind.i64.wrap (pz : Int) = (pz : Int) := IntWalk.i64_in _ (by omega)
      have HT := Lib.hid (And.intro hp hlt)
      clear hp hlt hadl
      obtain ⟨wa, hwa⟩ : ∃ v, wr.alloc (.cells #[.int .i64 (ps : Int), .int .i64 (pi : Int), .int .i64 (pv : Int), .int .u8 (pz : Int)] 30) = v := ⟨_, rfl⟩
      obtain ⟨hba, hxa⟩ := box_new hwa
      obtain ⟨q, hq⟩ : ∃ q, wr.heap.size = q := ⟨_, rfl⟩
      rw [hq] at hxa
      have HB := Lib.hid ((HK.out.step hba).row hxa)
      clear hba hxa
      go_wp2_with fail
      (try rw [hq])
      (try rw [hwa])
      clear hwa hload d0 d1 d2 d3 d4 d5 d6
      refine wp_region_held_drew (S := Bk w [(q, #[.int .i64 (ps : Int), .int .i64 (pi : Int), .int .i64 (pv : Int), .int .u8 (pz : Int)], 30), (g, #[.int .i64 (l : Int), .int .i64 (s : Int), .int .u8 (o : Int), .int .i64 (er : Int), .slice (some ia) m mc, .slice B n c, .int .i64 (room : Int)], 34)] [(A, r, D ++ encI (L.take k)), (B, n, bs)] [(some ia, m, L)]) (by kernel_rfl) (HB.out.drew) (fun hHeld => ?_)
      clear HB
      refine wpAnyH_take (i := 0) (oi := ⟨some 40, _, _, _, _, _⟩) (v := ?_) rfl (by kernel_rfl) (by kernel_rfl) (by kernel_rfl) (fun _ _ _ h => h) (Or.inl ⟨by rfl, ?_⟩) (by assumption) ?_
      rotate_left
      · intro w hSw
        (try dsimp only at hSw)
        go_simp
        all_goals (with_reducible rfl)
      try simp only [Act.put, List.setIfInBounds_toArray, List.set_cons_zero, List.set_cons_succ]
      refine wpAnyH_take (i := 1) (oi := ⟨some 41, _, _, _, _, _⟩) (v := ?_) rfl (by kernel_rfl) (by kernel_rfl) (by kernel_rfl) (fun _ _ _ h => h) (Or.inl ⟨by rfl, ?_⟩) (by assumption) ?_
      rotate_left
      · intro w hSw
        (try dsimp only at hSw)
        go_simp
        all_goals (with_reducible rfl)
      try simp only [Act.put, List.setIfInBounds_toArray, List.set_cons_zero, List.set_cons_succ]
      refine wpAnyH_take (i := 2) (oi := ⟨some 42, _, _, _, _, _⟩) (v := ?_) rfl (by kernel_rfl) (by kernel_rfl) (by kernel_rfl) (fun _ _ _ h => h) (Or.inl ⟨by rfl, ?_⟩) (by assumption) ?_
      rotate_left
      · intro w hSw
        obtain ⟨l0, l1, l2, l3⟩ := four30 (hSw.2.rows _ (.head _))
        go_simp
        all_goals (with_reducible rfl)
      try simp only [Act.put, List.setIfInBounds_toArray, List.set_cons_zero, List.set_cons_succ]
      refine wpAnyH_take (i := 4) (oi := ⟨some 44, _, _, _, _, _⟩) (v := ?_) rfl (by kernel_rfl) (by kernel_rfl) (by kernel_rfl) (fun _ _ _ h => h) (Or.inl ⟨by rfl, ?_⟩) (by assumption) ?_
      rotate_left
      · intro w hSw
        (try dsimp only at hSw)
        go_simp
        all_goals (with_reducible rfl)
      try simp only [Act.put, List.setIfInBounds_toArray, List.set_cons_zero, List.set_cons_succ]
      refine wpAnyH_take (i := 5) (oi := ⟨some 45, _, _, _, _, _⟩) (v := ?_) rfl (by kernel_rfl) (by kernel_rfl) (by kernel_rfl) (fun _ _ _ h => h) (Or.inl ⟨by rfl, ?_⟩) (by assumption) ?_
      rotate_left
      · intro w hSw
        obtain ⟨l0, l1, l2, l3⟩ := four30 (hSw.2.rows _ (.head _))
        go_simp
        all_goals (with_reducible rfl)
      try simp only [Act.put, List.setIfInBounds_toArray, List.set_cons_zero, List.set_cons_succ]
      refine wpAnyH_take (i := 7) (oi := ⟨some 47, _, _, _, _, _⟩) (v := ?_) rfl (by kernel_rfl) (by kernel_rfl) (by kernel_rfl) (fun _ _ _ h => h) (Or.inl ⟨by rfl, ?_⟩) (by assumption) ?_
      rotate_left
      · intro w hSw
        (try dsimp only at hSw)
        go_simp
        all_goals (with_reducible rfl)
      try simp only [Act.put, List.setIfInBounds_toArray, List.set_cons_zero, List.set_cons_succ]
      refine wpAnyH_take (i := 8) (oi := ⟨some 48, _, _, _, _, _⟩) (v := ?_) rfl (by kernel_rfl) (by kernel_rfl) (by kernel_rfl) (fun _ _ _ h => h) (Or.inl ⟨by rfl, ?_⟩) (by assumption) ?_
      rotate_left
      · intro w hSw
        obtain ⟨l0, l1, l2, l3⟩ := four30 (hSw.2.rows _ (.head _))
        go_simp
        all_goals (with_reducible rfl)
      try simp only [Act.put, List.setIfInBounds_toArray, List.set_cons_zero, List.set_cons_succ]
      refine wpAnyH_take (i := 10) (oi := ⟨some 50, _, _, _, _, _⟩) (v := ?_) rfl (by kernel_rfl) (by kernel_rfl) (by kernel_rfl) (fun _ _ _ h => h) (Or.inl ⟨by rfl, ?_⟩) (by assumption) ?_
      rotate_left
      · intro w hSw
        (try dsimp only at hSw)
        go_simp
        all_goals (with_reducible rfl)
      try simp only [Act.put, List.setIfInBounds_toArray, List.set_cons_zero, List.set_cons_succ]
      refine wpAnyH_take (i := 11) (oi := ⟨some 51, _, _, _, _, _⟩) (v := ?_) rfl (by kernel_rfl) (by kernel_rfl) (by kernel_rfl) (fun _ _ _ h => h) (Or.inl ⟨by rfl, ?_⟩) (by assumption) ?_
      rotate_left
      · intro w hSw
        obtain ⟨l0, l1, l2, l3⟩ := four30 (hSw.2.rows _ (.head _))
        go_simp
        all_goals (with_reducible rfl)
      try simp only [Act.put, List.setIfInBounds_toArray, List.set_cons_zero, List.set_cons_succ]
      refine wpAnyH_take (i := 12) (oi := ⟨some 52, _, _, _, _, _⟩) (v := ?_) rfl (by kernel_rfl) (by kernel_rfl) (by kernel_rfl) (fun _ _ _ h => h) (Or.inl ⟨by rfl, ?_⟩) (by assumption) ?_
      rotate_left
      · intro w hSw
        (try dsimp only at hSw)
        go_simp
        all_goals (with_reducible rfl)
      try simp only [Act.put, List.setIfInBounds_toArray, List.set_cons_zero, List.set_cons_succ]
      refine wpAnyH_ready (rs := [3]) (by as_aux_lemma => kernel_rfl) (by simp) (AllReadyH.cons (o := ⟨some 43, _, _, _, _, _⟩) rfl (fun K hK => ?_) AllReadyH.nil)
      go_simp
      refine (rnumber_is _ (n := r) (hHeld.2.reads _ (.head _)) (by omega) (ps) (by omega)).mono ?_
      rintro e uy1 ⟨Ay1, ny1, cy1, rfl, hry1, hny1, hby1⟩
      replace hny1 : ny1 ≤ r + 10 := hny1
      refine hK.out _ _ (hHeld.step hby1) (fun hHeld => ?_)
      clear hK K
      replace hHeld := hHeld.add hry1
      refine wpAnyH_stronger (S' := Bk w [(q, #[.int .i64 (ps : Int), .int .i64 (pi : Int), .int .i64 (pv : Int), .int .u8 (pz : Int)], 30), (g, #[.int .i64 (l : Int), .int .i64 (s : Int), .int .u8 (o : Int), .int .i64 (er : Int), .slice (some ia) m mc, .slice B n c, .int .i64 (room : Int)], 34)] [(Ay1, ny1, D ++ encI (L.take k) ++ dig ps), (A, r, D ++ encI (L.take k)), (B, n, bs)] [(some ia, m, L)]) (fun _ h => h.less) _ _ _ _ ?_
      clear hry1 hby1
      try simp only [Act.put, List.setIfInBounds_toArray, List.set_cons_zero, List.set_cons_succ]
      refine wpAnyH_ready (rs := [6]) (by as_aux_lemma => kernel_rfl) (by simp) (AllReadyH.cons (o := ⟨some 46, _, _, _, _, _⟩) rfl (fun K hK => ?_) AllReadyH.nil)
      go_simp
      refine (rnumber_is _ (n := ny1) (hHeld.2.reads _ (.head _)) (by omega) (pi) (by omega)).mono ?_
      rintro e uy2 ⟨Ay2, ny2, cy2, rfl, hry2, hny2, hby2⟩
      replace hny2 : ny2 ≤ ny1 + 10 := hny2
      refine hK.out _ _ (hHeld.step hby2) (fun hHeld => ?_)
      clear hK K
      replace hHeld := hHeld.add hry2
      refine wpAnyH_stronger (S' := Bk w [(q, #[.int .i64 (ps : Int), .int .i64 (pi : Int), .int .i64 (pv : Int), .int .u8 (pz : Int)], 30), (g, #[.int .i64 (l : Int), .int .i64 (s : Int), .int .u8 (o : Int), .int .i64 (er : Int), .slice (some ia) m mc, .slice B n c, .int .i64 (room : Int)], 34)] [(Ay2, ny2, D ++ encI (L.take k) ++ dig ps ++ dig pi), (Ay1, ny1, D ++ encI (L.take k) ++ dig ps), (A, r, D ++ encI (L.take k)), (B, n, bs)] [(some ia, m, L)]) (fun _ h => h.less) _ _ _ _ ?_
      clear hry2 hby2
      try simp only [Act.put, List.setIfInBounds_toArray, List.set_cons_zero, List.set_cons_succ]
      refine wpAnyH_ready (rs := [9]) (by as_aux_lemma => kernel_rfl) (by simp) (AllReadyH.cons (o := ⟨some 49, _, _, _, _, _⟩) rfl (fun K hK => ?_) AllReadyH.nil)
      go_simp
      refine (rnumber_is _ (n := ny2) (hHeld.2.reads _ (.head _)) (by omega) (pv) (by omega)).mono ?_
      rintro e uy3 ⟨Ay3, ny3, cy3, rfl, hry3, hny3, hby3⟩
      replace hny3 : ny3 ≤ ny2 + 10 := hny3
      refine hK.out _ _ (hHeld.step hby3) (fun hHeld => ?_)
      clear hK K
      replace hHeld := hHeld.add hry3
      refine wpAnyH_stronger (S' := Bk w [(q, #[.int .i64 (ps : Int), .int .i64 (pi : Int), .int .i64 (pv : Int), .int .u8 (pz : Int)], 30), (g, #[.int .i64 (l : Int), .int .i64 (s : Int), .int .u8 (o : Int), .int .i64 (er : Int), .slice (some ia) m mc, .slice B n c, .int .i64 (room : Int)], 34)] [(Ay3, ny3, D ++ encI (L.take k) ++ dig ps ++ dig pi ++ dig pv), (Ay2, ny2, D ++ encI (L.take k) ++ dig ps ++ dig pi), (Ay1, ny1, D ++ encI (L.take k) ++ dig ps), (A, r, D ++ encI (L.take k)), (B, n, bs)] [(some ia, m, L)]) (fun _ h => h.less) _ _ _ _ ?_
      clear hry3 hby3
      try simp only [Act.put, List.setIfInBounds_toArray, List.set_cons_zero, List.set_cons_succ]
      refine wpAnyH_ready (rs := [13]) (by as_aux_lemma => kernel_rfl) (by simp) (AllReadyH.cons (o := ⟨some 53, _, _, _, _, _⟩) rfl (fun K hK => ?_) AllReadyH.nil)
      go_simp
      refine (rnumber_is _ (n := ny3) (hHeld.2.reads _ (.head _)) (by omega) (pz) (by omega)).mono ?_
      rintro e uy4 ⟨Ay4, ny4, cy4, rfl, hry4, hny4, hby4⟩
      replace hny4 : ny4 ≤ ny3 + 10 := hny4
      refine hK.out _ _ (hHeld.step hby4) (fun hHeld => ?_)
      clear hK K
      replace hHeld := hHeld.add hry4
      refine wpAnyH_stronger (S' := Bk w [(q, #[.int .i64 (ps : Int), .int .i64 (pi : Int), .int .i64 (pv : Int), .int .u8 (pz : Int)], 30), (g, #[.int .i64 (l : Int), .int .i64 (s : Int), .int .u8 (o : Int), .int .i64 (er : Int), .slice (some ia) m mc, .slice B n c, .int .i64 (room : Int)], 34)] [(Ay4, ny4, D ++ encI (L.take k) ++ dig ps ++ dig pi ++ dig pv ++ dig pz), (Ay3, ny3, D ++ encI (L.take k) ++ dig ps ++ dig pi ++ dig pv), (Ay2, ny2, D ++ encI (L.take k) ++ dig ps ++ dig pi), (Ay1, ny1, D ++ encI (L.take k) ++ dig ps), (A, r, D ++ encI (L.take k)), (B, n, bs)] [(some ia, m, L)]) (fun _ h => h.less) _ _ _ _ ?_
      clear hry4 hby4
      try simp only [Act.put, List.setIfInBounds_toArray, List.set_cons_zero, List.set_cons_succ]
      refine wpAnyH_take (i := 14) (oi := ⟨some 3, _, _, _, _, _⟩) (v := ?_) rfl (by kernel_rfl) (by kernel_rfl) (by kernel_rfl) (fun _ _ _ h => h) (Or.inl ⟨by rfl, ?_⟩) (by assumption) ?_
      rotate_left
      · intro w hSw
        (try dsimp only at hSw)
        go_simp
        all_goals (with_reducible rfl)
      try simp only [Act.put, List.setIfInBounds_toArray, List.set_cons_zero, List.set_cons_succ]
      refine wpAnyH_done (by kernel_rfl) ?_ _
      have HB := Lib.hid hHeld
      clear hHeld
      have e5 : D ++ encI (L.take k) ++ dig ps ++ dig pi ++ dig pv ++ dig pz = D ++ encI (L.take (k + 1)) := by
        rw [take_snoc' HT.out.1, encI_snoc]
        simp [encN, infNs, List.append_assoc]
      have HF := Lib.hid (show Bk w [(g, #[.int .i64 (l : Int), .int .i64 (s : Int), .int .u8 (o : Int), .int .i64 (er : Int), .slice (some ia) m mc, .slice B n c, .int .i64 (room : Int)], 34)] [(Ay4, ny4, D ++ encI (L.take (k + 1))), (B, n, bs)] [(some ia, m, L)] uy4 from e5 ▸ (HB.out.re (R' := [(g, #[.int .i64 (l : Int), .int .i64 (s : Int), .int .u8 (o : Int), .int .i64 (er : Int), .slice (some ia) m mc, .slice B n c, .int .i64 (room : Int)], 34)]) (B' := [(Ay4, ny4, D ++ encI (L.take k) ++ dig ps ++ dig pi ++ dig pv ++ dig pz), (B, n, bs)]) (by simp) (by simp)))
      clear HB e5
      go_wp2
      go_roundw
      case rel => exact ⟨k + 1, ny4, Ay4, cy4, by have := HT.out.2; omega, by go_num, rfl, by omega, HF.out⟩
      case measure => have := HT.out.2; simp [Go.RowKit.intOf]; omega
    · obtain rfl : k = m := by omega
      go_wp2_with fail
      refine (rblob_any A r _ _ B n c bs wr (HK.out.2.reads _ (.head _)) (HK.out.2.reads _ (.tail _ (.head _))) (by omega) (by omega)).mono ?_
      rintro e u9 ⟨A9, c9, rfl, hr9, hb9⟩
      go_wp2
      go_ret
      have hd := dig_length n
      have e6 : D ++ encI (L.take k) ++ dig n ++ bs = encT ⟨l, s, o, er, L, bs, room⟩ := by
        rw [← hD, List.take_of_length_le (by rw [hlm.out]; exact Nat.le_refl _)]
        unfold encT blobB encN telNs
        simp only [hlen.out, hlm.out, List.flatMap_cons, List.flatMap_nil, Int.toNat_natCast, List.append_assoc, List.append_nil]
        rfl
      rw [e6] at hr9
      exact ⟨A9, _, c9, rfl, hr9, by omega, (HK.out.step hb9).1⟩
end
end Go.Proofs.Ytmiapegecoaccaa
