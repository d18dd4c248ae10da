/- The reference's number, askBytes. -/
import Derived.Test.YtmiapegecoaccaaTelB
import Derived.Test.YtmiapegecoaccaaLawA
import Derived.Test.YtmiapegecoaccaaRefBlob
import Derived.Test.YtmiapegecoaccaaRefUns
namespace Go.Proofs.Ytmiapegecoaccaa
open Go.RowKit Go.Coop
set_option maxRecDepth 100000
theorem wpAnyH_stronger {P : Program} {ops : Array Oper} {Q : Exit → Act → World → Prop} {md : Region.Mode} {S S' : World → Prop} (h : ∀ w, S' w → S w) :
    ∀ (fuel : Nat) (listed : Array Bool) (a : Act) (w : World), wpAnyH P md ops Q S' fuel listed a w → wpAnyH P md ops Q S fuel listed a w
  | 0, _, _, _, h' => h'
  | fuel + 1, _, _, _, h' => ⟨h'.1, fun i hi => wpOp_mono (fun a' w' h3 => ⟨h w' h3.1, wpAnyH_stronger h fuel _ a' w' h3.2⟩) (h'.2 i hi)⟩
/-- bytes that were made, of at most that many -/
def Made (w : World) (l : List UInt8) (m : Nat) (e : Ending) (w' : World) : Prop := ∃ A n c, e = .returned (.slice A n c) ∧ Rd w' A n l ∧ n ≤ m ∧ Below w.heap.size w w'
theorem rd_one8 (w : World) (x : UInt8) : Rd (w.alloc (.cells #[.int .u8 (x.toNat : Int)] 5)) (some ⟨w.heap.size, 0, none⟩) 1 [x] :=
  Rd.new w [x] _ 5 (0, 0) fun j c hj => by
    match j, hj with
    | 0, hj => simp at hj; subst hj; rfl
/-- what was there is there, and what is kept is kept -/
def Bk (w : World) (R : List (Nat × Array Value × TypeId)) (B : List (Option Addr × Nat × List UInt8)) (I : List (Option Addr × Nat × List InfP)) (u : World) : Prop := Below w.heap.size w u ∧ Keep u R B I []
section
variable {w u u' : World} {R : List (Nat × Array Value × TypeId)} {B : List (Option Addr × Nat × List UInt8)} {I : List (Option Addr × Nat × List InfP)}
theorem Bk.start (w : World) : Bk w [] [] [] w := ⟨Below.refl _ _, Keep.start w⟩
theorem Bk.drew (h : Bk w R B I u) : Bk w R B I u.drew := ⟨h.1.drew, h.2.drew⟩
theorem Bk.step (h : Bk w R B I u) (hb : Below u.heap.size u u') : Bk w R B I u' := ⟨h.1.trans (hb.mono h.1.size), h.2.below hb (Nat.le_refl _)⟩
theorem Bk.add (h : Bk w R B I u) {A : Option Addr} {n : Nat} {l : List UInt8} (hr : Rd u A n l) : Bk w R ((A, n, l) :: B) I u := ⟨h.1, h.2.read hr⟩
theorem Bk.row (h : Bk w R B I u) {g : Nat} {cs : Array Value} {T : TypeId} (hr : Row u g cs T) : Bk w ((g, cs, T) :: R) B I u := ⟨h.1, h.2.row hr⟩
theorem Bk.il (h : Bk w R B I u) {A : Option Addr} {n : Nat} {l : List InfP} (hr : IL u A n l) : Bk w R B ((A, n, l) :: I) u := ⟨h.1, h.2.il hr⟩
theorem Bk.less {b : Option Addr × Nat × List UInt8} (h : Bk w R (b :: B) I u) : Bk w R B I u := ⟨h.1, h.2.rows, fun p hp => h.2.reads p (.tail _ hp), h.2.ils, h.2.tabs⟩
theorem Bk.lessRow {b : Nat × Array Value × TypeId} (h : Bk w (b :: R) B I u) : Bk w R B I u := ⟨h.1, fun p hp => h.2.rows p (.tail _ hp), h.2.reads, h.2.ils, h.2.tabs⟩
end
section
variable (w : World)
theorem rnumber_is {A : Option Addr} {n c : Nat} {l : List UInt8} (hr : Rd w A n l) (hn : n ≤ 1000000) (y : Nat) (hy : y ≤ 4611686018427387904) : Calls Try.prog 61 #[.slice A n c, .int .i64 (y : Int)] w (Made w (l ++ dig y) (n + 10)) := by
  have hw : IntKind.u64.wrap (y : Int) = (y : Int) := by rw [IntKind.wrap_u64]; omega
  have hd := dig_length y
  go_enter Try.func61, Try.ntmps61
  go_wp2_with fail
  refine (ruint_any A n c l y w hr (by omega) (by omega)).mono ?_
  rintro e w1 ⟨A1, c1, rfl, hr1, hb1⟩
  go_wp2
  go_ret
  exact ⟨A1, _, c1, rfl, hr1, by omega, hb1⟩
set_option maxHeartbeats 2000000 in
theorem askB_is (l s o st i v : Nat) (hl : l ≤ 1099511627776) (hs : s ≤ 1099511627776) (ho : o ≤ 6) (hst : st ≤ 1099511627776) (hi : i ≤ 254) (hv : v ≤ 1099511627776) (bs : List UInt8) {B : Option Addr} {n c : Nat} (hr : Rd w B n bs) (hn : n ≤ 1000000) :
    Calls Try.prog 43 #[.agg #[.int .i64 (l : Int), .int .i64 (s : Int), .int .u8 (o : Int), .int .i64 (st : Int), .int .i64 (i : Int), .int .i64 (v : Int), .slice B n c]] w (Made w (encA ⟨l, s, o, st, i, v, bs⟩) 1000100) := by
  have hlen := Lib.hid hr.len
  obtain ⟨w1, hw1⟩ : ∃ x, w.alloc (.cells #[.int .i64 (l : Int), .int .i64 (s : Int), .int .u8 (o : Int), .int .i64 (st : Int), .int .i64 (i : Int), .int .i64 (v : Int), .slice B n c] 25) = x := ⟨_, rfl⟩
  obtain ⟨hb1, hx1⟩ := box_new hw1
  obtain ⟨g, hg⟩ : ∃ g, w.heap.size = g := ⟨_, rfl⟩
  rw [hg] at hx1
  have HB := Lib.hid ((((Bk.start w).add hr).step hb1).row hx1)
  have hwo : IntKind.i64.wrap (o : Int) = (o : Int) := IntWalk.i64_in _ (by omega)
  clear hr hb1 hx1
  go_enter Try.func43, Try.ntmps43
  go_wp2_with fail
  (try rw [hg])
  (try rw [hw1])
  clear hw1
  refine wp_region_held_drew (S := Bk w [(g, #[.int .i64 (l : Int), .int .i64 (s : Int), .int .u8 (o : Int), .int .i64 (st : Int), .int .i64 (i : Int), .int .i64 (v : Int), .slice B n c], 25)] [(B, n, bs)] []) (by kernel_rfl) (HB.out.drew) (fun hHeld => ?_)
  clear HB
  refine wpAnyH_take (i := 1) (oi := ⟨some 5, _, _, _, _, _⟩) (v := ?_) rfl (by kernel_rfl) (by kernel_rfl) (by kernel_rfl) (fun _ _ _ h => h) (Or.inl ⟨by rfl, ?_⟩) (by assumption) ?_
  rotate_left
  · intro w hSw
    (try dsimp only at hSw)
    go_simp
    all_goals (with_reducible rfl)
  try simp only [Act.put, List.setIfInBounds_toArray, List.set_cons_zero, List.set_cons_succ]
  refine wpAnyH_take (i := 2) (oi := ⟨some 6, _, _, _, _, _⟩) (v := ?_) rfl (by kernel_rfl) (by kernel_rfl) (by kernel_rfl) (fun _ _ _ h => h) (Or.inl ⟨by rfl, ?_⟩) (by assumption) ?_
  rotate_left
  · intro w hSw
    obtain ⟨l0, l1, l2, l3, l4, l5, l6⟩ := arr7 (hSw.2.rows _ (.head _))
    go_simp
    all_goals (with_reducible rfl)
  try simp only [Act.put, List.setIfInBounds_toArray, List.set_cons_zero, List.set_cons_succ]
  refine wpAnyH_take (i := 4) (oi := ⟨some 8, _, _, _, _, _⟩) (v := ?_) rfl (by kernel_rfl) (by kernel_rfl) (by kernel_rfl) (fun _ _ _ h => h) (Or.inl ⟨by rfl, ?_⟩) (by assumption) ?_
  rotate_left
  · intro w hSw
    (try dsimp only at hSw)
    go_simp
    all_goals (with_reducible rfl)
  try simp only [Act.put, List.setIfInBounds_toArray, List.set_cons_zero, List.set_cons_succ]
  refine wpAnyH_take (i := 5) (oi := ⟨some 9, _, _, _, _, _⟩) (v := ?_) rfl (by kernel_rfl) (by kernel_rfl) (by kernel_rfl) (fun _ _ _ h => h) (Or.inl ⟨by rfl, ?_⟩) (by assumption) ?_
  rotate_left
  · intro w hSw
    obtain ⟨l0, l1, l2, l3, l4, l5, l6⟩ := arr7 (hSw.2.rows _ (.head _))
    go_simp
    all_goals (with_reducible rfl)
  try simp only [Act.put, List.setIfInBounds_toArray, List.set_cons_zero, List.set_cons_succ]
  refine wpAnyH_take (i := 7) (oi := ⟨some 11, _, _, _, _, _⟩) (v := ?_) rfl (by kernel_rfl) (by kernel_rfl) (by kernel_rfl) (fun _ _ _ h => h) (Or.inl ⟨by rfl, ?_⟩) (by assumption) ?_
  rotate_left
  · intro w hSw
    (try dsimp only at hSw)
    go_simp
    all_goals (with_reducible rfl)
  try simp only [Act.put, List.setIfInBounds_toArray, List.set_cons_zero, List.set_cons_succ]
  refine wpAnyH_take (i := 8) (oi := ⟨some 12, _, _, _, _, _⟩) (v := ?_) rfl (by kernel_rfl) (by kernel_rfl) (by kernel_rfl) (fun _ _ _ h => h) (Or.inl ⟨by rfl, ?_⟩) (by assumption) ?_
  rotate_left
  · intro w hSw
    obtain ⟨l0, l1, l2, l3, l4, l5, l6⟩ := arr7 (hSw.2.rows _ (.head _))
    go_simp
    all_goals (with_reducible rfl)
  try simp only [Act.put, List.setIfInBounds_toArray, List.set_cons_zero, List.set_cons_succ]
  refine wpAnyH_take (i := 9) (oi := ⟨some 13, _, _, _, _, _⟩) (v := ?_) rfl (by kernel_rfl) (by kernel_rfl) (by kernel_rfl) (fun _ _ _ h => h) (Or.inl ⟨by rfl, ?_⟩) (by assumption) ?_
  rotate_left
  · intro w hSw
    (try dsimp only at hSw)
    go_simp
    all_goals (with_reducible rfl)
  try simp only [Act.put, List.setIfInBounds_toArray, List.set_cons_zero, List.set_cons_succ]
  have hS1 := rd_one8 w1.drew 1
  have hB1 : Below w1.drew.heap.size w1.drew (w1.drew.alloc (.cells #[.int .u8 1] 5)) := (Below.refl _ _).alloc (Nat.le_refl _) _
  refine wpAnyH_ready (rs := [0]) (by as_aux_lemma => kernel_rfl) (by simp) (AllReadyH.cons (o := ⟨some 4, _, _, _, _, _⟩) rfl (fun K hK => ?_) AllReadyH.nil)
  go_simp
  refine hK.out _ _ (hHeld.step hB1) (fun hHeld => ?_)
  clear hK K
  replace hHeld := hHeld.add hS1
  refine wpAnyH_stronger (S' := Bk w [(g, #[.int .i64 (l : Int), .int .i64 (s : Int), .int .u8 (o : Int), .int .i64 (st : Int), .int .i64 (i : Int), .int .i64 (v : Int), .slice B n c], 25)] [(some ⟨w1.drew.heap.size, 0, none⟩, 1, [1]), (B, n, bs)] []) (fun _ h => h.less) _ _ _ _ ?_
  clear hS1 hB1
  try simp only [Act.put, List.setIfInBounds_toArray, List.set_cons_zero, List.set_cons_succ]
  refine wpAnyH_ready (rs := [3]) (by as_aux_lemma => kernel_rfl) (by simp) (AllReadyH.cons (o := ⟨some 7, _, _, _, _, _⟩) rfl (fun K hK => ?_) AllReadyH.nil)
  go_simp
  refine (rnumber_is _ (n := 1) (hHeld.2.reads _ (.head _)) (by omega) (l) (by omega)).mono ?_
  rintro e u1 ⟨A1, n1, c1, rfl, hr1, hn1, hb1⟩
  replace hn1 : n1 ≤ 1 + 10 := hn1
  refine hK.out _ _ (hHeld.step hb1) (fun hHeld => ?_)
  clear hK K
  replace hHeld := hHeld.add hr1
  refine wpAnyH_stronger (S' := Bk w [(g, #[.int .i64 (l : Int), .int .i64 (s : Int), .int .u8 (o : Int), .int .i64 (st : Int), .int .i64 (i : Int), .int .i64 (v : Int), .slice B n c], 25)] [(A1, n1, [1] ++ dig l), (some ⟨w1.drew.heap.size, 0, none⟩, 1, [1]), (B, n, bs)] []) (fun _ h => h.less) _ _ _ _ ?_
  clear hr1 hb1
  try simp only [Act.put, List.setIfInBounds_toArray, List.set_cons_zero, List.set_cons_succ]
  refine wpAnyH_ready (rs := [6]) (by as_aux_lemma => kernel_rfl) (by simp) (AllReadyH.cons (o := ⟨some 10, _, _, _, _, _⟩) rfl (fun K hK => ?_) AllReadyH.nil)
  go_simp
  refine (rnumber_is _ (n := n1) (hHeld.2.reads _ (.head _)) (by omega) (s) (by omega)).mono ?_
  rintro e u2 ⟨A2, n2, c2, rfl, hr2, hn2, hb2⟩
  replace hn2 : n2 ≤ n1 + 10 := hn2
  refine hK.out _ _ (hHeld.step hb2) (fun hHeld => ?_)
  clear hK K
  replace hHeld := hHeld.add hr2
  refine wpAnyH_stronger (S' := Bk w [(g, #[.int .i64 (l : Int), .int .i64 (s : Int), .int .u8 (o : Int), .int .i64 (st : Int), .int .i64 (i : Int), .int .i64 (v : Int), .slice B n c], 25)] [(A2, n2, [1] ++ dig l ++ dig s), (A1, n1, [1] ++ dig l), (some ⟨w1.drew.heap.size, 0, none⟩, 1, [1]), (B, n, bs)] []) (fun _ h => h.less) _ _ _ _ ?_
  clear hr2 hb2
  try simp only [Act.put, List.setIfInBounds_toArray, List.set_cons_zero, List.set_cons_succ]
  refine wpAnyH_ready (rs := [10]) (by as_aux_lemma => kernel_rfl) (by simp) (AllReadyH.cons (o := ⟨some 14, _, _, _, _, _⟩) rfl (fun K hK => ?_) AllReadyH.nil)
  go_simp
  refine (rnumber_is _ (n := n2) (hHeld.2.reads _ (.head _)) (by omega) (o) (by omega)).mono ?_
  rintro e u3 ⟨A3, n3, c3, rfl, hr3, hn3, hb3⟩
  replace hn3 : n3 ≤ n2 + 10 := hn3
  refine hK.out _ _ (hHeld.step hb3) (fun hHeld => ?_)
  clear hK K
  replace hHeld := hHeld.add hr3
  refine wpAnyH_stronger (S' := Bk w [(g, #[.int .i64 (l : Int), .int .i64 (s : Int), .int .u8 (o : Int), .int .i64 (st : Int), .int .i64 (i : Int), .int .i64 (v : Int), .slice B n c], 25)] [(A3, n3, [1] ++ dig l ++ dig s ++ dig o), (A2, n2, [1] ++ dig l ++ dig s), (A1, n1, [1] ++ dig l), (some ⟨w1.drew.heap.size, 0, none⟩, 1, [1]), (B, n, bs)] []) (fun _ h => h.less) _ _ _ _ ?_
  clear hr3 hb3
  try simp only [Act.put, List.setIfInBounds_toArray, List.set_cons_zero, List.set_cons_succ]
  refine wpAnyH_take (i := 11) (oi := ⟨some 3, _, _, _, _, _⟩) (v := ?_) rfl (by kernel_rfl) (by kernel_rfl) (by kernel_rfl) (fun _ _ _ h => h) (Or.inl ⟨by rfl, ?_⟩) (by assumption) ?_
  rotate_left
  · intro w hSw
    (try dsimp only at hSw)
    go_simp
    all_goals (with_reducible rfl)
  try simp only [Act.put, List.setIfInBounds_toArray, List.set_cons_zero, List.set_cons_succ]
  refine wpAnyH_done (by kernel_rfl) ?_ _
  have HB := Lib.hid hHeld
  clear hHeld
  go_wp2_with fail
  refine wp_region_held_drew (S := Bk w [(g, #[.int .i64 (l : Int), .int .i64 (s : Int), .int .u8 (o : Int), .int .i64 (st : Int), .int .i64 (i : Int), .int .i64 (v : Int), .slice B n c], 25)] [(A3, n3, [1] ++ dig l ++ dig s ++ dig o), (A2, n2, [1] ++ dig l ++ dig s), (A1, n1, [1] ++ dig l), (some ⟨w1.drew.heap.size, 0, none⟩, 1, [1]), (B, n, bs)] []) (by kernel_rfl) (HB.out.drew) (fun hHeld => ?_)
  clear HB
  refine wpAnyH_take (i := 0) (oi := ⟨some 15, _, _, _, _, _⟩) (v := ?_) rfl (by kernel_rfl) (by kernel_rfl) (by kernel_rfl) (fun _ _ _ h => h) (Or.inl ⟨by rfl, ?_⟩) (by assumption) ?_
  rotate_left
  · intro w hSw
    (try dsimp only at hSw)
    go_simp
    all_goals (with_reducible rfl)
  try simp only [Act.put, List.setIfInBounds_toArray, List.set_cons_zero, List.set_cons_succ]
  refine wpAnyH_take (i := 1) (oi := ⟨some 16, _, _, _, _, _⟩) (v := ?_) rfl (by kernel_rfl) (by kernel_rfl) (by kernel_rfl) (fun _ _ _ h => h) (Or.inl ⟨by rfl, ?_⟩) (by assumption) ?_
  rotate_left
  · intro w hSw
    (try dsimp only at hSw)
    go_simp
    all_goals (with_reducible rfl)
  try simp only [Act.put, List.setIfInBounds_toArray, List.set_cons_zero, List.set_cons_succ]
  refine wpAnyH_take (i := 2) (oi := ⟨some 17, _, _, _, _, _⟩) (v := ?_) rfl (by kernel_rfl) (by kernel_rfl) (by kernel_rfl) (fun _ _ _ h => h) (Or.inl ⟨by rfl, ?_⟩) (by assumption) ?_
  rotate_left
  · intro w hSw
    obtain ⟨l0, l1, l2, l3, l4, l5, l6⟩ := arr7 (hSw.2.rows _ (.head _))
    go_simp
    all_goals (with_reducible rfl)
  try simp only [Act.put, List.setIfInBounds_toArray, List.set_cons_zero, List.set_cons_succ]
  refine wpAnyH_take (i := 4) (oi := ⟨some 19, _, _, _, _, _⟩) (v := ?_) rfl (by kernel_rfl) (by kernel_rfl) (by kernel_rfl) (fun _ _ _ h => h) (Or.inl ⟨by rfl, ?_⟩) (by assumption) ?_
  rotate_left
  · intro w hSw
    (try dsimp only at hSw)
    go_simp
    all_goals (with_reducible rfl)
  try simp only [Act.put, List.setIfInBounds_toArray, List.set_cons_zero, List.set_cons_succ]
  refine wpAnyH_take (i := 5) (oi := ⟨some 20, _, _, _, _, _⟩) (v := ?_) rfl (by kernel_rfl) (by kernel_rfl) (by kernel_rfl) (fun _ _ _ h => h) (Or.inl ⟨by rfl, ?_⟩) (by assumption) ?_
  rotate_left
  · intro w hSw
    obtain ⟨l0, l1, l2, l3, l4, l5, l6⟩ := arr7 (hSw.2.rows _ (.head _))
    go_simp
    all_goals (with_reducible rfl)
  try simp only [Act.put, List.setIfInBounds_toArray, List.set_cons_zero, List.set_cons_succ]
  refine wpAnyH_take (i := 7) (oi := ⟨some 22, _, _, _, _, _⟩) (v := ?_) rfl (by kernel_rfl) (by kernel_rfl) (by kernel_rfl) (fun _ _ _ h => h) (Or.inl ⟨by rfl, ?_⟩) (by assumption) ?_
  rotate_left
  · intro w hSw
    (try dsimp only at hSw)
    go_simp
    all_goals (with_reducible rfl)
  try simp only [Act.put, List.setIfInBounds_toArray, List.set_cons_zero, List.set_cons_succ]
  refine wpAnyH_take (i := 8) (oi := ⟨some 23, _, _, _, _, _⟩) (v := ?_) rfl (by kernel_rfl) (by kernel_rfl) (by kernel_rfl) (fun _ _ _ h => h) (Or.inl ⟨by rfl, ?_⟩) (by assumption) ?_
  rotate_left
  · intro w hSw
    obtain ⟨l0, l1, l2, l3, l4, l5, l6⟩ := arr7 (hSw.2.rows _ (.head _))
    go_simp
    all_goals (with_reducible rfl)
  try simp only [Act.put, List.setIfInBounds_toArray, List.set_cons_zero, List.set_cons_succ]
  refine wpAnyH_ready (rs := [3]) (by as_aux_lemma => kernel_rfl) (by simp) (AllReadyH.cons (o := ⟨some 18, _, _, _, _, _⟩) rfl (fun K hK => ?_) AllReadyH.nil)
  go_simp
  refine (rnumber_is _ (n := n3) (hHeld.2.reads _ (.head _)) (by omega) (st) (by omega)).mono ?_
  rintro e u4 ⟨A4, n4, c4, rfl, hr4, hn4, hb4⟩
  replace hn4 : n4 ≤ n3 + 10 := hn4
  refine hK.out _ _ (hHeld.step hb4) (fun hHeld => ?_)
  clear hK K
  replace hHeld := hHeld.add hr4
  refine wpAnyH_stronger (S' := Bk w [(g, #[.int .i64 (l : Int), .int .i64 (s : Int), .int .u8 (o : Int), .int .i64 (st : Int), .int .i64 (i : Int), .int .i64 (v : Int), .slice B n c], 25)] [(A4, n4, [1] ++ dig l ++ dig s ++ dig o ++ dig st), (A3, n3, [1] ++ dig l ++ dig s ++ dig o), (A2, n2, [1] ++ dig l ++ dig s), (A1, n1, [1] ++ dig l), (some ⟨w1.drew.heap.size, 0, none⟩, 1, [1]), (B, n, bs)] []) (fun _ h => h.less) _ _ _ _ ?_
  clear hr4 hb4
  try simp only [Act.put, List.setIfInBounds_toArray, List.set_cons_zero, List.set_cons_succ]
  refine wpAnyH_ready (rs := [6]) (by as_aux_lemma => kernel_rfl) (by simp) (AllReadyH.cons (o := ⟨some 21, _, _, _, _, _⟩) rfl (fun K hK => ?_) AllReadyH.nil)
  go_simp
  refine (rnumber_is _ (n := n4) (hHeld.2.reads _ (.head _)) (by omega) (i) (by omega)).mono ?_
  rintro e u5 ⟨A5, n5, c5, rfl, hr5, hn5, hb5⟩
  replace hn5 : n5 ≤ n4 + 10 := hn5
  refine hK.out _ _ (hHeld.step hb5) (fun hHeld => ?_)
  clear hK K
  replace hHeld := hHeld.add hr5
  refine wpAnyH_stronger (S' := Bk w [(g, #[.int .i64 (l : Int), .int .i64 (s : Int), .int .u8 (o : Int), .int .i64 (st : Int), .int .i64 (i : Int), .int .i64 (v : Int), .slice B n c], 25)] [(A5, n5, [1] ++ dig l ++ dig s ++ dig o ++ dig st ++ dig i), (A4, n4, [1] ++ dig l ++ dig s ++ dig o ++ dig st), (A3, n3, [1] ++ dig l ++ dig s ++ dig o), (A2, n2, [1] ++ dig l ++ dig s), (A1, n1, [1] ++ dig l), (some ⟨w1.drew.heap.size, 0, none⟩, 1, [1]), (B, n, bs)] []) (fun _ h => h.less) _ _ _ _ ?_
  clear hr5 hb5
  try simp only [Act.put, List.setIfInBounds_toArray, List.set_cons_zero, List.set_cons_succ]
  refine wpAnyH_ready (rs := [9]) (by as_aux_lemma => kernel_rfl) (by simp) (AllReadyH.cons (o := ⟨some 24, _, _, _, _, _⟩) rfl (fun K hK => ?_) AllReadyH.nil)
  go_simp
  refine (rnumber_is _ (n := n5) (hHeld.2.reads _ (.head _)) (by omega) (v) (by omega)).mono ?_
  rintro e u6 ⟨A6, n6, c6, rfl, hr6, hn6, hb6⟩
  replace hn6 : n6 ≤ n5 + 10 := hn6
  refine hK.out _ _ (hHeld.step hb6) (fun hHeld => ?_)
  clear hK K
  replace hHeld := hHeld.add hr6
  refine wpAnyH_stronger (S' := Bk w [(g, #[.int .i64 (l : Int), .int .i64 (s : Int), .int .u8 (o : Int), .int .i64 (st : Int), .int .i64 (i : Int), .int .i64 (v : Int), .slice B n c], 25)] [(A6, n6, [1] ++ dig l ++ dig s ++ dig o ++ dig st ++ dig i ++ dig v), (A5, n5, [1] ++ dig l ++ dig s ++ dig o ++ dig st ++ dig i), (A4, n4, [1] ++ dig l ++ dig s ++ dig o ++ dig st), (A3, n3, [1] ++ dig l ++ dig s ++ dig o), (A2, n2, [1] ++ dig l ++ dig s), (A1, n1, [1] ++ dig l), (some ⟨w1.drew.heap.size, 0, none⟩, 1, [1]), (B, n, bs)] []) (fun _ h => h.less) _ _ _ _ ?_
  clear hr6 hb6
  try simp only [Act.put, List.setIfInBounds_toArray, List.set_cons_zero, List.set_cons_succ]
  refine wpAnyH_take (i := 10) (oi := ⟨some 3, _, _, _, _, _⟩) (v := ?_) rfl (by kernel_rfl) (by kernel_rfl) (by kernel_rfl) (fun _ _ _ h => h) (Or.inl ⟨by rfl, ?_⟩) (by assumption) ?_
  rotate_left
  · intro w hSw
    (try dsimp only at hSw)
    go_simp
    all_goals (with_reducible rfl)
  try simp only [Act.put, List.setIfInBounds_toArray, List.set_cons_zero, List.set_cons_succ]
  refine wpAnyH_done (by kernel_rfl) ?_ _
  have HB := Lib.hid hHeld
  clear hHeld
  obtain ⟨d0, d1, d2, d3, d4, d5, d6⟩ := arr7 (HB.out.2.rows _ (.head _))
  go_wp2_with fail
  refine (rblob_any _ n6 _ _ B n c bs u6 (HB.out.2.reads _ (.head _)) (HB.out.2.reads _ (.tail _ (.tail _ (.tail _ (.tail _ (.tail _ (.tail _ (.tail _ (.head _))))))))) (by omega) (by omega)).mono ?_
  rintro e u9 ⟨A9, c9, rfl, hr9, hb9⟩
  go_wp2
  go_ret
  have hd := dig_length n
  have e6 : [1] ++ dig l ++ dig s ++ dig o ++ dig st ++ dig i ++ dig v ++ dig n ++ bs = encA ⟨l, s, o, st, i, v, bs⟩ := by
    unfold encA blobB encN askNs
    simp only [hlen.out, List.flatMap_cons, List.flatMap_nil, Int.toNat_natCast, List.append_assoc, List.append_nil]
    rfl
  rw [e6] at hr9
  exact ⟨A9, _, c9, rfl, hr9, by omega, (HB.out.step hb9).1⟩
end
end Go.Proofs.Ytmiapegecoaccaa
