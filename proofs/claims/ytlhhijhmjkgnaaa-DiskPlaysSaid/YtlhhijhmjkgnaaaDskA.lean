/- The small methods of a disk: made, up, has, operate, empty, Size, Down, Arm. -/
import Derived.Test.YtlhhijhmjkgnaaaDskM
import Derived.Deep.QuietTactic
import Derived.BigQuiet
namespace Go.Proofs.Ytlhhijhmjkgnaaa
open Go.RowKit Go.Coop
set_option maxRecDepth 100000

/-- no disk of New's -/
def NoD (w : World) (p : Option Addr) : Prop := p = none ∨ ∃ g, p = some ⟨g, 0, none⟩ ∧ w.cell? ⟨g, 0, none⟩ = some (.slice none 0 0)
theorem NoD.below {w w' : World} {p : Option Addr} {B : Nat} (h : NoD w p) (hb : Below B w w') (hB : w.heap.size ≤ B) : NoD w' p := by
  rcases h with h | ⟨g, h, hc⟩
  · exact .inl h
  · exact .inr ⟨g, h, (hb.cell (by have := block_lt_of_cell hc; simp at this; show g < B; omega)).trans hc⟩

section
variable (w : World) {g m c : Nat} {S : DS}
theorem made_none {p : Option Addr} (h : NoD w p) : Calls Try.prog 37 #[.pointer p] w fun e w' => e = .returned (.bool false) ∧ w = w' := by
  rcases h with rfl | ⟨g, rfl, hc⟩
  · go_enter Try.func37, Try.ntmps37
    go_wp2
    go_ret
    exact ⟨rfl, rfl⟩
  · go_enter Try.func37, Try.ntmps37
    go_wp2
    go_ret
    exact ⟨rfl, rfl⟩
theorem made_yes (h : DiskAt w g m c S) : Calls Try.prog 37 #[.pointer (some ⟨g, 0, none⟩)] w fun e w' => e = .returned (.bool true) ∧ w = w' := by
  have hc := h.c0
  clear h
  go_enter Try.func37, Try.ntmps37
  go_wp2
  go_ret
  exact ⟨rfl, rfl⟩
theorem up_none {p : Option Addr} (h : NoD w p) : Calls Try.prog 38 #[.pointer p] w fun e w' => e = .returned (.int .i64 1) ∧ w = w' := by
  have H := Lib.hid h
  clear h
  go_enter Try.func38, Try.ntmps38
  go_wp2_with (go_at_call 37; refine (made_none _ H.out).mono ?_; rintro e w' ⟨rfl, rfl⟩)
  go_ret
  exact ⟨rfl, rfl⟩
theorem up_yes (h : DiskAt w g m c S) (hd : S.down = false) : Calls Try.prog 38 #[.pointer (some ⟨g, 0, none⟩)] w fun e w' => e = .returned (.int .i64 0) ∧ w = w' := by
  have hc := h.c4
  rw [hd] at hc
  have H := Lib.hid h
  clear h hd
  go_enter Try.func38, Try.ntmps38
  go_wp2_with (go_at_call 37; refine (made_yes _ H.out).mono ?_; rintro e w' ⟨rfl, rfl⟩)
  go_ret
  exact ⟨rfl, rfl⟩
theorem up_down (h : DiskAt w g m c S) (hd : S.down = true) : Calls Try.prog 38 #[.pointer (some ⟨g, 0, none⟩)] w fun e w' => e = .returned (.int .i64 15) ∧ w = w' := by
  have hc := h.c4
  rw [hd] at hc
  have H := Lib.hid h
  clear h hd
  go_enter Try.func38, Try.ntmps38
  go_wp2_with (go_at_call 37; refine (made_yes _ H.out).mono ?_; rintro e w' ⟨rfl, rfl⟩)
  go_ret
  exact ⟨rfl, rfl⟩
theorem has_yes (h : DiskAt w g m c S) {i : Nat} (hi : i < S.n) : Calls Try.prog 39 #[.pointer (some ⟨g, 0, none⟩), .int .i64 (i : Int)] w fun e w' => e = .returned (.bool true) ∧ w = w' := by
  have hc := h.c0
  clear h
  go_enter Try.func39, Try.ntmps39
  go_wp2
  all_goals first | (exfalso; omega) | skip
  all_goals go_ret
  all_goals first | exact ⟨rfl, rfl⟩ | (refine ⟨?_, rfl⟩; simp; omega)
theorem has_no (h : DiskAt w g m c S) {i : Int} (hi : i < 0 ∨ (S.n : Int) ≤ i) : Calls Try.prog 39 #[.pointer (some ⟨g, 0, none⟩), .int .i64 i] w fun e w' => e = .returned (.bool false) ∧ w = w' := by
  have hc := h.c0
  clear h
  go_enter Try.func39, Try.ntmps39
  go_wp2
  all_goals first | (exfalso; omega) | skip
  all_goals go_ret
  all_goals first | exact ⟨rfl, rfl⟩ | (refine ⟨?_, rfl⟩; simp; omega)
theorem operate_fails (h : DiskAt w g m c S) (hf : S.fails = true) : Calls Try.prog 40 #[.pointer (some ⟨g, 0, none⟩)] w fun e w' => e = .returned (.int .i64 15) ∧ DiskAt w' g m c S.failed ∧ But [g] w w' := by
  have h2 := h.c2
  have h3 := h.c3
  have hf' : S.armed = true ∧ S.left = 0 := by simpa [DS.fails] using hf
  rw [hf'.1] at h2
  rw [hf'.2] at h3
  have f2 := h.fr 2
  have f4 := h.fr 4
  have c4 := h.c4
  have H := Lib.hid h
  clear h hf hf'
  go_enter Try.func40, Try.ntmps40
  go_wp2
  go_ret
  exact ⟨rfl, (H.out.armed_ false).down_ true, ((But.refl _ _).setCell (by simp) _).setCell (by simp) _⟩
theorem operate_goes (h : DiskAt w g m c S) (hf : S.fails = false) : Calls Try.prog 40 #[.pointer (some ⟨g, 0, none⟩)] w fun e w' => e = .returned (.int .i64 0) ∧ DiskAt w' g m c S.took ∧ But [g] w w' := by
  have h2 := h.c2
  have h3 := h.c3
  have f3 := h.fr 3
  have hl := h.ok.left
  have H := Lib.hid h
  cases ha : S.armed
  · rw [ha] at h2
    have HT : Hid (S.took = S) := by show S.took = S; unfold DS.took; rw [ha]; cases S; simp_all
    clear h hf ha
    go_enter Try.func40, Try.ntmps40
    go_wp2
    go_ret
    exact ⟨rfl, by rw [HT.out]; exact H.out, But.refl _ _⟩
  · rw [ha] at h2
    have hn : S.left ≠ 0 := by intro e; simp [DS.fails, ha, e] at hf
    obtain ⟨k, hk⟩ : ∃ k, S.left = k + 1 := ⟨S.left - 1, by omega⟩
    rw [hk] at h3
    have HT : Hid (S.took = { S with left := k }) := by show S.took = _; unfold DS.took; rw [ha, hk]; simp
    have hkl : k < 9223372036854775807 := by omega
    have e0 : ((k + 1 : Nat) : Int) = (k : Int) + 1 := by omega
    rw [e0] at h3
    clear h hf ha hn hk hl e0
    go_enter Try.func40, Try.ntmps40
    go_wp2
    all_goals first | (exfalso; omega) | skip
    go_ret
    refine ⟨rfl, ?_, (But.refl _ _).setCell (by simp) _⟩
    rw [HT.out]
    have := H.out.left_ (n := k) (by omega)
    simpa using this
theorem empty_any (h : DiskAt w g m c S) : Calls Try.prog 41 #[.pointer (some ⟨g, 0, none⟩)] w fun e w' => e = .returned (.tuple #[]) ∧ DiskAt w' g m w.heap.size { S with cache := fun _ => none } ∧ But [g] w w' := by
  have h1 := h.c1
  have f1 := h.fr 1
  have hg := h.g_lt
  have H := Lib.hid h
  have hmm := @run_makeMap Try.prog
  clear h
  go_enter Try.func41, Try.ntmps41
  go_wp2
  go_end0
  rw [← World.setCell_alloc_past _ _ _ _ hg]
  exact ⟨rfl, H.out.empty_, ((But.refl [g] w).alloc _).setCell (by simp) _⟩
theorem size_none {p : Option Addr} (h : NoD w p) : Calls Try.prog 12 #[.pointer p] w fun e w' => e = .returned (.int .i64 0) ∧ w = w' := by
  have H := Lib.hid h
  clear h
  go_enter Try.func12, Try.ntmps12
  go_wp2_with (go_at_call 37; refine (made_none _ H.out).mono ?_; rintro e w' ⟨rfl, rfl⟩)
  go_ret
  exact ⟨rfl, rfl⟩
theorem size_yes (h : DiskAt w g m c S) : Calls Try.prog 12 #[.pointer (some ⟨g, 0, none⟩)] w fun e w' => e = .returned (.int .i64 (S.n : Int)) ∧ w = w' := by
  have hc := h.c0
  have H := Lib.hid h
  clear h
  go_enter Try.func12, Try.ntmps12
  go_wp2_with (go_at_call 37; refine (made_yes _ H.out).mono ?_; rintro e w' ⟨rfl, rfl⟩)
  go_ret
  exact ⟨rfl, rfl⟩
theorem down_none {p : Option Addr} (h : NoD w p) : Calls Try.prog 31 #[.pointer p] w fun e w' => e = .returned (.bool false) ∧ w = w' := by
  have H := Lib.hid h
  clear h
  go_enter Try.func31, Try.ntmps31
  go_wp2_with (go_at_call 38; refine (up_none _ H.out).mono ?_; rintro e w' ⟨rfl, rfl⟩)
  go_ret
  exact ⟨rfl, rfl⟩
theorem down_yes (h : DiskAt w g m c S) : Calls Try.prog 31 #[.pointer (some ⟨g, 0, none⟩)] w fun e w' => e = .returned (.bool S.down) ∧ w = w' := by
  have H := Lib.hid h
  clear h
  cases hd : S.down
  · have HD := Lib.hid hd
    clear hd
    go_enter Try.func31, Try.ntmps31
    go_wp2_with (go_at_call 38; refine (up_yes _ H.out HD.out).mono ?_; rintro e w' ⟨rfl, rfl⟩)
    go_ret
    exact ⟨rfl, rfl⟩
  · have HD := Lib.hid hd
    clear hd
    go_enter Try.func31, Try.ntmps31
    go_wp2_with (go_at_call 38; refine (up_down _ H.out HD.out).mono ?_; rintro e w' ⟨rfl, rfl⟩)
    go_ret
    exact ⟨rfl, rfl⟩
theorem arm_none {p : Option Addr} (h : NoD w p) (n : Int) : Calls Try.prog 19 #[.pointer p, .int .i64 n] w fun e w' => e = .returned (.tuple #[]) ∧ w = w' := by
  have H := Lib.hid h
  clear h
  go_enter Try.func19, Try.ntmps19
  go_wp2_with (go_at_call 38; refine (up_none _ H.out).mono ?_; rintro e w' ⟨rfl, rfl⟩)
  exact bodyPost_ret (v := .tuple #[]) (by simp [results, Try.results19, go_sem]) rfl ⟨rfl, rfl⟩
theorem arm_down (h : DiskAt w g m c S) (hd : S.down = true) (n : Int) : Calls Try.prog 19 #[.pointer (some ⟨g, 0, none⟩), .int .i64 n] w fun e w' => e = .returned (.tuple #[]) ∧ w = w' := by
  have H := Lib.hid h
  have HD := Lib.hid hd
  clear h hd
  go_enter Try.func19, Try.ntmps19
  go_wp2_with (go_at_call 38; refine (up_down _ H.out HD.out).mono ?_; rintro e w' ⟨rfl, rfl⟩)
  exact bodyPost_ret (v := .tuple #[]) (by simp [results, Try.results19, go_sem]) rfl ⟨rfl, rfl⟩
theorem arm_up (h : DiskAt w g m c S) (hd : S.down = false) (n : Int) (hn : n ≤ 9223372036854775807) : Calls Try.prog 19 #[.pointer (some ⟨g, 0, none⟩), .int .i64 n] w fun e w' => e = .returned (.tuple #[]) ∧ DiskAt w' g m c (S.armedBy n.toNat) ∧ But [g] w w' := by
  have H := Lib.hid h
  have HD := Lib.hid hd
  have f2 := h.fr 2
  have f3 := h.fr 3
  have c2 := h.c2
  have c3 := h.c3
  have HN := Lib.hid hn
  clear h hd hn
  go_enter Try.func19, Try.ntmps19
  go_wp2_with (go_at_call 38; refine (up_yes _ H.out HD.out).mono ?_; rintro e w' ⟨rfl, rfl⟩)
  all_goals go_end0
  all_goals refine ⟨rfl, ?_, ((But.refl _ _).setCell (by simp) _).setCell (by simp) _⟩
  all_goals have hx := (H.out.armed_ true).left_ (n := n.toNat) (by have := HN.out; omega)
  · have e : ((n.toNat : Nat) : Int) = 0 := by omega
    rw [e] at hx
    exact hx
  · have e : ((n.toNat : Nat) : Int) = n := by omega
    rw [e] at hx
    exact hx
end
end Go.Proofs.Ytlhhijhmjkgnaaa
