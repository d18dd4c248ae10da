/- Unset; Set. -/
import Derived.Test.YtncjbohpaanpaaaClkD
namespace Go.Proofs.Ytncjbohpaanpaaa
open Go.RowKit Go.Coop Go.Maps
set_option maxRecDepth 100000
/-- what a call upon a clock leaves -/
def CkDid (w : World) (B g : Nat) (A : Option Addr) (c : Nat) (S' : CS) (r : Value) (e : Ending) (w' : World) : Prop :=
  e = .returned r ∧ But (Nb g A c) w w' ∧ ∃ A' cap', ClkAt w' B g A' cap' c S' ∧ (A'.map (·.block) = A.map (·.block) ∨ ∃ k, w.heap.size ≤ k ∧ A'.map (·.block) = some k)
section
variable (w : World) {B g c cap : Nat} {A : Option Addr} {S : CS}
theorem CkDid.same {w w' : World} (h : ClkAt w B g A cap c S) (hb : Below w.heap.size w w') (r : Value) : CkDid w B g A c S r (.returned r) w' :=
  ⟨rfl, But.of_below hb, A, cap, h.below hb, .inl rfl⟩
theorem unset_none {p : Option Addr} (h : NoC w p) (i : Int) : Calls Try.prog 12 #[.pointer p, .int .i64 i] w fun e w' => e = .returned (.bool false) ∧ w = w' := by
  have H := Lib.hid h
  clear h
  go_enter Try.func12, Try.ntmps12
  go_wp2_with (go_at_call 18; refine (due_none _ H.out i).mono ?_; rintro e w' ⟨rfl, rfl⟩)
  go_ret
  exact ⟨rfl, rfl⟩
theorem unset_out (h : ClkAt w B g A cap c S) {i : Int} (h1 : -9223372036854775808 ≤ i) (h2 : i ≤ 9223372036854775807) (hf : S.find i = none) : Calls Try.prog 12 #[.pointer (some ⟨g, 0, none⟩), .int .i64 i] w fun e w' => e = .returned (.bool false) ∧ w = w' := by
  have hd := due_is w h h1 h2
  rw [hf] at hd
  have H := Lib.hid hd
  clear h h1 h2 hf hd
  go_enter Try.func12, Try.ntmps12
  go_wp2_with fail
  refine H.out.mono ?_
  rintro e w' ⟨rfl, rfl⟩
  go_wp2
  go_ret
  exact ⟨rfl, rfl⟩
theorem unset_is (h : ClkAt w B g A cap c S) {i d : Int} (h1 : -9223372036854775808 ≤ i) (h2 : i ≤ 9223372036854775807) (hf : S.find i = some d) : Calls Try.prog 12 #[.pointer (some ⟨g, 0, none⟩), .int .i64 i] w (CkDid w B g A c (S.unset i) (.bool true)) := by
  have hd := due_is w h h1 h2
  rw [hf] at hd
  have hm := findD_some hf
  obtain ⟨D, hr, hD⟩ := h.raw
  have hlen : S.L.length ≤ 65536 := by have := h.ok.len; have := h.ok.m2; omega
  have hpl := place_is w hr h.ok.srt (by omega) ⟨d, i⟩
  have hat := h.ok.srt.at_ hm
  have hlt := (List.getElem?_eq_some_iff.1 hat).1
  have hdel := del_at h.ok.nod hat
  obtain ⟨p, hp⟩ : ∃ p, placeOf ⟨d, i⟩ S.L = p := ⟨_, rfl⟩
  rw [hp] at hpl hat hlt hdel
  obtain ⟨m, hm1⟩ : ∃ m, S.L.length = m + 1 := ⟨S.L.length - 1, by omega⟩
  obtain ⟨p1, hp1⟩ : ∃ p1, p + 1 = p1 := ⟨_, rfl⟩
  rw [hp1] at hdel
  have hwr : IntKind.i64.wrap ((p : Int) + 1) = (p1 : Int) := (IntWalk.i64_in _ (by omega)).trans (by omega)
  have HD := Lib.hid (And.intro hd (And.intro hpl (And.intro hr (And.intro hD h))))
  have HM := Lib.hid (And.intro hlen (And.intro hlt (And.intro hm1 (And.intro hp1 (And.intro hdel (key3 h1 h2))))))
  clear h h1 h2 hf hd hm hr hD hlen hpl hat hlt hdel hp hm1 hp1
  go_enter Try.func12, Try.ntmps12
  go_wp2_with fail
  refine HD.out.1.mono ?_
  rintro e w' ⟨rfl, rfl⟩
  go_wp2_with fail
  refine HD.out.2.1.mono ?_
  rintro e w1 ⟨rfl, hB1⟩
  have hr1 := HD.out.2.2.1.below hB1
  have c4 := hr1.c4
  have HR1 := Lib.hid (And.intro hr1 hB1)
  clear hr1 hB1
  go_wp2_with fail
  refine (delete_is w1 HR1.out.1.row rfl (by have := HM.out.1; omega) HM.out.2.1 HM.out.2.2.2.1 HM.out.2.2.1).mono ?_
  rintro e w2 ⟨A', c', rfl, hrow, hb2, hA⟩
  have hblk := hb2.cells HR1.out.1.blk (fun hk => HR1.out.1.Ag (by simpa using hk))
  have c42 := cell_of_row _ g 4 _ 57 (0, 0) hblk
  have f42 := frozen_of_row w2 g 4 _ 57 hblk
  simp at c42
  have hl2 : (S.L.take p ++ S.L.drop p1).length = m := by
    have := hrow.len
    rw [tvs_len] at this
    omega
  obtain ⟨hr3, hb3⟩ := HR1.out.1.row_ hl2 hrow hb2 (by simp) hA
  obtain ⟨w3, hw3⟩ : ∃ w3, w2.setCell ⟨g, 4, none⟩ (.slice A' m c') = w3 := ⟨_, rfl⟩
  rw [hw3] at hr3 hb3
  have c33 := hr3.c3
  have HR3 := Lib.hid (And.intro hr3 (And.intro hb3 hA))
  clear c4 hrow hb2 hA hblk hl2 hr3 hb3
  go_wp2_with (refine wpList_delete_own _ rfl _ _ 55 3 rfl 2 (Maps.int_keyed Try.underlying3) Try.underlying55 (plainElem Try.prog 2) c 65537 D rfl HR3.out.1.map _ _ rfl HM.out.2.2.2.2.2 ?_)
  intro w4 hown4 hg4
  have HW4 := Lib.hid (And.intro hown4 hg4.grown)
  clear hown4 hg4 c33 c42 f42
  go_wp2
  go_ret
  have hb4 := grown_but HW4.out.2
  have hr4 := HR3.out.1.map_ HW4.out.1 hb4
  have e : (S.unset i).L = S.L.take p ++ S.L.drop p1 := HM.out.2.2.2.2.1
  refine ⟨rfl, (But.of_below HR1.out.2).trans (HR3.out.2.1.trans (hb4.mono (by simp [Nb]))), A', c', ⟨CS.unset_ok HD.out.2.2.2.2.ok i, _, by rw [e]; exact hr4, ?_⟩, ?_⟩
  · refine HD.out.2.2.2.1.del (CS.find_unset S i) (fun j hj => ?_)
    refine findD_congr HD.out.2.2.2.2.ok.nod (HD.out.2.2.2.2.ok.nod.del i) (fun t ht => ?_)
    rw [mem_del]
    exact ⟨fun h => ⟨h, by rw [ht]; exact hj⟩, fun h => h.1⟩
  · rcases HR3.out.2.2 with e | ⟨k, hk, e⟩
    · exact .inl e
    · exact .inr ⟨k, by have := HR1.out.2.size; omega, e⟩
theorem unset_any (h : ClkAt w B g A cap c S) {i : Int} (h1 : -9223372036854775808 ≤ i) (h2 : i ≤ 9223372036854775807) : Calls Try.prog 12 #[.pointer (some ⟨g, 0, none⟩), .int .i64 i] w (CkDid w B g A c (S.unset i) (.bool (S.find i).isSome)) := by
  cases hf : S.find i with
  | none =>
    rw [CS.unset_none hf]
    exact (unset_out w h h1 h2 hf).mono fun e w' ⟨he, hw⟩ => by subst he hw; exact CkDid.same h (Below.refl _ _) _
  | some d => exact unset_is w h h1 h2 hf
end
end Go.Proofs.Ytncjbohpaanpaaa
