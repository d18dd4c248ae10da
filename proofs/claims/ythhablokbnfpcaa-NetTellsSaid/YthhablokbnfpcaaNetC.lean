/- New; Send; Copy. -/
import Derived.Test.YthhablokbnfpcaaNetB
namespace Go.Proofs.Ythhablokbnfpcaa
open Go.RowKit Go.Coop Go.Maps
set_option maxRecDepth 100000
section
variable (w : World)
theorem new_yes (ends most : Nat) (h1 : 1 ≤ ends) (h2 : ends ≤ 300) (h3 : 1 ≤ most) (h4 : most ≤ 10000) : Calls Try.prog 11 #[.int .i64 (ends : Int), .int .i64 (most : Int)] w fun e w' => e = .returned (.tuple #[.pointer (some ⟨w.heap.size + 1, 0, none⟩), .int .i64 0]) ∧ NetAt w' w.heap.size (w.heap.size + 1) none 0 w.heap.size (NS.new ends most) ∧ Below w.heap.size w w' := by
  have hmm := @run_makeMap Try.prog
  have HN := Lib.hid (NS.new_ok h1 h2 h3 h4)
  go_enter Try.func11, Try.ntmps11
  go_wp2
  all_goals first | (exfalso; omega) | skip
  go_ret2
  have hb1 : Below w.heap.size w (w.alloc (.map #[] 0)) := (Below.refl _ w).alloc (Nat.le_refl _) _
  refine ⟨rfl, ⟨HN.out, _, ⟨by omega, Nat.le_refl _, ?_, OwnK.nil _ _ _ _, ?_⟩, wait_empty _⟩, ?_⟩
  · have e : w.heap.size + 1 = (w.alloc (.map #[] 0)).heap.size := by simp
    rw [e]
    exact heap_alloc_new (w.alloc (.map #[] 0)) _
  · have hm := World.ownsMap_made (H := Value) w Try.prog 3 (plainElem Try.prog 3)
    exact (owns_but hm ((But.refl [] _).alloc _) (by simp)).mono (by omega)
  · exact hb1.alloc (by simp) _
theorem new_no (a m : Int) (h : a < 1 ∨ 300 < a ∨ m < 1 ∨ 10000 < m) : Calls Try.prog 11 #[.int .i64 a, .int .i64 m] w fun e w' => e = .returned (.tuple #[.pointer none, .int .i64 2]) ∧ w = w' := by
  have hmm := @run_makeMap Try.prog
  go_enter Try.func11, Try.ntmps11
  go_wp2
  all_goals first | (exfalso; omega) | skip
  all_goals go_ret2
  all_goals exact ⟨rfl, rfl⟩
variable {B g c cap : Nat} {A : Option Addr} {S : NS}
theorem NetDid.same {w w' : World} (h : NetAt w B g A cap c S) (hb : Below w.heap.size w w') (r : Value) : NetDid w B g A c S r (.returned r) w' :=
  ⟨rfl, But.of_below hb, A, cap, h.below hb, .inl rfl⟩
theorem lay_is (h : NetAt w B g A cap c S) (hBw : B ≤ w.heap.size) (d : Dt) (hd : d.fr < S.ends ∧ d.to < S.ends ∧ d.b.length ≤ 131072) : Calls Try.prog 40 #[.pointer (some ⟨g, 0, none⟩), .agg #[.int .i64 (d.fr : Int), .int .i64 (d.to : Int), SV d.b]] w (NetDid w B g A c (S.lay d) (.int .i64 (S.layE d))) := by
  cases hf : S.full d.to with
  | true =>
    refine (lay_full w h d hd.2.1 hf).mono ?_
    rintro e w' ⟨rfl, hb⟩
    have e1 : S.lay d = S := by simp [NS.lay, hf]
    have e2 : S.layE d = 5 := by simp [NS.layE, hf]
    rw [e1, e2]
    exact NetDid.same h hb _
  | false =>
    have e1 : S.lay d = S.laid d := by simp [NS.lay, hf]
    have e2 : S.layE d = 0 := by simp [NS.layE, hf]
    rw [e1, e2]
    exact lay_goes w h hBw d hd hf
theorem info5 : (Try.prog.info? 5).map (fun i => (i.zero, i.size, i.bytes)) = some (some (.int .u8 0), 1, 1) := by kernel_rfl
theorem send_none {p : Option Addr} (h : NoN w p) (a b v : Value) : Calls Try.prog 12 #[.pointer p, a, b, v] w fun e w' => e = .returned (.int .i64 1) ∧ w = w' := by
  have H := Lib.hid h
  clear h
  go_enter Try.func12, Try.ntmps12
  go_wp2_with (go_at_call 38; refine (made_none _ H.out).mono ?_; rintro e w' ⟨rfl, rfl⟩)
  go_ret
  exact ⟨rfl, rfl⟩
theorem send_is (h : NetAt w B g A cap c S) (hBw : B ≤ w.heap.size) (fr to : Int) {X : Option Addr} {n : Nat} {l : List UInt8} (hr : Rd w X n l) (cx : Nat) : Calls Try.prog 12 #[.pointer (some ⟨g, 0, none⟩), .int .i64 fr, .int .i64 to, .slice X n cx] w (NetDid w B g A c (S.send fr to l) (.int .i64 (S.sendE fr to l))) := by
  have HA := Lib.hid h
  have HR := Lib.hid hr
  have hlen := hr.len
  by_cases hj1 : S.joins fr = true
  · by_cases hj2 : S.joins to = true
    · by_cases hl : n ≤ 131072
      · obtain ⟨f, rfl⟩ : ∃ f : Nat, fr = f := ⟨fr.toNat, by have := NS.joins_iff.1 hj1; omega⟩
        obtain ⟨t, rfl⟩ : ∃ t : Nat, to = t := ⟨to.toNat, by have := NS.joins_iff.1 hj2; omega⟩
        have e1 : S.send f t l = S.lay ⟨f, t, l⟩ := by simp [NS.send, hj1, hj2, hlen, hl]
        have e2 : S.sendE f t l = S.layE ⟨f, t, l⟩ := by simp [NS.sendE, hj1, hj2, hlen, hl]
        rw [e1, e2]
        have hcv := conv_str (P := Try.prog) Try.underlying29 Try.underlying5 Try.underlying9 hr cx
        have hw1 : ¬ (131072 : Int) < (n : Int) := by omega
        have hlay := lay_is w h hBw ⟨f, t, l⟩ ⟨by have := NS.joins_iff.1 hj1; show f < _; omega, by have := NS.joins_iff.1 hj2; show t < _; omega, by show l.length ≤ _; omega⟩
        have HJ := Lib.hid (And.intro hj1 (And.intro hj2 hlay))
        clear h hr hlay hj1 hj2 hl hlen e1 e2
        go_enter Try.func12, Try.ntmps12
        go_wp2_with fail
        refine (made_yes _ HA.out).mono ?_
        rintro e w' ⟨rfl, rfl⟩
        go_wp2_with fail
        refine (joins_is _ HA.out _ HJ.out.1).mono ?_
        rintro e w' ⟨rfl, rfl⟩
        go_wp2_with fail
        refine (joins_is _ HA.out _ HJ.out.2.1).mono ?_
        rintro e w' ⟨rfl, rfl⟩
        go_wp2_with fail
        refine HJ.out.2.2.mono ?_
        rintro e w' ⟨rfl, hD⟩
        have HD := Lib.hid hD
        clear hD
        go_wp2
        go_ret
        exact ⟨rfl, HD.out⟩
      · have e1 : S.send fr to l = S := by simp [NS.send, hj1, hj2, hlen, hl]
        have e2 : S.sendE fr to l = 3 := by simp [NS.sendE, hj1, hj2, hlen, hl]
        rw [e1, e2]
        have hw1 : (131072 : Int) < (n : Int) := by omega
        have HJ := Lib.hid (And.intro hj1 hj2)
        clear h hr hj1 hj2 hl hlen e1 e2
        go_enter Try.func12, Try.ntmps12
        go_wp2_with fail
        refine (made_yes _ HA.out).mono ?_
        rintro e w' ⟨rfl, rfl⟩
        go_wp2_with fail
        refine (joins_is _ HA.out _ HJ.out.1).mono ?_
        rintro e w' ⟨rfl, rfl⟩
        go_wp2_with fail
        refine (joins_is _ HA.out _ HJ.out.2).mono ?_
        rintro e w' ⟨rfl, rfl⟩
        go_wp2
        go_ret
        exact NetDid.same HA.out (Below.refl _ _) _
    · have hj2 : S.joins to = false := by simpa using hj2
      have e1 : S.send fr to l = S := by simp [NS.send, hj2]
      have e2 : S.sendE fr to l = 2 := by simp [NS.sendE, hj2]
      rw [e1, e2]
      have HJ := Lib.hid (And.intro hj1 hj2)
      clear h hr hj1 hj2 hlen e1 e2
      go_enter Try.func12, Try.ntmps12
      go_wp2_with fail
      refine (made_yes _ HA.out).mono ?_
      rintro e w' ⟨rfl, rfl⟩
      go_wp2_with fail
      refine (joins_is _ HA.out _ HJ.out.1).mono ?_
      rintro e w' ⟨rfl, rfl⟩
      go_wp2_with fail
      refine (joins_is _ HA.out _ HJ.out.2).mono ?_
      rintro e w' ⟨rfl, rfl⟩
      go_wp2
      go_ret
      exact NetDid.same HA.out (Below.refl _ _) _
  · have hj1 : S.joins fr = false := by simpa using hj1
    have e1 : S.send fr to l = S := by simp [NS.send, hj1]
    have e2 : S.sendE fr to l = 2 := by simp [NS.sendE, hj1]
    rw [e1, e2]
    have HJ := Lib.hid hj1
    clear h hr hj1 hlen e1 e2
    go_enter Try.func12, Try.ntmps12
    go_wp2_with fail
    refine (made_yes _ HA.out).mono ?_
    rintro e w' ⟨rfl, rfl⟩
    go_wp2_with fail
    refine (joins_is _ HA.out _ HJ.out).mono ?_
    rintro e w' ⟨rfl, rfl⟩
    go_wp2
    go_ret
    exact NetDid.same HA.out (Below.refl _ _) _
theorem copy_none {p : Option Addr} (h : NoN w p) (a : Value) : Calls Try.prog 15 #[.pointer p, a] w fun e w' => e = .returned (.int .i64 1) ∧ w = w' := by
  have H := Lib.hid h
  clear h
  go_enter Try.func15, Try.ntmps15
  go_wp2_with (go_at_call 38; refine (made_none _ H.out).mono ?_; rintro e w' ⟨rfl, rfl⟩)
  go_ret
  exact ⟨rfl, rfl⟩
theorem copy_is (h : NetAt w B g A cap c S) (hBw : B ≤ w.heap.size) (i : Int) : Calls Try.prog 15 #[.pointer (some ⟨g, 0, none⟩), .int .i64 i] w (NetDid w B g A c (S.copy i) (.int .i64 (S.copyE i))) := by
  have HA := Lib.hid h
  cases hl : S.look i with
  | none =>
    have e1 : S.copy i = S := by simp [NS.copy, hl]
    have e2 : S.copyE i = 2 := by simp [NS.copyE, hl]
    rw [e1, e2]
    have HL : Hid ((S.look i).isSome = false) := by rw [hl]; rfl
    clear h hl e1 e2
    go_enter Try.func15, Try.ntmps15
    go_wp2_with fail
    refine (made_yes _ HA.out).mono ?_
    rintro e w' ⟨rfl, rfl⟩
    go_wp2_with fail
    refine (has_is _ HA.out _ HL.out).mono ?_
    rintro e w' ⟨rfl, rfl⟩
    go_wp2
    go_ret
    exact NetDid.same HA.out (Below.refl _ _) _
  | some d =>
    have e1 : S.copy i = S.lay d := by simp [NS.copy, hl]
    have e2 : S.copyE i = S.layE d := by simp [NS.copyE, hl]
    rw [e1, e2]
    have HL : Hid ((S.look i).isSome = true) := by rw [hl]; rfl
    obtain ⟨hi0, hil, hid⟩ := NS.look_lt hl
    obtain ⟨j, rfl⟩ : ∃ j : Nat, i = j := ⟨i.toNat, by omega⟩
    have hid : S.heap[j]? = some d := hid
    obtain ⟨r, rfl, d0, d1, d2⟩ := h.get hid
    have hlay := lay_is w h hBw d (h.ok.its d (NS.look_mem hl))
    have HY := Lib.hid hlay
    have c3 := h.c3
    have hj1 : (0 : Int) ≤ (j : Int) := by omega
    have hj2 : (j : Int) < (S.heap.length : Int) := by have := (List.getElem?_eq_some_iff.1 hid).1; omega
    clear h hl e1 e2 hlay hi0 hil hid
    go_enter Try.func15, Try.ntmps15
    go_wp2_with fail
    refine (made_yes _ HA.out).mono ?_
    rintro e w' ⟨rfl, rfl⟩
    go_wp2_with fail
    refine (has_is _ HA.out _ HL.out).mono ?_
    rintro e w' ⟨rfl, rfl⟩
    go_wp2_with fail
    refine HY.out.mono ?_
    rintro e w' ⟨rfl, hD⟩
    have HD := Lib.hid hD
    clear hD
    go_wp2
    go_ret
    exact ⟨rfl, HD.out⟩
end
end Go.Proofs.Ythhablokbnfpcaa
