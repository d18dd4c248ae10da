/- Set. -/
import Derived.Test.YtncjbohpaanpaaaClkE
import Derived.Deep.RegionHeld
namespace Go.Proofs.Ytncjbohpaanpaaa
open Go.RowKit Go.Coop Go.Maps
set_option maxRecDepth 100000
theorem wpAnyH_stronger {P : Program} {ops : Array Oper} {Q : Exit → Act → World → Prop} {md : Region.Mode} {S S' : World → Prop} (h : ∀ w, S' w → S w) :
    ∀ (fuel : Nat) (listed : Array Bool) (a : Act) (w : World), wpAnyH P md ops Q S' fuel listed a w → wpAnyH P md ops Q S fuel listed a w
  | 0, _, _, _, h' => h'
  | fuel + 1, _, _, _, h' => ⟨h'.1, fun i hi => wpOp_mono (fun a' w' h3 => ⟨h w' h3.1, wpAnyH_stronger h fuel _ a' w' h3.2⟩) (h'.2 i hi)⟩
section
variable (w : World) {B g c cap : Nat} {A : Option Addr} {S : CS}
theorem set_none {p : Option Addr} (h : NoC w p) (i d : Int) : Calls Try.prog 11 #[.pointer p, .int .i64 i, .int .i64 d] w fun e w' => e = .returned (.int .i64 1) ∧ w = w' := by
  have H := Lib.hid h
  clear h
  go_enter Try.func11, Try.ntmps11
  go_wp2_with (go_at_call 30; refine (made_none _ H.out).mono ?_; rintro e w' ⟨rfl, rfl⟩)
  go_ret
  exact ⟨rfl, rfl⟩
theorem set_arg (h : ClkAt w B g A cap c S) (i : Int) {d : Int} (hd : d < 1 ∨ 1152921504606846976 - S.now < d) : Calls Try.prog 11 #[.pointer (some ⟨g, 0, none⟩), .int .i64 i, .int .i64 d] w fun e w' => e = .returned (.int .i64 2) ∧ w = w' := by
  have c2 := h.c2
  have hwr : IntKind.i64.wrap (1152921504606846976 - S.now) = 1152921504606846976 - S.now := IntWalk.i64_in _ (by have := h.ok.n0; have := h.ok.n1; omega)
  have H := Lib.hid h
  clear h
  by_cases h1 : d < 1
  · clear hd hwr
    go_enter Try.func11, Try.ntmps11
    go_wp2_with (go_at_call 30; refine (made_yes _ H.out).mono ?_; rintro e w' ⟨rfl, rfl⟩)
    go_ret
    exact ⟨rfl, rfl⟩
  · have hd2 : 1152921504606846976 - S.now < d := by omega
    clear hd
    go_enter Try.func11, Try.ntmps11
    go_wp2_with (go_at_call 30; refine (made_yes _ H.out).mono ?_; rintro e w' ⟨rfl, rfl⟩)
    go_ret
    exact ⟨rfl, rfl⟩
theorem set_full (h : ClkAt w B g A cap c S) {i d : Int} (hi1 : -9223372036854775808 ≤ i) (hi2 : i ≤ 9223372036854775807) (h1 : 1 ≤ d) (h2 : S.now + d ≤ 1152921504606846976) (hf : S.find i = none) (hl : S.most ≤ S.L.length) : Calls Try.prog 11 #[.pointer (some ⟨g, 0, none⟩), .int .i64 i, .int .i64 d] w fun e w' => e = .returned (.int .i64 71) ∧ Below w.heap.size w w' := by
  have mixed : Try.prog.follows Departure.mixedOrders = true := by kernel_rfl
  have c1 := h.c1
  have c2 := h.c2
  have c3 := h.c3
  have hwr : IntKind.i64.wrap (1152921504606846976 - S.now) = 1152921504606846976 - S.now := IntWalk.i64_in _ (by have := h.ok.n0; have := h.ok.n1; omega)
  obtain ⟨D, hr, hD⟩ := h.raw
  have hlen : ∀ q ty, (Builtin.len_ #[55] ty #[.map (some c)]).run Try.prog (w.drewN q) = .ok (.int .i64 (S.L.length : Int)) (w.drewN q) := fun q ty => by
    have := (hr.below (w' := w.drewN q) ⟨rfl, rfl, rfl, Nat.le_refl _, fun _ _ => rfl⟩).map.len Try.underlying55 ty
    rw [this, owns_size hr.map hD h.ok.nod]
  have KQ := Lib.hid (fun n => (unset_out (w.drewN n) (h.drewN n) hi1 hi2 hf).mono fun e w' hh => (⟨hh.1, hh.2.symm⟩ : e = .returned (.bool false) ∧ w' = w.drewN n))
  have H := Lib.hid h
  have hd1 : decide (d < 1) = false := by simp; omega
  have hd2 : decide (1152921504606846976 - S.now < d) = false := by simp; omega
  have hd3 : (S.most : Int) ≤ (S.L.length : Int) := by omega
  clear h hr hD hf hi1 hi2 h1 h2 hl
  go_enter Try.func11, Try.ntmps11
  go_wp2_with fail
  refine (made_yes _ H.out).mono ?_
  rintro e w' ⟨rfl, rfl⟩
  go_wp2
  go_quiet (first | (go_at_call 12; refine Calls.quiet_of_same (KQ.out _)))
  go_wp2
  go_ret
  exact ⟨rfl, ⟨rfl, rfl, rfl, Nat.le_refl _, fun _ _ => rfl⟩⟩
end
end Go.Proofs.Ytncjbohpaanpaaa
