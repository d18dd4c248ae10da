/- What no field answers; matrices that are read; what is the same. -/
import Derived.Test.YtkkpfehgobanbaaMtxK
namespace Go.Proofs.Ytkkpfehgobanbaa
open Go.RowKit Go.Coop
set_option maxRecDepth 100000

/-- a pointer that leads to no field -/
def NoFld (w : World) (p : Option Addr) : Prop := p = none ∨ ∃ g, p = some ⟨g, 0, none⟩ ∧ w.cell? ⟨g, 0, none⟩ = some (.int .u8 0)
theorem fmade_none (p : Option Addr) (w : World) (h : NoFld w p) : Calls Try.prog 66 #[.pointer p] w fun e w' => e = .returned (.bool false) ∧ w = w' := by
  rcases h with rfl | ⟨g, rfl, h⟩
  · exact made_nil w
  · exact made_no g w h
theorem div_none (p : Option Addr) (a b : Int) (w : World) (h : NoFld w p) : Calls Try.prog 54 #[.pointer p, .int .u8 a, .int .u8 b] w fun e w' => e = .returned (.tuple #[.int .u8 0, .int .i64 1]) ∧ w = w' := by
  have H := Lib.hid h
  clear h
  go_enter Try.func54, Try.ntmps54
  go_wp2_with (go_at_call 66; refine (fmade_none _ _ H.out).mono ?_; rintro e w' ⟨rfl, rfl⟩)
  go_ret2
  exact ⟨rfl, rfl⟩
theorem inv_none (p : Option Addr) (a : Int) (w : World) (h : NoFld w p) : Calls Try.prog 40 #[.pointer p, .int .u8 a] w fun e w' => e = .returned (.tuple #[.int .u8 0, .int .i64 1]) ∧ w = w' := by
  have H := Lib.hid h
  clear h
  go_enter Try.func40, Try.ntmps40
  go_wp2_with (go_at_call 54; refine (div_none _ _ _ _ H.out).mono ?_; rintro e w' ⟨rfl, rfl⟩)
  go_ret2
  exact ⟨rfl, rfl⟩
theorem mmade_none (p : Option Addr) (w : World) (h : NoFld w p) : Calls Try.prog 57 #[.pointer p] w fun e w' => e = .returned (.bool false) ∧ w = w' := by
  have H := Lib.hid h
  clear h
  go_enter Try.func57, Try.ntmps57
  go_wp2_with (go_at_call 40; refine (inv_none _ _ _ H.out).mono ?_; rintro e w' ⟨rfl, rfl⟩)
  go_ret
  exact ⟨rfl, rfl⟩
theorem cauchy_none (p : Option Addr) (x y : Int) (w : World) (h : NoFld w p) : Calls Try.prog 42 #[.pointer p, .int .i64 x, .int .i64 y] w (NotM w 1) := by
  have H := Lib.hid h
  clear h
  go_enter Try.func42, Try.ntmps42
  go_wp2_with (go_at_call 57; refine (mmade_none _ _ H.out).mono ?_; rintro e w' ⟨rfl, rfl⟩)
  go_ret2
  exact ⟨rfl, Below.refl _ _⟩
theorem invert_none (p : Option Addr) (A : Option Addr) (n c : Nat) (w : World) (h : NoFld w p) : Calls Try.prog 70 #[.pointer p, .slice A n c] w (NotM w 1) := by
  have H := Lib.hid h
  clear h
  go_enter Try.func70, Try.ntmps70
  go_wp2_with (go_at_call 57; refine (mmade_none _ _ H.out).mono ?_; rintro e w' ⟨rfl, rfl⟩)
  go_ret2
  exact ⟨rfl, Below.refl _ _⟩
/-- a slice of n rows that reads so -/
structure MR (w : World) (A : Option Addr) (n : Nat) (M : List (List UInt8)) : Prop where
  len : M.length = n
  out : ∃ vs : List Value, RdV w A n vs ∧ ∀ (i : Nat) (r : List UInt8), M[i]? = some r → ∃ (B : Option Addr) (d : Nat), vs[i]? = some (Value.slice B r.length d) ∧ Rd w B r.length r
theorem MO.mr {w : World} {bo br : Nat} {A : Option Addr} {n c : Nat} {M : List (List UInt8)} (h : MO w bo br A n c M) : MR w A n M := by
  obtain ⟨vs, hv, hr⟩ := h.out
  exact ⟨h.len, vs, hv.rd, fun i r hi => by obtain ⟨B, d, h1, h2⟩ := hr i r hi; exact ⟨B, d, h1, h2.rd⟩⟩
theorem MR.below {w w' : World} {B : Nat} {A : Option Addr} {n : Nat} {M : List (List UInt8)} (h : MR w A n M) (hb : Below B w w') (hB : w.heap.size ≤ B) : MR w' A n M := by
  obtain ⟨vs, hv, hr⟩ := h.out
  exact ⟨h.len, vs, hv.below hb hB, fun i r hi => by obtain ⟨B, d, h1, h2⟩ := hr i r hi; exact ⟨B, d, h1, h2.below hb hB⟩⟩
theorem MR.drewN {w : World} {A : Option Addr} {n : Nat} {M : List (List UInt8)} (h : MR w A n M) (k : Nat) : MR (w.drewN k) A n M := by
  obtain ⟨vs, hv, hr⟩ := h.out
  exact ⟨h.len, vs, hv.drewN k, fun i r hi => by obtain ⟨B, d, h1, h2⟩ := hr i r hi; exact ⟨B, d, h1, h2.drewN k⟩⟩
theorem MR.drew {w : World} {A : Option Addr} {n : Nat} {M : List (List UInt8)} (h : MR w A n M) : MR w.drew A n M := h.drewN 1
theorem MR.row {w : World} {A : Option Addr} {n : Nat} {M : List (List UInt8)} (h : MR w A n M) {i : Nat} (hi : i < n) : ∃ ad B d r, A = some ad ∧ ad.block < w.heap.size ∧ M[i]? = some r ∧ w.cell? (ad.add i) = some (.slice B r.length d) ∧ Rd w B r.length r := by
  obtain ⟨vs, hv, hr⟩ := h.out
  obtain ⟨ad, v, e, hlt, h1, hc⟩ := hv.at_ hi
  have hM : i < M.length := by have := h.len; omega
  obtain ⟨B, d, h2, h3⟩ := hr i _ (List.getElem?_eq_getElem hM)
  rw [h1] at h2
  injection h2 with h2
  subst h2
  exact ⟨ad, B, d, _, e, hlt, List.getElem?_eq_getElem hM, hc, h3⟩

theorem same_q (A : Option Addr) (n c : Nat) (l : List UInt8) (B : Option Addr) (m d : Nat) (w : World) (ha : Rd w A n l) (hb : Rd w B m l) (k : Nat) :
    Calls Try.prog 29 #[.slice A n c, .slice B m d] (w.drewN k) (fun e w' => e = .returned (.bool true) ∧ ∃ j, w' = w.drewN j) := by
  refine (same_yes A n c l B m d _ (ha.drewN k) (hb.drewN k)).mono ?_
  rintro e w' ⟨rfl, rfl⟩
  exact ⟨rfl, k, rfl⟩
theorem lists_yes (A : Option Addr) (n c : Nat) (M : List (List UInt8)) (B : Option Addr) (d : Nat) (w : World) (ha : MR w A n M) (hb : MR w B n M) (hn : n ≤ 140737488355328) :
    Calls Try.prog 27 #[.slice A n c, .slice B n d] w (Still w (.bool true)) := by
  have HA := Lib.hid ha
  have HB := Lib.hid hb
  clear ha hb
  go_enter Try.func27, Try.ntmps27
  go_wp2
  go_loopw [5] (fun i wr => ∃ q j : Nat, q ≤ n ∧ i = .int .i64 q ∧ Hid (wr = w.drewN j)) (fun i _ => n - (intOf i).toNat)
  case atStart => exact ⟨0, 0, by omega, rfl, rfl⟩
  case round =>
    obtain ⟨q, j, hq, rfl, HW⟩ := hrel
    have HA1 : Hid (MR wr A n M) := by show MR _ _ _ _; rw [HW.out]; exact HA.out.drewN j
    have HB1 : Hid (MR wr B n M) := by show MR _ _ _ _; rw [HW.out]; exact HB.out.drewN j
    by_cases hlt : q < n
    · obtain ⟨a1, B1, d1, r1, rfl, _, hr1, hc1, hd1⟩ := HA1.out.row hlt
      obtain ⟨a2, B2, d2, r2, rfl, _, hr2, hc2, hd2⟩ := HB1.out.row hlt
      rw [hr1] at hr2
      injection hr2 with hr2
      subst hr2
      have KQ := Lib.hid (same_q B1 r1.length d1 r1 B2 r1.length d2 wr hd1 hd2)
      generalize r1.length = L at *
      have hq0 : (0 : Int) ≤ (q : Int) := by omega
      have hq1 : (q : Int) < n := by omega
      clear hr1 hd1 hd2
      go_wp2_with fail
      go_quiet ((go_at_call 29; exact KQ.out _))
      go_wp2
      go_roundw
      case rel => exact ⟨q + 1, _, by omega, by go_num, by rw [HW.out, World.drewN_drewN]; rfl⟩
      case measure => simp [intOf]; omega
    · obtain rfl : q = n := by omega
      go_wp2
      go_ret
      exact ⟨rfl, j, HW.out⟩
end Go.Proofs.Ytkkpfehgobanbaa
