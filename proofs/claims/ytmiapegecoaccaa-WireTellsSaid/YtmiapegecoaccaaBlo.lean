/- A string behind its length: the program's Blob. -/
import Derived.Test.YtmiapegecoaccaaByt
namespace Go.Proofs.Ytmiapegecoaccaa
open Go.RowKit Go.Coop
set_option maxRecDepth 100000 in
theorem blob_any (A : Option Addr) (n c : Nat) (l : List UInt8) (B : Option Addr) (m d : Nat) (k : List UInt8) (w : World) (hr : Rd w A n l) (hr2 : Rd w B m k) (hn : n ≤ 35184372088832) (hm : m ≤ 35184372088832) :
    Calls Try.prog 41 #[.slice A n c, .slice B m d] w (Fresh w (n + (dig m).length + m) (l ++ dig m ++ k)) := by
  have hd := dig_length m
  go_enter Try.func41, Try.ntmps41
  go_wp2_with fail
  refine (digits_any _ _ (by omega) (by omega)).mono ?_
  rintro e w1 ⟨A1, c1, rfl, ho1, hb1⟩
  have hbs := hb1.size
  simp only [Int.toNat_natCast] at ho1 ⊢
  generalize dig m = D at *
  generalize hDn : D.length = q at *
  have HD := Lib.hid hDn
  clear hDn
  go_wp2_with fail
  refine (concat_any _ [(A, n, c, l), (A1, q, c1, D), (B, m, d, k)] 3 3 _ rfl (parts_three (hr.below hb1 (Nat.le_refl _)) ho1.rd (hr2.below hb1 (Nat.le_refl _)) _ _) (by omega) (by simp [tot]; omega)).mono ?_
  rintro e w2 ⟨A2, c2, rfl, ho2, hb2⟩
  go_wp2
  go_ret
  refine ⟨A2, c2, by simp [tot, Nat.add_assoc], ?_, ?_⟩
  · simp [tot, cat] at ho2
    rw [Nat.add_assoc, List.append_assoc]
    exact ho2.lower (by omega)
  · exact (hb1.alloc hbs _).trans (hb2.mono (by simp; omega))
end Go.Proofs.Ytmiapegecoaccaa
