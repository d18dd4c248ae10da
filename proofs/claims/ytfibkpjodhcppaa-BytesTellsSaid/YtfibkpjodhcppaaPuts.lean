import Derived.Test.YtfibkpjodhcppaaConcat
namespace Go.Proofs.Ytfibkpjodhcppaa
open Go.RowKit Go.Coop

theorem parts_new (w : World) (ps : List Part) (cs : Array Value) (E : TypeId) (fr : Nat × Nat) (h : ∀ (i : Nat) (p : Part), ps[i]? = some p → cs[i]? = some (.slice p.1 p.2.1 p.2.2.1) ∧ Rd w p.1 p.2.1 p.2.2.2) :
    Parts (w.alloc (.cells cs E fr)) ⟨w.heap.size, 0, none⟩ ps :=
  ⟨by simp, fun i p hp => by
    have hadd : (⟨w.heap.size, 0, none⟩ : Addr).add i = ⟨w.heap.size, i, none⟩ := by unfold Addr.add; split <;> simp_all
    obtain ⟨h1, h2⟩ := h i p hp
    exact ⟨by rw [hadd, cell_of_row _ w.heap.size i cs E fr (heap_alloc_new w _)]; exact h1, h2.alloc _⟩⟩
theorem parts_two {w : World} {A B : Option Addr} {n c m d : Nat} {l k : List UInt8} (h1 : Rd w A n l) (h2 : Rd w B m k) (E : TypeId) (fr : Nat × Nat) :
    Parts (w.alloc (.cells #[.slice A n c, .slice B m d] E fr)) ⟨w.heap.size, 0, none⟩ [(A, n, c, l), (B, m, d, k)] :=
  parts_new w _ _ E fr fun i p hp => by
    match i, hp with
    | 0, hp => simp at hp; subst hp; exact ⟨rfl, h1⟩
    | 1, hp => simp at hp; subst hp; exact ⟨rfl, h2⟩
theorem parts_three {w : World} {A B C : Option Addr} {n c m d p q : Nat} {l k j : List UInt8} (h1 : Rd w A n l) (h2 : Rd w B m k) (h3 : Rd w C p j) (E : TypeId) (fr : Nat × Nat) :
    Parts (w.alloc (.cells #[.slice A n c, .slice B m d, .slice C p q] E fr)) ⟨w.heap.size, 0, none⟩ [(A, n, c, l), (B, m, d, k), (C, p, q, j)] :=
  parts_new w _ _ E fr fun i p hp => by
    match i, hp with
    | 0, hp => simp at hp; subst hp; exact ⟨rfl, h1⟩
    | 1, hp => simp at hp; subst hp; exact ⟨rfl, h2⟩
    | 2, hp => simp at hp; subst hp; exact ⟨rfl, h3⟩

theorem uint_any (A : Option Addr) (n c : Nat) (l : List UInt8) (x : Int) (w : World) (hr : Rd w A n l) (hn : n ≤ 70368744177664) (h0 : 0 ≤ x) (h1 : x ≤ 18446744073709551615) :
    Calls Try.prog 13 #[.slice A n c, .int .u64 x] w (Fresh w (n + (dig x.toNat).length) (l ++ dig x.toNat)) := by
  have hd := dig_length x.toNat
  go_enter Try.func13, Try.ntmps13
  go_wp2_with fail
  refine (digits_any _ _ h0 h1).mono ?_
  rintro e w1 ⟨A1, c1, rfl, ho1, hb1⟩
  have hbs := hb1.size
  generalize dig x.toNat = D at *
  generalize hDn : D.length = m at *
  have HD := Lib.hid hDn
  clear hDn
  go_wp2_with fail
  refine (concat_any _ [(A, n, c, l), (A1, m, c1, D)] 2 2 _ rfl (parts_two (hr.below hb1 (Nat.le_refl _)) ho1.rd _ _) (by omega) (by simp [tot]; omega)).mono ?_
  rintro e w2 ⟨A2, c2, rfl, ho2, hb2⟩
  go_wp2
  go_ret
  refine ⟨A2, c2, by simp [tot], ?_, ?_⟩
  · simp [tot, cat] at ho2
    exact ho2.lower (by omega)
  · exact (hb1.alloc hbs _).trans (hb2.mono (by simp; omega))

set_option maxRecDepth 100000 in
theorem blob_any (A : Option Addr) (n c : Nat) (l : List UInt8) (B : Option Addr) (m d : Nat) (k : List UInt8) (w : World) (hr : Rd w A n l) (hr2 : Rd w B m k) (hn : n ≤ 35184372088832) (hm : m ≤ 35184372088832) :
    Calls Try.prog 23 #[.slice A n c, .slice B m d] w (Fresh w (n + (dig m).length + m) (l ++ dig m ++ k)) := by
  have hd := dig_length m
  go_enter Try.func23, Try.ntmps23
  go_wp2_with fail
  refine (digits_any _ _ (by omega) (by omega)).mono ?_
  rintro e w1 ⟨A1, c1, rfl, ho1, hb1⟩
  have hbs := hb1.size
  simp only [Int.toNat_natCast] at ho1 ⊢
  generalize dig m = D at *
  generalize hDn : D.length = q at *
  have HD := Lib.hid hDn
  clear hDn
  go_wp2_with fail
  refine (concat_any _ [(A, n, c, l), (A1, q, c1, D), (B, m, d, k)] 3 3 _ rfl (parts_three (hr.below hb1 (Nat.le_refl _)) ho1.rd (hr2.below hb1 (Nat.le_refl _)) _ _) (by omega) (by simp [tot]; omega)).mono ?_
  rintro e w2 ⟨A2, c2, rfl, ho2, hb2⟩
  go_wp2
  go_ret
  refine ⟨A2, c2, by simp [tot, Nat.add_assoc], ?_, ?_⟩
  · simp [tot, cat] at ho2
    rw [Nat.add_assoc, List.append_assoc]
    exact ho2.lower (by omega)
  · exact (hb1.alloc hbs _).trans (hb2.mono (by simp; omega))
end Go.Proofs.Ytfibkpjodhcppaa
