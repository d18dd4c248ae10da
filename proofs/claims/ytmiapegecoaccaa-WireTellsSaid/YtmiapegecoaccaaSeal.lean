/- What is sealed: the program's Seal. -/
import Derived.Test.YtmiapegecoaccaaBlo
import Derived.Test.YtmiapegecoaccaaSums
namespace Go.Proofs.Ytmiapegecoaccaa
open Go.RowKit Go.Coop

theorem rd_four (w : World) (S : Nat) (hS : S ≤ 4294967295) (E : TypeId) (fr : Nat × Nat) :
    Rd (w.alloc (.cells #[.int .u8 ((S : Int) / 16777216), .int .u8 ((S : Int) / 65536 % 256), .int .u8 ((S : Int) / 256 % 256), .int .u8 ((S : Int) % 256)] E fr)) (some ⟨w.heap.size, 0, none⟩) 4 (four S) :=
  Rd.new w (four S) _ E fr fun j c hj => by
    have key : ∀ (x : Int) (y : Nat), 0 ≤ x → x < 256 → x.toNat = y % 256 → Value.int .u8 x = BV (UInt8.ofNat y) := by
      intro x y h0 h1 h2
      rw [bv_of x h0 h1, h2]
      unfold BV
      simp [UInt8.toNat_ofNat']
    match j, hj with
    | 0, hj => simp [four] at hj; subst hj; simp only [List.getElem?_toArray, List.getElem?_cons_zero]; rw [key _ (S / 16777216) (by omega) (by omega) (by omega)]
    | 1, hj => simp [four] at hj; subst hj; simp only [List.getElem?_toArray, List.getElem?_cons_zero, List.getElem?_cons_succ]; rw [key _ (S / 65536) (by omega) (by omega) (by omega)]
    | 2, hj => simp [four] at hj; subst hj; simp only [List.getElem?_toArray, List.getElem?_cons_zero, List.getElem?_cons_succ]; rw [key _ (S / 256) (by omega) (by omega) (by omega)]
    | 3, hj => simp [four] at hj; subst hj; simp only [List.getElem?_toArray, List.getElem?_cons_zero, List.getElem?_cons_succ]; rw [key _ S (by omega) (by omega) (by omega)]

theorem size_alloc (w : World) (o : Obj) : (w.alloc o).heap.size = w.heap.size + 1 := by simp

theorem seal_of (p : Option Addr) (S : Nat) (A : Option Addr) (n c : Nat) (l : List UInt8) (w : World) (hS : S ≤ 4294967295) (hr : Rd w A n l) (hn : n ≤ 70368744177664)
    (hsum : Calls Try.prog 47 #[.pointer p, .slice A n c] w fun e w' => e = .returned (.int .u32 (S : Nat)) ∧ w = w') :
    Calls Try.prog 24 #[.pointer p, .slice A n c] w (Fresh w (n + 4) (l ++ four S)) := by
  have H := Lib.hid hsum
  clear hsum
  go_enter Try.func24, Try.ntmps24
  go_wp2_with fail
  refine H.out.mono ?_
  rintro e w' ⟨rfl, rfl⟩
  go_wp2_with fail
  have hp := parts_two (c := c) (d := 4) (hr.alloc _) (rd_four w S hS 5 (0, 0)) 23 (0, 0)
  rw [size_alloc] at hp
  refine (concat_any _ _ 2 2 _ rfl hp (by omega) (by simp [tot]; omega)).mono ?_
  rintro e w2 ⟨A2, c2, rfl, ho2, hb2⟩
  go_wp2
  go_ret
  refine ⟨A2, c2, by simp [tot], ?_, ?_⟩
  · simp [tot, cat] at ho2
    exact ho2.lower (by omega)
  · exact (((Below.refl _ _).alloc (Nat.le_refl _) _).alloc (by simp) _).trans (hb2.mono (by simp; omega))

theorem seal_any (a : Addr) (t : Nat → Nat) (A : Option Addr) (n c : Nat) (l : List UInt8) (w : World) (ht : TabAt w a t) (hr : Rd w A n l) (hn : n ≤ 70368744177664) :
    Calls Try.prog 24 #[.pointer (some a), .slice A n c] w (Fresh w (n + 4) (sealed t l)) :=
  seal_of (some a) (crc t l) A n c l w (by have := crc_lt t l; omega) hr hn (sum_any a t A n c l w ht hr (by omega))
theorem seal_nil (A : Option Addr) (n c : Nat) (l : List UInt8) (w : World) (hr : Rd w A n l) (hn : n ≤ 70368744177664) :
    Calls Try.prog 24 #[.pointer none, .slice A n c] w (Fresh w (n + 4) (l ++ four 0)) :=
  seal_of none 0 A n c l w (by omega) hr hn (sum_nil A n c w)
end Go.Proofs.Ytmiapegecoaccaa
