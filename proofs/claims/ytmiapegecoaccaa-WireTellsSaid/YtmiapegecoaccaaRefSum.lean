import Derived.Test.YtmiapegecoaccaaRefs
import Derived.Test.YtmiapegecoaccaaSeal
import Derived.Test.YtmiapegecoaccaaTable
namespace Go.Proofs.Ytmiapegecoaccaa
open Go.RowKit Go.Coop

theorem rsum_nil (A : Option Addr) (n c : Nat) (w : World) : Calls Try.prog 59 #[.pointer none, .slice A n c] w fun e w' => e = .returned (.int .u32 0) ∧ w = w' := by
  go_enter Try.func59, Try.ntmps59
  go_wp2
  go_ret
  exact ⟨rfl, rfl⟩

set_option maxRecDepth 100000 in
theorem rsum_any (a : Addr) (t : Nat → Nat) (A : Option Addr) (n c : Nat) (l : List UInt8) (w : World) (ht : TabAt w a t) (hr : Rd w A n l) (hn : n ≤ 140737488355328) :
    Calls Try.prog 59 #[.pointer (some a), .slice A n c] w fun e w' => e = .returned (.int .u32 (crc t l : Nat)) ∧ w = w' := by
  have HT := Lib.hid ht
  clear ht
  go_enter Try.func59, Try.ntmps59
  go_wp2
  go_loop [5, 6] (fun s i => ∃ k : Nat, k ≤ n ∧ i = .int .i64 k ∧ s = .int .u32 (run t 4294967295 (l.take k) : Nat)) (fun _ i => n - (intOf i).toNat)
  case atStart => exact ⟨0, Nat.zero_le _, rfl, by simp [run]⟩
  case round =>
    obtain ⟨k, hk, rfl, rfl⟩ := hrel
    obtain ⟨S, hS⟩ : ∃ S, S = run t 4294967295 (l.take k) := ⟨_, rfl⟩
    have hS1 : S ≤ 4294967295 := by rw [hS]; have := run_lt (t := t) (fun i hi => (HT.out i hi).1) (l.take k) (s := 4294967295) (by omega); omega
    rw [← hS]
    have HS := Lib.hid hS
    clear hS
    by_cases hlt : k < n
    · obtain ⟨ad, c0, rfl, hb, hl, hcell⟩ := hr.at_ hlt
      have HL := Lib.hid hl
      have HR := Lib.hid hr
      clear hr hl
      unfold BV at hcell
      obtain ⟨ht1, ht2⟩ := HT.out _ (idx_lt S c0)
      have hix := idx_lt S c0
      have hbx : bits BinOp.xor IntKind.u32 ((S : Int) % 256) (c0.toNat : Int) = ((S % 256 ^^^ c0.toNat : Nat) : Int) := by
        have := u32_xor_nat (S % 256) c0.toNat (by omega) (by have := c0.toNat_lt; omega)
        simpa using this
      have hby : bits BinOp.xor IntKind.u32 ((S : Int) / 256) (t (S % 256 ^^^ c0.toNat) : Int) = ((upd t S c0 : Nat) : Int) := by
        have := u32_xor_nat (S / 256) (t (S % 256 ^^^ c0.toNat)) (by omega) ht1
        simpa [upd] using this
      generalize t (S % 256 ^^^ c0.toNat) = T at *
      generalize (S % 256 ^^^ c0.toNat) = ix at *
      obtain ⟨U, hU⟩ : ∃ U, U = upd t S c0 := ⟨_, rfl⟩
      rw [← hU] at hby
      have HU := Lib.hid hU
      clear hU
      have hx0 : c0.toNat ≤ 255 := by have := c0.toNat_lt; omega
      generalize c0.toNat = x at *
      go_wp2
      go_round
      case rel => 
        refine ⟨k + 1, by omega, by go_num, ?_⟩
        rw [List.take_add_one, HL.out, Option.toList_some, run_snoc, ← HS.out, ← HU.out]
      case measure => simp [intOf]; omega
    · go_wp2
      go_ret
      refine ⟨ret_int ?_, rfl⟩
      have hk' : k = n := by omega
      have hlen := hr.len
      have := HS.out
      rw [List.take_of_length_le (by omega)] at this
      unfold crc
      rw [← this]
      omega

theorem rseal_of (p : Option Addr) (S : Nat) (A : Option Addr) (n c : Nat) (l : List UInt8) (w : World) (hS : S ≤ 4294967295) (hr : Rd w A n l) (hn : n ≤ 70368744177664)
    (hsum : Calls Try.prog 59 #[.pointer p, .slice A n c] w fun e w' => e = .returned (.int .u32 (S : Nat)) ∧ w = w') :
    Calls Try.prog 42 #[.pointer p, .slice A n c] w (Given w (n + 4) (l ++ four S)) := by
  have H := Lib.hid hsum
  clear hsum
  go_enter Try.func42, Try.ntmps42
  go_wp2_with fail
  refine H.out.mono ?_
  rintro e w' ⟨rfl, rfl⟩
  go_wp2_with fail
  refine (joined_any _ _ _ _ _ _ _ _ _ (hr.alloc _) (rd_four w S hS 5 (0, 0)) (by omega)).mono ?_
  rintro e w2 ⟨A2, c2, rfl, hr2, hb2⟩
  go_wp2
  go_ret
  exact ⟨A2, c2, rfl, hr2, ((Below.refl _ _).alloc (Nat.le_refl _) _).trans (hb2.mono (by simp))⟩

theorem rseal_any (a : Addr) (t : Nat → Nat) (A : Option Addr) (n c : Nat) (l : List UInt8) (w : World) (ht : TabAt w a t) (hr : Rd w A n l) (hn : n ≤ 70368744177664) :
    Calls Try.prog 42 #[.pointer (some a), .slice A n c] w (Given w (n + 4) (sealed t l)) :=
  rseal_of (some a) (crc t l) A n c l w (by have := crc_lt t l; omega) hr hn (rsum_any a t A n c l w ht hr (by omega))
theorem rseal_nil (A : Option Addr) (n c : Nat) (l : List UInt8) (w : World) (hr : Rd w A n l) (hn : n ≤ 70368744177664) :
    Calls Try.prog 42 #[.pointer none, .slice A n c] w (Given w (n + 4) (l ++ four 0)) :=
  rseal_of none 0 A n c l w (by omega) hr hn (rsum_nil A n c w)
end Go.Proofs.Ytmiapegecoaccaa
