/- The sum: halve, Sum. -/
import Derived.Test.YtmiapegecoaccaaRows
import Derived.Test.YtmiapegecoaccaaWords
import Derived.Test.YtmiapegecoaccaaPure
import Derived.WalkSpells
import Derived.WalkLawsBesides
namespace Go.Proofs.Ytmiapegecoaccaa
open Go.RowKit Go.Coop

/-- The table at a: 256 numbers. -/
def TabAt (w : World) (a : Addr) (t : Nat → Nat) : Prop := ∀ i, i < 256 → t i < 4294967296 ∧ w.cell? (a.add i) = some (.int .u32 (t i : Int))

theorem ret_int {k : IntKind} {a b : Int} (h : a = b) : Ending.returned (.int k a) = .returned (.int k b) := by rw [h]

theorem halve_any (x : Int) (w : World) (h0 : 0 ≤ x) (h1 : x ≤ 4294967295) :
    Calls Try.prog 35 #[.int .u32 x] w fun e w' => e = .returned (.int .u32 (halve x.toNat : Nat)) ∧ w = w' := by
  obtain ⟨n, rfl⟩ := Int.eq_ofNat_of_zero_le h0
  go_enter Try.func35, Try.ntmps35
  go_wp2
  all_goals go_ret
  · have h : ((n : Int) % 2 == 1) = true := by assumption
    have h' : n % 2 = 1 := by have := beq_iff_eq.1 h; omega
    refine ⟨ret_int ?_, rfl⟩
    rw [u32_xor _ _ (by omega) (by omega) (by omega) (by omega)]
    simp [halve, h']
    congr 1
  · have h : ((n : Int) % 2 == 1) = false := by assumption
    have h' : ¬ n % 2 = 1 := by intro e; rw [beq_eq_false_iff_ne] at h; omega
    refine ⟨ret_int ?_, rfl⟩
    simp [halve, h']

theorem sum_nil (A : Option Addr) (n c : Nat) (w : World) : Calls Try.prog 47 #[.pointer none, .slice A n c] w fun e w' => e = .returned (.int .u32 0) ∧ w = w' := by
  go_enter Try.func47, Try.ntmps47
  go_wp2
  go_ret
  exact ⟨rfl, rfl⟩

set_option maxRecDepth 100000 in
theorem sum_any (a : Addr) (t : Nat → Nat) (A : Option Addr) (n c : Nat) (l : List UInt8) (w : World) (ht : TabAt w a t) (hr : Rd w A n l) (hn : n ≤ 140737488355328) :
    Calls Try.prog 47 #[.pointer (some a), .slice A n c] w fun e w' => e = .returned (.int .u32 (crc t l : Nat)) ∧ w = w' := by
  have HT := Lib.hid ht
  clear ht
  go_enter Try.func47, Try.ntmps47
  go_wp2
  go_loop [5, 12] (fun s i => ∃ k : Nat, k ≤ n ∧ i = .int .i64 k ∧ s = .int .u32 (run t 4294967295 (l.take k) : Nat)) (fun _ i => n - (intOf i).toNat)
  case atStart => exact ⟨0, Nat.zero_le _, rfl, by simp [run]⟩
  case round =>
    obtain ⟨k, hk, rfl, rfl⟩ := hrel
    obtain ⟨S, hS⟩ : ∃ S, S = run t 4294967295 (l.take k) := ⟨_, rfl⟩
    have hS1 : S ≤ 4294967295 := by rw [hS]; have := run_lt (t := t) (fun i hi => (HT.out i hi).1) (l.take k) (s := 4294967295) (by omega); omega
    rw [← hS]
    have HS := Lib.hid hS
    clear hS
    by_cases hlt : k < n
    · obtain ⟨ad, c0, rfl, hb, hl, hcell⟩ := hr.at_ hlt
      have HL := Lib.hid hl
      have HR := Lib.hid hr
      clear hr hl
      unfold BV at hcell
      obtain ⟨ht1, ht2⟩ := HT.out _ (idx_lt S c0)
      have hix := idx_lt S c0
      have hbx : bits BinOp.xor IntKind.u8 ((S : Int) % 256) (c0.toNat : Int) = ((S % 256 ^^^ c0.toNat : Nat) : Int) := by
        have := u8_xor_nat (S % 256) c0.toNat (by omega) c0.toNat_lt
        simpa using this
      have hby : bits BinOp.xor IntKind.u32 ((S : Int) / 256) (t (S % 256 ^^^ c0.toNat) : Int) = ((upd t S c0 : Nat) : Int) := by
        have := u32_xor_nat (S / 256) (t (S % 256 ^^^ c0.toNat)) (by omega) ht1
        simpa [upd] using this
      generalize t (S % 256 ^^^ c0.toNat) = T at *
      generalize (S % 256 ^^^ c0.toNat) = ix at *
      obtain ⟨U, hU⟩ : ∃ U, U = upd t S c0 := ⟨_, rfl⟩
      rw [← hU] at hby
      have HU := Lib.hid hU
      clear hU
      generalize c0.toNat = x at *
      go_wp2
      go_round
      case rel => 
        refine ⟨k + 1, by omega, by go_num, ?_⟩
        rw [List.take_add_one, HL.out, Option.toList_some, run_snoc, ← HS.out, ← HU.out]
      case measure => simp [intOf]; omega
    · go_wp2
      go_ret
      refine ⟨ret_int ?_, rfl⟩
      have hk' : k = n := by omega
      have hlen := hr.len
      have := HS.out
      rw [List.take_of_length_le (by omega)] at this
      unfold crc
      rw [← this]
      have e := u32_xor_nat 4294967295 S (by omega) (by omega)
      rw [ones_xor S (by omega)] at e
      exact e
end Go.Proofs.Ytmiapegecoaccaa
