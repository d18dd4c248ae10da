/- One disk, and what else lies beside it; a number out of any number (Pick). -/
import Derived.Test.YtlhhijhmjkgnaaaLawR
namespace Go.Proofs.Ytlhhijhmjkgnaaa
open Go.RowKit Go.Coop
set_option maxRecDepth 100000

structure One (w : World) (B g m c : Nat) (S : DS) : Prop where
  base : B ≤ w.heap.size
  d : DiskAt w g m c S
  lo : B ≤ g ∧ B ≤ m ∧ B ≤ c
section
variable {w w' : World} {B g m c : Nat} {S : DS}
theorem One.below (h : One w B g m c S) (hb : Below w.heap.size w w') : One w' B g m c S := ⟨Nat.le_trans h.base hb.size, h.d.below hb (Nat.le_refl _), h.lo⟩
theorem One.step (h : One w B g m c S) {S' : DS} {r : Value} {e : Ending} (hd : Did g m c S' r w e w') : ∃ c2, e = .returned r ∧ One w' B g m c2 S' ∧ Below B w w' ∧ But [g, m, c] w w' := by
  obtain ⟨he, c2, hD, hB, hc2⟩ := hd
  have hl := h.lo
  have hbase := h.base
  exact ⟨c2, he, ⟨Nat.le_trans h.base hB.size, hD, ⟨hl.1, hl.2.1, by omega⟩⟩, hB.below h.base (by simp; exact hl), hB⟩
theorem One.stepE (h : One w B g m c S) {S' : DS} {e : Ending} (hd : DidE g m c S' w e w') : ∃ (r : Int) (c2 : Nat), e = .returned (.int .i64 r) ∧ One w' B g m c2 S' ∧ Below B w w' ∧ But [g, m, c] w w' := by
  obtain ⟨r, hd⟩ := hd
  obtain ⟨c2, h1, h2, h3, h4⟩ := h.step hd
  exact ⟨r, c2, h1, h2, h3, h4⟩
/-- a block that was made behind the disk -/
theorem One.off (h : One w B g m c S) : w.heap.size ∉ [g, m, c] := by
  have h1 := h.d.g_lt
  have h2 := h.d.m_lt
  have h3 := h.d.c_lt
  simp
  omega
end
/-- Pick's number -/
def pk (x : Int) (n : Nat) : Nat := (x % (n : Int)).toNat
theorem pk_lt (x : Int) {n : Nat} (hn : 0 < n) : pk x n < n := by
  unfold pk
  have := Int.emod_lt_of_pos x (b := (n : Int)) (by omega)
  have := Int.emod_nonneg x (b := (n : Int)) (by omega)
  omega
theorem pick_any (x : Int) (n : Nat) (hn : 0 < n) (hn2 : n ≤ 1000) (hx : -9223372036854775808 ≤ x ∧ x ≤ 9223372036854775807) (w : World) : Calls Try.prog 33 #[.int .i64 x, .int .i64 (n : Int)] w fun e w' => e = .returned (.int .i64 (pk x n : Int)) ∧ w = w' := by
  have hp : ((pk x n : Nat) : Int) = x % (n : Int) := by
    unfold pk
    have := Int.emod_nonneg x (b := (n : Int)) (by omega)
    omega
  obtain ⟨p, hpp⟩ : ∃ p, pk x n = p := ⟨_, rfl⟩
  rw [hpp] at hp ⊢
  have hn' : ¬ (n : Int) ≤ 0 := by omega
  obtain ⟨r, hr⟩ : ∃ r, x.tmod (n : Int) = r := ⟨_, rfl⟩
  have hb : -(n : Int) < r ∧ r < n := by
    rw [← hr]
    have h1 := Int.tmod_lt_of_pos x (b := (n : Int)) (by omega)
    have h2 := Int.lt_tmod_of_pos x (b := (n : Int)) (by omega)
    omega
  have he : (r < 0 → (p : Int) = r + n) ∧ (0 ≤ r → (p : Int) = r) := by
    rw [hp, ← hr]
    have h1 : x.tmod (n : Int) = x % (n : Int) - ((if 0 ≤ x ∨ (n : Int) ∣ x then 0 else (n : Int).natAbs : Nat) : Int) := Int.tmod_eq_emod
    have h2 := Int.emod_nonneg x (b := (n : Int)) (by omega)
    have h3 := Int.emod_lt_of_pos x (b := (n : Int)) (by omega)
    rw [h1]
    split <;> constructor <;> intro _ <;> omega
  have HE := Lib.hid he
  clear he hp hpp
  go_enter Try.func33, Try.ntmps33
  by_cases hneg : r < 0
  · go_wp2
    go_ret
    refine ⟨?_, rfl⟩
    rw [HE.out.1 hneg]
    rfl
  · go_wp2
    go_ret
    refine ⟨?_, rfl⟩
    rw [HE.out.2 (by omega)]
    rfl
end Go.Proofs.Ytlhhijhmjkgnaaa
