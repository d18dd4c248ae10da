/- The law's own helper: some. -/
import Derived.Test.YtkkpfehgobanbaaMtxN
namespace Go.Proofs.Ytkkpfehgobanbaa
open Go.RowKit Go.Coop
set_option maxRecDepth 100000

theorem info3 : (Try.prog.info? 3).map (fun i => (i.zero, i.size, i.bytes)) = some (some (.int .i64 0), 1, 8) := by kernel_rfl
def nvs (l : List Nat) : List Value := l.map fun x : Nat => Value.int .i64 (x : Int)
theorem nvs_len (l : List Nat) : (nvs l).length = l.length := by simp [nvs]
theorem nvs_at {l : List Nat} {j : Nat} {u : Value} (h : (nvs l)[j]? = some u) : ∃ x, l[j]? = some x ∧ u = .int .i64 (x : Int) := by
  simp only [nvs, List.getElem?_map, Option.map_eq_some_iff] at h
  obtain ⟨c, hc, e⟩ := h
  exact ⟨c, hc, e.symm⟩
theorem nvs_one (l : List Nat) : ∀ u ∈ nvs l, u.oneCell' = true := by
  intro u hu
  simp only [nvs, List.mem_map] at hu
  obtain ⟨x, _, rfl⟩ := hu
  rfl
theorem nvs_snoc (l : List Nat) (x : Nat) : nvs (l ++ [x]) = nvs l ++ [.int .i64 (x : Int)] := by simp [nvs]

/-- places below n, rising -/
structure Rising (n : Nat) (ls : List Nat) : Prop where
  lt : ∀ (i x : Nat), ls[i]? = some x → x < n
  up : ∀ (i j x y : Nat), i < j → ls[i]? = some x → ls[j]? = some y → x < y
theorem Rising.snoc {q : Nat} {ls : List Nat} (h : Rising q ls) : Rising (q + 1) (ls ++ [q]) := by
  refine ⟨fun i x hi => ?_, fun i j x y hij hi hj => ?_⟩
  · rw [List.getElem?_append] at hi
    split at hi
    · have := h.lt i x hi; omega
    · have e := List.mem_of_getElem? hi
      simp at e
      omega
  · rw [List.getElem?_append] at hi hj
    split at hj
    · rw [if_pos (by omega)] at hi
      exact h.up i j x y hij hi hj
    · have e := List.mem_of_getElem? hj
      simp at e
      subst e
      split at hi
      · exact h.lt i x hi
      · rename_i h1 h2
        have := (List.getElem?_eq_some_iff.1 hj).1
        simp at this
        omega
theorem Rising.mono {q n : Nat} {ls : List Nat} (h : Rising q ls) (hq : q ≤ n) : Rising n ls := ⟨fun i x hi => by have := h.lt i x hi; omega, h.up⟩

end Go.Proofs.Ytkkpfehgobanbaa
