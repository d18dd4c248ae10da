/- How often a node has an index, as plain data. No program is named here. -/
import Derived.Test.YtbilbfjmfaignaaPldP
namespace Go.Coop
/-- of the first G groups: how many have that node at the index i -/
def cf (many i node : Nat) : Nat → Nat
  | 0 => 0
  | G + 1 => cf many i node G + (if (G + i) % many = node then 1 else 0)
theorem cf_le (many i node : Nat) : ∀ G, cf many i node G ≤ G
  | 0 => Nat.le_refl _
  | G + 1 => by
    have := cf_le many i node G
    unfold cf
    split <;> omega
theorem mod_uniq {many i a b : Nat} (ha : a < many) (hb : b < many) (h : (a + i) % many = (b + i) % many) : a = b := by
  rcases Nat.lt_trichotomy a b with hlt | e | hlt
  · have hd : (b + i - (a + i)) % many = 0 := Nat.sub_mod_eq_zero_of_mod_eq h.symm
    rw [show b + i - (a + i) = b - a by omega, Nat.mod_eq_of_lt (by omega)] at hd
    omega
  · exact e
  · have hd : (a + i - (b + i)) % many = 0 := Nat.sub_mod_eq_zero_of_mod_eq h
    rw [show a + i - (b + i) = a - b by omega, Nat.mod_eq_of_lt (by omega)] at hd
    omega
theorem mod_some {many node : Nat} (i : Nat) (hn : node < many) : ∃ c, c < many ∧ (c + i) % many = node := by
  refine ⟨(node + (many - i % many)) % many, Nat.mod_lt _ (by omega), ?_⟩
  have hi := Nat.mod_lt i (show 0 < many by omega)
  rw [Nat.mod_add_mod]
  have hdm := Nat.div_add_mod i many
  rw [show node + (many - i % many) + i = node + many * (i / many + 1) by rw [Nat.mul_add]; omega, Nat.add_mul_mod_self_left, Nat.mod_eq_of_lt hn]
theorem cf_cycle {many i node c : Nat} (hc : c < many) (h : (c + i) % many = node) (t : Nat) : ∀ q, q ≤ many → cf many i node (many * t + q) = cf many i node (many * t) + (if c < q then 1 else 0)
  | 0, _ => by simp
  | q + 1, hq => by
    have ih := cf_cycle hc h t q (by omega)
    rw [← Nat.add_assoc, cf, ih]
    have e : (many * t + q + i) % many = (q + i) % many := by
      rw [Nat.add_assoc, Nat.add_comm, Nat.add_mul_mod_self_left]
    rw [e]
    by_cases hqc : q = c
    · subst hqc
      rw [if_pos h, if_neg (by omega), if_pos (by omega)]
    · have h2 : ¬ (q + i) % many = node := fun he => hqc (mod_uniq (by omega) hc (he.trans h.symm))
      rw [if_neg h2]
      by_cases hlt : c < q
      · rw [if_pos hlt, if_pos (by omega)]
      · rw [if_neg hlt, if_neg (by omega)]
theorem cf_all {many i node : Nat} (hn : node < many) : ∀ t, cf many i node (many * t) = t
  | 0 => rfl
  | t + 1 => by
    obtain ⟨c, hc, h⟩ := mod_some i hn
    have := cf_cycle hc h t many (Nat.le_refl _)
    rw [Nat.mul_add, Nat.mul_one, this, cf_all hn t, if_pos hc]
end Go.Coop
