/- NetNumbers, plain: a net that is full for all. -/
import Derived.Test.YthhablokbnfpcaaNetP
namespace Go.Proofs.Ythhablokbnfpcaa
open Go.RowKit Go.Coop
set_option maxRecDepth 100000
/-- i datagrams, by sevens -/
def many : Nat → NS
  | 0 => NS.new 300 10000
  | i + 1 => (many i).laid ⟨i % 300, i % 7, []⟩
theorem many_e : ∀ i, (many i).ends = 300 ∧ (many i).most = 10000 ∧ (many i).heap.length = i
  | 0 => ⟨rfl, rfl, rfl⟩
  | i + 1 => by
    obtain ⟨h1, h2, h3⟩ := many_e i
    exact ⟨h1, h2, by simp [many, NS.laid, h3]⟩
theorem many_wait (r : Nat) (hr : r < 7) : ∀ i, (many i).wait (r : Int) = (i + 6 - r) / 7
  | 0 => by
    have : (many 0).wait (r : Int) = 0 := rfl
    rw [this]
    omega
  | i + 1 => by
    rw [many, NS.wait_laid, many_wait r hr i]
    by_cases h : i % 7 = r
    · rw [if_pos (by show ((i % 7 : Nat) : Int) = (r : Int); omega)]
      omega
    · rw [if_neg (by show ¬ ((i % 7 : Nat) : Int) = (r : Int); omega)]
      omega
theorem many_none (k : Int) (hk : k < 0 ∨ 7 ≤ k) : ∀ i, (many i).wait k = 0
  | 0 => rfl
  | i + 1 => by
    rw [many, NS.wait_laid, many_none k hk i, if_neg (by show ¬ ((i % 7 : Nat) : Int) = k; omega)]
theorem many_send (i : Nat) (hi : i < 10000) {a b : Int} (ha : a = ((i % 300 : Nat) : Int)) (hb : b = ((i % 7 : Nat) : Int)) : (many i).sendE a b [] = 0 ∧ (many i).send a b [] = many (i + 1) := by
  subst ha hb
  obtain ⟨h1, h2, h3⟩ := many_e i
  have hw := NS.wait_le (many i) ((i % 7 : Nat) : Int)
  have hj : ((many i).joins ((i % 300 : Nat) : Int) && (many i).joins ((i % 7 : Nat) : Int)) = true := by
    simp only [NS.joins, h1, Bool.and_eq_true, decide_eq_true_eq]
    omega
  have hf : (many i).full (i % 7) = false := by
    simp only [NS.full, Bool.or_eq_false_iff, decide_eq_false_iff_not]
    omega
  have hl : ([] : List UInt8).length ≤ 131072 := by simp
  constructor
  · rw [NS.sendE, if_pos hj, if_pos hl, NS.layE]
    show (if (many i).full (i % 7) = true then (5 : Int) else 0) = 0
    rw [hf]
    rfl
  · rw [NS.send, if_pos hj, if_pos hl, NS.lay]
    show (if (many i).full (i % 7) = true then many i else _) = _
    rw [hf]
    rfl
theorem full_len {S : NS} (h : 10000 ≤ S.heap.length) (k : Nat) : S.full k = true := by simp [NS.full, h]
theorem many_full : (many 10000).sendE 0 8 [] = 5 ∧ (many 10000).send 0 8 [] = many 10000 := by
  obtain ⟨h1, h2, h3⟩ := many_e 10000
  have hj : ((many 10000).joins 0 && (many 10000).joins 8) = true := by
    simp only [NS.joins, h1, Bool.and_eq_true, decide_eq_true_eq]
    omega
  have hl : ([] : List UInt8).length ≤ 131072 := by simp
  have hf := full_len (S := many 10000) (by omega) 8
  constructor
  · rw [NS.sendE, if_pos hj, if_pos hl, NS.layE]
    show (if (many 10000).full 8 = true then (5 : Int) else 0) = 5
    rw [hf]
    rfl
  · rw [NS.send, if_pos hj, if_pos hl, NS.lay]
    show (if (many 10000).full 8 = true then many 10000 else _) = _
    rw [hf]
    rfl
theorem many_copy : (many 10000).copyE 3 = 5 ∧ (many 10000).copy 3 = many 10000 := by
  obtain ⟨h1, h2, h3⟩ := many_e 10000
  obtain ⟨d, hd⟩ : ∃ d, (many 10000).look 3 = some d := by
    refine ⟨_, (NS.look_at (S := many 10000) (i := 3)).trans (List.getElem?_eq_getElem (by omega))⟩
  have hf := full_len (S := many 10000) (by omega) d.to
  simp [NS.copyE, NS.copy, hd, NS.layE, NS.lay, hf]
theorem many_out (i : Int) (hi : i < 0 ∨ 10000 ≤ i) : (many 10000).look i = none := by
  obtain ⟨h1, h2, h3⟩ := many_e 10000
  exact NS.look_out (by omega)
theorem many_nocopy (i : Int) (hi : i < 0 ∨ 10000 ≤ i) : (many 10000).copyE i = 2 ∧ (many 10000).copy i = many 10000 := by simp [NS.copyE, NS.copy, many_out i hi]
theorem many_nodrop (i : Int) (hi : i < 0 ∨ 10000 ≤ i) : (many 10000).drop i = many 10000 := by simp [NS.drop, many_out i hi]
theorem filter_len {α : Type} (p : α → Bool) : ∀ l : List α, (l.filter fun x => !p x).length + (l.filter p).length = l.length
  | [] => rfl
  | a :: l => by
    have := filter_len p l
    cases h : p a <;> simp [h] <;> omega
theorem forget_len (S : NS) (k : Int) : (S.forget k).heap.length + S.wait k = S.heap.length := filter_len (fun d : Dt => decide ((d.to : Int) = k)) S.heap
theorem forget_ends (S : NS) (k : Int) : (S.forget k).ends = S.ends := rfl
theorem forget_most (S : NS) (k : Int) : (S.forget k).most = S.most := rfl
/-- what is left behind -/
def less : NS := (many 10000).forget 3
theorem less_len : less.heap.length = 8571 := by
  have h := forget_len (many 10000) 3
  obtain ⟨_, _, h3⟩ := many_e 10000
  have := many_wait 3 (by omega) 10000
  have e : (many 10000).wait 3 = (10000 + 6 - 3) / 7 := this
  unfold less
  omega
theorem less_three : less.wait 3 = 0 := by
  unfold less
  rw [NS.wait_forget]
  rfl
theorem less_none (k : Int) (hk : k < 0 ∨ 7 ≤ k) : less.wait k = 0 := by
  unfold less
  rw [NS.wait_forget, many_none k hk]
  simp
theorem less_send : less.sendE 0 8 [] = 0 := by
  obtain ⟨h1, h2, h3⟩ := many_e 10000
  have h1 : less.ends = 300 := (forget_ends _ _).trans h1
  have h2 : less.most = 10000 := (forget_most _ _).trans h2
  have hj : (less.joins 0 && less.joins 8) = true := by
    simp only [NS.joins, h1, Bool.and_eq_true, decide_eq_true_eq]
    omega
  have hl : ([] : List UInt8).length ≤ 131072 := by simp
  have hf : less.full 8 = false := by
    have := less_len
    have := less_none 8 (by omega)
    have e : less.wait ((8 : Nat) : Int) = 0 := this
    simp only [NS.full, Bool.or_eq_false_iff, decide_eq_false_iff_not]
    omega
  rw [NS.sendE, if_pos hj, if_pos hl, NS.layE]
  show (if less.full 8 = true then (5 : Int) else 0) = 0
  rw [hf]
  rfl
end Go.Proofs.Ythhablokbnfpcaa
