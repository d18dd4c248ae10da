/- NetMost, plain: a net that fills up. -/
import Derived.Test.YthhablokbnfpcaaNetP
namespace Go.Proofs.Ythhablokbnfpcaa
open Go.RowKit Go.Coop
set_option maxRecDepth 100000
/-- i datagrams, all for station 1 -/
structure Mst (k i : Nat) (S : NS) : Prop where
  e : S.ends = 2
  m : S.most = k
  len : S.heap.length = i
  all : ∀ d ∈ S.heap, d.to = 1
namespace Mst
variable {k i : Nat} {S : NS}
theorem w1 (h : Mst k i S) : S.wait 1 = i := by
  rw [← h.len, NS.wait]
  congr 1
  rw [List.filter_eq_self]
  intro d hd
  simp [h.all d hd]
theorem w0 (h : Mst k i S) : S.wait 0 = 0 := by
  rw [NS.wait, List.length_eq_zero_iff, List.filter_eq_nil_iff]
  intro d hd
  simp [h.all d hd]
theorem new (k : Nat) : Mst k 0 (NS.new 2 k) := ⟨rfl, rfl, rfl, by simp [NS.new]⟩
theorem notfull (h : Mst k i S) (hi : i < k) (hk : k ≤ 40) : S.full 1 = false := by
  have h1 := h.w1
  have h2 := h.len
  have h3 := h.m
  simp only [NS.full, Bool.or_eq_false_iff, decide_eq_false_iff_not]
  refine ⟨?_, ?_⟩
  · show ¬ (S.most ≤ S.wait (1 : Int))
    omega
  · omega
theorem laid (h : Mst k i S) {d : Dt} (hd : d.to = 1) : Mst k (i + 1) (S.laid d) :=
  ⟨h.e, h.m, by simp [NS.laid, h.len], fun x hx => by
    simp [NS.laid] at hx
    rcases hx with hx | rfl
    · exact h.all x hx
    · exact hd⟩
theorem sends (h : Mst k i S) (hi : i < k) (hk : k ≤ 40) (x : List UInt8) (hx : x.length ≤ 1) : S.sendE 0 1 x = 0 ∧ Mst k (i + 1) (S.send 0 1 x) := by
  have hj : (S.joins 0 && S.joins 1) = true := by simp [NS.joins, h.e]
  have hf := h.notfull hi hk
  constructor
  · rw [NS.sendE, if_pos hj, if_pos (by omega), NS.layE, if_neg (by show ¬ (S.full 1 = true); rw [hf]; decide)]
  · rw [NS.send, if_pos hj, if_pos (by omega), NS.lay, if_neg (by show ¬ (S.full 1 = true); rw [hf]; decide)]
    exact h.laid rfl
theorem look0 (h : Mst k i S) {j : Nat} (hi : j < i) : ∃ d, S.look (j : Int) = some d ∧ S.heap[j]? = some d ∧ d.to = 1 := by
  obtain ⟨d, hd⟩ : ∃ d, S.heap[j]? = some d := ⟨_, List.getElem?_eq_getElem (by rw [h.len]; exact hi)⟩
  exact ⟨d, by rw [NS.look_at]; exact hd, hd, h.all d (List.mem_of_getElem? hd)⟩
theorem copies (h : Mst k i S) (h0 : 0 < i) (hi : i < k) (hk : k ≤ 40) : S.copyE 0 = 0 ∧ Mst k (i + 1) (S.copy 0) := by
  obtain ⟨d, hd, _, hto⟩ := h.look0 h0
  have hd : S.look 0 = some d := hd
  have hf := h.notfull hi hk
  simp only [NS.copyE, NS.copy, hd, NS.layE, NS.lay, hto, hf]
  exact ⟨rfl, h.laid hto⟩
theorem full (h : Mst k k S) : S.full 1 = true := by
  have h1 := h.w1
  have h3 := h.m
  simp only [NS.full, Bool.or_eq_true, decide_eq_true_eq]
  left
  show S.most ≤ S.wait (1 : Int)
  omega
theorem sendNo (h : Mst k k S) : S.sendE 1 1 [] = 5 ∧ S.send 1 1 [] = S := by
  have hj : (S.joins 1 && S.joins 1) = true := by simp [NS.joins, h.e]
  have hf := h.full
  constructor
  · rw [NS.sendE, if_pos hj, if_pos (by simp), NS.layE, if_pos (by show S.full 1 = true; exact hf)]
  · rw [NS.send, if_pos hj, if_pos (by simp), NS.lay, if_pos (by show S.full 1 = true; exact hf)]
theorem copyNo (h : Mst k k S) (hk : 0 < k) : S.copyE 0 = 5 ∧ S.copy 0 = S := by
  obtain ⟨d, hd, _, hto⟩ := h.look0 hk
  have hd : S.look 0 = some d := hd
  have hf := h.full
  simp [NS.copyE, NS.copy, hd, NS.layE, NS.lay, hto, hf]
theorem sendZ (h : Mst k k S) (hk0 : 0 < k) (hk : k ≤ 40) : S.sendE 1 0 [] = 0 ∧ S.send 1 0 [] = S.laid ⟨1, 0, []⟩ := by
  have hj : (S.joins 1 && S.joins 0) = true := by simp [NS.joins, h.e]
  have hf : S.full 0 = false := by
    have h1 := h.w0
    have h2 := h.len
    have h3 := h.m
    simp only [NS.full, Bool.or_eq_false_iff, decide_eq_false_iff_not]
    refine ⟨?_, by omega⟩
    show ¬ (S.most ≤ S.wait (0 : Int))
    omega
  constructor
  · rw [NS.sendE, if_pos hj, if_pos (by simp), NS.layE, if_neg (by show ¬ (S.full 0 = true); rw [hf]; decide)]
  · rw [NS.send, if_pos hj, if_pos (by simp), NS.lay, if_neg (by show ¬ (S.full 0 = true); rw [hf]; decide)]
    rfl
end Mst
/-- behind the one that has gone: there is room -/
structure Mroom (k q : Nat) (S : NS) : Prop where
  e : S.ends = 2
  m : S.most = k
  len : S.heap.length ≤ 41
  w1 : S.wait 1 = q
  w0 : S.wait 0 = 1
theorem Mst.z {k : Nat} {S : NS} (h : Mst k k S) (hk : k ≤ 40) : (S.laid ⟨1, 0, []⟩).wait 1 = k ∧ (S.laid ⟨1, 0, []⟩).wait 0 = 1 ∧ (S.laid ⟨1, 0, []⟩).heap.length ≤ 41 := by
  refine ⟨?_, ?_, ?_⟩
  · rw [NS.wait_laid, h.w1]
    simp
  · rw [NS.wait_laid, h.w0]
    simp
  · simp [NS.laid, h.len]
    omega
theorem Mst.one {k j : Nat} {S : NS} (h : Mst k k S) (hj : j < k) (hk : k ≤ 40) : ∃ d, (S.laid ⟨1, 0, []⟩).look (j : Int) = some d ∧ Mroom k (k - 1) ((S.laid ⟨1, 0, []⟩).drop (j : Int)) := by
  obtain ⟨d, _, hd, hto⟩ := h.look0 hj
  have hd2 : (S.laid ⟨1, 0, []⟩).heap[j]? = some d := by
    show (S.heap ++ _)[j]? = _
    rw [List.getElem?_append_left (by rw [h.len]; exact hj), hd]
  obtain ⟨z1, z0, zl⟩ := h.z hk
  have hl : (S.laid ⟨1, 0, []⟩).look (j : Int) = some d := by rw [NS.look_at]; exact hd2
  refine ⟨d, hl, ?_⟩
  have e : (S.laid ⟨1, 0, []⟩).drop (j : Int) = (S.laid ⟨1, 0, []⟩).without j := by
    simp only [NS.drop, hl]
    rfl
  rw [e]
  have a1 := NS.wait_without _ hd2 1
  have a0 := NS.wait_without _ hd2 0
  rw [z1, hto] at a1
  rw [z0, hto] at a0
  refine ⟨h.e, h.m, ?_, ?_, ?_⟩
  · exact Nat.le_trans (List.length_eraseIdx_le _ _) zl
  · simp at a1; omega
  · simp at a0; omega
theorem Mst.none {k : Nat} {S : NS} (h : Mst k k S) (hk : k ≤ 40) : Mroom k 0 ((S.laid ⟨1, 0, []⟩).forget 1) := by
  obtain ⟨z1, z0, zl⟩ := h.z hk
  refine ⟨h.e, h.m, ?_, ?_, ?_⟩
  · exact Nat.le_trans (List.length_filter_le _ _) zl
  · rw [NS.wait_forget]; rfl
  · rw [NS.wait_forget]; exact z0
theorem Mroom.more {k q : Nat} {S : NS} (h : Mroom k q S) (hq : q < k) (hk : k ≤ 40) : S.sendE 0 1 [] = 0 ∧ (S.send 0 1 []).wait 1 = q + 1 := by
  have hj : (S.joins 0 && S.joins 1) = true := by simp [NS.joins, h.e]
  have hf : S.full 1 = false := by
    have h1 := h.w1
    have h2 := h.len
    have h3 := h.m
    simp only [NS.full, Bool.or_eq_false_iff, decide_eq_false_iff_not]
    refine ⟨?_, by omega⟩
    show ¬ (S.most ≤ S.wait (1 : Int))
    omega
  constructor
  · rw [NS.sendE, if_pos hj, if_pos (by simp), NS.layE, if_neg (by show ¬ (S.full 1 = true); rw [hf]; decide)]
  · rw [NS.send, if_pos hj, if_pos (by simp), NS.lay, if_neg (by show ¬ (S.full 1 = true); rw [hf]; decide), NS.wait_laid, h.w1]
    simp
end Go.Proofs.Ythhablokbnfpcaa
