/- Two clocks of which one has others beside, plain. -/
import Derived.Test.YtncjbohpaanpaaaTwoC
namespace Go.Proofs.Ytncjbohpaanpaaa
set_option maxRecDepth 100000
/-- those whose Ids are less than 100 -/
def low (L : List Tm) : List Tm := L.filter fun t => decide (t.id < 100)
theorem filter_swap (p q : Tm → Bool) (L : List Tm) : (L.filter p).filter q = (L.filter q).filter p := by
  rw [List.filter_filter, List.filter_filter]
  exact congrFun (congrArg _ (funext fun a => Bool.and_comm _ _)) L
theorem low_filter (p : Tm → Bool) (L : List Tm) : low (L.filter p) = (low L).filter p := filter_swap p _ L
theorem low_del (i : Int) (L : List Tm) : low (del i L) = del i (low L) := low_filter _ L
theorem low_ins {x : Tm} (hx : x.id < 100) (L : List Tm) : low (ins x L) = ins x (low L) := by
  unfold ins
  rw [← low_filter, ← low_filter]
  unfold low
  rw [List.filter_append, List.filter_cons_of_pos (by simpa using hx)]
theorem low_ins_high {x : Tm} (hx : 100 ≤ x.id) {L : List Tm} (hs : Srt L) : low (ins x L) = low L := by
  rw [ins_take hs]
  unfold low
  rw [List.filter_append, List.filter_cons_of_neg (by simp; omega), ← List.filter_append, List.take_append_drop]
theorem low_del_high {i : Int} (hi : 100 ≤ i) (L : List Tm) : low (del i L) = low L := by
  unfold low del
  rw [List.filter_filter]
  refine List.filter_congr fun t _ => ?_
  by_cases h : t.id < 100
  · have : t.id ≠ i := by omega
    simp [h, this]
  · simp [h]
/-- how the two stand -/
structure Ap (Sa Sb : CS) (q : Nat) : Prop where
  lo : Sa.L = low Sb.L
  nw : Sa.now = Sb.now
  ma : Sa.most = 200
  mb : Sb.most = 200
  len : Sb.L.length ≤ q
namespace Ap
variable {Sa Sb : CS} {q : Nat} {o : OpV}
theorem len_a (h : Ap Sa Sb q) : Sa.L.length ≤ q := by
  rw [h.lo]
  exact Nat.le_trans (List.length_filter_le _ _) h.len
theorem does_laid {S : CS} (hn : S.now ≤ 1000) (hl : S.L.length < S.most) (hk : 1 ≤ o.kd ∧ o.kd ≤ 4) : S.does o = S.laid o.id o.later := by
  obtain ⟨h1, h2⟩ := CS.later_le o
  unfold CS.does
  rw [if_pos hk]
  exact CS.set_of (CS.setE_ok h1 (by omega) hl)
theorem both (h : Ap Sa Sb q) (hn : Sa.now ≤ 1000) (hq : q < 200) (hi : o.id < 100) : Ap (Sa.does o) (Sb.does o) (q + 1) := by
  have hla := h.len_a
  have hlb := CS.does_len (S := Sb) o
  obtain ⟨e1, e2⟩ := CS.does_now (S := Sa) o
  obtain ⟨e3, e4⟩ := CS.does_now (S := Sb) o
  refine ⟨?_, by rw [e1, e3]; exact h.nw, by rw [e2]; exact h.ma, by rw [e4]; exact h.mb, by have := h.len; omega⟩
  by_cases hk : 1 ≤ o.kd ∧ o.kd ≤ 4
  · rw [does_laid hn (by rw [h.ma]; omega) hk, does_laid (by rw [← h.nw]; exact hn) (by rw [h.mb]; have := h.len; omega) hk]
    show ins _ (del _ Sa.L) = low (ins _ (del _ Sb.L))
    rw [low_ins hi, low_del, h.lo, h.nw]
  · unfold CS.does
    rw [if_neg hk, if_neg hk]
    split
    · show del _ Sa.L = low (del _ Sb.L)
      rw [low_del, h.lo]
    · exact h.lo
theorem high (h : Ap Sa Sb q) (hb : Sb.Ok) (hn : Sa.now ≤ 1000) (hq : q < 200) (hi : 100 ≤ o.id) : Ap Sa (Sb.does o) (q + 1) := by
  have hlb := CS.does_len (S := Sb) o
  obtain ⟨e3, e4⟩ := CS.does_now (S := Sb) o
  refine ⟨?_, by rw [e3]; exact h.nw, h.ma, by rw [e4]; exact h.mb, by have := h.len; omega⟩
  by_cases hk : 1 ≤ o.kd ∧ o.kd ≤ 4
  · rw [does_laid (by rw [← h.nw]; exact hn) (by rw [h.mb]; have := h.len; omega) hk]
    show Sa.L = low (ins _ (del _ Sb.L))
    rw [low_ins_high hi (hb.srt.del _), low_del_high hi, h.lo]
  · unfold CS.does
    rw [if_neg hk]
    split
    · show Sa.L = low (del _ Sb.L)
      rw [low_del_high hi, h.lo]
    · exact h.lo
theorem tick (h : Ap Sa Sb q) : Ap Sa.tick Sb.tick q ∧ Sa.tickL = low Sb.tickL := by
  have hN : Sa.tickN = Sb.tickN := by unfold CS.tickN; rw [h.nw]
  refine ⟨⟨?_, hN, h.ma, h.mb, Nat.le_trans (List.length_filter_le _ _) h.len⟩, ?_⟩
  · show Sa.L.filter _ = low (Sb.L.filter _)
    rw [low_filter, h.lo, hN]
  · show Sa.L.filter _ = low (Sb.L.filter _)
    rw [low_filter, h.lo, hN]
theorem wider {q' : Nat} (h : Ap Sa Sb q) (hq : q ≤ q') : Ap Sa Sb q' := ⟨h.lo, h.nw, h.ma, h.mb, Nat.le_trans h.len hq⟩
end Ap
end Go.Proofs.Ytncjbohpaanpaaa
