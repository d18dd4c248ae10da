/- NetOthers, plain: of two nets the one has what the other has for a station. -/
import Derived.Test.YthhablokbnfpcaaOthB
namespace Go.Proofs.Ythhablokbnfpcaa
open Go.RowKit Go.Coop
set_option maxRecDepth 100000
def mineF (m : Nat) (l : List Dt) : List Dt := l.filter fun d => decide (d.to = m)
/-- b has a's datagrams for m -/
structure Oth (m : Nat) (Sa Sb : NS) : Prop where
  ea : Sa.ends = 5
  eb : Sb.ends = 5
  ma : Sa.most = 6
  mb : Sb.most = 6
  h : Sb.heap = mineF m Sa.heap
  w6 : ∀ k : Nat, k < 5 → Sa.wait (k : Int) ≤ 6
  ok : Sa.Ok
theorem mineF_append (m : Nat) (a b : List Dt) : mineF m (a ++ b) = mineF m a ++ mineF m b := List.filter_append ..
theorem wait_mine (S : NS) (m : Nat) : S.wait (m : Int) = (mineF m S.heap).length := by
  unfold NS.wait mineF
  congr 1
  refine List.filter_congr fun d _ => ?_
  by_cases e : d.to = m
  · subst e; simp
  · have : ¬ (d.to : Int) = (m : Int) := by omega
    simp [e, this]
theorem mine_mine (m : Nat) (l : List Dt) : mineF m (mineF m l) = mineF m l := by
  unfold mineF
  rw [List.filter_filter]
  congr 1
  funext d
  simp
theorem sum_len : ∀ l : List Dt, (∀ d ∈ l, d.to < 5) → l.length = (mineF 0 l).length + (mineF 1 l).length + (mineF 2 l).length + (mineF 3 l).length + (mineF 4 l).length
  | [], _ => rfl
  | d :: l, h => by
    have ih := sum_len l fun x hx => h x (by simp [hx])
    have hd := h d (by simp)
    have key : ∀ k, (mineF k (d :: l)).length = (mineF k l).length + if d.to = k then 1 else 0 := fun k => by
      unfold mineF
      by_cases e : d.to = k
      · rw [List.filter_cons_of_pos (by simpa using e), if_pos e]; rfl
      · rw [List.filter_cons_of_neg (by simpa using e), if_neg e]; rfl
    rw [key, key, key, key, key, List.length_cons]
    rcases (show d.to = 0 ∨ d.to = 1 ∨ d.to = 2 ∨ d.to = 3 ∨ d.to = 4 by omega) with e | e | e | e | e <;> simp [e] <;> omega
namespace Oth
variable {m : Nat} {Sa Sb : NS}
theorem len (h : Oth m Sa Sb) : Sa.heap.length ≤ 30 := by
  have := sum_len Sa.heap fun d hd => by have := h.ok.its d hd; have := h.ea; omega
  have w := fun k hk => (wait_mine Sa k) ▸ h.w6 k hk
  have := w 0 (by omega)
  have := w 1 (by omega)
  have := w 2 (by omega)
  have := w 3 (by omega)
  have := w 4 (by omega)
  omega
theorem lenb (h : Oth m Sa Sb) : Sb.heap.length ≤ Sa.heap.length := by rw [h.h]; exact List.length_filter_le _ _
theorem wb (h : Oth m Sa Sb) : Sb.wait (m : Int) = Sa.wait (m : Int) := by rw [wait_mine, wait_mine, h.h, mine_mine]
theorem wbl (h : Oth m Sa Sb) : Sb.heap.length = Sa.wait (m : Int) := by rw [wait_mine, h.h]
theorem full_same (h : Oth m Sa Sb) : Sb.full m = Sa.full m := by
  have := h.wb
  have := h.len
  have := h.lenb
  have := h.ma
  have := h.mb
  simp only [NS.full]
  rw [h.ma, h.mb, h.wb, decide_eq_false (show ¬ 10000 ≤ Sb.heap.length by omega), decide_eq_false (show ¬ 10000 ≤ Sa.heap.length by omega)]
theorem okb (h : Oth m Sa Sb) : Sb.Ok := by
  refine ⟨by have := h.eb; omega, by have := h.eb; omega, by have := h.mb; omega, by have := h.mb; omega, by have := h.len; have := h.lenb; omega, fun d hd => ?_⟩
  rw [h.h] at hd
  have := h.ok.its d (List.mem_filter.1 hd).1
  have := h.ea
  have := h.eb
  refine ⟨by omega, by omega, by omega⟩
theorem wfull (S : NS) (d : Dt) (hm : S.most = 6) (_hl : S.heap.length ≤ 30) (hf : S.full d.to = false) : S.wait (d.to : Int) < 6 := by
  simp only [NS.full, Bool.or_eq_false_iff, decide_eq_false_iff_not] at hf
  omega
theorem lay_to (h : Oth m Sa Sb) {d : Dt} (hd : d.fr < 5 ∧ d.to < 5 ∧ d.b.length ≤ 131072) : (d.to = m → Sa.layE d = Sb.layE d ∧ Oth m (Sa.lay d) (Sb.lay d)) ∧ (d.to ≠ m → Oth m (Sa.lay d) Sb) := by
  have hea := h.ea
  have hok : (Sa.lay d).Ok := NS.lay_ok h.ok ⟨by omega, by omega, hd.2.2⟩
  have hw : ∀ k : Nat, k < 5 → (Sa.lay d).wait (k : Int) ≤ 6 := fun k hk => by
    unfold NS.lay
    split
    · exact h.w6 k hk
    · rename_i hf
      rw [NS.wait_laid]
      have := h.w6 k hk
      by_cases e : (d.to : Int) = (k : Int)
      · rw [if_pos e, ← e]
        have := wfull Sa d h.ma h.len (by simpa using hf)
        omega
      · rw [if_neg e]
        omega
  have hends : (Sa.lay d).ends = 5 ∧ (Sa.lay d).most = 6 := by
    unfold NS.lay
    split
    · exact ⟨h.ea, h.ma⟩
    · exact ⟨h.ea, h.ma⟩
  constructor
  · intro e
    have hf : Sb.full d.to = Sa.full d.to := e ▸ h.full_same
    refine ⟨by unfold NS.layE; rw [hf], hends.1, ?_, hends.2, ?_, ?_, hw, hok⟩
    · unfold NS.lay; split <;> exact h.eb
    · unfold NS.lay; split <;> exact h.mb
    · unfold NS.lay
      rw [hf]
      split
      · exact h.h
      · show Sb.heap ++ [d] = mineF m (Sa.heap ++ [d])
        rw [mineF_append, h.h]
        congr 1
        simp [mineF, e]
  · intro e
    refine ⟨hends.1, h.eb, hends.2, h.mb, ?_, hw, hok⟩
    unfold NS.lay
    split
    · exact h.h
    · show Sb.heap = mineF m (Sa.heap ++ [d])
      rw [mineF_append, h.h]
      simp [mineF, e]
theorem send_to (h : Oth m Sa Sb) {f t : Nat} (hf : f < 5) (ht : t < 5) {l : List UInt8} (hl : l.length ≤ 60) : (t = m → Sa.sendE f t l = Sb.sendE f t l ∧ Oth m (Sa.send f t l) (Sb.send f t l)) ∧ (t ≠ m → Oth m (Sa.send f t l) Sb) := by
  have ja : (Sa.joins (f : Int) && Sa.joins (t : Int)) = true := by
    simp only [NS.joins, h.ea, Bool.and_eq_true, decide_eq_true_eq]
    omega
  have jb : (Sb.joins (f : Int) && Sb.joins (t : Int)) = true := by
    simp only [NS.joins, h.eb, Bool.and_eq_true, decide_eq_true_eq]
    omega
  have h2 := h.lay_to (d := ⟨f, t, l⟩) ⟨hf, ht, by show l.length ≤ _; omega⟩
  rw [NS.send, NS.send, NS.sendE, NS.sendE, if_pos ja, if_pos ja, if_pos jb, if_pos jb, if_pos (by omega), if_pos (by omega), if_pos (by omega), if_pos (by omega)]
  exact h2
/-- which of m's it is -/
theorem kth {l : List Dt} {i : Nat} {d : Dt} (hd : l[i]? = some d) : (d.to = m → (mineF m l)[(mineF m (l.take i)).length]? = some d ∧ mineF m (l.eraseIdx i) = (mineF m l).eraseIdx (mineF m (l.take i)).length) ∧ (d.to ≠ m → mineF m (l.eraseIdx i) = mineF m l) := by
  have hi := (List.getElem?_eq_some_iff.1 hd).1
  have e : l = l.take i ++ d :: l.drop (i + 1) := by
    have := List.take_append_drop i l
    rw [List.drop_eq_getElem_cons hi, (List.getElem?_eq_some_iff.1 hd).2] at this
    exact this.symm
  have e2 : l.eraseIdx i = l.take i ++ l.drop (i + 1) := List.eraseIdx_eq_take_drop_succ ..
  have e3 : mineF m l = mineF m (l.take i) ++ mineF m (d :: l.drop (i + 1)) := by
    conv => lhs; rw [e]
    rw [mineF_append]
  constructor
  · intro hm
    have e4 : mineF m (d :: l.drop (i + 1)) = d :: mineF m (l.drop (i + 1)) := List.filter_cons_of_pos (by simpa using hm)
    rw [e2, mineF_append, e3, e4]
    exact ⟨by simp, by simp [List.eraseIdx_append_of_length_le]⟩
  · intro hm
    have e4 : mineF m (d :: l.drop (i + 1)) = mineF m (l.drop (i + 1)) := List.filter_cons_of_neg (by simpa using hm)
    rw [e2, mineF_append, e3, e4]
theorem look_to (h : Oth m Sa Sb) {i : Nat} {d : Dt} (hd : Sa.heap[i]? = some d) (hm : d.to = m) : Sb.look ((mineF m (Sa.heap.take i)).length : Int) = some d := by
  rw [NS.look_at, h.h]
  exact ((kth hd).1 hm).1
theorem drop_eq {S : NS} {i : Nat} {d : Dt} (h : S.look (i : Int) = some d) : S.drop (i : Int) = S.without i := by
  simp only [NS.drop, h]
  rfl
theorem drop_to (h : Oth m Sa Sb) {i : Nat} {d : Dt} (hd : Sa.heap[i]? = some d) : (d.to = m → Oth m (Sa.drop (i : Int)) (Sb.drop ((mineF m (Sa.heap.take i)).length : Int))) ∧ (d.to ≠ m → Oth m (Sa.drop (i : Int)) Sb) := by
  have hla : Sa.look (i : Int) = some d := by rw [NS.look_at]; exact hd
  rw [drop_eq hla]
  have hw : ∀ k : Nat, k < 5 → (Sa.without i).wait (k : Int) ≤ 6 := fun k hk => by
    have := NS.wait_without Sa hd (k : Int)
    have := h.w6 k hk
    omega
  constructor
  · intro hm
    rw [drop_eq (h.look_to hd hm)]
    refine ⟨h.ea, h.eb, h.ma, h.mb, ?_, hw, NS.without_ok h.ok i⟩
    show Sb.heap.eraseIdx _ = mineF m (Sa.heap.eraseIdx i)
    rw [((kth hd).1 hm).2, h.h]
  · intro hm
    refine ⟨h.ea, h.eb, h.ma, h.mb, ?_, hw, NS.without_ok h.ok i⟩
    show Sb.heap = mineF m (Sa.heap.eraseIdx i)
    rw [(kth hd).2 hm, h.h]
theorem forget_to (h : Oth m Sa Sb) (t : Nat) : (t = m → Sa.wait (t : Int) = Sb.wait (t : Int) ∧ Oth m (Sa.forget (t : Int)) (Sb.forget (t : Int))) ∧ (t ≠ m → Oth m (Sa.forget (t : Int)) Sb) := by
  have hw : ∀ k : Nat, k < 5 → (Sa.forget (t : Int)).wait (k : Int) ≤ 6 := fun k hk => by
    rw [NS.wait_forget]
    have := h.w6 k hk
    split <;> omega
  have hc : mineF m (Sa.forget (t : Int)).heap = (Sb.heap.filter fun d => !decide ((d.to : Int) = (t : Int))) := by
    rw [h.h]
    show List.filter _ (List.filter _ _) = List.filter _ (List.filter _ _)
    rw [List.filter_filter, List.filter_filter]
    congr 1
    funext d
    rw [Bool.and_comm]
  constructor
  · intro e
    exact ⟨by rw [e, h.wb], h.ea, h.eb, h.ma, h.mb, hc.symm, hw, NS.forget_ok h.ok _⟩
  · intro e
    refine ⟨h.ea, h.eb, h.ma, h.mb, ?_, hw, NS.forget_ok h.ok _⟩
    rw [hc]
    refine (List.filter_eq_self.2 fun d hd => ?_).symm
    rw [h.h] at hd
    have := (List.mem_filter.1 hd).2
    simp at this
    simp
    omega
theorem copy_to (h : Oth m Sa Sb) {i : Nat} {d : Dt} (hd : Sa.heap[i]? = some d) : (d.to = m → Sa.copyE (i : Int) = Sb.copyE ((mineF m (Sa.heap.take i)).length : Int) ∧ Oth m (Sa.copy (i : Int)) (Sb.copy ((mineF m (Sa.heap.take i)).length : Int))) ∧ (d.to ≠ m → Oth m (Sa.copy (i : Int)) Sb) := by
  have hla : Sa.look (i : Int) = some d := by rw [NS.look_at]; exact hd
  have hin := h.ok.its d (List.mem_of_getElem? hd)
  have hea := h.ea
  have h2 := h.lay_to (d := d) ⟨by omega, by omega, hin.2.2⟩
  constructor
  · intro e
    have hlb := h.look_to hd e
    simp only [NS.copyE, NS.copy, hla, hlb]
    exact h2.1 e
  · intro e
    simp only [NS.copy, hla]
    exact h2.2 e
theorem new (m : Nat) : Oth m (NS.new 5 6) (NS.new 5 6) := ⟨rfl, rfl, rfl, rfl, rfl, fun k _ => by show (0 : Nat) ≤ 6; omega, NS.new_ok (by omega) (by omega) (by omega) (by omega)⟩
/-- one deed that is about no i-th -/
theorem act0 (h : Oth m Sa Sb) {y : Int} (hy : 0 ≤ y ∧ (y < 4 ∨ 6 < y)) {f t : Nat} (hf : f < 5) (ht : t < 5) (at_ k : Int) {l : List UInt8} (hl : l.length ≤ 60) :
    (t = m → deedR Sa y f t at_ l = deedR Sb y f t k l ∧ Oth m (deedS Sa y f t at_ l) (deedS Sb y f t k l)) ∧ (t ≠ m → Oth m (deedS Sa y f t at_ l) Sb) := by
  unfold deedR deedS
  by_cases h4 : y < 4
  · simp only [if_pos h4]
    have := h.send_to hf ht hl
    exact ⟨fun e => ⟨by rw [(this.1 e).1], (this.1 e).2⟩, this.2⟩
  · simp only [if_neg h4, if_neg (show ¬ y = 4 by omega), if_neg (show ¬ y = 5 by omega), if_neg (show ¬ y = 6 by omega)]
    by_cases h7 : y = 7
    · simp only [if_pos h7]
      have := h.forget_to t
      exact ⟨fun e => ⟨by rw [(this.1 e).1], (this.1 e).2⟩, this.2⟩
    · simp only [if_neg h7]
      exact ⟨fun _ => ⟨by trivial, h⟩, fun _ => h⟩
/-- one deed that is about the i-th -/
theorem act1 (h : Oth m Sa Sb) {y : Int} (hy : 4 ≤ y ∧ y ≤ 6) (f t : Int) {i : Nat} {d : Dt} (hd : Sa.heap[i]? = some d) (l : List UInt8) :
    (d.to = m → deedR Sa y f t (i : Int) l = deedR Sb y f t ((mineF m (Sa.heap.take i)).length : Int) l ∧ Oth m (deedS Sa y f t (i : Int) l) (deedS Sb y f t ((mineF m (Sa.heap.take i)).length : Int) l)) ∧ (d.to ≠ m → Oth m (deedS Sa y f t (i : Int) l) Sb) := by
  have hla : Sa.look (i : Int) = some d := by rw [NS.look_at]; exact hd
  unfold deedR deedS
  simp only [if_neg (show ¬ y < 4 by omega)]
  by_cases h4 : y = 4
  · simp only [if_pos h4]
    have := h.copy_to hd
    exact ⟨fun e => ⟨by rw [(this.1 e).1], (this.1 e).2⟩, this.2⟩
  · simp only [if_neg h4]
    have hdt := h.drop_to hd
    by_cases h5 : y = 5
    · simp only [if_pos h5]
      exact ⟨fun e => ⟨by rw [hla, h.look_to hd e], hdt.1 e⟩, hdt.2⟩
    · simp only [if_neg h5, if_pos (show y = 6 by omega)]
      exact ⟨fun e => ⟨by trivial, hdt.1 e⟩, hdt.2⟩
end Oth
end Go.Proofs.Ythhablokbnfpcaa
