/- Rounds as plain data: which are right, what answers make of them. No program is named here. -/
import GoSem.Core.Value
namespace Go.Coop
/-- a round -/
structure Rn where
  s : Int
  v : Int
  need : Int
  ph : Int
  ms : List Int
abbrev IV (k : Int) : Value := .int .i64 k
/-- how many marks are of a kind -/
def cnt (k : Int) (l : List Int) : Int := (l.countP fun m => decide (m = k) : Nat)
theorem cnt_nonneg (k : Int) (l : List Int) : 0 ≤ cnt k l := by unfold cnt; omega
theorem cnt_le (k : Int) (l : List Int) : cnt k l ≤ l.length := by
  unfold cnt
  have := List.countP_le_length (p := fun m => decide (m = k)) (l := l)
  omega
theorem cnt_nil (k : Int) : cnt k [] = 0 := rfl
theorem cnt_cons (k m : Int) (l : List Int) : cnt k (m :: l) = cnt k l + if m = k then 1 else 0 := by
  unfold cnt
  rw [List.countP_cons]
  by_cases h : m = k <;> simp [h]
theorem cnt_set (k : Int) {x m : Int} : ∀ {l : List Int} {i : Nat}, l[i]? = some m → cnt k (l.set i x) + (if m = k then 1 else 0) = cnt k l + if x = k then 1 else 0
  | [], i, h => by simp at h
  | y :: l, 0, h => by
    simp at h
    subst h
    simp only [List.set_cons_zero, cnt_cons]
    omega
  | y :: l, i + 1, h => by
    simp at h
    have := cnt_set k (x := x) h
    simp only [List.set_cons_succ, cnt_cons]
    omega
def Marks (l : List Int) : Prop := ∀ m ∈ l, 0 ≤ m ∧ m ≤ 4
theorem cnt_sum : ∀ {l : List Int}, Marks l → cnt 0 l + cnt 1 l + cnt 2 l + cnt 3 l + cnt 4 l = l.length
  | [], _ => by simp [cnt]
  | y :: l, h => by
    have h1 := cnt_sum (l := l) (fun m hm => h m (List.mem_cons_of_mem _ hm))
    have h2 := h y (List.mem_cons_self ..)
    simp only [cnt_cons, List.length_cons]
    have h3 : y = 0 ∨ y = 1 ∨ y = 2 ∨ y = 3 ∨ y = 4 := by omega
    rcases h3 with rfl | rfl | rfl | rfl | rfl <;> simp <;> omega
theorem cnt_all {k : Int} : ∀ {l : List Int}, cnt k l = l.length → ∀ m ∈ l, m = k
  | [], _ => by simp
  | y :: l, h => by
    rw [cnt_cons, List.length_cons] at h
    have hl := cnt_le k l
    have hy : y = k := by
      refine Decidable.byContradiction fun hn => ?_
      rw [if_neg hn] at h
      omega
    rw [if_pos hy] at h
    intro m hm
    rcases List.mem_cons.1 hm with rfl | hm
    · exact hy
    · exact cnt_all (by omega) m hm
theorem cnt_pos {k : Int} : ∀ {l : List Int}, 0 < cnt k l → k ∈ l
  | [], h => by simp [cnt] at h
  | y :: l, h => by
    rw [cnt_cons] at h
    by_cases hy : y = k
    · subst hy; exact List.mem_cons_self ..
    · rw [if_neg hy] at h
      exact List.mem_cons_of_mem _ (cnt_pos (by omega))
theorem cnt_mem {k : Int} : ∀ {l : List Int}, k ∈ l → 0 < cnt k l
  | y :: l, h => by
    rw [cnt_cons]
    have := cnt_nonneg k l
    rcases List.mem_cons.1 h with rfl | h
    · simp; omega
    · have := cnt_mem h
      split <;> omega
/-- what a phase asks of the marks -/
def PhOk (need ph : Int) (l : List Int) : Prop :=
  (ph = 1 ∧ cnt 2 l = 0 ∧ cnt 4 l = 0 ∧ cnt 1 l < need ∧ cnt 3 l ≤ l.length - need) ∨ (ph = 2 ∧ cnt 2 l = 0 ∧ cnt 4 l = 0 ∧ need ≤ cnt 1 l) ∨
  (ph = 3 ∧ cnt 4 l = 0 ∧ cnt 2 l < l.length) ∨ (ph = 4 ∧ cnt 2 l = l.length) ∨ (ph = 5 ∧ cnt 2 l = 0 ∧ cnt 4 l < l.length) ∨ (ph = 6 ∧ cnt 4 l = l.length)
instance (need ph : Int) (l : List Int) : Decidable (PhOk need ph l) := by unfold PhOk; infer_instance
def MayR (s v n need : Int) : Prop := (0 ≤ s ∧ s ≤ 1099511627776) ∧ (1 ≤ v ∧ v ≤ 1099511627776) ∧ (1 ≤ n ∧ n ≤ 255) ∧ (1 ≤ need ∧ need ≤ n)
instance (s v n need : Int) : Decidable (MayR s v n need) := by unfold MayR; infer_instance
instance (l : List Int) : Decidable (Marks l) := by unfold Marks; infer_instance
def RightR (r : Rn) : Prop := MayR r.s r.v r.ms.length r.need ∧ Marks r.ms ∧ PhOk r.need r.ph r.ms
instance (r : Rn) : Decidable (RightR r) := by unfold RightR; infer_instance
/-- what an answer makes of a mark -/
def askedR (m op e : Int) : Int := if op = 1 then (if e = 0 then 1 else if m = 0 then 3 else m) else m
def pubR (m op e : Int) : Int :=
  if op = 1 ∧ e = 61 then 2 else if op = 1 ∧ m ≠ 2 then askedR m op e else if op = 2 ∧ (e = 0 ∨ e = 61) then 2 else if op = 2 ∧ e = 60 ∧ m = 1 then 0 else m
def givR (m op e : Int) : Int := if op = 1 ∧ e = 0 then 1 else if op = 3 ∧ (e = 0 ∨ e = 61) then 4 else m
def ansR (ph m op e : Int) : Int := if ph = 1 ∨ ph = 2 then askedR m op e else if ph = 3 then pubR m op e else if ph = 5 then givR m op e else m
/-- the phase by the marks -/
def phaseR (ph need : Int) (l : List Int) : Int :=
  if ph = 1 ∧ need ≤ cnt 1 l then 2 else if ph = 1 ∧ l.length - need < cnt 3 l then 5 else if ph = 2 ∧ cnt 1 l < need then 1 else if ph = 3 ∧ cnt 2 l = l.length then 4 else if ph = 5 ∧ cnt 4 l = l.length then 6 else ph
def Rn.marked (r : Rn) (i : Nat) (m : Int) : Rn := ⟨r.s, r.v, r.need, phaseR r.ph r.need (r.ms.set i m), r.ms.set i m⟩
/-- has r this index? -/
def HasR (r : Rn) (i : Int) : Prop := RightR r ∧ 0 ≤ i ∧ i < r.ms.length
instance (r : Rn) (i : Int) : Decidable (HasR r i) := by unfold HasR; infer_instance
def Rn.told (r : Rn) (i op e : Int) : Rn × Int := if HasR r i then (r.marked i.toNat (ansR r.ph (r.ms.getD i.toNat 0) op e), 0) else (r, 130)
def Rn.lose (r : Rn) (i : Int) : Rn × Int := if HasR r i then (if r.ph = 4 ∨ r.ph = 6 then (r, 0) else (r.marked i.toNat 0, 0)) else (r, 130)
def Rn.publish (r : Rn) : Rn × Int := if RightR r then (if r.ph = 2 then (⟨r.s, r.v, r.need, 3, r.ms⟩, 0) else (r, 80)) else (r, 130)
def Rn.give (r : Rn) : Rn × Int := if RightR r then (if r.ph = 1 ∨ r.ph = 2 then (⟨r.s, r.v, r.need, 5, r.ms⟩, 0) else (r, 80)) else (r, 130)
/-- what an index is asked: 0: nothing -/
def wantR (ph m : Int) : Int :=
  if ph = 1 ∨ ph = 2 then (if m = 0 then 1 else 0) else if ph = 3 then (if m = 1 then 2 else if m = 2 then 0 else 1) else if ph = 5 then (if m = 4 then 0 else 3) else 0
/-- the wants of marks, the first of which has this index -/
def wantsL (ph : Int) : Nat → List Int → List (Int × Int)
  | _, [] => []
  | k, m :: l => if wantR ph m = 0 then wantsL ph (k + 1) l else ((k : Int), wantR ph m) :: wantsL ph (k + 1) l
def Rn.wants (r : Rn) : List (Int × Int) := if RightR r then wantsL r.ph 0 r.ms else []
def beginR (s v n need : Int) : Rn × Int := if MayR s v n need then (⟨s, v, need, 1, List.replicate n.toNat 0⟩, 0) else (⟨0, 0, 0, 0, []⟩, 130)

theorem wantsL_append (ph : Int) : ∀ (l m : List Int) (k : Nat), wantsL ph k (l ++ m) = wantsL ph k l ++ wantsL ph (k + l.length) m
  | [], m, k => by simp [wantsL]
  | y :: l, m, k => by
    have h := wantsL_append ph l m (k + 1)
    simp only [List.cons_append, wantsL, List.length_cons]
    rw [h, show k + 1 + l.length = k + (l.length + 1) by omega]
    split <;> simp
theorem wantsL_length (ph : Int) : ∀ (l : List Int) (k : Nat), (wantsL ph k l).length ≤ l.length
  | [], k => by simp [wantsL]
  | y :: l, k => by
    have h := wantsL_length ph l (k + 1)
    unfold wantsL
    split <;> simp <;> omega
/-- which want stands there, and that it is one of a mark -/
theorem wantsL_mem (ph : Int) : ∀ {l : List Int} {k : Nat} {x : Int × Int}, x ∈ wantsL ph k l → ∃ j m, l[j]? = some m ∧ x = (((k + j : Nat) : Int), wantR ph m) ∧ wantR ph m ≠ 0
  | [], k, x, h => by simp [wantsL] at h
  | y :: l, k, x, h => by
    unfold wantsL at h
    have tail : x ∈ wantsL ph (k + 1) l → ∃ j m, (y :: l)[j]? = some m ∧ x = (((k + j : Nat) : Int), wantR ph m) ∧ wantR ph m ≠ 0 := by
      intro h
      obtain ⟨j, m, h1, h2, h3⟩ := wantsL_mem ph h
      exact ⟨j + 1, m, by simpa using h1, by rw [h2, show k + 1 + j = k + (j + 1) by omega], h3⟩
    split at h
    · exact tail h
    · rename_i hne
      rcases List.mem_cons.1 h with h | h
      · exact ⟨0, y, rfl, by simpa using h, hne⟩
      · exact tail h
theorem wantsL_some (ph : Int) : ∀ {l : List Int} {k : Nat} {j : Nat} {m : Int}, l[j]? = some m → wantR ph m ≠ 0 → wantsL ph k l ≠ []
  | y :: l, k, 0, m, h, hw => by
    simp at h
    subst h
    unfold wantsL
    rw [if_neg hw]
    simp
  | y :: l, k, j + 1, m, h, hw => by
    unfold wantsL
    split
    · exact wantsL_some ph (l := l) (by simpa using h) hw
    · simp

section
variable {r : Rn}
theorem five {m : Int} (h : 0 ≤ m ∧ m ≤ 4) : m = 0 ∨ m = 1 ∨ m = 2 ∨ m = 3 ∨ m = 4 := by omega
theorem marks_set {l : List Int} (h : Marks l) (i : Nat) {x : Int} (hx : 0 ≤ x ∧ x ≤ 4) : Marks (l.set i x) := by
  intro m hm
  rcases List.mem_or_eq_of_mem_set hm with h1 | h1
  · exact h m h1
  · rw [h1]; exact hx
theorem ansR_five (ph op e : Int) {m : Int} (h : 0 ≤ m ∧ m ≤ 4) : 0 ≤ ansR ph m op e ∧ ansR ph m op e ≤ 4 := by
  unfold ansR pubR givR askedR
  repeat' split
  all_goals omega
/-- another mark: which ones may stand there, by the phase -/
def MayMark (ph m x : Int) : Prop := (0 ≤ x ∧ x ≤ 4) ∧ (ph = 1 → x ≠ 2 ∨ m = 2) ∧ (ph = 2 → x ≠ 2 ∨ m = 2) ∧ (ph = 1 → x ≠ 4 ∨ m = 4) ∧ (ph = 2 → x ≠ 4 ∨ m = 4) ∧ (ph = 3 → x ≠ 4 ∨ m = 4) ∧ (ph = 5 → x ≠ 2 ∨ m = 2) ∧ (ph = 4 → x = m) ∧ (ph = 6 → x = m) ∧ (x = 3 → m = 0 ∨ m = 3)
theorem ansR_may {ph m : Int} (op e : Int) (h : 0 ≤ m ∧ m ≤ 4) : MayMark ph m (ansR ph m op e) := by
  refine ⟨ansR_five ph op e h, ?_⟩
  unfold ansR pubR givR askedR
  refine ⟨?_, ?_, ?_, ?_, ?_, ?_, ?_, ?_, ?_⟩
  all_goals try (intro hp; subst hp; simp; repeat' split)
  all_goals try omega
  repeat' split
  all_goals omega
theorem zero_may {ph m : Int} (h4 : ph ≠ 4) (h6 : ph ≠ 6) : MayMark ph m 0 := by
  refine ⟨by omega, ?_, ?_, ?_, ?_, ?_, ?_, ?_, ?_, ?_⟩ <;> intro hp <;> omega
theorem marked_right (h : RightR r) {i : Nat} {m x : Int} (hi : r.ms[i]? = some m) (hx : MayMark r.ph m x) : RightR (r.marked i x) := by
  obtain ⟨h1, h2, h3⟩ := h
  have hl : (r.ms.set i x).length = r.ms.length := List.length_set
  refine ⟨by unfold Rn.marked; simp only [hl]; exact h1, marks_set h2 i hx.1, ?_⟩
  have c0 := cnt_set 0 (x := x) hi
  have c1 := cnt_set 1 (x := x) hi
  have c2 := cnt_set 2 (x := x) hi
  have c3 := cnt_set 3 (x := x) hi
  have c4 := cnt_set 4 (x := x) hi
  have s1 := cnt_sum h2
  have s2 := cnt_sum (marks_set h2 i hx.1)
  have n1 := cnt_nonneg 1 r.ms
  have n2 := cnt_nonneg 2 (r.ms.set i x)
  have n4 := cnt_nonneg 4 (r.ms.set i x)
  have n0 := cnt_nonneg 0 (r.ms.set i x)
  have n3 := cnt_nonneg 3 (r.ms.set i x)
  have n11 := cnt_nonneg 1 (r.ms.set i x)
  have n00 := cnt_nonneg 0 r.ms
  have n33 := cnt_nonneg 3 r.ms
  have n22 := cnt_nonneg 2 r.ms
  have n44 := cnt_nonneg 4 r.ms
  have l4 := cnt_le 4 (r.ms.set i x)
  have l2 := cnt_le 2 (r.ms.set i x)
  have hm := h2 m (List.mem_of_getElem? hi)
  have hmc : 0 < cnt m r.ms := cnt_mem (List.mem_of_getElem? hi)
  rw [hl] at s2 l4 l2
  unfold Rn.marked
  simp only
  obtain ⟨_, _, ⟨hn1, _⟩, hn3, hn4⟩ := h1
  obtain ⟨hx0, hx1⟩ := hx
  unfold PhOk phaseR
  unfold PhOk at h3
  rw [hl]
  generalize cnt 0 (r.ms.set i x) = d0 at *
  generalize cnt 1 (r.ms.set i x) = d1 at *
  generalize cnt 2 (r.ms.set i x) = d2 at *
  generalize cnt 3 (r.ms.set i x) = d3 at *
  generalize cnt 4 (r.ms.set i x) = d4 at *
  generalize hn : (r.ms.length : Int) = n at *
  generalize r.need = need at *
  generalize r.ph = ph at *
  have hm5 := five hm
  have hx5 := five hx0
  rcases h3 with ⟨rfl, h3⟩ | ⟨rfl, h3⟩ | ⟨rfl, h3⟩ | ⟨rfl, h3⟩ | ⟨rfl, h3⟩ | ⟨rfl, h3⟩ <;> rcases hm5 with rfl | rfl | rfl | rfl | rfl <;> rcases hx5 with rfl | rfl | rfl | rfl | rfl <;> simp at c0 c1 c2 c3 c4 hx1 ⊢ <;> (try omega) <;> (repeat' split) <;> omega
end
end Go.Coop
