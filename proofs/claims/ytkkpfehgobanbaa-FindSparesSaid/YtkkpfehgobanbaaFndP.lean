/- Finds, plain. -/
import Derived.Test.YtkkpfehgobanbaaCodG
set_option maxRecDepth 100000
namespace Go.Proofs.Ytkkpfehgobanbaa
open Go.RowKit Go.Coop
abbrev IV (k : Int) : Value := .int .i64 k
/-- a find -/
structure _root_.Go.Coop.Fq where
  s : Int
  v : Int
  need : Int
  ph : Int
  ms : List Int
  ws : List Int
  bs : List (List UInt8)
/-- the indexes of a mark, of which the first mark has this index -/
def idx (k : Int) : Nat → List Int → List Int
  | _, [] => []
  | i, m :: l => if m = k then (i : Int) :: idx k (i + 1) l else idx k (i + 1) l
def ixs (k : Int) (ms : List Int) : List Int := idx k 0 ms
theorem idx_append (k : Int) : ∀ (l m : List Int) (i : Nat), idx k i (l ++ m) = idx k i l ++ idx k (i + l.length) m
  | [], m, i => by simp [idx]
  | y :: l, m, i => by
    have h := idx_append k l m (i + 1)
    simp only [List.cons_append, idx, List.length_cons]
    rw [h, show i + 1 + l.length = i + (l.length + 1) by omega]
    split <;> simp
theorem idx_len (k : Int) : ∀ (l : List Int) (i : Nat), (idx k i l).length ≤ l.length
  | [], i => by simp [idx]
  | y :: l, i => by
    have h := idx_len k l (i + 1)
    simp only [idx, List.length_cons]
    split <;> simp <;> omega
theorem ixs_len (k : Int) (l : List Int) : (ixs k l).length ≤ l.length := idx_len k l 0
theorem ixs_take {k : Int} {l : List Int} {j : Nat} {y : Int} (h : l[j]? = some y) : ixs k (l.take (j + 1)) = ixs k (l.take j) ++ if y = k then [(j : Int)] else [] := by
  have hj : j < l.length := (List.getElem?_eq_some_iff.1 h).1
  unfold ixs
  rw [List.take_add_one, h, idx_append]
  simp only [Option.toList_some, List.length_take, Nat.zero_add, Nat.min_eq_left (Nat.le_of_lt hj), idx]
theorem mem_idx (k : Int) : ∀ (l : List Int) (i : Nat) (x : Int), x ∈ idx k i l ↔ ∃ j : Nat, x = ((i + j : Nat) : Int) ∧ l[j]? = some k
  | [], i, x => by simp [idx]
  | y :: l, i, x => by
    have h := mem_idx k l (i + 1) x
    simp only [idx]
    constructor
    · intro hx
      split at hx
      · rename_i e
        rcases List.mem_cons.1 hx with e2 | e2
        · exact ⟨0, by simpa using e2, by simp [e]⟩
        · obtain ⟨j, h1, h2⟩ := h.1 e2
          exact ⟨j + 1, by rw [h1]; congr 1; omega, by simpa using h2⟩
      · obtain ⟨j, h1, h2⟩ := h.1 hx
        exact ⟨j + 1, by rw [h1]; congr 1; omega, by simpa using h2⟩
    · rintro ⟨j, h1, h2⟩
      cases j with
      | zero =>
        have e : y = k := by simpa using h2
        rw [if_pos e, h1]
        simp
      | succ j =>
        have := h.2 ⟨j, by rw [h1]; congr 1; omega, by simpa using h2⟩
        split
        · exact List.mem_cons_of_mem _ this
        · exact this
theorem mem_ixs {k : Int} {l : List Int} {x : Int} : x ∈ ixs k l ↔ ∃ j : Nat, x = (j : Int) ∧ l[j]? = some k := by
  unfold ixs
  rw [mem_idx]
  simp
theorem idx_up (k : Int) : ∀ (l : List Int) (i : Nat), (∀ x ∈ idx k i l, (i : Int) ≤ x) ∧ (idx k i l).Pairwise (· < ·)
  | [], i => by simp [idx]
  | y :: l, i => by
    obtain ⟨h1, h2⟩ := idx_up k l (i + 1)
    simp only [idx]
    split
    · refine ⟨fun x hx => ?_, List.pairwise_cons.2 ⟨fun x hx => ?_, h2⟩⟩
      · rcases List.mem_cons.1 hx with e | e
        · omega
        · have := h1 x e; omega
      · have := h1 x hx; omega
    · exact ⟨fun x hx => by have := h1 x hx; omega, h2⟩
theorem ixs_up (k : Int) (l : List Int) : (ixs k l).Pairwise (· < ·) := (idx_up k l 0).2
theorem idx_set (k x : Int) : ∀ (l : List Int) (i j : Nat) (y : Int), l[j]? = some y → ((idx k i (l.set j x)).length : Int) = (idx k i l).length - (if y = k then 1 else 0) + (if x = k then 1 else 0)
  | [], _, _, _, h => by simp at h
  | a :: l, i, 0, y, h => by
    have e : a = y := by simpa using h
    subst e
    simp only [List.set_cons_zero, idx]
    split <;> split <;> simp <;> omega
  | a :: l, i, j + 1, y, h => by
    have h2 := idx_set k x l (i + 1) j y (by simpa using h)
    simp only [List.set_cons_succ, idx]
    split
    · simp only [List.length_cons]; omega
    · exact h2
theorem ixs_set {k x : Int} {l : List Int} {j : Nat} {y : Int} (h : l[j]? = some y) : ((ixs k (l.set j x)).length : Int) = (ixs k l).length - (if y = k then 1 else 0) + (if x = k then 1 else 0) := idx_set k x l 0 j y h
/-- two lists that rise and have the same members are one -/
theorem up_sub : ∀ (t s : List Int), t.Pairwise (· < ·) → s.Pairwise (· < ·) → (∀ x ∈ s, x ∈ t) → s.Sublist t
  | [], s, _, _, h => by
    cases s with
    | nil => exact List.Sublist.refl _
    | cons a s => exact absurd (h a (by simp)) (by simp)
  | b :: t, [], _, _, _ => List.nil_sublist _
  | b :: t, a :: s, ht, hs, h => by
    obtain ⟨ht1, ht2⟩ := List.pairwise_cons.1 ht
    obtain ⟨hs1, hs2⟩ := List.pairwise_cons.1 hs
    rcases List.mem_cons.1 (h a (by simp)) with e | e
    · subst e
      refine List.Sublist.cons_cons a (up_sub t s ht2 hs2 fun x hx => ?_)
      rcases List.mem_cons.1 (h x (List.mem_cons_of_mem _ hx)) with e | e
      · have := hs1 x hx; omega
      · exact e
    · refine List.Sublist.cons b (up_sub t (a :: s) ht2 hs fun x hx => ?_)
      rcases List.mem_cons.1 (h x hx) with e2 | e2
      · have h1 := ht1 a e
        rcases List.mem_cons.1 hx with e3 | e3
        · omega
        · have := hs1 x e3; omega
      · exact e2
theorem up_eq {s t : List Int} (hs : s.Pairwise (· < ·)) (ht : t.Pairwise (· < ·)) (h : ∀ x ∈ s, x ∈ t) (hl : s.length = t.length) : s = t := (up_sub t s ht hs h).eq_of_length hl
/-- sorted -/
def srt (l : List Int) : List Int := l.mergeSort fun x y => decide (x ≤ y)
theorem srt_perm (l : List Int) : (srt l).Perm l := List.mergeSort_perm _ _
theorem srt_up (l : List Int) : (srt l).Pairwise (· ≤ ·) := by
  have h := List.pairwise_mergeSort (le := fun x y : Int => decide (x ≤ y)) (by intro a b c h1 h2; simp at h1 h2 ⊢; omega) (by intro a b; simp; omega) l
  exact h.imp (by intro a b h; simpa using h)
theorem srt_nodup {l : List Int} (h : l.Nodup) : (srt l).Pairwise (· < ·) := by
  have h1 := srt_up l
  have h2 : (srt l).Nodup := (srt_perm l).nodup_iff.2 h
  unfold List.Nodup at h2
  exact (h1.and h2).imp (by intro a b h; have := h.1; have := h.2; omega)
/-- what is sorted is these indexes: just when there are so many, each of them, none twice -/
theorem srt_iff {l t : List Int} (ht : t.Pairwise (· < ·)) : srt l = t ↔ l.Nodup ∧ (∀ x ∈ l, x ∈ t) ∧ l.length = t.length := by
  constructor
  · intro h
    have hp := srt_perm l
    rw [h] at hp
    refine ⟨hp.nodup_iff.1 (ht.imp (by intro a b h; omega)), fun x hx => hp.mem_iff.2 hx, hp.length_eq.symm⟩
  · rintro ⟨h1, h2, h3⟩
    have hp := srt_perm l
    exact up_eq (srt_nodup h1) ht (fun x hx => h2 x (hp.mem_iff.1 hx)) (by rw [hp.length_eq]; exact h3)
/-- there is a find of these numbers -/
def MayF (s v n need : Int) : Prop := (0 ≤ s ∧ s ≤ 1099511627776) ∧ (1 ≤ v ∧ v ≤ 1099511627776) ∧ (1 ≤ n ∧ n ≤ 255) ∧ (1 ≤ need ∧ need ≤ n)
instance (s v n need : Int) : Decidable (MayF s v n need) := by unfold MayF; infer_instance
/-- how far it is by its marks -/
def phF (need : Int) (ms : List Int) : Int := if ((ixs 1 ms).length : Int) = need then 2 else if (ms.length : Int) - need < (ixs 2 ms).length then 3 else 1
structure RightF (r : Fq) : Prop where
  may : MayF r.s r.v r.ms.length r.need
  marks : (ixs 0 r.ms).length + (ixs 1 r.ms).length + (ixs 2 r.ms).length = r.ms.length
  got : ((ixs 1 r.ms).length : Int) ≤ r.need
  ws : r.ws.length = (ixs 1 r.ms).length
  bs : r.bs.length = (ixs 1 r.ms).length
  lev : levelB r.bs = true
  srt : srt r.ws = ixs 1 r.ms
  ph : r.ph = phF r.need r.ms
theorem rightF_iff (r : Fq) : RightF r ↔ (MayF r.s r.v r.ms.length r.need ∧ (ixs 0 r.ms).length + (ixs 1 r.ms).length + (ixs 2 r.ms).length = r.ms.length) ∧ ((((ixs 1 r.ms).length : Int) ≤ r.need ∧ r.ws.length = (ixs 1 r.ms).length ∧ r.bs.length = (ixs 1 r.ms).length ∧ levelB r.bs = true) ∧ (Go.Proofs.Ytkkpfehgobanbaa.srt r.ws = ixs 1 r.ms ∧ r.ph = phF r.need r.ms)) :=
  ⟨fun h => ⟨⟨h.may, h.marks⟩, ⟨h.got, h.ws, h.bs, h.lev⟩, h.srt, h.ph⟩, fun h => ⟨h.1.1, h.1.2, h.2.1.1, h.2.1.2.1, h.2.1.2.2.1, h.2.1.2.2.2, h.2.2.1, h.2.2.2⟩⟩
instance (r : Fq) : Decidable (RightF r) := decidable_of_iff _ (rightF_iff r).symm
/-- it is right, and has that index -/
def HasF (r : Fq) (i : Int) : Prop := RightF r ∧ 0 ≤ i ∧ i ≤ (r.ms.length : Int) - 1
instance (r : Fq) (i : Int) : Decidable (HasF r i) := by unfold HasF; infer_instance
def beginF (s v n need : Int) : Fq × Int := if MayF s v n need then (⟨s, v, need, 1, List.replicate n.toNat 0, [], []⟩, 0) else (⟨0, 0, 0, 0, [], [], []⟩, 140)
def _root_.Go.Coop.Fq.wants (r : Fq) : List (Int × Int) := if RightF r ∧ r.ph = 1 then (ixs 0 r.ms).map fun i => (i, 4) else []
def _root_.Go.Coop.Fq.lacks (r : Fq) : List Int := if RightF r then ixs 2 r.ms else []
/-- an index has told a shard, or that it has none -/
def _root_.Go.Coop.Fq.got (r : Fq) (i : Nat) (b : List UInt8) : Fq := ⟨r.s, r.v, r.need, phF r.need (r.ms.set i 1), r.ms.set i 1, r.ws ++ [(i : Int)], r.bs ++ [b]⟩
def _root_.Go.Coop.Fq.lack (r : Fq) (i : Nat) : Fq := ⟨r.s, r.v, r.need, phF r.need (r.ms.set i 2), r.ms.set i 2, r.ws, r.bs⟩
def _root_.Go.Coop.Fq.told (r : Fq) (i e : Int) (b : List UInt8) : Fq × Int :=
  if HasF r i then (if r.ph = 1 ∧ r.ms.getD i.toNat 0 = 0 then (if e = 0 ∧ levelB (r.bs ++ [b]) = true then (r.got i.toNat b, 0) else (r.lack i.toNat, 0)) else (r, 0)) else (r, 140)
def _root_.Go.Coop.Fq.lose (r : Fq) (i : Int) : Fq × Int :=
  if HasF r i then (if r.ph = 1 ∧ r.ms.getD i.toNat 0 = 2 then (⟨r.s, r.v, r.need, r.ph, r.ms.set i.toNat 0, r.ws, r.bs⟩, 0) else (r, 0)) else (r, 140)
end Go.Proofs.Ytkkpfehgobanbaa
