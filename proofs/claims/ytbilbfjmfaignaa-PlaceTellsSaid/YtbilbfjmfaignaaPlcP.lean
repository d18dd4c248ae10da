/- Placements as plain data: which are right, where a node stands, what a move makes of them. No program is named here. -/
import GoSem.Core.Value
namespace Go.Coop
structure Pl where
  e : Int
  l : List Int
abbrev IV (k : Int) : Value := .int .i64 k
/-- nodes that are each one of so many, none twice -/
def NodesOk (N : Int) (l : List Int) : Prop := (∀ x ∈ l, 0 ≤ x ∧ x < N) ∧ l.Nodup
def RightP (N : Int) (p : Pl) : Prop := (1 ≤ N ∧ N ≤ 256) ∧ (1 ≤ p.e ∧ p.e ≤ 1099511627776) ∧ (1 ≤ p.l.length ∧ p.l.length ≤ 255) ∧ NodesOk N p.l
instance (N : Int) (l : List Int) : Decidable (NodesOk N l) := inferInstanceAs (Decidable (_ ∧ _))
instance (N : Int) (p : Pl) : Decidable (RightP N p) := inferInstanceAs (Decidable (_ ∧ _))
def rightB (N : Int) (p : Pl) : Bool := decide (RightP N p)
def AllP (ps : List Pl) : Prop := (1 ≤ ps.length ∧ ps.length ≤ 1000) ∧ ∀ p ∈ ps, RightP 256 p
instance (ps : List Pl) : Decidable (AllP ps) := inferInstanceAs (Decidable (_ ∧ _))
def allB (ps : List Pl) : Bool := decide (AllP ps)
theorem NodesOk.nil (N : Int) : NodesOk N [] := ⟨by simp, List.nodup_nil⟩
theorem NodesOk.snoc {N : Int} {l : List Int} {x : Int} (h : NodesOk N l) (h1 : 0 ≤ x ∧ x < N) (h2 : x ∉ l) : NodesOk N (l ++ [x]) := by
  refine ⟨fun y hy => ?_, ?_⟩
  · rcases List.mem_append.1 hy with hy | hy
    · exact h.1 y hy
    · simp at hy; subst hy; exact h1
  · rw [List.nodup_append]
    refine ⟨h.2, by simp, fun a ha b hb => ?_⟩
    simp at hb
    subst hb
    rintro rfl
    exact h2 ha
theorem take_snoc {α : Type} {l : List α} {k : Nat} {x : α} (h : l[k]? = some x) : l.take (k + 1) = l.take k ++ [x] := by
  rw [List.take_add_one, h]
  rfl
theorem mem_at {α : Type} {l : List α} {k : Nat} {x : α} (h : l[k]? = some x) : x ∈ l := List.mem_of_getElem? h
theorem mem_take_ne {l : List Int} {k : Nat} {x : Int} (hn : l.Nodup) (h : l[k]? = some x) : x ∉ l.take k := by
  intro hm
  obtain ⟨i, hi⟩ := List.getElem?_of_mem hm
  have hik : i < k := by
    have := (List.getElem?_eq_some_iff.1 hi).1
    simp at this
    omega
  rw [List.getElem?_take, if_pos hik] at hi
  have h1 := (List.getElem?_eq_some_iff.1 hi)
  have h2 := (List.getElem?_eq_some_iff.1 h)
  obtain ⟨a1, a2⟩ := h1
  obtain ⟨b1, b2⟩ := h2
  exact (List.pairwise_iff_getElem.1 hn) i k a1 b1 hik (a2.trans b2.symm)
/-- the first place of a node -/
def idxN (x : Int) : List Int → Nat
  | [] => 0
  | y :: l => if y = x then 0 else idxN x l + 1
def idxP (x : Int) (l : List Int) : Int := if idxN x l < l.length then (idxN x l : Int) else -1
theorem idxN_le (i : Int) : ∀ L : List Int, idxN i L ≤ L.length
  | [] => by simp [idxN]
  | t :: l => by
    have := idxN_le i l
    unfold idxN
    split <;> simp <;> omega
theorem idxN_eq {i : Int} : ∀ {L : List Int} {j : Nat}, i ∉ L.take j → L[j]? = some i → idxN i L = j
  | [], j, _, h => by simp at h
  | a :: l, 0, _, h => by
    simp at h
    simp [idxN, h]
  | a :: l, j + 1, hn, h => by
    simp at h hn
    have ha : a ≠ i := fun e => hn.1 e.symm
    have := idxN_eq (L := l) hn.2 h
    unfold idxN
    rw [if_neg ha, this]
theorem idxN_none {i : Int} : ∀ {L : List Int}, i ∉ L → idxN i L = L.length
  | [], _ => rfl
  | a :: l, h => by
    simp at h
    have ha : a ≠ i := fun e => h.1 e.symm
    have := idxN_none (L := l) h.2
    unfold idxN
    rw [if_neg ha, this]
    rfl
theorem idxN_lt {i : Int} : ∀ {L : List Int}, i ∈ L → idxN i L < L.length
  | [], h => by simp at h
  | a :: l, h => by
    unfold idxN
    split
    · simp
    · rename_i e
      have : i ∈ l := by
        rcases List.mem_cons.1 h with h | h
        · exact absurd h.symm e
        · exact h
      have := idxN_lt (L := l) this
      simp
      omega
theorem idxN_at {i : Int} : ∀ {L : List Int}, i ∈ L → L[idxN i L]? = some i
  | [], h => by simp at h
  | a :: l, h => by
    unfold idxN
    split
    · rename_i e
      simp [e]
    · rename_i e
      have : i ∈ l := by
        rcases List.mem_cons.1 h with h | h
        · exact absurd h.symm e
        · exact h
      simpa using idxN_at (L := l) this
theorem idxP_mem {i : Int} {L : List Int} : i ∈ L ↔ 0 ≤ idxP i L := by
  unfold idxP
  constructor
  · intro h
    rw [if_pos (idxN_lt h)]
    omega
  · intro h
    by_cases hm : i ∈ L
    · exact hm
    · rw [idxN_none hm] at h
      simp at h
theorem idxP_in {i : Int} {L : List Int} (h : i ∈ L) : idxP i L = (idxN i L : Int) := if_pos (idxN_lt h)
theorem idxP_out {i : Int} {L : List Int} (h : i ∉ L) : idxP i L = -1 := by
  unfold idxP
  rw [idxN_none h, if_neg (by omega)]
/-- one placement moved -/
def mv1 (a b : Int) (p : Pl) : Pl := if a ∈ p.l then ⟨p.e + 1, p.l.set (idxN a p.l) b⟩ else p
/-- a placement that may not be moved so -/
def Bad (a b : Int) (p : Pl) : Prop := a ∈ p.l ∧ (b ∈ p.l ∨ p.e = 1099511627776)
instance (a b : Int) (p : Pl) : Decidable (Bad a b p) := inferInstanceAs (Decidable (_ ∧ _))
/-- the groups that a move changes, from a number on -/
def grpF (a : Int) : Nat → List Pl → List Int
  | _, [] => []
  | k, p :: ps => if a ∈ p.l then (k : Int) :: grpF a (k + 1) ps else grpF a (k + 1) ps
def grp (a : Int) (ps : List Pl) : List Int := grpF a 0 ps
def MayNot (a b : Int) : Prop := ¬ (0 ≤ a ∧ a < 256) ∨ ¬ (0 ≤ b ∧ b < 256) ∨ a = b
instance (a b : Int) : Decidable (MayNot a b) := inferInstanceAs (Decidable (_ ∨ _))
def moveP (ps : List Pl) (a b : Int) : List Pl × List Int × Int :=
  if ¬ AllP ps then ([], [], 2) else if MayNot a b then ([], [], 100) else if ∃ p ∈ ps, Bad a b p then ([], [], 100) else (ps.map (mv1 a b), grp a ps, 0)
/-- the first placements -/
def row1 (nodes n g : Nat) : List Int := (List.range n).map fun i => (((g + i) % nodes : Nat) : Int)
def firstL (nodes n groups : Nat) : List Pl := (List.range groups).map fun g => ⟨1, row1 nodes n g⟩
def FirstOk (nodes n groups : Int) : Prop := (1 ≤ nodes ∧ nodes ≤ 256) ∧ (1 ≤ n ∧ n ≤ 255 ∧ n ≤ nodes) ∧ (1 ≤ groups ∧ groups ≤ 1000)
instance (a b c : Int) : Decidable (FirstOk a b c) := inferInstanceAs (Decidable (_ ∧ _))
def firstP (nodes n groups : Int) : List Pl × Int := if FirstOk nodes n groups then (firstL nodes.toNat n.toNat groups.toNat, 0) else ([], 2)
theorem grpF_snoc (a : Int) (p : Pl) : ∀ (ps : List Pl) (k : Nat), grpF a k (ps ++ [p]) = grpF a k ps ++ (if a ∈ p.l then [((k + ps.length : Nat) : Int)] else [])
  | [], k => by simp [grpF]
  | q :: ps, k => by
    rw [List.cons_append, grpF, grpF, grpF_snoc a p ps (k + 1)]
    have : k + 1 + ps.length = k + (q :: ps).length := by simp; omega
    rw [this]
    split <;> simp
theorem grp_snoc (a : Int) (ps : List Pl) (p : Pl) : grp a (ps ++ [p]) = grp a ps ++ (if a ∈ p.l then [((ps.length : Nat) : Int)] else []) := by
  unfold grp
  rw [grpF_snoc, Nat.zero_add]
theorem grpF_le (a : Int) : ∀ (ps : List Pl) (k : Nat), (grpF a k ps).length ≤ ps.length
  | [], k => by simp [grpF]
  | q :: ps, k => by
    have := grpF_le a ps (k + 1)
    unfold grpF
    split <;> simp <;> omega
end Go.Coop
