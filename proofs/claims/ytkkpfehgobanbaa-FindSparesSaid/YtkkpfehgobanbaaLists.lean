/- Lists of elements, plain: Dot and Lay. Nothing here speaks of a program. -/
import Derived.Test.YtkkpfehgobanbaaElts
set_option maxRecDepth 100000
namespace Go.Coop

def dotZ (l : List (UInt8 × UInt8)) : Nat := l.foldl (fun s p => s ^^^ mul p.1.toNat p.2.toNat) 0
def dot (a b : List UInt8) : Nat := dotZ (a.zip b)
theorem dotZ_snoc (l : List (UInt8 × UInt8)) (p : UInt8 × UInt8) : dotZ (l ++ [p]) = dotZ l ^^^ mul p.1.toNat p.2.toNat := by simp [dotZ]
theorem dotZ_lt (l : List (UInt8 × UInt8)) : dotZ l < 256 := by
  have : ∀ (l : List (UInt8 × UInt8)) (s : Nat), s < 256 → l.foldl (fun s p => s ^^^ mul p.1.toNat p.2.toNat) s < 256 := by
    intro l
    induction l with
    | nil => intro s h; exact h
    | cons p l ih => intro s h; exact ih _ (xor_lt _ _ h (mul_lt _ _))
  exact this l 0 (by omega)
theorem zip_snoc {a b : List UInt8} {k : Nat} {x y : UInt8} (hx : a[k]? = some x) (hy : b[k]? = some y) : (a.zip b).take (k + 1) = (a.zip b).take k ++ [(x, y)] := by
  have h : (a.zip b)[k]? = some (x, y) := by simp [List.getElem?_zip_eq_some, hx, hy]
  rw [List.take_add_one, h]
  rfl
/-- laying -/
def lay1 (c : Nat) (o x : UInt8) : UInt8 := UInt8.ofNat (o.toNat ^^^ mul c x.toNat)
theorem lay1_nat (c : Nat) (o x : UInt8) : (lay1 c o x).toNat = o.toNat ^^^ mul c x.toNat := by
  unfold lay1
  have := xor_lt o.toNat (mul c x.toNat) o.toNat_lt (mul_lt _ _)
  rw [UInt8.toNat_ofNat']
  omega
def lay (c : Nat) : List UInt8 → List UInt8 → List UInt8
  | [], _ => []
  | o :: l, [] => o :: l
  | o :: l, x :: k => lay1 c o x :: lay c l k
theorem lay_nil (c : Nat) (l : List UInt8) : lay c l [] = l := by cases l <;> rfl
theorem lay_len (c : Nat) : ∀ (l k : List UInt8), (lay c l k).length = l.length := by
  intro l
  induction l with
  | nil => intro k; cases k <;> rfl
  | cons o l ih =>
    intro k
    cases k with
    | nil => rfl
    | cons x k => simp [lay, ih]
theorem lay_at (c : Nat) : ∀ (l k : List UInt8) (i : Nat), (lay c l k)[i]? = (match l[i]?, k[i]? with
    | some o, some x => some (lay1 c o x)
    | o, _ => o) := by
  intro l
  induction l with
  | nil => intro k i; cases k <;> simp [lay]
  | cons o l ih =>
    intro k i
    cases k with
    | nil => simp [lay]
    | cons x k =>
      cases i with
      | zero => simp [lay]
      | succ i => simp only [lay, List.getElem?_cons_succ]; exact ih k i
theorem lay_here (c : Nat) (l k : List UInt8) (i : Nat) (h : k.length ≤ i) : (lay c l k)[i]? = l[i]? := by
  rw [lay_at, List.getElem?_eq_none h]
  split <;> simp_all
theorem lay_set {c : Nat} {l k : List UInt8} {i : Nat} {o x : UInt8} (ho : l[i]? = some o) (hx : k[i]? = some x) : (lay c l (k.take i)).set i (lay1 c o x) = lay c l (k.take (i + 1)) := by
  apply List.ext_getElem?
  intro j
  have hil : i < l.length := (List.getElem?_eq_some_iff.1 ho).1
  by_cases e : i = j
  · subst e
    rw [List.getElem?_set_self (by rw [lay_len]; exact hil), lay_at, ho, List.getElem?_take, if_pos (by omega), hx]
  · rw [List.getElem?_set_ne e, lay_at, lay_at, List.getElem?_take, List.getElem?_take]
    by_cases h : j < i
    · rw [if_pos h, if_pos (by omega)]
    · rw [if_neg h, if_neg (by omega)]
theorem lay_take (c : Nat) (l k : List UInt8) (i : Nat) (h : l.length ≤ i) : lay c l (k.take i) = lay c l k := by
  apply List.ext_getElem?
  intro j
  rw [lay_at, lay_at, List.getElem?_take]
  by_cases hj : j < i
  · rw [if_pos hj]
  · rw [List.getElem?_eq_none (l := l) (by omega)]
end Go.Coop
