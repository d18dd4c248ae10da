/- Bits of bytes that are turned, counted from the last one on, and what that does to the sum. No program is named here. -/
import Derived.Test.YtmiapegecoaccaaLin
namespace Go.Coop

/-- a bit turned, counted from the last one on -/
def flip1 (l : List UInt8) (i : Nat) : List UInt8 := l.set (l.length - 1 - i / 8) (l.getD (l.length - 1 - i / 8) 0 ^^^ UInt8.ofNat (2 ^ (i % 8)))
def turnF (l : List UInt8) (ks : List Nat) : List UInt8 := ks.foldl (fun l k => flip1 l (k % (8 * l.length))) l

theorem flip1_length (l : List UInt8) (i : Nat) : (flip1 l i).length = l.length := by simp [flip1]
theorem turnF_cons (l : List UInt8) (k : Nat) (ks : List Nat) : turnF l (k :: ks) = turnF (flip1 l (k % (8 * l.length))) ks := rfl
theorem turnF_length (ks : List Nat) : ∀ l : List UInt8, (turnF l ks).length = l.length := by
  induction ks with
  | nil => intro l; rfl
  | cons k r ih => intro l; rw [turnF_cons, ih, flip1_length]

theorem turnBy_length {a b : List UInt8} (h : a.length = b.length) : (turnBy a b).length = a.length := by simp [turnBy, h]
theorem turnBy_flip {a b : List UInt8} (h : a.length = b.length) (i : Nat) : turnBy a (flip1 b i) = flip1 (turnBy a b) i := by
  apply List.ext_getElem?
  intro j
  have hl := turnBy_length h
  unfold flip1
  rw [hl, h]
  unfold turnBy
  simp only [List.getElem?_zipWith, List.getElem?_set]
  by_cases hj : b.length - 1 - i / 8 = j
  · subst hj
    by_cases hb : b.length - 1 - i / 8 < b.length
    · have ha : b.length - 1 - i / 8 < a.length := by omega
      simp [h, hb, List.getD_eq_getElem?_getD, UInt8.xor_assoc]
    · have hb' : b.length = 0 := by omega
      have ha' : a = [] := List.eq_nil_of_length_eq_zero (by omega)
      have hb'' : b = [] := List.eq_nil_of_length_eq_zero hb'
      subst ha' hb''
      simp
  · simp [hj]
theorem turnBy_turn (ks : List Nat) : ∀ {a b : List UInt8}, a.length = b.length → turnBy a (turnF b ks) = turnF (turnBy a b) ks := by
  induction ks with
  | nil => intro a b _; rfl
  | cons k r ih =>
    intro a b h
    rw [turnF_cons, turnF_cons, ih (by rw [flip1_length]; exact h), turnBy_flip h, turnBy_length h, h]
theorem turnBy_self (a : List UInt8) : turnBy a a = List.replicate a.length 0 := by
  induction a with
  | nil => rfl
  | cons c r ih =>
    have : turnBy (c :: r) (c :: r) = (c ^^^ c) :: turnBy r r := rfl
    rw [this, ih, UInt8.xor_self]
    rfl
theorem flip1_behind (p : Nat) (z : List UInt8) (i : Nat) (hi : i < 8 * z.length) : flip1 (List.replicate p 0 ++ z) i = List.replicate p 0 ++ flip1 z i := by
  unfold flip1
  have e : (List.replicate p (0 : UInt8) ++ z).length - 1 - i / 8 = p + (z.length - 1 - i / 8) := by simp; omega
  rw [e, List.set_append_right _ _ (by simp), List.getD_eq_getElem?_getD, List.getElem?_append_right (by simp), List.getD_eq_getElem?_getD]
  simp
theorem turnF_behind (ks : List Nat) : ∀ (p : Nat) (z : List UInt8), (∀ k ∈ ks, k < 8 * z.length) → turnF (List.replicate p 0 ++ z) ks = List.replicate p 0 ++ turnF z ks := by
  induction ks with
  | nil => intro p z _; rfl
  | cons k r ih =>
    intro p z h
    have hk := h k (by simp)
    rw [turnF_cons, turnF_cons, Nat.mod_eq_of_lt (by simp; omega), Nat.mod_eq_of_lt hk, flip1_behind p z k hk]
    exact ih p (flip1 z k) (fun k' hk' => by rw [flip1_length]; exact h k' (by simp [hk']))
theorem run_zeros (p : Nat) : run entry 0 (List.replicate p 0) = 0 := by
  have := turnBy_self (List.replicate p 0)
  have h := run_xor (List.replicate p 0) (List.replicate p 0) 0 0 rfl
  rw [Nat.xor_self, Nat.xor_self, this, List.length_replicate] at h
  exact h.symm
/-- what turning bits does to the sum -/
theorem crc_turn (a : List UInt8) (ks : List Nat) : crc entry a ^^^ crc entry (turnF a ks) = run entry 0 (turnF (List.replicate a.length 0) ks) := by
  rw [crc_diff (turnF_length ks a).symm, turnBy_turn ks rfl, turnBy_self]
theorem echo {a b : List UInt8} {ks : List Nat} (ha : ∀ k ∈ ks, k < 8 * a.length) (hb : ∀ k ∈ ks, k < 8 * b.length) :
    crc entry a ^^^ crc entry (turnF a ks) = crc entry b ^^^ crc entry (turnF b ks) := by
  have key : ∀ (n q : Nat), q ≤ n → (∀ k ∈ ks, k < 8 * q) → run entry 0 (turnF (List.replicate n 0) ks) = run entry 0 (turnF (List.replicate q 0) ks) := by
    intro n q hq h
    have e : List.replicate n (0 : UInt8) = List.replicate (n - q) 0 ++ List.replicate q 0 := by rw [List.replicate_append_replicate]; congr 1; omega
    rw [e, turnF_behind ks (n - q) _ (by simpa using h), run_append, run_zeros]
  rw [crc_turn, crc_turn]
  rcases Nat.le_total a.length b.length with h | h
  · exact (key b.length a.length h ha).symm
  · exact key a.length b.length h hb
end Go.Coop
