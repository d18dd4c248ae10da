/- The plain functions that layer 1's Go functions compute: numbers as bytes, their reading, the table and the sum, what is sealed. No program is named here. -/
import GoSem.Core.Value
namespace Go.Coop

/-- a number as bytes, at most k more behind the first one -/
def digF : Nat → Nat → List UInt8
  | 0, n => [UInt8.ofNat n]
  | k + 1, n => if n < 128 then [UInt8.ofNat n] else UInt8.ofNat (n % 128 + 128) :: digF k (n / 128)
def dig (n : Nat) : List UInt8 := digF 9 n

/-- the number that begins there: the number, how many bytes it has, the error -/
def scan : List UInt8 → Nat → Nat → Nat × Nat × Nat
  | [], _, _ => (0, 0, 11)
  | d :: r, i, n =>
    if (0 < i ∧ d.toNat = 0) ∨ (i = 9 ∧ 1 < d.toNat) then (0, 0, 10)
    else if d.toNat < 128 then (n + d.toNat % 128 * 128 ^ i, i + 1, 0)
    else scan r (i + 1) (n + d.toNat % 128 * 128 ^ i)

def halve (n : Nat) : Nat := if n % 2 = 1 then (n / 2) ^^^ 2197175160 else n / 2
def entry (i : Nat) : Nat := halve (halve (halve (halve (halve (halve (halve (halve i)))))))
def upd (t : Nat → Nat) (s : Nat) (c : UInt8) : Nat := (s / 256) ^^^ t ((s % 256) ^^^ c.toNat)
def run (t : Nat → Nat) (s : Nat) (b : List UInt8) : Nat := b.foldl (upd t) s
def crc (t : Nat → Nat) (b : List UInt8) : Nat := 4294967295 - run t 4294967295 b
def four (s : Nat) : List UInt8 := [UInt8.ofNat (s / 16777216), UInt8.ofNat (s / 65536), UInt8.ofNat (s / 256), UInt8.ofNat s]
def sealed (t : Nat → Nat) (b : List UInt8) : List UInt8 := b ++ four (crc t b)

theorem halve_lt {n : Nat} (h : n < 4294967296) : halve n < 4294967296 := by
  unfold halve
  split
  · exact Nat.xor_lt_two_pow (n := 32) (by omega) (by omega)
  · omega
theorem entry_lt {n : Nat} (h : n < 4294967296) : entry n < 4294967296 := by
  unfold entry
  exact halve_lt (halve_lt (halve_lt (halve_lt (halve_lt (halve_lt (halve_lt (halve_lt h)))))))
theorem idx_lt (s : Nat) (c : UInt8) : (s % 256) ^^^ c.toNat < 256 := Nat.xor_lt_two_pow (n := 8) (by omega) c.toNat_lt
theorem upd_lt {t : Nat → Nat} (ht : ∀ i, i < 256 → t i < 4294967296) {s : Nat} (h : s < 4294967296) (c : UInt8) : upd t s c < 4294967296 :=
  Nat.xor_lt_two_pow (n := 32) (by omega) (ht _ (idx_lt s c))
theorem run_lt {t : Nat → Nat} (ht : ∀ i, i < 256 → t i < 4294967296) (b : List UInt8) : ∀ {s : Nat}, s < 4294967296 → run t s b < 4294967296 := by
  induction b with
  | nil => exact fun h => h
  | cons c r ih => exact fun h => ih (upd_lt ht h c)
theorem run_snoc (t : Nat → Nat) (s : Nat) (b : List UInt8) (c : UInt8) : run t s (b ++ [c]) = upd t (run t s b) c := by simp [run]
theorem crc_lt (t : Nat → Nat) (b : List UInt8) : crc t b < 4294967296 := by unfold crc; omega
theorem sealed_length (t : Nat → Nat) (b : List UInt8) : (sealed t b).length = b.length + 4 := by simp [sealed, four]

theorem ones_xor (s : Nat) (h : s < 4294967296) : 4294967295 ^^^ s = 4294967295 - s := by
  have e : 4294967295 - s = 2 ^ 32 - (s + 1) := by omega
  rw [e]
  apply Nat.eq_of_testBit_eq
  intro i
  rw [Nat.testBit_xor, Nat.testBit_two_pow_sub_succ (by omega), show (4294967295 : Nat) = 2 ^ 32 - 1 from rfl, Nat.testBit_two_pow_sub_one]
  by_cases hi : i < 32
  · simp [hi]
  · have : s.testBit i = false := Nat.testBit_lt_two_pow (Nat.lt_of_lt_of_le (show s < 2 ^ 32 by omega) (Nat.pow_le_pow_right (by omega) (by omega)))
    simp [hi, this]

theorem digF_length (k : Nat) : ∀ n, 1 ≤ (digF k n).length ∧ (digF k n).length ≤ k + 1 := by
  induction k with
  | zero => intro n; simp [digF]
  | succ k ih =>
    intro n
    unfold digF
    split
    · simp
    · have := ih (n / 128); simp; omega
theorem dig_length (n : Nat) : 1 ≤ (dig n).length ∧ (dig n).length ≤ 10 := digF_length 9 n


/-- where the loop that makes a number's bytes stands -/
structure DRel (n k m : Nat) (d : List UInt8) : Prop where
  le : k ≤ 9
  len : d.length + k = 9
  eq : dig n = d ++ digF k m
  lt : m < 2 * 128 ^ k
theorem DRel.start {n : Nat} (h : n ≤ 18446744073709551615) : DRel n 9 n [] := ⟨by omega, rfl, rfl, by omega⟩
theorem DRel.small {n k m : Nat} {d : List UInt8} (h : DRel n k m d) : m ≤ 18446744073709551615 := by
  have h1 := h.lt
  have h2 : 128 ^ k ≤ 128 ^ 9 := Nat.pow_le_pow_right (by omega) h.le
  omega
theorem DRel.step {n k m : Nat} {d : List UInt8} (h : DRel n k m d) (hm : 128 ≤ m) : ∃ k', k = k' + 1 ∧ DRel n k' (m / 128) (d ++ [UInt8.ofNat (m % 128 + 128)]) := by
  obtain ⟨h1, h2, h3, h4⟩ := h
  cases k with
  | zero => simp at h4; omega
  | succ k =>
    refine ⟨k, rfl, by omega, by simp; omega, ?_, ?_⟩
    · rw [h3, digF, if_neg (by omega), List.append_assoc]; rfl
    · rw [Nat.pow_succ] at h4; omega
theorem DRel.done {n k m : Nat} {d : List UInt8} (h : DRel n k m d) (hm : m < 128) : dig n = d ++ [UInt8.ofNat m] := by
  rw [h.eq]
  cases k with
  | zero => rfl
  | succ k => rw [digF, if_pos hm]


/-- the table as it is made: what one of the eight rounds does, place by place -/
def inner (b h : Nat) : Nat → List Nat → List Nat
  | 0, t => t
  | j + 1, t => (inner b h j t).set (2 * b * j + b) ((inner b h j t).getD (2 * b * j) 0 ^^^ h)
def outer : Nat → Nat × List Nat
  | 0 => (1, List.replicate 256 0)
  | i + 1 => (halve (outer i).1, inner (128 / 2 ^ i) (halve (outer i).1) (2 ^ i) (outer i).2)

theorem inner_length (b h j : Nat) (t : List Nat) : (inner b h j t).length = t.length := by
  induction j with
  | zero => rfl
  | succ j ih => simp [inner, ih]
theorem inner_lt (b h : Nat) (hh : h < 4294967296) (t : List Nat) (ht : ∀ x ∈ t, x < 4294967296) : ∀ j, ∀ x ∈ inner b h j t, x < 4294967296 := by
  intro j
  induction j with
  | zero => exact ht
  | succ j ih =>
    intro x hx
    rcases List.mem_or_eq_of_mem_set hx with h1 | rfl
    · exact ih x h1
    · refine Nat.xor_lt_two_pow (n := 32) ?_ hh
      rw [List.getD_eq_getElem?_getD]
      cases hg : (inner b h j t)[2 * b * j]? with
      | none => simp
      | some y => exact ih y (List.mem_of_getElem? hg)
theorem outer_ok (i : Nat) : (outer i).1 < 4294967296 ∧ (outer i).2.length = 256 ∧ ∀ x ∈ (outer i).2, x < 4294967296 := by
  induction i with
  | zero => exact ⟨by decide, List.length_replicate, fun x hx => by rw [(List.mem_replicate.1 hx).2]; omega⟩
  | succ i ih => exact ⟨halve_lt ih.1, by simp only [outer]; rw [inner_length]; exact ih.2.1, inner_lt _ _ (halve_lt ih.1) _ ih.2.2 _⟩
theorem outer_eight : (outer 8).2 = (List.range 256).map entry := by decide +kernel


/-- what GetUint tells: the number, the place behind it, the error -/
def getU (l : List UInt8) (x : Int) : Nat × Nat × Nat :=
  if 0 ≤ x ∧ x ≤ l.length then
    ((scan (l.drop x.toNat) 0 0).1, if (scan (l.drop x.toNat) 0 0).2.2 = 0 then x.toNat + (scan (l.drop x.toNat) 0 0).2.1 else 0, (scan (l.drop x.toNat) 0 0).2.2)
  else (0, 0, 2)


theorem drop_at {l : List UInt8} {k : Nat} {c : UInt8} (h : l[k]? = some c) : l.drop k = c :: l.drop (k + 1) := by
  have hk : k < l.length := (List.getElem?_eq_some_iff.1 h).1
  rw [List.drop_eq_getElem_cons hk]
  congr 1
  exact (List.getElem?_eq_some_iff.1 h).2
theorem scan_bad {l : List UInt8} {k acc d : Nat} {c : UInt8} (h : l[k]? = some c) (hd : c.toNat = d) (hb : (0 < k ∧ d = 0) ∨ (k = 9 ∧ 1 < d)) : scan (l.drop k) k acc = (0, 0, 10) := by
  rw [drop_at h, scan, hd, if_pos hb]
theorem scan_end {l : List UInt8} {k acc d : Nat} {c : UInt8} (h : l[k]? = some c) (hd : c.toNat = d) (hb : ¬ ((0 < k ∧ d = 0) ∨ (k = 9 ∧ 1 < d))) (hlt : d < 128) :
    scan (l.drop k) k acc = (acc + d % 128 * 128 ^ k, k + 1, 0) := by
  rw [drop_at h, scan, hd, if_neg hb, if_pos hlt]
theorem scan_on {l : List UInt8} {k acc d : Nat} {c : UInt8} (h : l[k]? = some c) (hd : c.toNat = d) (hb : ¬ ((0 < k ∧ d = 0) ∨ (k = 9 ∧ 1 < d))) (hlt : ¬ d < 128) :
    scan (l.drop k) k acc = scan (l.drop (k + 1)) (k + 1) (acc + d % 128 * 128 ^ k) := by
  rw [drop_at h, scan, hd, if_neg hb, if_neg hlt]
theorem scan_none {l : List UInt8} {k acc : Nat} (h : l.length ≤ k) : scan (l.drop k) k acc = (0, 0, 11) := by
  rw [List.drop_eq_nil_of_le h]; rfl
theorem getU_of {l : List UInt8} {x : Nat} {s : Nat × Nat × Nat} (hx : x ≤ l.length) (h : scan (l.drop x) 0 0 = s) : getU l (x : Int) = (s.1, if s.2.2 = 0 then x + s.2.1 else 0, s.2.2) := by
  unfold getU
  rw [if_pos (by omega), Int.toNat_natCast, h]


/-- what scan tells lies within these bounds; beside an error it tells nothing -/
structure SOk (m : Nat) (s : Nat × Nat × Nat) : Prop where
  num : s.1 ≤ 18446744073709551615
  at_ : s.2.1 ≤ m
  err : s.2.2 ≤ 11
  none : s.2.2 ≠ 0 → s.1 = 0 ∧ s.2.1 = 0
theorem scan_ok (l : List UInt8) : ∀ k acc, k ≤ 9 → acc < 128 ^ k → SOk (k + l.length) (scan l k acc) := by
  induction l with
  | nil => intro k acc _ _; exact ⟨by simp [scan], by simp [scan], by simp [scan], by simp [scan]⟩
  | cons d r ih =>
    intro k acc hk hacc
    have hd := d.toNat_lt
    unfold scan
    split
    · exact ⟨by simp, by simp, by simp, by simp⟩
    · rename_i hb
      have hx : d.toNat % 128 < 128 := by omega
      have hm : acc + d.toNat % 128 * 128 ^ k < 128 ^ (k + 1) := by
        rw [Nat.pow_succ]
        have : d.toNat % 128 * 128 ^ k ≤ 127 * 128 ^ k := Nat.mul_le_mul_right _ (by omega)
        omega
      split
      · refine ⟨?_, by simp, by simp, by simp⟩
        show acc + d.toNat % 128 * 128 ^ k ≤ _
        rcases Nat.lt_or_ge k 9 with h9 | h9
        · have : 128 ^ (k + 1) ≤ 128 ^ 9 := Nat.pow_le_pow_right (by omega) (by omega)
          omega
        · obtain rfl : k = 9 := by omega
          have h1 : d.toNat ≤ 1 := by omega
          have : d.toNat % 128 * 128 ^ 9 ≤ 1 * 128 ^ 9 := Nat.mul_le_mul_right _ (by omega)
          omega
      · have := ih (k + 1) _ (by omega) hm
        simp only [List.length_cons]
        rw [show k + (r.length + 1) = k + 1 + r.length by omega]
        exact this
theorem getU_ok (l : List UInt8) (x : Int) : SOk l.length (getU l x) := by
  unfold getU
  split
  · rename_i h
    have := scan_ok (l.drop x.toNat) 0 0 (by omega) (by decide)
    generalize scan (l.drop x.toNat) 0 0 = s at *
    obtain ⟨h1, h2, h3, h4⟩ := this
    simp only [List.length_drop] at h2
    refine ⟨h1, ?_, h3, ?_⟩
    · simp only; split <;> omega
    · intro h5; simp only at h5 ⊢; rw [if_neg h5]; exact ⟨(h4 h5).1, rfl⟩
  · exact ⟨by simp, by simp, by simp, by simp⟩

/-- what the statements' 'comes' tells as text -/
def comesF (l : List UInt8) (x : Int) : List UInt8 :=
  if (getU l x).2.2 = 0 then dig (getU l x).1 ++ [32] ++ dig (getU l x).2.1 else [101, 114, 114, 111, 114, 32] ++ dig (getU l x).2.2

end Go.Coop
