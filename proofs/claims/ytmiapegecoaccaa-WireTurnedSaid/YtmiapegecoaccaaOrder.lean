/- One bit turned changes the sum, and two bits do, and any bits within four bytes next to each other. No program is named here. -/
import Derived.Test.YtmiapegecoaccaaTurn
namespace Go.Coop

/-- halved k times -/
def it : Nat → Nat → Nat
  | 0, s => s
  | k + 1, s => it k (halve s)
theorem it_add (a b s : Nat) : it (a + b) s = it b (it a s) := by
  induction a generalizing s with
  | zero => rw [Nat.zero_add]; rfl
  | succ a ih => rw [Nat.succ_add]; exact ih (halve s)
theorem it_xor (k a b : Nat) : it k (a ^^^ b) = it k a ^^^ it k b := by
  induction k generalizing a b with
  | zero => rfl
  | succ k ih => simp only [it]; rw [halve_xor, ih]
theorem it_lt (k : Nat) : ∀ {s : Nat}, s < 4294967296 → it k s < 4294967296 := by
  induction k with
  | zero => exact fun h => h
  | succ k ih => exact fun h => ih (halve_lt h)
theorem halve_even (x : Nat) : halve (2 * x) = x := by unfold halve; rw [if_neg (by omega)]; omega
theorem it_up (k x : Nat) : it k (2 ^ k * x) = x := by
  induction k generalizing x with
  | zero => simp [it]
  | succ k ih =>
    have e : 2 ^ (k + 1) * x = 2 * (2 ^ k * x) := by rw [Nat.pow_succ]; simp [Nat.mul_comm, Nat.mul_left_comm]
    rw [e, it, halve_even, ih]
theorem halve_pos {n : Nat} (h : n < 4294967296) (h0 : halve n = 0) : n = 0 := by
  unfold halve at h0
  split at h0
  · have e : n / 2 = 2197175160 := by
      have := congrArg (· ^^^ 2197175160) h0
      simp only [Nat.xor_assoc, Nat.xor_self, Nat.xor_zero, Nat.zero_xor] at this
      exact this
    omega
  · omega
theorem it_pos (k : Nat) : ∀ {n : Nat}, n < 4294967296 → it k n = 0 → n = 0 := by
  induction k with
  | zero => exact fun _ h => h
  | succ k ih => exact fun h h0 => halve_pos h (ih (halve_lt h) h0)
theorem it_inj (k : Nat) {a b : Nat} (ha : a < 4294967296) (hb : b < 4294967296) (h : it k a = it k b) : a = b := by
  have h1 : it k (a ^^^ b) = 0 := by rw [it_xor, h, Nat.xor_self]
  have h2 := it_pos k (Nat.xor_lt_two_pow (n := 32) ha hb) h1
  have := congrArg (· ^^^ b) h2
  simpa [Nat.xor_assoc] using this

theorem xor_split (s : Nat) : (256 * (s / 256)) ^^^ (s % 256) = s := by
  apply Nat.eq_of_testBit_eq
  intro i
  rw [Nat.testBit_xor, show (256 : Nat) = 2 ^ 8 from rfl, Nat.testBit_two_pow_mul, Nat.testBit_mod_two_pow, Nat.testBit_div_two_pow]
  by_cases h : i < 8
  · have h' : ¬ 8 ≤ i := by omega
    simp [h, h']
  · have : 8 + (i - 8) = i := by omega
    have h2 : i - 8 + 8 = i := by omega
    simp [h, Nat.le_of_not_lt h, h2]
theorem upd_it (s : Nat) (c : UInt8) : upd entry s c = it 8 (s ^^^ c.toNat) := by
  have e : s ^^^ c.toNat = (2 ^ 8 * (s / 256)) ^^^ ((s % 256) ^^^ c.toNat) := by
    rw [show (2 ^ 8 : Nat) = 256 from rfl, ← Nat.xor_assoc, xor_split]
  rw [e, it_xor, it_up]
  rfl
theorem run_cons (t : Nat → Nat) (s : Nat) (c : UInt8) (r : List UInt8) : run t s (c :: r) = run t (upd t s c) r := rfl
theorem run_behind (s q : Nat) : run entry s (List.replicate q 0) = it (8 * q) s := by
  induction q generalizing s with
  | zero => rfl
  | succ q ih =>
    rw [List.replicate_succ, run_cons, upd_it, ih, ← it_add]
    have : s ^^^ (0 : UInt8).toNat = s := by simp
    rw [this]
    congr 1
    omega

/-- one bit -/
theorem flip_zeros (n i : Nat) (hi : i < 8 * n) : flip1 (List.replicate n 0) i = List.replicate (n - 1 - i / 8) 0 ++ (UInt8.ofNat (2 ^ (i % 8)) :: List.replicate (i / 8) 0) := by
  unfold flip1
  simp only [List.length_replicate]
  have e : List.replicate n (0 : UInt8) = List.replicate (n - 1 - i / 8) 0 ++ (0 :: List.replicate (i / 8) 0) := by
    rw [← List.replicate_succ, List.replicate_append_replicate]
    congr 1
    omega
  have hg : (List.replicate n (0 : UInt8)).getD (n - 1 - i / 8) 0 = 0 := by
    rw [List.getD_eq_getElem?_getD, List.getElem?_replicate]
    split <;> rfl
  rw [hg, e, List.set_append_right _ _ (by simp)]
  simp
/-- how often 1 is halved to come to what a bit changes -/
def deg (i : Nat) : Nat := 8 * (i / 8) + (8 - i % 8)
theorem run_flip (n i : Nat) (hi : i < 8 * n) : run entry 0 (flip1 (List.replicate n 0) i) = it (deg i) 1 := by
  rw [flip_zeros n i hi, run_append, run_zeros, run_cons, upd_it, run_behind, Nat.zero_xor]
  have h8 : i % 8 < 8 := Nat.mod_lt _ (by omega)
  have e : (UInt8.ofNat (2 ^ (i % 8))).toNat = 2 ^ (i % 8) := by
    rw [UInt8.toNat_ofNat']
    apply Nat.mod_eq_of_lt
    calc 2 ^ (i % 8) < 2 ^ 8 := Nat.pow_lt_pow_right (by omega) h8
      _ = 256 := rfl
  have e2 : it 8 (2 ^ (i % 8)) = it (8 - i % 8) 1 := by
    have : 8 = i % 8 + (8 - i % 8) := by omega
    rw [show it 8 (2 ^ (i % 8)) = it (i % 8 + (8 - i % 8)) (2 ^ (i % 8)) from by rw [← this], it_add]
    have := it_up (i % 8) 1
    rw [Nat.mul_one] at this
    rw [this]
  rw [e, e2, ← it_add]
  unfold deg
  congr 1
  omega
theorem deg_inj {i j : Nat} (h : deg i = deg j) : i = j := by unfold deg at h; omega
theorem deg_le {i n : Nat} (h : i < 8 * n) : deg i ≤ 8 * n := by unfold deg; omega

/-- 1 does not come again within so many halvings -/
def apart : Nat → Nat → Bool
  | 0, _ => true
  | k + 1, s => halve s != 1 && apart k (halve s)
theorem apart_it : ∀ (k s : Nat), apart k s = true → ∀ d, 1 ≤ d → d ≤ k → it d s ≠ 1
  | 0, _, _, d, h1, h2 => by omega
  | k + 1, s, h, d, h1, h2 => by
    simp only [apart, Bool.and_eq_true, bne_iff_ne] at h
    cases d with
    | zero => omega
    | succ d =>
      cases d with
      | zero => exact h.1
      | succ d => exact apart_it k (halve s) h.2 (d + 1) (by omega) (by omega)
set_option maxRecDepth 100000 in
theorem apart_3200 : apart 3200 1 = true := by decide +kernel
theorem deg_apart {i j : Nat} (hi : deg i ≤ 3200) (hj : deg j ≤ 3200) (h : it (deg i) 1 = it (deg j) 1) : i = j := by
  have key : ∀ a b : Nat, a < b → b ≤ 3200 → it a 1 = it b 1 → False := by
    intro a b hab hb he
    have e : b = (b - a) + a := by omega
    rw [e, it_add] at he
    have h1 := it_inj a (by omega) (it_lt _ (by omega)) he
    exact apart_it 3200 1 apart_3200 (b - a) (by omega) (by omega) h1.symm
  rcases Nat.lt_trichotomy (deg i) (deg j) with h' | h' | h'
  · exact (key _ _ h' hj h).elim
  · exact deg_inj h'
  · exact (key _ _ h' hi h.symm).elim

theorem turnBy_zeros (x : List UInt8) : turnBy x (List.replicate x.length 0) = x := by
  induction x with
  | nil => rfl
  | cons c r ih =>
    have : turnBy (c :: r) (List.replicate (r.length + 1) 0) = (c ^^^ 0) :: turnBy r (List.replicate r.length 0) := rfl
    rw [List.length_cons, this, ih, UInt8.xor_zero]
theorem crc_same {a b : List UInt8} (h : a.length = b.length) (hc : crc entry a = crc entry b) : run entry 0 (turnBy b a) = 0 := by
  have := crc_diff h.symm
  rw [hc, Nat.xor_self] at this
  exact this.symm
theorem turnF_one (b : List UInt8) (k : Nat) : turnF b [k] = flip1 b (k % (8 * b.length)) := rfl
theorem turnF_two (b : List UInt8) (k j : Nat) : turnF b [k, j] = flip1 (flip1 b (k % (8 * b.length))) (j % (8 * b.length)) := by
  simp [turnF, flip1_length]
theorem flip_twice (b : List UInt8) (i : Nat) (h : 0 < b.length) : flip1 (flip1 b i) i = b := by
  unfold flip1
  simp only [List.length_set]
  have hp : b.length - 1 - i / 8 < b.length := by omega
  rw [List.set_set]
  have : ((b.set (b.length - 1 - i / 8) (b.getD (b.length - 1 - i / 8) 0 ^^^ UInt8.ofNat (2 ^ (i % 8)))).getD (b.length - 1 - i / 8) 0 ^^^ UInt8.ofNat (2 ^ (i % 8))) = b[b.length - 1 - i / 8] := by
    simp [List.getD_eq_getElem?_getD, hp, UInt8.xor_assoc]
  rw [this]
  simp

/-- one bit turned is seen -/
theorem one_seen {b : List UInt8} (hb : 0 < b.length) (hn : b.length ≤ 400) (k : Nat) : crc entry (turnF b [k]) ≠ crc entry b := by
  intro hc
  have hi : k % (8 * b.length) < 8 * b.length := Nat.mod_lt _ (by omega)
  have h := crc_same (turnF_length [k] b) hc
  rw [turnBy_turn [k] rfl, turnBy_self, turnF_one, List.length_replicate, run_flip _ _ hi] at h
  have := it_pos (deg (k % (8 * b.length))) (n := 1) (by omega) h
  omega
theorem two_seen {b : List UInt8} (hb : 0 < b.length) (hn : b.length ≤ 400) (k j : Nat) (hc : crc entry (turnF b [k, j]) = crc entry b) : turnF b [k, j] = b := by
  have hi : k % (8 * b.length) < 8 * b.length := Nat.mod_lt _ (by omega)
  have hj : j % (8 * b.length) < 8 * b.length := Nat.mod_lt _ (by omega)
  have h := crc_same (turnF_length [k, j] b) hc
  rw [turnBy_turn [k, j] rfl, turnBy_self, turnF_two, List.length_replicate] at h
  rw [turnF_two]
  generalize k % (8 * b.length) = i at *
  generalize j % (8 * b.length) = m at *
  have e : flip1 (flip1 (List.replicate b.length 0) i) m = turnBy (flip1 (List.replicate b.length 0) i) (flip1 (List.replicate b.length 0) m) := by
    have hl : (flip1 (List.replicate b.length (0 : UInt8)) i).length = (List.replicate b.length (0 : UInt8)).length := flip1_length _ _
    rw [turnBy_flip hl]
    congr 1
    have := turnBy_zeros (flip1 (List.replicate b.length 0) i)
    rw [hl, List.length_replicate] at this
    exact this.symm
  have hl2 : (flip1 (List.replicate b.length (0 : UInt8)) i).length = (flip1 (List.replicate b.length (0 : UInt8)) m).length := by rw [flip1_length, flip1_length]
  have hx := run_xor _ _ 0 0 hl2
  rw [Nat.xor_self, ← e, h, run_flip _ _ hi, run_flip _ _ hj] at hx
  have hxe : it (deg i) 1 = it (deg m) 1 := by
    have := congrArg (· ^^^ it (deg m) 1) hx
    simpa [Nat.xor_assoc] using this
  have := deg_apart (by have := deg_le hi; omega) (by have := deg_le hj; omega) hxe
  subst this
  exact flip_twice b i hb

/-- four bytes at most, as one number, the first one least -/
def low : List UInt8 → Nat
  | [] => 0
  | c :: r => c.toNat ^^^ (256 * low r)
theorem low_lt : ∀ (l : List UInt8), low l < 256 ^ l.length
  | [] => by simp [low]
  | c :: r => by
    have h1 := low_lt r
    have h2 := c.toNat_lt
    rw [List.length_cons, low]
    have e : (256 : Nat) ^ (r.length + 1) = 2 ^ (8 * (r.length + 1)) := by rw [show (256 : Nat) = 2 ^ 8 from rfl, ← Nat.pow_mul]
    rw [e]
    apply Nat.xor_lt_two_pow
    · calc c.toNat < 2 ^ 8 := h2
        _ ≤ 2 ^ (8 * (r.length + 1)) := Nat.pow_le_pow_right (by omega) (by omega)
    · rw [← e, Nat.pow_succ]; omega
theorem run_low : ∀ (l : List UInt8) (s : Nat), l.length ≤ 4 → run entry s l = it (8 * l.length) (s ^^^ low l)
  | [], s, _ => by simp [run, low, it]
  | c :: r, s, h => by
    have hr : r.length ≤ 4 := by simp at h; omega
    rw [run_cons, upd_it, run_low r _ hr]
    have e1 : it 8 (s ^^^ c.toNat) ^^^ low r = it 8 ((s ^^^ c.toNat) ^^^ (2 ^ 8 * low r)) := by rw [it_xor 8 (s ^^^ c.toNat), it_up]
    rw [e1, ← it_add, List.length_cons]
    congr 1
    · omega
    · rw [low, ← Nat.xor_assoc]
theorem low_zero : ∀ (l : List UInt8), low l = 0 → l = List.replicate l.length 0
  | [], _ => rfl
  | c :: r, h => by
    have hc : c.toNat = 0 ∧ low r = 0 := by
      have hx : c.toNat = 256 * low r := by
        have := congrArg (· ^^^ (256 * low r)) h
        simpa [low, Nat.xor_assoc] using this
      have := c.toNat_lt
      omega
    have h0 : c = 0 := by
      have := hc.1
      exact UInt8.toNat_inj.1 (by simpa using this)
    rw [List.length_cons, List.replicate_succ, h0, ← low_zero r hc.2]
/-- bits turned within four bytes next to each other are seen -/
theorem burst_seen {b x : List UInt8} {k : Nat} (hl : x.length = b.length) (hk : k ≤ b.length) (hout : ∀ i, i < k ∨ k + 4 ≤ i → x[i]? = b[i]?) (hc : crc entry x = crc entry b) : x = b := by
  have h := crc_same hl hc
  have hD : ∀ i, i < k ∨ k + 4 ≤ i → i < b.length → (turnBy b x)[i]? = some 0 := by
    intro i hi hib
    unfold turnBy
    rw [List.getElem?_zipWith, hout i hi, List.getElem?_eq_getElem hib]
    simp
  have hDl : (turnBy b x).length = b.length := turnBy_length hl.symm
  generalize hDe : turnBy b x = D at *
  have e1 : D.take k = List.replicate k 0 := by
    apply List.ext_getElem?
    intro i
    rw [List.getElem?_take, List.getElem?_replicate]
    by_cases hi : i < k
    · rw [if_pos hi, if_pos hi, hD i (.inl hi) (by omega)]
    · rw [if_neg hi, if_neg hi]
  have e2 : (D.drop k).drop 4 = List.replicate (b.length - k - 4) 0 := by
    apply List.ext_getElem?
    intro i
    rw [List.getElem?_drop, List.getElem?_drop, List.getElem?_replicate]
    by_cases hi : i < b.length - k - 4
    · rw [if_pos hi, hD _ (.inr (by omega)) (by omega)]
    · rw [if_neg hi]
      exact List.getElem?_eq_none (by omega)
  have e3 : D = List.replicate k 0 ++ ((D.drop k).take 4 ++ List.replicate (b.length - k - 4) 0) := by
    rw [← e1, ← e2, List.take_append_drop, List.take_append_drop]
  have hr : run entry 0 ((D.drop k).take 4) = 0 := by
    rw [e3, run_append, run_zeros, run_append, run_behind] at h
    refine it_pos _ (run_lt (fun i hi => entry_lt (by omega)) _ (by omega)) h
  rw [run_low _ _ (by simp; omega), Nat.zero_xor] at hr
  have hlow : low ((D.drop k).take 4) = 0 := by
    refine it_pos _ ?_ hr
    have := low_lt ((D.drop k).take 4)
    have h4 : ((D.drop k).take 4).length ≤ 4 := by simp; omega
    calc _ < 256 ^ ((D.drop k).take 4).length := this
      _ ≤ 256 ^ 4 := Nat.pow_le_pow_right (by omega) h4
      _ = 4294967296 := by decide
  have e4 := low_zero _ hlow
  have e5 : D = List.replicate b.length 0 := by
    rw [e3, e4, List.replicate_append_replicate, List.replicate_append_replicate]
    congr 1
    simp [hDl]
    omega
  apply List.ext_getElem?
  intro i
  by_cases hi : i < b.length
  · have h6 : D[i]? = some 0 := by rw [e5, List.getElem?_replicate, if_pos hi]
    rw [← hDe] at h6
    unfold turnBy at h6
    rw [List.getElem?_zipWith, List.getElem?_eq_getElem hi, List.getElem?_eq_getElem (by omega)] at h6
    rw [List.getElem?_eq_getElem hi, List.getElem?_eq_getElem (by omega)]
    simp only [Option.some.injEq] at h6 ⊢
    have := congrArg (b[i] ^^^ ·) h6
    simpa [← UInt8.xor_assoc] using this
  · rw [List.getElem?_eq_none (by omega), List.getElem?_eq_none (by omega)]
end Go.Coop
