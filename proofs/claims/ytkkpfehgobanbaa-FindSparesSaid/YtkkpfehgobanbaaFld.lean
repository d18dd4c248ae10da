import Derived.Test.YtkkpfehgobanbaaRows
import Derived.Test.YtkkpfehgobanbaaWords
import Derived.Test.YtkkpfehgobanbaaElts
import Derived.WalkSpells
import Derived.WalkLawsBesides
import Derived.Deep.WholeRow
import Derived.Laws.BitsAllLaws
import Derived.Laws.BitsLemmas
namespace Go.Proofs.Ytkkpfehgobanbaa
open Go.RowKit Go.Coop
set_option maxRecDepth 100000

theorem info77 : (Try.prog.info? 95).map (fun i => (i.zero, i.size)) = some (some (.agg (Array.replicate 255 (.int .u8 0) ++ Array.replicate 256 (.int .i64 0))), 511) := by kernel_rfl

theorem ofInt_i64 (a : Nat) (ha : a < 9223372036854775808) : (BitVec.ofInt 64 (a : Int)).toNat = a := by
  rw [BitVec.ofInt_natCast, BitVec.toNat_ofNat]; exact Nat.mod_eq_of_lt (by omega)
theorem i64_xor_nat (a b : Nat) (ha : a < 9223372036854775808) (hb : b < 9223372036854775808) : bits .xor .i64 (a : Int) (b : Int) = ((a ^^^ b : Nat) : Int) := by
  have hx : a ^^^ b < 2 ^ 63 := Nat.xor_lt_two_pow (by omega) (by omega)
  show IntKind.i64.wrap ((BitVec.ofInt 64 (a : Int) ^^^ BitVec.ofInt 64 (b : Int)).toNat : Int) = _
  rw [BitVec.toNat_xor, ofInt_i64 a ha, ofInt_i64 b hb, IntKind.wrap_i64]
  omega

/-- what the table's cells are behind k rounds -/
def tab : Nat → Array Value
  | 0 => Array.replicate 255 (.int .u8 0) ++ Array.replicate 256 (.int .i64 0)
  | k + 1 => ((tab k).setIfInBounds k (.int .u8 (ex k : Int))).setIfInBounds (255 + ex k) (.int .i64 (k : Int))
theorem tab_size (k : Nat) : (tab k).size = 511 := by
  induction k with
  | zero => simp [tab]
  | succ k ih => simp [tab, ih]
theorem tab_pow (k : Nat) (hk : k ≤ 255) : ∀ i, i < 255 → (tab k)[i]? = some (.int .u8 (if i < k then (ex i : Int) else 0)) := by
  induction k with
  | zero => intro i hi; simp [tab, Array.getElem?_append, hi]
  | succ k ih =>
    intro i hi
    have hs := tab_size k
    have hx := ex_pos k
    simp only [tab]
    rw [Array.getElem?_setIfInBounds_ne (by omega)]
    by_cases e : k = i
    · subst e
      rw [Array.getElem?_setIfInBounds_self_of_lt (by omega), if_pos (by omega)]
    · rw [Array.getElem?_setIfInBounds_ne e, ih (by omega) i hi]
      by_cases h : i < k
      · rw [if_pos h, if_pos (by omega)]
      · rw [if_neg h, if_neg (by omega)]
theorem tab_log (k : Nat) (hk : k ≤ 255) : ∀ x, x < 256 → (tab k)[255 + x]? = some (.int .i64 (if x ≠ 0 ∧ lg x < k then (lg x : Int) else 0)) := by
  induction k with
  | zero => intro x hx; simp [tab, Array.getElem?_append, hx]
  | succ k ih =>
    intro x hx
    have hs := tab_size k
    have hp := ex_pos k
    simp only [tab]
    by_cases e : ex k = x
    · subst e
      rw [Array.getElem?_setIfInBounds_self_of_lt (by simp; omega), lg_ex k (by omega), if_pos ⟨hp.2, by omega⟩]
    · rw [Array.getElem?_setIfInBounds_ne (by omega), Array.getElem?_setIfInBounds_ne (by omega), ih (by omega) x hx]
      by_cases h0 : x = 0
      · rw [if_neg (by omega), if_neg (by omega)]
      · have h := (ex_lg x h0 hx).1
        have hne : lg x ≠ k := fun h' => e (by rw [← h', h])
        by_cases h : lg x < k
        · rw [if_pos ⟨h0, h⟩, if_pos ⟨h0, by omega⟩]
        · rw [if_neg (by omega), if_neg (by omega)]

/-- a field lies at block g -/
structure FldAt (w : World) (g : Nat) : Prop where
  lt : g < w.heap.size
  pow : ∀ i, i < 255 → w.cell? ⟨g, i, none⟩ = some (.int .u8 (ex i : Int))
  log : ∀ x, x < 256 → w.cell? ⟨g, 255 + x, none⟩ = some (.int .i64 (lg x : Int))
theorem FldAt.below {w w' : World} {g B : Nat} (h : FldAt w g) (hb : Below B w w') (hg : g < B) : FldAt w' g :=
  ⟨Nat.lt_of_lt_of_le h.lt hb.size, fun i hi => (hb.cell (p := ⟨g, i, none⟩) hg).trans (h.pow i hi), fun x hx => (hb.cell (p := ⟨g, 255 + x, none⟩) hg).trans (h.log x hx)⟩
theorem FldAt.drew {w : World} {g : Nat} (h : FldAt w g) : FldAt w.drew g := ⟨h.lt, h.pow, h.log⟩
theorem FldAt.drewN {w : World} {g : Nat} (h : FldAt w g) (n : Nat) : FldAt (w.drewN n) g := ⟨h.lt, h.pow, h.log⟩
theorem FldAt.alloc {w : World} {g : Nat} (h : FldAt w g) (o : Obj) : FldAt (w.alloc o) g := h.below ((Below.refl w.heap.size w).alloc (Nat.le_refl _) o) h.lt
theorem fld_new (w : World) : FldAt (w.alloc (.cells (tab 255) 95)) w.heap.size := by
  refine ⟨by simp, fun i hi => ?_, fun x hx => ?_⟩
  · rw [cell_of_row _ w.heap.size i (tab 255) 95 (0, 0) (heap_alloc_new w _), tab_pow 255 (by omega) i hi, if_pos hi]
  · rw [cell_of_row _ w.heap.size _ (tab 255) 95 (0, 0) (heap_alloc_new w _), tab_log 255 (by omega) x hx]
    by_cases h0 : x = 0
    · subst h0; rfl
    · rw [if_pos ⟨h0, (ex_lg x h0 hx).2⟩]

/-- what New answers -/
def Made (w : World) (e : Ending) (w' : World) : Prop :=
  ∃ g, e = .returned (.pointer (some ⟨g, 0, none⟩)) ∧ FldAt w' g ∧ w.heap.size ≤ g ∧ Below w.heap.size w w'

theorem new_step {k P : Nat} {cur : Array Value} (hk : k < 255) (h : P = ex k ∧ cur = tab k) :
    ∃ X Y X', cur[k]? = some (.int .u8 X) ∧ (cur.setIfInBounds k (.int .u8 (P : Int)))[255 + P]? = some (.int .i64 Y) ∧ bits BinOp.xor IntKind.i64 ((P : Int) * 2) 285 = ((X' : Nat) : Int) ∧ nx P = (if 256 ≤ 2 * P then X' else 2 * P) ∧
      (cur.setIfInBounds k (.int .u8 (P : Int))).setIfInBounds (255 + P) (.int .i64 (k : Int)) = tab (k + 1) ∧ nx P = ex (k + 1) ∧ nx P < 256 ∧ nx P ≠ 0 := by
  obtain ⟨rfl, rfl⟩ := h
  have hp := ex_pos k
  have hx := i64_xor_nat (ex k * 2) 285 (by omega) (by omega)
  refine ⟨_, (if ex k ≠ 0 ∧ lg (ex k) < k then (lg (ex k) : Int) else 0), ex k * 2 ^^^ 285, tab_pow k (by omega) k hk, ?_, by simpa using hx, ?_, rfl, rfl, (nx_small _ hp.1).1, (nx_small _ hp.1).2 hp.2⟩
  · rw [Array.getElem?_setIfInBounds_ne (by omega)]
    exact tab_log k (by omega) (ex k) hp.1
  · unfold nx; rw [Nat.mul_comm]

set_option maxRecDepth 100000 in
theorem new_any (w : World) : Calls Try.prog 13 #[] w (Made w) := by
  have hz := (zero_of_info info77).1
  obtain ⟨Z, hZ⟩ : ∃ Z, Z = (Array.replicate 255 (Value.int .u8 0) ++ Array.replicate 256 (.int .i64 0)) := ⟨_, rfl⟩
  rw [← hZ] at hz
  have HZ := Lib.hid hZ
  clear hZ
  go_enter Try.func13, Try.ntmps13
  go_wp2
  go_loopw [2, 6] (fun p i wr => ∃ (k P : Nat) (cur : Array Value), k ≤ 255 ∧ i = .int .i64 k ∧ p = .int .i64 P ∧ 1 ≤ P ∧ P ≤ 255 ∧ Hid (P = ex k ∧ cur = tab k) ∧ wr = w.alloc (.cells cur 95)) (fun _ i _ => 255 - (intOf i).toNat)
  case atStart => exact ⟨0, 1, Z, by omega, rfl, rfl, by omega, by omega, ⟨rfl, HZ.out⟩, rfl⟩
  case round =>
    obtain ⟨k, P, cur, hk, rfl, rfl, hP1, hP2, HC, rfl⟩ := hrel
    by_cases hlt : k < 255
    · obtain ⟨X, Y, X', hc1, hc2, hxor, hnx, htab, hex, hn1, hn2⟩ := new_step hlt HC.out
      have HT := Lib.hid (And.intro hnx (And.intro htab (And.intro hex (And.intro hn1 hn2))))
      clear hnx htab hex hn1 hn2 hz
      have hPw : (P : Int) % 256 = P := by omega
      by_cases h256 : 256 ≤ 2 * P
      · have hb : decide (256 ≤ (P : Int) * 2) = true := by simp; omega
        have h2 := HT.out.1
        rw [if_pos h256] at h2
        have H2 := Lib.hid h2
        clear h256 h2
        go_wp2
        go_roundw
        case rel => exact ⟨k + 1, X', _, by omega, by go_num, rfl, by have := HT.out.2.2.2; have := H2.out; omega, by have := HT.out.2.2.2; have := H2.out; omega, ⟨by rw [← H2.out]; exact HT.out.2.2.1, HT.out.2.1⟩, rfl⟩
        case measure => simp [intOf]; omega
      · have hb : decide (256 ≤ (P : Int) * 2) = false := by simp; omega
        go_wp2
        go_roundw
        case rel =>
          have h2 := HT.out.1
          rw [if_neg h256] at h2
          exact ⟨k + 1, 2 * P, _, by omega, by go_num, by go_num, by omega, by omega, ⟨by rw [← h2]; exact HT.out.2.2.1, HT.out.2.1⟩, rfl⟩
        case measure => simp [intOf]; omega
    · obtain rfl : k = 255 := by omega
      go_wp2
      go_ret
      have hf : FldAt (w.alloc (.cells cur 95)) w.heap.size := by rw [HC.out.2]; exact fld_new w
      exact ⟨w.heap.size, rfl, hf, Nat.le_refl _, (Below.refl _ _).alloc (Nat.le_refl _) _⟩
end Go.Proofs.Ytkkpfehgobanbaa
