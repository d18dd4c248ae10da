/- A disk, plain: what its medium has, what its cache has, whether it is armed, or down; what each call makes of it. -/
import Derived.Test.YtlhhijhmjkgnaaaArr
namespace Go.Proofs.Ytlhhijhmjkgnaaa
open Go.RowKit Go.Coop
set_option maxRecDepth 100000

/-- the cells of n sectors, one behind the other -/
def flat (n : Nat) (f : Nat → List UInt8) : List Value := (List.range n).flatMap fun i => bvs (f i)
def behind (n i : Nat) (f : Nat → List UInt8) : List Value := (List.range' (i + 1) (n - i - 1)).flatMap fun i => bvs (f i)
theorem flatMap_len {l : List Nat} {f : Nat → List UInt8} (h : ∀ i ∈ l, (f i).length = 64) : (l.flatMap fun i => bvs (f i)).length = 64 * l.length := by
  induction l with
  | nil => rfl
  | cons a l ih =>
    rw [List.flatMap_cons, List.length_append, ih (fun i hi => h i (by simp [hi])), bvs_length, h a (by simp), List.length_cons]
    omega
theorem flat_len {n : Nat} {f : Nat → List UInt8} (h : ∀ i, i < n → (f i).length = 64) : (flat n f).length = 64 * n := by
  unfold flat
  rw [flatMap_len (fun i hi => h i (List.mem_range.1 hi)), List.length_range]
theorem range_split {n i : Nat} (h : i < n) : List.range n = List.range i ++ [i] ++ List.range' (i + 1) (n - i - 1) := by
  rw [List.range_eq_range', List.range_eq_range']
  have e : n = i + (1 + (n - i - 1)) := by omega
  conv => lhs; rw [e]
  rw [← List.range'_append_1, ← List.range'_append_1]
  simp
theorem flat_split {n i : Nat} (h : i < n) (f : Nat → List UInt8) : flat n f = flat i f ++ bvs (f i) ++ behind n i f := by
  unfold flat behind
  rw [range_split h, List.flatMap_append, List.flatMap_append]
  simp
theorem flat_congr {n : Nat} {f g : Nat → List UInt8} (h : ∀ i, i < n → f i = g i) : flat n f = flat n g := by
  unfold flat
  rw [List.flatMap_def, List.flatMap_def]
  congr 1
  exact List.map_congr_left fun i hi => by rw [h i (List.mem_range.1 hi)]

def upd {α : Type} (f : Nat → α) (i : Nat) (x : α) : Nat → α := fun j => if j = i then x else f j
theorem upd_same {α : Type} (f : Nat → α) (i : Nat) (x : α) : upd f i x i = x := by simp [upd]
theorem upd_other {α : Type} (f : Nat → α) {i j : Nat} (x : α) (h : j ≠ i) : upd f i x j = f j := by simp [upd, h]

theorem flat_upd {n i : Nat} (h : i < n) (f : Nat → List UInt8) (l : List UInt8) : flat n (upd f i l) = flat i f ++ bvs l ++ behind n i f := by
  rw [flat_split h, upd_same, flat_congr (f := upd f i l) (g := f) (fun j hj => upd_other f l (by omega))]
  congr 1
  unfold behind
  rw [List.flatMap_def, List.flatMap_def]
  congr 1
  refine List.map_congr_left fun j hj => ?_
  rw [upd_other]
  have := List.mem_range'_1.1 hj
  omega
theorem flat_at {n i j : Nat} (hi : i < n) {f : Nat → List UInt8} (h : ∀ i, i < n → (f i).length = 64) (hj : j < 64) : (flat n f)[64 * i + j]? = (bvs (f i))[j]? := by
  have h1 := flat_len (n := i) (f := f) (fun a ha => h a (by omega))
  have h2 := h i hi
  rw [flat_split hi, List.append_assoc, List.getElem?_append_right (by omega), h1]
  have : 64 * i + j - 64 * i = j := by omega
  rw [this, List.getElem?_append_left (by rw [bvs_length]; omega)]

/-- A disk. -/
structure DS where
  n : Nat
  med : Nat → List UInt8
  cache : Nat → Option (List UInt8)
  armed : Bool
  left : Nat
  down : Bool
namespace DS
/-- what is read of a sector -/
def at_ (S : DS) (i : Nat) : List UInt8 := (S.cache i).getD (S.med i)
structure Ok (S : DS) : Prop where
  n1 : 1 ≤ S.n
  n2 : S.n ≤ 65536
  med : ∀ i, (S.med i).length = 64
  cache : ∀ i l, S.cache i = some l → l.length = 64 ∧ i < S.n
  left : S.left < 9223372036854775808
theorem Ok.at_ {S : DS} (h : S.Ok) (i : Nat) : (S.at_ i).length = 64 := by
  unfold DS.at_
  cases hc : S.cache i with
  | none => exact h.med i
  | some l => exact (h.cache i l hc).1
def new (n : Nat) : DS := { n := n, med := fun _ => List.replicate 64 0, cache := fun _ => none, armed := false, left := 0, down := false }
theorem new_ok {n : Nat} (h1 : 1 ≤ n) (h2 : n ≤ 65536) : (new n).Ok := ⟨h1, h2, fun _ => by simp [new], fun i l h => by simp [new] at h, by simp [new]⟩

/-- the power fails at the next operation -/
def fails (S : DS) : Bool := S.armed && S.left == 0
def failed (S : DS) : DS := { S with armed := false, down := true }
def took (S : DS) : DS := { S with left := if S.armed then S.left - 1 else S.left }
def put (S : DS) (i : Nat) (l : List UInt8) : DS := { S with cache := upd S.cache i (some l) }
def flushed (S : DS) : DS := { S with med := S.at_, cache := fun _ => none }
def armedBy (S : DS) (n : Nat) : DS := { S with armed := true, left := n }
def spoilt (S : DS) (i : Nat) (l : List UInt8) : DS := { S with med := upd S.med i l }
/-- the sectors of which the cache has bytes, rising -/
def cached (S : DS) : List Nat := (List.range S.n).filter fun i => (S.cache i).isSome
/-- how many cached ones stand ahead of i -/
def rank (S : DS) (i : Nat) : Nat := ((List.range i).filter fun j => (S.cache j).isSome).length
def kept (S : DS) (ks : List Bool) (i : Nat) : Bool := (S.cache i).isSome && (ks[S.rank i]?).getD false
def crashed (S : DS) (ks : List Bool) : DS := { S with med := fun i => if S.kept ks i then S.at_ i else S.med i, cache := fun _ => none, armed := false, down := false }
/-- behind so many of the cached ones -/
def crashing (S : DS) (ks : List Bool) (k : Nat) : DS := { S with med := fun i => if S.kept ks i && decide (S.rank i < k) then S.at_ i else S.med i }

theorem failed_ok {S : DS} (h : S.Ok) : S.failed.Ok := ⟨h.n1, h.n2, h.med, h.cache, h.left⟩
theorem took_ok {S : DS} (h : S.Ok) : S.took.Ok := ⟨h.n1, h.n2, h.med, h.cache, by have := h.left; simp only [took]; split <;> omega⟩
theorem put_ok {S : DS} (h : S.Ok) {i : Nat} (hi : i < S.n) {l : List UInt8} (hl : l.length = 64) : (S.put i l).Ok := ⟨h.n1, h.n2, h.med, fun j k hj => by
  simp only [put, upd] at hj
  split at hj
  · injection hj with hj; subst hj; exact ⟨hl, by simp only [put]; omega⟩
  · exact h.cache j k hj, h.left⟩
theorem flushed_ok {S : DS} (h : S.Ok) : S.flushed.Ok := ⟨h.n1, h.n2, h.at_, fun _ _ h => by simp [flushed] at h, h.left⟩
theorem armedBy_ok {S : DS} (h : S.Ok) {n : Nat} (hn : n < 9223372036854775808) : (S.armedBy n).Ok := ⟨h.n1, h.n2, h.med, h.cache, hn⟩
theorem spoilt_ok {S : DS} (h : S.Ok) (i : Nat) {l : List UInt8} (hl : l.length = 64) : (S.spoilt i l).Ok := ⟨h.n1, h.n2, fun j => by
  simp only [spoilt, upd]
  split
  · exact hl
  · exact h.med j, h.cache, h.left⟩
theorem crashing_ok {S : DS} (h : S.Ok) (ks : List Bool) (k : Nat) : (S.crashing ks k).Ok := ⟨h.n1, h.n2, fun i => by
  simp only [crashing]
  split
  · exact h.at_ i
  · exact h.med i, h.cache, h.left⟩
theorem crashed_ok {S : DS} (h : S.Ok) (ks : List Bool) : (S.crashed ks).Ok := ⟨h.n1, h.n2, fun i => by
  simp only [crashed]
  split
  · exact h.at_ i
  · exact h.med i, fun _ _ h => by simp [crashed] at h, h.left⟩

/-- the k-th of the cached ones -/
theorem cached_at {S : DS} : ∀ {k i : Nat}, S.cached[k]? = some i → i < S.n ∧ (S.cache i).isSome ∧ S.rank i = k := by
  have gen : ∀ (m k i : Nat), ((List.range m).filter fun j => (S.cache j).isSome)[k]? = some i → i < m ∧ (S.cache i).isSome ∧ S.rank i = k := by
    intro m
    induction m with
    | zero => intro k i h; simp at h
    | succ m ih =>
      intro k i h
      rw [List.range_succ, List.filter_append] at h
      rw [List.getElem?_append] at h
      split at h
      · obtain ⟨h1, h2⟩ := ih k i h
        exact ⟨by omega, h2⟩
      · rename_i hk
        by_cases hm : (S.cache m).isSome = true
        · rw [List.filter_cons_of_pos (by simpa using hm)] at h
          have hk0 : k - ((List.range m).filter fun j => (S.cache j).isSome).length = 0 := by
            cases hz : k - ((List.range m).filter fun j => (S.cache j).isSome).length with
            | zero => rfl
            | succ z => rw [hz] at h; simp at h
          rw [hk0] at h
          simp at h
          subst h
          refine ⟨by omega, hm, ?_⟩
          unfold rank
          omega
        · rw [List.filter_cons_of_neg (by simpa using hm)] at h
          simp at h
  intro k i h
  exact gen S.n k i h
theorem rank_mono {S : DS} {i j : Nat} (h : i < j) (hi : (S.cache i).isSome) : S.rank i < S.rank j := by
  unfold rank
  have e : List.range j = List.range i ++ [i] ++ List.range' (i + 1) (j - i - 1) := range_split h
  rw [e, List.filter_append, List.filter_append, List.filter_cons_of_pos (by simpa using hi)]
  simp only [List.length_append, List.length_cons]
  omega
theorem rank_inj {S : DS} {i j : Nat} (hi : (S.cache i).isSome) (hj : (S.cache j).isSome) (h : S.rank i = S.rank j) : i = j := by
  rcases Nat.lt_trichotomy i j with hl | hl | hl
  · have := rank_mono hl hi; omega
  · exact hl
  · have := rank_mono hl hj; omega
theorem rank_lt {S : DS} {i : Nat} (h : i < S.n) (hi : (S.cache i).isSome) : S.rank i < S.cached.length := by
  unfold cached rank
  rw [range_split h, List.filter_append, List.filter_append, List.filter_cons_of_pos (by simpa using hi)]
  simp only [List.length_append, List.length_cons]
  omega
theorem crashing_zero (S : DS) (ks : List Bool) : S.crashing ks 0 = S := by
  cases S
  simp [crashing]
theorem crashing_step {S : DS} (ks : List Bool) {k i : Nat} (h : S.cached[k]? = some i) : S.crashing ks (k + 1) = if (ks[k]?).getD false then (S.crashing ks k).spoilt i (S.at_ i) else S.crashing ks k := by
  obtain ⟨h1, h2, h3⟩ := cached_at h
  have key : ∀ j, (S.kept ks j && decide (S.rank j < k + 1)) = ((S.kept ks j && decide (S.rank j < k)) || (decide (j = i) && (ks[k]?).getD false)) := by
    intro j
    by_cases hj : j = i
    · subst hj
      simp [kept, h2, h3]
    · have hr : (S.kept ks j && decide (S.rank j < k + 1)) = (S.kept ks j && decide (S.rank j < k)) := by
        by_cases hc : (S.cache j).isSome = true
        · have : S.rank j ≠ k := fun e => hj (rank_inj hc h2 (by omega))
          congr 1
          simp
          omega
        · simp [kept, hc]
      rw [hr]
      simp [hj]
  cases hk : (ks[k]?).getD false
  · simp only [hk, Bool.and_false, Bool.or_false] at key
    simp [crashing, key]
  · simp only [hk, Bool.and_true] at key
    simp only [crashing, key, spoilt, if_true]
    congr 1
    funext j
    unfold upd
    by_cases hj : j = i
    · subst hj
      simp
    · simp [hj]
theorem crashing_all {S : DS} (h : S.Ok) (ks : List Bool) (i : Nat) : (S.crashing ks S.cached.length).med i = (S.crashed ks).med i := by
  show (if (S.kept ks i && decide (S.rank i < S.cached.length)) = true then S.at_ i else S.med i) = if S.kept ks i = true then S.at_ i else S.med i
  cases hk : S.kept ks i
  · simp
  · have hc : (S.cache i).isSome = true := by
      unfold kept at hk
      simp at hk
      exact hk.1
    obtain ⟨l, hl⟩ := Option.isSome_iff_exists.1 hc
    have := rank_lt (h.cache i l hl).2 hc
    simp [this]
end DS
end Go.Proofs.Ytlhhijhmjkgnaaa
