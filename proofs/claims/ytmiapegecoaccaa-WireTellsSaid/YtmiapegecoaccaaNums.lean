/- Numbers as bytes: what comes was sent, and what is sent comes. No program is named here. -/
import Derived.Test.YtmiapegecoaccaaPure
namespace Go.Coop

/-- what bytes weigh -/
def val : List UInt8 → Nat
  | [] => 0
  | d :: r => d.toNat % 128 + 128 * val r
/-- bytes that a number is sent as (f: nothing stands ahead of them) -/
def canon : Bool → List UInt8 → Prop
  | _, [] => False
  | f, [d] => d.toNat < 128 ∧ (f = false → d.toNat ≠ 0)
  | _, d :: e :: r => 128 ≤ d.toNat ∧ canon false (e :: r)

theorem canon_val_pos : ∀ (l : List UInt8), canon false l → 1 ≤ val l
  | [], h => h.elim
  | [d], h => by have h1 := h.1; have h2 := h.2 rfl; simp [val]; omega
  | d :: e :: r, h => by have := canon_val_pos (e :: r) h.2; rw [val]; omega
theorem canon_weaken : ∀ (l : List UInt8), canon false l → canon true l
  | [], h => h
  | [_], h => ⟨h.1, fun h => by cases h⟩
  | _ :: _ :: _, h => h

theorem ofNat_toNat' (d : UInt8) : UInt8.ofNat d.toNat = d := by simp

theorem digF_val : ∀ (l : List UInt8) (j : Nat), l.length ≤ j + 1 → canon true l → digF j (val l) = l
  | [], _, _, h => h.elim
  | [d], j, _, h => by
    have h1 := h.1
    have e : val [d] = d.toNat := by simp [val]; omega
    rw [e]
    cases j with
    | zero => simp [digF]
    | succ j => rw [digF, if_pos h1, ofNat_toNat']
  | d :: e :: r, 0, hj, _ => by simp at hj
  | d :: e :: r, j + 1, hj, h => by
    have h1 := h.1
    have hp := canon_val_pos (e :: r) h.2
    have hd := d.toNat_lt
    have hv : val (d :: e :: r) = d.toNat % 128 + 128 * val (e :: r) := rfl
    rw [digF, hv, if_neg (by omega), show (d.toNat % 128 + 128 * val (e :: r)) % 128 + 128 = d.toNat by omega, ofNat_toNat', show (d.toNat % 128 + 128 * val (e :: r)) / 128 = val (e :: r) by omega,
      digF_val (e :: r) j (by simp at hj ⊢; omega) (canon_weaken _ h.2)]

theorem scan_canon : ∀ (l : List UInt8) (k acc N c : Nat), k ≤ 9 → scan l k acc = (N, c, 0) →
    ∃ m, c = k + m ∧ m ≤ l.length ∧ canon (k == 0) (l.take m) ∧ N = acc + 128 ^ k * val (l.take m) ∧ k + m ≤ 10
  | [], k, acc, N, c, _, h => by simp [scan] at h
  | d :: r, k, acc, N, c, hk, h => by
    unfold scan at h
    split at h
    · simp at h
    · rename_i hb
      split at h
      · rename_i hlt
        simp only [Prod.mk.injEq] at h
        obtain ⟨h1, h2, _⟩ := h
        refine ⟨1, h2.symm, by simp, ⟨hlt, fun h0 => ?_⟩, ?_, by omega⟩
        · intro e
          have : ¬ k = 0 := by simpa using h0
          exact hb (.inl ⟨by omega, e⟩)
        · simp [val]
          rw [← h1, Nat.mul_comm]
      · rename_i hge
        have h9 : k ≠ 9 := fun e => hb (.inr ⟨e, by omega⟩)
        obtain ⟨m, h1, h2, h3, h4, h5⟩ := scan_canon r (k + 1) _ N c (by omega) h
        have hm : 1 ≤ m := by
          rcases Nat.eq_zero_or_pos m with h0 | h0
          · subst h0; exact h3.elim
          · exact h0
        refine ⟨m + 1, by omega, by simp; omega, ?_, ?_, by omega⟩
        · rw [List.take_succ_cons]
          have h3' : canon false (r.take m) := by simpa using h3
          cases hr : r.take m with
          | nil => rw [hr] at h3'; exact h3'.elim
          | cons e q => rw [hr] at h3'; exact ⟨by omega, h3'⟩
        · rw [List.take_succ_cons, h4, val, Nat.pow_succ, Nat.mul_add, Nat.add_assoc, Nat.mul_comm (d.toNat % 128), Nat.mul_assoc]

theorem canon_at : ∀ (l : List UInt8) (f : Bool) (i : Nat) (c : UInt8), canon f l → l[i]? = some c →
    (i + 1 < l.length → 128 ≤ c.toNat) ∧ (i + 1 = l.length → c.toNat < 128 ∧ (1 < l.length → c.toNat ≠ 0))
  | [], _, _, _, h, _ => h.elim
  | [d], f, 0, c, h, hi => by simp at hi; subst hi; exact ⟨by simp, fun _ => ⟨h.1, by simp⟩⟩
  | [d], _, i + 1, c, _, hi => by simp at hi
  | d :: e :: r, f, 0, c, h, hi => by simp at hi; subst hi; exact ⟨fun _ => h.1, by simp⟩
  | d :: e :: r, f, i + 1, c, h, hi => by
    have := canon_at (e :: r) false i c h.2 (by simpa using hi)
    refine ⟨fun h1 => this.1 (by simp at h1 ⊢; omega), fun h1 => ⟨(this.2 (by simp at h1 ⊢; omega)).1, fun _ => ?_⟩⟩
    have h2 : i + 1 = (e :: r).length := by simp at h1 ⊢; omega
    rcases Nat.lt_or_ge 1 (e :: r).length with h3 | h3
    · exact (this.2 h2).2 h3
    · cases r with
      | nil =>
        have hi0 : i = 0 := by simp at h2; omega
        subst hi0
        simp at hi
        subst hi
        exact h.2.2 rfl
      | cons _ _ => simp at h3

theorem val_drop_le (l : List UInt8) : ∀ k, val (l.drop k) ≤ val l := by
  induction l with
  | nil => intro k; simp [val]
  | cons d r ih =>
    intro k
    cases k with
    | zero => exact Nat.le_refl _
    | succ k => have := ih k; simp only [List.drop_succ_cons, val]; omega

/-- a number that comes: its bytes are those that it is sent as -/
structure Came (l : List UInt8) (x : Nat) (r : Nat × Nat × Nat) (m : Nat) : Prop where
  next : r.2.1 = x + m
  pos : 1 ≤ m
  ten : m ≤ 10
  fits : x + m ≤ l.length
  num : r.1 = val ((l.drop x).take m)
  ok : canon true ((l.drop x).take m)
  back : dig r.1 = (l.drop x).take m
theorem getU_came {l : List UInt8} {x : Nat} (hx : x ≤ l.length) (he : (getU l (x : Int)).2.2 = 0) : ∃ m, Came l x (getU l (x : Int)) m := by
  have e := getU_of hx (s := scan (l.drop x) 0 0) rfl
  rw [e] at he ⊢
  simp only at he
  obtain ⟨m, h1, h2, h3, h4, h5⟩ := scan_canon (l.drop x) 0 0 (scan (l.drop x) 0 0).1 (scan (l.drop x) 0 0).2.1 (by omega) (Prod.ext rfl (Prod.ext rfl he))
  have hp : 1 ≤ m := by
    rcases Nat.eq_zero_or_pos m with h0 | h0
    · subst h0; exact h3.elim
    · exact h0
  have hn : (scan (l.drop x) 0 0).1 = val ((l.drop x).take m) := by rw [h4]; simp
  have hc : canon true ((l.drop x).take m) := by simpa using h3
  refine ⟨m, ?_, hp, by omega, by simp at h2; omega, hn, hc, ?_⟩
  · simp only [he, if_true]; omega
  · show dig (scan (l.drop x) 0 0).1 = _
    rw [hn]
    exact digF_val _ 9 (by simp; omega) hc
theorem getU_bad {l : List UInt8} {x : Nat} (hx : x ≤ l.length) (he : (getU l (x : Int)).2.2 ≠ 0) : (getU l (x : Int)).2.2 = 10 ∨ (getU l (x : Int)).2.2 = 11 := by
  have e := getU_of hx (s := scan (l.drop x) 0 0) rfl
  rw [e] at he ⊢
  simp only at he ⊢
  have key : ∀ (l : List UInt8) (k acc : Nat), (scan l k acc).2.2 = 0 ∨ (scan l k acc).2.2 = 10 ∨ (scan l k acc).2.2 = 11 := by
    intro l
    induction l with
    | nil => intro k acc; simp [scan]
    | cons d r ih =>
      intro k acc
      unfold scan
      split
      · simp
      · split
        · simp
        · exact ih _ _
  rcases key (l.drop x) 0 0 with h | h | h
  · exact (he h).elim
  · exact .inl h
  · exact .inr h
end Go.Coop
