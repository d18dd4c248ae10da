/- In which order answers come; plain. -/
import Derived.Test.YtciihebaameccaaRndS
namespace Go.Coop
/-- what an index says -/
def saidE (l : List UInt8) (i : Nat) : Int := match l[i]? with
  | some b => if b.toNat % 3 = 0 then 62 else 0
  | none => 0
/-- how many of the first say OK -/
def fineF (E : Nat → Int) : Nat → Int
  | 0 => 0
  | i + 1 => fineF E i + if E i = 0 then 1 else 0
theorem fineF_b (E : Nat → Int) : ∀ i : Nat, 0 ≤ fineF E i ∧ fineF E i ≤ i
  | 0 => by simp [fineF]
  | i + 1 => by
    have := fineF_b E i
    unfold fineF
    split <;> omega
/-- a round, of which some have been asked -/
structure OS (n : Nat) (nd : Int) (r : Rn) (E : Nat → Int) (D : Nat → Prop) : Prop where
  right : RightR r
  need : r.need = nd
  len : r.ms.length = n
  ph : r.ph = 1 ∨ r.ph = 2 ∨ r.ph = 5
  no : ∀ k, k < n → ¬ D k → r.ms[k]? = some 0
  ok : ∀ k, k < n → D k → E k = 0 → r.ms[k]? = some 1
  err : ∀ k, k < n → D k → E k ≠ 0 → r.ms[k]? = some 3 ∨ (r.ph = 5 ∧ r.ms[k]? = some 0)
  giv : r.ph = 5 → (n : Int) - nd < cnt 3 r.ms
theorem phase5 {need : Int} {l : List Int} (h : phaseR 1 need l = 5) : (l.length : Int) - need < cnt 3 l := by
  unfold phaseR at h
  by_cases h1 : need ≤ cnt 1 l
  · rw [if_pos ⟨rfl, h1⟩] at h; omega
  · rw [if_neg (fun hh => h1 hh.2)] at h
    by_cases h2 : (l.length : Int) - need < cnt 3 l
    · exact h2
    · rw [if_neg (fun hh => h2 hh.2)] at h
      rw [if_neg (by omega), if_neg (by omega), if_neg (by omega)] at h
      omega
section
variable {n : Nat} {nd : Int} {r : Rn} {E : Nat → Int} {D : Nat → Prop}
theorem OS.any (h : OS n nd r E D) (dec : ∀ k, D k ∨ ¬ D k) {k : Nat} (hk : k < n) : r.ms[k]? = some 0 ∨ r.ms[k]? = some 1 ∨ r.ms[k]? = some 3 := by
  rcases dec k with hd | hd
  · by_cases he : E k = 0
    · exact .inr (.inl (h.ok k hk hd he))
    · rcases h.err k hk hd he with h1 | h1
      · exact .inr (.inr h1)
      · exact .inl h1.2
  · exact .inl (h.no k hk hd)
theorem OS.step (h : OS n nd r E D) (dec : ∀ k, D k ∨ ¬ D k) {i : Nat} (hi : i < n) (hD : ¬ D i) : (r.told i 1 (E i)).2 = 0 ∧ OS n nd (r.told i 1 (E i)).1 E (fun k => D k ∨ k = i) := by
  have hH : HasR r (i : Int) := ⟨h.right, by omega, by have := h.len; omega⟩
  have h0 := h.no i hi hD
  have hm : r.ms[((i : Int)).toNat]? = some 0 := by rw [Int.toNat_natCast]; exact h0
  have hp := h.ph
  have he := told_eq hH hm 1 (E i)
  have hmay := ansR_may (ph := r.ph) (m := 0) 1 (E i) (by omega)
  rw [Int.toNat_natCast] at he
  obtain ⟨x, hx⟩ : ∃ x, ansR r.ph 0 1 (E i) = x := ⟨_, rfl⟩
  rw [hx] at he hmay
  have hx2 : (E i = 0 → x = 1) ∧ (E i ≠ 0 → (r.ph = 5 → x = 0) ∧ (r.ph ≠ 5 → x = 3)) := by
    rw [← hx]
    unfold ansR askedR givR
    rcases hp with hp | hp | hp <;> rw [hp] <;> by_cases hE : E i = 0 <;> simp [hE]
  have hst := phase_steps h.right h0 hmay
  have hR := marked_right h.right h0 hmay
  have hset : ∀ k, (r.marked i x).ms[k]? = if k = i then some x else r.ms[k]? := by
    intro k
    unfold Rn.marked
    simp only [List.getElem?_set]
    by_cases hk : k = i
    · subst hk
      simp [show k < r.ms.length by have := h.len; omega]
    · simp [hk, Ne.symm hk]
  have hlen : (r.marked i x).ms.length = n := by unfold Rn.marked; simp only [List.length_set]; exact h.len
  have h4 : cnt 4 (r.marked i x).ms = 0 := by
    have := cnt_nonneg 4 (r.marked i x).ms
    rcases Int.lt_or_le 0 (cnt 4 (r.marked i x).ms) with h5 | h5
    · obtain ⟨k, hk⟩ := List.getElem?_of_mem (cnt_pos h5)
      have hkn := (List.getElem?_eq_some_iff.1 hk).1
      rw [hset k] at hk
      split at hk
      · injection hk with hk
        by_cases hE : E i = 0
        · have := hx2.1 hE; omega
        · by_cases h5' : r.ph = 5
          · have := (hx2.2 hE).1 h5'; omega
          · have := (hx2.2 hE).2 h5'; omega
      · rcases h.any dec (k := k) (by omega) with h6 | h6 | h6 <;> rw [h6] at hk <;> injection hk with hk <;> omega
    · omega
  have hph : (r.marked i x).ph ≠ 6 := by
    intro h6
    have h7 := hR.2.2
    unfold PhOk at h7
    rw [h6] at h7
    have := hR.n1
    omega
  rw [he]
  refine ⟨rfl, hR, h.need, hlen, ?_, ?_, ?_, ?_, ?_⟩
  · simp only; omega
  · intro k hk hn
    simp only
    rw [hset k, if_neg (fun e => hn (.inr e))]
    exact h.no k hk (fun d => hn (.inl d))
  · intro k hk hd hE
    simp only
    rw [hset k]
    split
    · rename_i e; rw [e] at hE; rw [hx2.1 hE]
    · rename_i e
      exact h.ok k hk (hd.resolve_right e) hE
  · intro k hk hd hE
    simp only
    rw [hset k]
    split
    · rename_i e
      rw [e] at hE
      by_cases h5 : r.ph = 5
      · right
        refine ⟨by omega, by rw [(hx2.2 hE).1 h5]⟩
      · left
        rw [(hx2.2 hE).2 h5]
    · rename_i e
      rcases h.err k hk (hd.resolve_right e) hE with h1 | h1
      · exact .inl h1
      · exact .inr ⟨by have := h1.1; omega, h1.2⟩
  · simp only
    intro h5
    by_cases h5' : r.ph = 5
    · have hg := h.giv h5'
      have hc := cnt_set 3 (x := x) h0
      have hx3 : x ≠ 3 := by
        by_cases hE : E i = 0
        · have := hx2.1 hE; omega
        · have := (hx2.2 hE).1 h5'; omega
      rw [if_neg (by omega), if_neg hx3] at hc
      unfold Rn.marked
      simp only
      omega
    · have h1 : r.ph = 1 := by omega
      have h8 : phaseR r.ph r.need (r.ms.set i x) = 5 := h5
      rw [h1] at h8
      have := phase5 h8
      rw [List.length_set, h.len, h.need] at this
      unfold Rn.marked
      exact this
theorem OS.start (hR : RightR r) (hl : r.ms.length = n) (hp : r.ph = 1) (hz : ∀ m ∈ r.ms, m = 0) (hD : ∀ k, k < n → ¬ D k) : OS n r.need r E D :=
  ⟨hR, rfl, hl, .inl hp, fun k hk _ => by
    have hkl : k < r.ms.length := by omega
    rw [List.getElem?_eq_getElem hkl, hz _ (List.getElem_mem hkl)], fun k hk hd => absurd hd (hD k hk), fun k hk hd => absurd hd (hD k hk), fun h => by omega⟩
theorem OS.congr {D' : Nat → Prop} (h : OS n nd r E D) (e : ∀ k, k < n → (D k ↔ D' k)) : OS n nd r E D' :=
  ⟨h.right, h.need, h.len, h.ph, fun k hk hn => h.no k hk (fun d => hn ((e k hk).1 d)), fun k hk d => h.ok k hk ((e k hk).2 d), fun k hk d => h.err k hk ((e k hk).2 d), h.giv⟩
theorem cnt1_fine : ∀ {l : List Int} (j : Nat), (∀ k, k < l.length → (l[k]? = some 1 ↔ E k = 0)) → j ≤ l.length → cnt 1 (l.take j) = fineF E j
  | l, 0, _, _ => by simp [cnt, fineF]
  | l, j + 1, h, hj => by
    have ih := cnt1_fine (l := l) j h (by omega)
    obtain ⟨y, hy⟩ : ∃ y, l[j]? = some y := ⟨_, List.getElem?_eq_getElem (by omega)⟩
    have hk := h j (by omega)
    rw [hy] at hk
    have e : l.take (j + 1) = l.take j ++ [y] := by rw [List.take_add_one, hy]; rfl
    rw [e]
    unfold fineF
    have e2 : cnt 1 (l.take j ++ [y]) = cnt 1 (l.take j) + if y = 1 then 1 else 0 := by
      unfold cnt
      rw [List.countP_append]
      by_cases h2 : y = 1 <;> simp [h2]
    rw [e2, ih]
    by_cases h1 : E j = 0
    · have := hk.2 h1
      injection this with this
      rw [if_pos h1, if_pos this]
    · rw [if_neg h1, if_neg (fun hy1 => h1 (hk.1 (by rw [hy1])))]
/-- when each has answered -/
theorem OS.fin (h : OS n nd r E D) (hD : ∀ k, k < n → D k) : (r.ph = 2 ∧ nd ≤ fineF E n) ∨ (r.ph = 5 ∧ fineF E n < nd) := by
  have hc : cnt 1 r.ms = fineF E n := by
    have := cnt1_fine (E := E) (l := r.ms) n (fun k hk => by
      rw [h.len] at hk
      constructor
      · intro h1
        refine Decidable.byContradiction fun hE => ?_
        rcases h.err k hk (hD k hk) hE with h2 | h2
        · rw [h1] at h2; injection h2 with h2; omega
        · rw [h1] at h2; have h3 := h2.2; injection h3 with h3; omega
      · intro hE
        exact h.ok k hk (hD k hk) hE) (by rw [h.len]; exact Nat.le_refl _)
    rwa [List.take_of_length_le (by rw [h.len]; exact Nat.le_refl _)] at this
  have h2 := cnt_sum h.right.2.1
  have h3 := h.right.2.2
  have hn := right_none h.right
  have b0 := cnt_nonneg 0 r.ms
  have b3 := cnt_nonneg 3 r.ms
  have b2 := cnt_nonneg 2 r.ms
  have b4 := cnt_nonneg 4 r.ms
  unfold PhOk at h3
  rw [h.need, h.len] at h3
  rw [h.len] at h2
  rcases h.ph with hp | hp | hp
  · exfalso
    have h0 : cnt 0 r.ms = 0 := by
      rcases Int.lt_or_le 0 (cnt 0 r.ms) with h5 | h5
      · obtain ⟨k, hk⟩ := List.getElem?_of_mem (cnt_pos h5)
        have hkn := (List.getElem?_eq_some_iff.1 hk).1
        rw [h.len] at hkn
        by_cases hE : E k = 0
        · have := h.ok k hkn (hD k hkn) hE
          rw [hk] at this; injection this with this; omega
        · rcases h.err k hkn (hD k hkn) hE with h6 | h6
          · rw [hk] at h6; injection h6 with h6; omega
          · omega
      · omega
    omega
  · left; omega
  · right
    have := h.giv hp
    omega
end
end Go.Coop
