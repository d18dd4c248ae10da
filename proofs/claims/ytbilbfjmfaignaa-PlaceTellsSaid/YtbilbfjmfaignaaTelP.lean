/- Reading number by number, plain: what was read so far, and what any placements with these bytes must be. No program is named here. -/
import Derived.Test.YtbilbfjmfaignaaEncP
namespace Go.Coop
def Fits (b : List UInt8) (L : List Pl) : Prop := AllP L ∧ encL L = b
def Rdg (b : List UInt8) (at_ : Nat) (xs : List UInt8) : Prop := at_ ≤ b.length ∧ b.take at_ = xs
theorem Rdg.step {b : List UInt8} {at_ : Nat} {xs : List UInt8} (h : Rdg b at_ xs) (he : (getU b (at_ : Int)).2.2 = 0) : Rdg b (getU b (at_ : Int)).2.1 (xs ++ dig (getU b (at_ : Int)).1) := by
  obtain ⟨m, hc⟩ := getU_came h.1 he
  refine ⟨(getU_ok b _).at_, ?_⟩
  rw [hc.next, hc.back, List.take_add, h.2]
theorem Rdg.next {b : List UInt8} {at_ : Nat} {xs post : List UInt8} {x : Nat} (h : Rdg b at_ xs) (hb : b = xs ++ (dig x ++ post)) (hx : x ≤ 18446744073709551615) : (getU b (at_ : Int)).1 = x ∧ (getU b (at_ : Int)).2.2 = 0 := by
  have hl : at_ = xs.length := by
    have := congrArg List.length h.2
    rw [List.length_take, Nat.min_eq_left h.1] at this
    exact this
  have := getU_dig xs post x hx
  rw [← hb, ← hl] at this
  rw [this]
  exact ⟨rfl, rfl⟩
theorem enc_split {L : List Pl} {i : Nat} {p : Pl} (h : L[i]? = some p) : encL L = (dig L.length ++ encT (L.take i)) ++ (dig p.e.toNat ++ (dig p.l.length ++ (encN p.l ++ encT (L.drop (i + 1))))) := by
  have e1 : encT L = encT (L.take i) ++ (enc1 p ++ encT (L.drop (i + 1))) := by
    conv => lhs; rw [← List.take_append_drop i L]
    have hd : L.drop i = p :: L.drop (i + 1) := by
      have hlt := (List.getElem?_eq_some_iff.1 h).1
      rw [List.drop_eq_getElem_cons hlt]
      congr 1
      exact (List.getElem?_eq_some_iff.1 h).2
    rw [hd]
    simp [encT]
  unfold encL
  rw [e1]
  unfold enc1
  simp only [List.append_assoc]
theorem encN_split {l : List Int} {k : Nat} {x : Int} (h : l[k]? = some x) : encN l = encN (l.take k) ++ (dig x.toNat ++ encN (l.drop (k + 1))) := by
  conv => lhs; rw [← List.take_append_drop k l]
  have hd : l.drop k = x :: l.drop (k + 1) := by
    have hlt := (List.getElem?_eq_some_iff.1 h).1
    rw [List.drop_eq_getElem_cons hlt]
    congr 1
    exact (List.getElem?_eq_some_iff.1 h).2
  rw [hd]
  simp [encN]
/-- any placements with these bytes begin so -/
def Must (b : List UInt8) (n i : Nat) (M : List Pl) : Prop := ∀ L, Fits b L → n = L.length ∧ M = L.take i
def Must1 (b : List UInt8) (n i : Nat) (M : List Pl) (ep : Nat) : Prop := ∀ L, Fits b L → (n = L.length ∧ M = L.take i) ∧ ∃ p, L[i]? = some p ∧ p.e = (ep : Int)
def Must2 (b : List UInt8) (n i : Nat) (M : List Pl) (ep many k : Nat) (ns : List Int) : Prop := ∀ L, Fits b L → (n = L.length ∧ M = L.take i) ∧ ∃ p, L[i]? = some p ∧ p.e = (ep : Int) ∧ p.l.length = many ∧ ns = p.l.take k
theorem fits_first {b : List UInt8} {L : List Pl} (h : Fits b L) : (getU b ((0 : Nat) : Int)).1 = L.length ∧ (getU b ((0 : Nat) : Int)).2.2 = 0 ∧ L.length ≤ 1000 := by
  have h0 : Rdg b 0 [] := ⟨Nat.zero_le _, rfl⟩
  have := h0.next (x := L.length) (post := encT L) (by rw [← h.2]; rfl) (by have := h.1.1; omega)
  exact ⟨this.1, this.2, h.1.1.2⟩
theorem must_zero {b : List UInt8} {n : Nat} (hn : (getU b ((0 : Nat) : Int)).1 = n) : Must b n 0 [] := fun L h => ⟨by rw [← hn]; exact (fits_first h).1, by simp⟩
theorem must_epoch {b : List UInt8} {n i at_ : Nat} {M : List Pl} (h : Must b n i M) (hr : Rdg b at_ (dig n ++ encT M)) (hi : i < n) {L : List Pl} (hL : Fits b L) : ∃ p, L[i]? = some p ∧ RightP 256 p ∧ (getU b (at_ : Int)).1 = p.e.toNat ∧ (getU b (at_ : Int)).2.2 = 0 := by
  obtain ⟨h1, h2⟩ := h L hL
  obtain ⟨p, hp⟩ : ∃ p, L[i]? = some p := ⟨_, List.getElem?_eq_getElem (by omega)⟩
  have hright := hL.1.2 p (List.mem_of_getElem? hp)
  have := hr.next (x := p.e.toNat) (by rw [← hL.2, enc_split hp, h1, h2]) (by have := hright.2.1; omega)
  exact ⟨p, hp, hright, this⟩
theorem must_many {b : List UInt8} {n i at_ ep : Nat} {M : List Pl} (h : Must1 b n i M ep) (hr : Rdg b at_ ((dig n ++ encT M) ++ dig ep)) {L : List Pl} (hL : Fits b L) : ∃ p, L[i]? = some p ∧ RightP 256 p ∧ p.e = (ep : Int) ∧ (getU b (at_ : Int)).1 = p.l.length ∧ (getU b (at_ : Int)).2.2 = 0 := by
  obtain ⟨⟨h1, h2⟩, p, hp, he⟩ := h L hL
  have hright := hL.1.2 p (List.mem_of_getElem? hp)
  have e : p.e.toNat = ep := by omega
  have := hr.next (x := p.l.length) (post := encN p.l ++ encT (L.drop (i + 1))) (by rw [← hL.2, enc_split hp, h1, h2, e]; simp only [List.append_assoc]) (by have := hright.2.2.1; omega)
  exact ⟨p, hp, hright, he, this⟩
theorem must_node {b : List UInt8} {n i at_ ep many k : Nat} {M : List Pl} {ns : List Int} (h : Must2 b n i M ep many k ns) (hr : Rdg b at_ (((dig n ++ encT M) ++ dig ep ++ dig many) ++ encN ns)) (hk : k < many) {L : List Pl} (hL : Fits b L) : ∃ p x, L[i]? = some p ∧ p.e = (ep : Int) ∧ p.l.length = many ∧ ns = p.l.take k ∧ p.l[k]? = some x ∧ (0 ≤ x ∧ x < 256) ∧ (getU b (at_ : Int)).1 = x.toNat ∧ (getU b (at_ : Int)).2.2 = 0 := by
  obtain ⟨⟨h1, h2⟩, p, hp, he, hm, hns⟩ := h L hL
  have hright := hL.1.2 p (List.mem_of_getElem? hp)
  obtain ⟨x, hx⟩ : ∃ x, p.l[k]? = some x := ⟨_, List.getElem?_eq_getElem (by omega)⟩
  have hxb := hright.2.2.2.1 x (List.mem_of_getElem? hx)
  have e : p.e.toNat = ep := by omega
  have := hr.next (x := x.toNat) (post := encN (p.l.drop (k + 1)) ++ encT (L.drop (i + 1))) (by rw [← hL.2, enc_split hp, encN_split hx, h1, h2, e, hm, hns]; simp only [List.append_assoc]) (by omega)
  exact ⟨p, x, hp, he, hm, hns, hx, hxb, this⟩
theorem readP_none {b : List UInt8} (h : ∀ L, ¬ Fits b L) : readP b = ([], 100) := by
  refine readP_bad fun h0 => ?_
  exact h (readP b).1 (readP_back (Prod.ext rfl h0))
end Go.Coop
