/- Placements as bytes, plain: what is written, what is read, and that these fit. No program is named here. -/
import Derived.Test.YtbilbfjmfaignaaPlcP
import Derived.Test.YtbilbfjmfaignaaNums
import Derived.Test.YtbilbfjmfaignaaBack
namespace Go.Coop
def encN (l : List Int) : List UInt8 := l.flatMap fun x => dig x.toNat
def enc1 (p : Pl) : List UInt8 := dig p.e.toNat ++ (dig p.l.length ++ encN p.l)
def encT (L : List Pl) : List UInt8 := L.flatMap enc1
def encL (L : List Pl) : List UInt8 := dig L.length ++ encT L
def bytesP (L : List Pl) : List UInt8 × Int := if AllP L then (encL L, 0) else ([], 100)
/-- one number is read: the number, then the place and whether all was well -/
def nx (b : List UInt8) (most : Nat) (s : Nat × Bool) : Nat × (Nat × Bool) :=
  if (getU b (s.1 : Int)).2.2 = 0 ∧ (getU b (s.1 : Int)).1 ≤ most then ((getU b (s.1 : Int)).1, ((getU b (s.1 : Int)).2.1, s.2)) else (0, (s.1, false))
def nxs (b : List UInt8) : Nat → Nat × Bool → List Int × (Nat × Bool)
  | 0, s => ([], s)
  | k + 1, s => ((nxs b k s).1 ++ [((nx b 255 (nxs b k s).2).1 : Int)], (nx b 255 (nxs b k s).2).2)
def rdPl (b : List UInt8) (s : Nat × Bool) : Pl × (Nat × Bool) :=
  (⟨((nx b 1099511627776 s).1 : Int), (nxs b (nx b 255 (nx b 1099511627776 s).2).1 (nx b 255 (nx b 1099511627776 s).2).2).1⟩, (nxs b (nx b 255 (nx b 1099511627776 s).2).1 (nx b 255 (nx b 1099511627776 s).2).2).2)
def rds (b : List UInt8) : Nat → Nat × Bool → List Pl × (Nat × Bool)
  | 0, s => ([], s)
  | k + 1, s => ((rds b k s).1 ++ [(rdPl b (rds b k s).2).1], (rdPl b (rds b k s).2).2)
def readR (b : List UInt8) : List Pl × (Nat × Bool) := rds b (nx b 1000 (0, true)).1 (nx b 1000 (0, true)).2
def readP (b : List UInt8) : List Pl × Int := if (readR b).2.2 = true ∧ (readR b).2.1 = b.length ∧ AllP (readR b).1 then ((readR b).1, 0) else ([], 100)
theorem nx_le (b : List UInt8) (most : Nat) (s : Nat × Bool) : (nx b most s).1 ≤ most := by
  unfold nx
  split
  · rename_i h; exact h.2
  · simp
theorem nx_at (b : List UInt8) (most : Nat) (s : Nat × Bool) (h : s.1 ≤ b.length) : (nx b most s).2.1 ≤ b.length := by
  unfold nx
  split
  · exact (getU_ok b _).at_
  · exact h
theorem nxs_at (b : List UInt8) (s : Nat × Bool) (h : s.1 ≤ b.length) : ∀ k, (nxs b k s).2.1 ≤ b.length
  | 0 => h
  | k + 1 => nx_at b 255 _ (nxs_at b s h k)
theorem rdPl_at (b : List UInt8) (s : Nat × Bool) (h : s.1 ≤ b.length) : (rdPl b s).2.1 ≤ b.length := nxs_at b _ (nx_at b _ _ (nx_at b _ _ h)) _
theorem rds_at (b : List UInt8) (s : Nat × Bool) (h : s.1 ≤ b.length) : ∀ k, (rds b k s).2.1 ≤ b.length
  | 0 => h
  | k + 1 => rdPl_at b _ (rds_at b s h k)
theorem nxs_len (b : List UInt8) (s : Nat × Bool) : ∀ k, (nxs b k s).1.length = k
  | 0 => rfl
  | k + 1 => by
    have := nxs_len b s k
    rw [nxs, List.length_append, this]
    rfl
theorem rds_len (b : List UInt8) (s : Nat × Bool) : ∀ k, (rds b k s).1.length = k
  | 0 => rfl
  | k + 1 => by
    have := rds_len b s k
    rw [rds, List.length_append, this]
    rfl
/-- what was read, if all was well, are the bytes between -/
structure Took (b : List UInt8) (s s' : Nat × Bool) (xs : List UInt8) : Prop where
  ok : s.2 = true
  le : s'.1 ≤ b.length
  eq : b.take s'.1 = b.take s.1 ++ xs
theorem Took.refl {b : List UInt8} {s : Nat × Bool} (h : s.2 = true) (hl : s.1 ≤ b.length) : Took b s s [] := ⟨h, hl, by simp⟩
theorem Took.trans {b : List UInt8} {s t u : Nat × Bool} {xs ys : List UInt8} (h : Took b s t xs) (k : Took b t u ys) : Took b s u (xs ++ ys) := ⟨h.ok, k.le, by rw [k.eq, h.eq, List.append_assoc]⟩
theorem nx_took {b : List UInt8} {most : Nat} {s : Nat × Bool} (hs : s.1 ≤ b.length) (h : (nx b most s).2.2 = true) : Took b s (nx b most s).2 (dig (nx b most s).1) := by
  unfold nx at h ⊢
  split
  · rename_i hc
    rw [if_pos hc] at h
    obtain ⟨m, hcame⟩ := getU_came hs hc.1
    refine ⟨h, (getU_ok b _).at_, ?_⟩
    rw [hcame.next, hcame.back, List.take_add]
  · rename_i hc
    rw [if_neg hc] at h
    cases h
theorem encN_snoc (l : List Int) (x : Int) : encN (l ++ [x]) = encN l ++ dig x.toNat := by simp [encN]
theorem nxs_took {b : List UInt8} {s : Nat × Bool} (hs : s.1 ≤ b.length) : ∀ k, (nxs b k s).2.2 = true → Took b s (nxs b k s).2 (encN (nxs b k s).1)
  | 0, h => Took.refl h hs
  | k + 1, h => by
    have h1 := nx_took (nxs_at b s hs k) h
    have h2 := nxs_took hs k h1.ok
    have := h2.trans h1
    rw [nxs]
    simp only
    rw [encN_snoc, Int.toNat_natCast]
    exact this
theorem rdPl_took {b : List UInt8} {s : Nat × Bool} (hs : s.1 ≤ b.length) (h : (rdPl b s).2.2 = true) : Took b s (rdPl b s).2 (enc1 (rdPl b s).1) := by
  have a1 := nx_at b 1099511627776 s hs
  have a2 := nx_at b 255 _ a1
  have h3 := nxs_took a2 _ h
  have h2 := nx_took a1 h3.ok
  have h1 := nx_took hs h2.ok
  have := h1.trans (h2.trans h3)
  unfold enc1 rdPl
  simp only
  rw [nxs_len, Int.toNat_natCast]
  exact this
theorem encT_snoc (L : List Pl) (p : Pl) : encT (L ++ [p]) = encT L ++ enc1 p := by simp [encT]
theorem rds_took {b : List UInt8} {s : Nat × Bool} (hs : s.1 ≤ b.length) : ∀ k, (rds b k s).2.2 = true → Took b s (rds b k s).2 (encT (rds b k s).1)
  | 0, h => Took.refl h hs
  | k + 1, h => by
    have h1 := rdPl_took (rds_at b s hs k) h
    have h2 := rds_took hs k h1.ok
    have := h2.trans h1
    rw [rds]
    simp only
    rw [encT_snoc]
    exact this
/-- what is read is written again, the same -/
theorem readP_back {b : List UInt8} {L : List Pl} (h : readP b = (L, 0)) : AllP L ∧ encL L = b := by
  unfold readP at h
  split at h
  · rename_i hc
    injection h with h1 _
    subst h1
    refine ⟨hc.2.2, ?_⟩
    have a1 := nx_at b 1000 (0, true) (Nat.zero_le _)
    have h2 := rds_took a1 _ hc.1
    have h1 := nx_took (s := (0, true)) (Nat.zero_le _) h2.ok
    have := (h1.trans h2).eq
    have hat : (rds b (nx b 1000 (0, true)).1 (nx b 1000 (0, true)).2).2.1 = b.length := hc.2.1
    rw [hat, List.take_of_length_le (Nat.le_refl _), List.take_zero, List.nil_append] at this
    unfold encL readR
    rw [rds_len]
    exact this.symm
  · injection h with _ h
    cases h
theorem readP_bad {b : List UInt8} (h : (readP b).2 ≠ 0) : readP b = ([], 100) := by
  unfold readP at h ⊢
  split
  · rename_i hc
    rw [if_pos hc] at h
    exact absurd rfl h
  · rfl
/-- what is written is read, whatever stands behind it -/
theorem nx_dig {pre post : List UInt8} {most N : Nat} (h1 : N ≤ most) (h2 : N ≤ 18446744073709551615) : nx (pre ++ (dig N ++ post)) most (pre.length, true) = (N, (pre.length + (dig N).length, true)) := by
  unfold nx
  simp only
  rw [getU_dig pre post N h2]
  rw [if_pos ⟨rfl, h1⟩]
theorem nxs_dig {pre post : List UInt8} {l : List Int} (hl : ∀ x ∈ l, 0 ≤ x ∧ x ≤ 255) : ∀ k, k ≤ l.length → nxs (pre ++ (encN l ++ post)) k (pre.length, true) = (l.take k, (pre.length + (encN (l.take k)).length, true))
  | 0, _ => by simp [nxs, encN]
  | k + 1, hk => by
    have ih := nxs_dig (pre := pre) (post := post) hl k (by omega)
    obtain ⟨x, hx⟩ : ∃ x, l[k]? = some x := ⟨_, List.getElem?_eq_getElem (by omega)⟩
    obtain ⟨hx0, hx1⟩ := hl x (List.mem_of_getElem? hx)
    rw [nxs, ih]
    simp only
    have e : pre ++ (encN l ++ post) = (pre ++ encN (l.take k)) ++ (dig x.toNat ++ (encN (l.drop (k + 1)) ++ post)) := by
      have h1 : encN l = encN (l.take k) ++ (dig x.toNat ++ encN (l.drop (k + 1))) := by
        conv => lhs; rw [← List.take_append_drop k l]
        have hd : l.drop k = x :: l.drop (k + 1) := by
          have hlt := (List.getElem?_eq_some_iff.1 hx).1
          rw [List.drop_eq_getElem_cons hlt]
          congr 1
          exact (List.getElem?_eq_some_iff.1 hx).2
        rw [hd]
        simp [encN]
      rw [h1]
      simp only [List.append_assoc]
    have hpl : pre.length + (encN (l.take k)).length = (pre ++ encN (l.take k)).length := by simp
    rw [e, hpl, nx_dig (by omega) (by omega)]
    simp only
    rw [take_snoc hx, encN_snoc]
    refine Prod.ext ?_ (Prod.ext ?_ rfl)
    · simp only
      rw [Int.toNat_of_nonneg hx0]
    · simp only [List.length_append]
      omega
theorem rdPl_dig {pre post : List UInt8} {p : Pl} (h : RightP 256 p) : rdPl (pre ++ (enc1 p ++ post)) (pre.length, true) = (p, (pre.length + (enc1 p).length, true)) := by
  obtain ⟨_, he, hl, hn, _⟩ := h
  have e1 : pre ++ (enc1 p ++ post) = pre ++ (dig p.e.toNat ++ (dig p.l.length ++ (encN p.l ++ post))) := by unfold enc1; simp only [List.append_assoc]
  have e2 : pre ++ (enc1 p ++ post) = (pre ++ dig p.e.toNat) ++ (dig p.l.length ++ (encN p.l ++ post)) := by rw [e1]; simp only [List.append_assoc]
  have e3 : pre ++ (enc1 p ++ post) = ((pre ++ dig p.e.toNat) ++ dig p.l.length) ++ (encN p.l ++ post) := by rw [e1]; simp only [List.append_assoc]
  have n1 : nx (pre ++ (enc1 p ++ post)) 1099511627776 (pre.length, true) = (p.e.toNat, ((pre ++ dig p.e.toNat).length, true)) := by
    rw [e1, nx_dig (by omega) (by omega), List.length_append]
  have n2 : nx (pre ++ (enc1 p ++ post)) 255 ((pre ++ dig p.e.toNat).length, true) = (p.l.length, (((pre ++ dig p.e.toNat) ++ dig p.l.length).length, true)) := by
    rw [e2, nx_dig (by omega) (by omega)]
    simp only [List.length_append]
  have n3 := nxs_dig (pre := (pre ++ dig p.e.toNat) ++ dig p.l.length) (post := post) (l := p.l) (fun x hx => by have := hn x hx; omega) p.l.length (Nat.le_refl _)
  rw [← e3, List.take_of_length_le (Nat.le_refl _)] at n3
  unfold rdPl
  rw [n1]
  simp only
  rw [n2]
  simp only
  rw [n3]
  refine Prod.ext ?_ (Prod.ext ?_ rfl)
  · simp only
    rw [Int.toNat_of_nonneg (by omega)]
  · simp only [enc1, List.length_append]
    omega
theorem rds_dig {pre post : List UInt8} {L : List Pl} (hL : ∀ p ∈ L, RightP 256 p) : ∀ k, k ≤ L.length → rds (pre ++ (encT L ++ post)) k (pre.length, true) = (L.take k, (pre.length + (encT (L.take k)).length, true))
  | 0, _ => by simp [rds, encT]
  | k + 1, hk => by
    have ih := rds_dig (pre := pre) (post := post) hL k (by omega)
    obtain ⟨x, hx⟩ : ∃ x, L[k]? = some x := ⟨_, List.getElem?_eq_getElem (by omega)⟩
    rw [rds, ih]
    simp only
    have e : pre ++ (encT L ++ post) = (pre ++ encT (L.take k)) ++ (enc1 x ++ (encT (L.drop (k + 1)) ++ post)) := by
      have h1 : encT L = encT (L.take k) ++ (enc1 x ++ encT (L.drop (k + 1))) := by
        conv => lhs; rw [← List.take_append_drop k L]
        have hd : L.drop k = x :: L.drop (k + 1) := by
          have hlt := (List.getElem?_eq_some_iff.1 hx).1
          rw [List.drop_eq_getElem_cons hlt]
          congr 1
          exact (List.getElem?_eq_some_iff.1 hx).2
        rw [hd]
        simp [encT]
      rw [h1]
      simp only [List.append_assoc]
    have hpl : pre.length + (encT (L.take k)).length = (pre ++ encT (L.take k)).length := by simp
    rw [e, hpl, rdPl_dig (hL x (List.mem_of_getElem? hx))]
    simp only
    rw [take_snoc hx, encT_snoc]
    refine Prod.ext rfl (Prod.ext ?_ rfl)
    simp only [List.length_append]
    omega
theorem readR_enc {L : List Pl} (h : AllP L) (post : List UInt8) : readR (encL L ++ post) = (L, ((encL L).length, true)) := by
  have e1 : encL L ++ post = [] ++ (dig L.length ++ (encT L ++ post)) := by unfold encL; simp only [List.append_assoc, List.nil_append]
  have e2 : encL L ++ post = dig L.length ++ (encT L ++ post) := by rw [e1]; simp only [List.nil_append]
  have n1 : nx (encL L ++ post) 1000 (0, true) = (L.length, ((dig L.length).length, true)) := by
    have := nx_dig (pre := []) (post := encT L ++ post) (most := 1000) (N := L.length) (by have := h.1; omega) (by have := h.1; omega)
    rw [← e1] at this
    simpa using this
  have n2 := rds_dig (pre := dig L.length) (post := post) (L := L) h.2 L.length (Nat.le_refl _)
  rw [← e2, List.take_of_length_le (Nat.le_refl _)] at n2
  unfold readR
  rw [n1]
  simp only
  rw [n2]
  simp only [encL, List.length_append]
theorem readP_enc {L : List Pl} (h : AllP L) : readP (encL L) = (L, 0) := by
  have := readR_enc h []
  rw [List.append_nil] at this
  unfold readP
  rw [this, if_pos ⟨rfl, rfl, h⟩]
theorem readP_more {L : List Pl} (h : AllP L) {x : UInt8} : readP (encL L ++ [x]) = ([], 100) := by
  have := readR_enc h [x]
  unfold readP
  rw [this, if_neg]
  simp
theorem readP_cut {L : List Pl} (h : AllP L) {k : Nat} (hk : k < (encL L).length) : readP ((encL L).take k) = ([], 100) := by
  refine readP_bad fun h0 => ?_
  obtain ⟨L', hL'⟩ : ∃ L', readP ((encL L).take k) = (L', 0) := ⟨_, Prod.ext rfl h0⟩
  obtain ⟨h1, h2⟩ := readP_back hL'
  have e1 := readR_enc h1 ((encL L).drop k)
  have e2 := readR_enc h []
  rw [h2, List.take_append_drop] at e1
  rw [List.append_nil, e1] at e2
  have e3 := congrArg (fun r => r.2.1) e2
  simp only [List.length_take] at e3
  omega
theorem encL_pos (L : List Pl) : 1 ≤ (encL L).length := by
  have := dig_length L.length
  unfold encL
  rw [List.length_append]
  omega
/-- what is written is told by it -/
theorem readP_iff {b : List UInt8} {L : List Pl} : readP b = (L, 0) ↔ AllP L ∧ encL L = b := ⟨readP_back, fun ⟨h, e⟩ => e ▸ readP_enc h⟩
theorem encN_len (l : List Int) : (encN l).length ≤ 10 * l.length := by
  induction l with
  | nil => simp [encN]
  | cons x l ih =>
    have := dig_length x.toNat
    simp only [encN, List.flatMap_cons, List.length_append, List.length_cons] at ih ⊢
    omega
theorem enc1_len {p : Pl} (h : p.l.length ≤ 255) : (enc1 p).length ≤ 2600 := by
  have h1 := dig_length p.e.toNat
  have h2 := dig_length p.l.length
  have h3 := encN_len p.l
  unfold enc1
  rw [List.length_append, List.length_append]
  omega
theorem encT_len : ∀ {L : List Pl}, (∀ p ∈ L, p.l.length ≤ 255) → (encT L).length ≤ 2600 * L.length
  | [], _ => by simp [encT]
  | p :: L, h => by
    have h1 := enc1_len (h p List.mem_cons_self)
    have h2 := encT_len (L := L) (fun q hq => h q (List.mem_cons_of_mem _ hq))
    simp only [encT, List.flatMap_cons, List.length_append, List.length_cons] at h2 ⊢
    omega
end Go.Coop
