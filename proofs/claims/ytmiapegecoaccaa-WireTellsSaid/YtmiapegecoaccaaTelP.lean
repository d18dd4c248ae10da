/- What the reference reads, plain: it is what the program reads. -/
import Derived.Test.YtmiapegecoaccaaTelN
namespace Go.Coop
def askV (l : List Nat) (bs : List UInt8) : AskP := ⟨(l.getD 0 0 : Nat), (l.getD 1 0 : Nat), (l.getD 2 0 : Nat), (l.getD 3 0 : Nat), (l.getD 4 0 : Nat), (l.getD 5 0 : Nat), bs⟩
def zs (l : List Nat) : List Int := l.map (fun v : Nat => (v : Int))
/-- the reference's GetAsk, of what was unsealed -/
def refA (b : List UInt8) : Option AskP :=
  match rn b 6 (min 1 b.length) with
  | none => none
  | some (l, x) => if 9 < l.getD 2 0 then none else if (blobR b x).2.2 ≠ 0 then none else if RightA (askV l (blobR b x).1) ∧ encA (askV l (blobR b x).1) = b then some (askV l (blobR b x).1) else none
def refAof (b : List UInt8) : Option (List Nat × Nat) → Option AskP
  | none => none
  | some p => if 9 < p.1.getD 2 0 then none else if (blobR b p.2).2.2 ≠ 0 then none else if RightA (askV p.1 (blobR b p.2).1) ∧ encA (askV p.1 (blobR b p.2).1) = b then some (askV p.1 (blobR b p.2).1) else none
theorem refA_of (b : List UInt8) : refA b = refAof b (rn b 6 (min 1 b.length)) := by
  unfold refA refAof
  cases rn b 6 (min 1 b.length) <;> rfl
theorem rn_dig {post : List UInt8} : ∀ (vs : List Nat) (pre : List UInt8), (∀ v ∈ vs, v ≤ 4611686018427387904) →
    rn (pre ++ (encN (zs vs) ++ post)) vs.length pre.length = some (vs, pre.length + (encN (zs vs)).length)
  | [], pre, _ => by simp [rn, encN, zs]
  | v :: vs, pre, h => by
    have e1 : pre ++ (encN (zs (v :: vs)) ++ post) = pre ++ (dig v ++ (encN (zs vs) ++ post)) := by simp [zs, encN]
    have e2 : pre ++ (encN (zs (v :: vs)) ++ post) = (pre ++ dig v) ++ (encN (zs vs) ++ post) := by simp [zs, encN]
    have hv := h v (by simp)
    have ih := rn_dig (post := post) vs (pre ++ dig v) (fun x hx => h x (by simp [hx]))
    rw [← e2] at ih
    have hg : getU (pre ++ (encN (zs (v :: vs)) ++ post)) (pre.length : Int) = (v, pre.length + (dig v).length, 0) := by
      rw [e1, getU_dig pre _ v (by omega)]
    rw [List.length_cons, rn, hg]
    simp only
    rw [if_pos ⟨trivial, hv⟩]
    rw [← List.length_append, ih]
    simp [zs, encN, Nat.add_assoc]
theorem refA_back {b : List UInt8} {a : AskP} (h : refA b = some a) : RightA a ∧ encA a = b := by
  unfold refA at h
  split at h
  · cases h
  · split at h
    · cases h
    · split at h
      · cases h
      · split at h
        · rename_i hc
          injection h with h
          subst h
          exact hc
        · cases h
theorem refA_enc {a : AskP} (h : RightA a) : refA (encA a) = some a := by
  obtain ⟨l, s, o, st, i, v, bs⟩ := a
  have h' := h
  obtain ⟨⟨h1, h2, h3⟩, ⟨h4, h5, h6⟩, h7⟩ := h
  simp only at h1 h2 h3 h4 h5 h6 h7
  have hv : 0 ≤ v := by unfold leastV at h6; split at h6 <;> omega
  have hb : bs.length ≤ 65536 := by unfold mostB at h7; split at h7 <;> omega
  obtain ⟨l, rfl⟩ := Int.eq_ofNat_of_zero_le (show 0 ≤ l by omega)
  obtain ⟨s, rfl⟩ := Int.eq_ofNat_of_zero_le (show 0 ≤ s by omega)
  obtain ⟨o, rfl⟩ := Int.eq_ofNat_of_zero_le (show 0 ≤ o by omega)
  obtain ⟨st, rfl⟩ := Int.eq_ofNat_of_zero_le (show 0 ≤ st by omega)
  obtain ⟨i, rfl⟩ := Int.eq_ofNat_of_zero_le (show 0 ≤ i by omega)
  obtain ⟨v, rfl⟩ := Int.eq_ofNat_of_zero_le hv
  have e : encA ⟨l, s, o, st, i, v, bs⟩ = [1] ++ (encN (zs [l, s, o, st, i, v]) ++ blobB bs) := by
    unfold encA askNs
    have : dig 1 = [1] := by decide +kernel
    simp [zs, encN, this]
  have hr := rn_dig (post := blobB bs) [l, s, o, st, i, v] [1] (by
    intro x hx
    simp at hx
    omega)
  have hbl := blobR_dig (pre := [1] ++ encN (zs [l, s, o, st, i, v])) (post := []) hb
  rw [List.append_nil, List.append_assoc, ← e, List.length_append] at hbl
  rw [← e] at hr
  have hm : min 1 (encA ⟨l, s, o, st, i, v, bs⟩).length = 1 := by rw [e]; simp
  obtain ⟨q, hq⟩ : ∃ q, ([1] : List UInt8).length + (encN (zs [l, s, o, st, i, v])).length = q := ⟨_, rfl⟩
  rw [hq] at hr hbl
  unfold refA
  rw [hm]
  have hr' : rn (encA ⟨l, s, o, st, i, v, bs⟩) 6 1 = _ := hr
  rw [hr']
  simp only
  have hx : (blobR (encA ⟨l, s, o, st, i, v, bs⟩) q).1 = bs := by rw [hbl]
  have hz : (blobR (encA ⟨l, s, o, st, i, v, bs⟩) q).2.2 = 0 := by rw [hbl]
  rw [if_neg (by simp; omega), hx, if_neg (by rw [hz]; simp)]
  have hq : askV [l, s, o, st, i, v] bs = ⟨l, s, o, st, i, v, bs⟩ := rfl
  rw [hq, if_pos ⟨h', rfl⟩]
theorem refA_eq (b : List UInt8) : refA b = parseA b := by
  cases h : refA b with
  | some a =>
    obtain ⟨h1, rfl⟩ := refA_back h
    exact (parseA_enc h1).symm
  | none =>
    cases h2 : parseA b with
    | none => rfl
    | some a =>
      obtain ⟨h1, rfl⟩ := parseA_back h2
      rw [refA_enc h1] at h
      cases h
/-- the reference's infos -/
def infV (l : List Nat) : InfP := ⟨(l.getD 0 0 : Nat), (l.getD 1 0 : Nat), (l.getD 2 0 : Nat), (l.getD 3 0 : Nat)⟩
def rI (b : List UInt8) : Nat → Nat → Option (List InfP × Nat)
  | 0, x => some ([], x)
  | k + 1, x => match rn b 4 x with
    | none => none
    | some (l, y) => if 9 < l.getD 3 0 then none else (rI b k y).map (fun p => (infV l :: p.1, p.2))
def telV (l : List Nat) (L : List InfP) (bs : List UInt8) : TelP := ⟨(l.getD 0 0 : Nat), (l.getD 1 0 : Nat), (l.getD 2 0 : Nat), (l.getD 3 0 : Nat), L, bs, (l.getD 4 0 : Nat)⟩
def refT (b : List UInt8) : Option TelP :=
  match rn b 6 (min 1 b.length) with
  | none => none
  | some (l, x) => if 9 < l.getD 2 0 ∨ 50 < l.getD 5 0 then none else
    match rI b (l.getD 5 0) x with
    | none => none
    | some (L, y) => if (blobR b y).2.2 ≠ 0 then none else if RightT (telV l L (blobR b y).1) ∧ encT (telV l L (blobR b y).1) = b then some (telV l L (blobR b y).1) else none
def refTend (b : List UInt8) (l : List Nat) : Option (List InfP × Nat) → Option TelP
  | none => none
  | some p => if (blobR b p.2).2.2 ≠ 0 then none else if RightT (telV l p.1 (blobR b p.2).1) ∧ encT (telV l p.1 (blobR b p.2).1) = b then some (telV l p.1 (blobR b p.2).1) else none
def refTof (b : List UInt8) : Option (List Nat × Nat) → Option TelP
  | none => none
  | some p => if 9 < p.1.getD 2 0 ∨ 50 < p.1.getD 5 0 then none else refTend b p.1 (rI b (p.1.getD 5 0) p.2)
theorem refT_of (b : List UInt8) : refT b = refTof b (rn b 6 (min 1 b.length)) := by
  unfold refT refTof
  cases rn b 6 (min 1 b.length) with
  | none => rfl
  | some p =>
    obtain ⟨l, x⟩ := p
    simp only
    split
    · rfl
    · unfold refTend
      cases rI b (l.getD 5 0) x <;> rfl
theorem rI_dig {post : List UInt8} : ∀ (L : List InfP) (pre : List UInt8), (∀ i ∈ L, InfOk i) →
    rI (pre ++ (encI L ++ post)) L.length pre.length = some (L, pre.length + (encI L).length)
  | [], pre, _ => by simp [rI, encI]
  | p :: L, pre, h => by
    obtain ⟨⟨p1, p2, p3⟩, p4⟩ := h p (by simp)
    have hrest := fun x hx => h x (List.mem_cons_of_mem _ hx)
    clear h
    obtain ⟨a, i, v, z⟩ := p
    simp only at p1 p2 p3 p4
    obtain ⟨a, rfl⟩ := Int.eq_ofNat_of_zero_le p1.1
    obtain ⟨i, rfl⟩ := Int.eq_ofNat_of_zero_le p2.1
    obtain ⟨v, rfl⟩ := Int.eq_ofNat_of_zero_le (show 0 ≤ v by omega)
    obtain ⟨z, rfl⟩ := Int.eq_ofNat_of_zero_le (show 0 ≤ z by omega)
    have e1 : pre ++ (encI (⟨a, i, v, z⟩ :: L) ++ post) = pre ++ (encN (zs [a, i, v, z]) ++ (encI L ++ post)) := by simp [zs, encI, infNs]
    have e2 : pre ++ (encI (⟨a, i, v, z⟩ :: L) ++ post) = (pre ++ encN (zs [a, i, v, z])) ++ (encI L ++ post) := by simp [zs, encI, infNs]
    have hr := rn_dig (post := encI L ++ post) [a, i, v, z] pre (by
      intro x hx
      simp at hx
      omega)
    rw [← e1] at hr
    have ih := rI_dig (post := post) L (pre ++ encN (zs [a, i, v, z])) hrest
    rw [← e2, List.length_append] at ih
    rw [List.length_cons, rI]
    have hr' : rn (pre ++ (encI (⟨a, i, v, z⟩ :: L) ++ post)) 4 pre.length = _ := hr
    rw [hr']
    simp only
    rw [if_neg (by simp; omega), ih]
    simp [zs, encI, infNs, infV, Nat.add_assoc]
theorem refT_back {b : List UInt8} {x : TelP} (h : refT b = some x) : RightT x ∧ encT x = b := by
  unfold refT at h
  split at h
  · cases h
  · split at h
    · cases h
    · split at h
      · cases h
      · split at h
        · cases h
        · split at h
          · rename_i hc
            injection h with h
            subst h
            exact hc
          · cases h
theorem refT_enc {x : TelP} (h : RightT x) : refT (encT x) = some x := by
  obtain ⟨l, s, o, er, L, bs, room⟩ := x
  have h' := h
  obtain ⟨⟨h1, h2, h3⟩, h4, h5, _, h6, h7, h8⟩ := h
  simp only at h1 h2 h3 h4 h5 h6 h7 h8
  obtain ⟨l, rfl⟩ := Int.eq_ofNat_of_zero_le (show 0 ≤ l by omega)
  obtain ⟨s, rfl⟩ := Int.eq_ofNat_of_zero_le (show 0 ≤ s by omega)
  obtain ⟨o, rfl⟩ := Int.eq_ofNat_of_zero_le (show 0 ≤ o by omega)
  obtain ⟨er, rfl⟩ := Int.eq_ofNat_of_zero_le h4.1
  obtain ⟨room, rfl⟩ := Int.eq_ofNat_of_zero_le h5.1
  have e : encT ⟨l, s, o, er, L, bs, room⟩ = [2] ++ (encN (zs [l, s, o, er, room, L.length]) ++ (encI L ++ blobB bs)) := by
    unfold encT telNs
    have : dig 2 = [2] := by decide +kernel
    simp [zs, encN, this]
  have hr := rn_dig (post := encI L ++ blobB bs) [l, s, o, er, room, L.length] [2] (by
    intro x hx
    simp at hx
    omega)
  have hi := rI_dig (post := blobB bs) L ([2] ++ encN (zs [l, s, o, er, room, L.length])) h8
  have hbl := blobR_dig (pre := [2] ++ (encN (zs [l, s, o, er, room, L.length]) ++ encI L)) (post := []) h7
  rw [List.append_nil] at hbl
  have e3 : ([2] ++ (encN (zs [l, s, o, er, room, L.length]) ++ encI L)) ++ blobB bs = encT ⟨l, s, o, er, L, bs, room⟩ := by rw [e]; simp only [List.append_assoc]
  rw [e3] at hbl
  have e4 : ([2] ++ encN (zs [l, s, o, er, room, L.length])) ++ (encI L ++ blobB bs) = encT ⟨l, s, o, er, L, bs, room⟩ := by rw [e]; simp only [List.append_assoc]
  rw [e4] at hi
  rw [← e] at hr
  have hm : min 1 (encT ⟨l, s, o, er, L, bs, room⟩).length = 1 := by rw [e]; simp
  rw [List.length_append] at hi
  rw [← List.append_assoc, List.length_append, List.length_append] at hbl
  obtain ⟨q, hq⟩ : ∃ q, ([2] : List UInt8).length + (encN (zs [l, s, o, er, room, L.length])).length = q := ⟨_, rfl⟩
  rw [hq] at hr hi hbl
  unfold refT
  rw [hm]
  have hr' : rn (encT ⟨l, s, o, er, L, bs, room⟩) 6 1 = _ := hr
  rw [hr']
  simp only
  rw [if_neg (by simp; omega)]
  have hk : [l, s, o, er, room, L.length].getD 5 0 = L.length := rfl
  rw [hk, hi]
  simp only
  have hx : (blobR (encT ⟨l, s, o, er, L, bs, room⟩) (q + (encI L).length)).1 = bs ∧ (blobR (encT ⟨l, s, o, er, L, bs, room⟩) (q + (encI L).length)).2.2 = 0 := by
    rw [hbl]
    exact ⟨rfl, rfl⟩
  rw [hx.1, if_neg (by rw [hx.2]; simp)]
  have hq : telV [l, s, o, er, room, L.length] L bs = ⟨l, s, o, er, L, bs, room⟩ := rfl
  rw [hq, if_pos ⟨h', rfl⟩]
theorem refT_eq (b : List UInt8) : refT b = parseT b := by
  cases h : refT b with
  | some a =>
    obtain ⟨h1, rfl⟩ := refT_back h
    exact (parseT_enc h1).symm
  | none =>
    cases h2 : parseT b with
    | none => rfl
    | some a =>
      obtain ⟨h1, rfl⟩ := parseT_back h2
      rw [refT_enc h1] at h
      cases h
end Go.Coop
