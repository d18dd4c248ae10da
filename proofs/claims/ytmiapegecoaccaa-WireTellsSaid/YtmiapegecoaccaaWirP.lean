/- Messages, plain: which are right, their bytes, what any bytes say. No program is named here. -/
import Derived.Test.YtmiapegecoaccaaNums
import Derived.Test.YtmiapegecoaccaaBack
namespace Go.Coop
structure AskP where
  life : Int
  seq : Int
  op : Int
  stripe : Int
  index : Int
  version : Int
  bytes : List UInt8
structure InfP where
  stripe : Int
  index : Int
  version : Int
  state : Int
structure TelP where
  life : Int
  seq : Int
  op : Int
  err : Int
  infos : List InfP
  bytes : List UInt8
  room : Int
theorem AskP.same (a b : AskP) : (a.life = b.life ∧ a.seq = b.seq ∧ a.op = b.op ∧ a.stripe = b.stripe ∧ a.index = b.index ∧ a.version = b.version ∧ a.bytes = b.bytes) ↔ a = b := by
  cases a; cases b; simp
theorem InfP.same (a b : InfP) : (a.stripe = b.stripe ∧ a.index = b.index ∧ a.version = b.version ∧ a.state = b.state) ↔ a = b := by
  cases a; cases b; simp
instance : DecidableEq AskP := fun a b => decidable_of_iff _ (AskP.same a b)
instance : DecidableEq InfP := fun a b => decidable_of_iff _ (InfP.same a b)
theorem TelP.same (a b : TelP) : (a.life = b.life ∧ a.seq = b.seq ∧ a.op = b.op ∧ a.err = b.err ∧ a.infos = b.infos ∧ a.bytes = b.bytes ∧ a.room = b.room) ↔ a = b := by
  cases a; cases b; simp
instance : DecidableEq TelP := fun a b => decidable_of_iff _ (TelP.same a b)
def leastV (op : Int) : Int := if op = 4 ∨ op = 5 then 0 else 1
def mostB (op : Int) : Int := if op = 1 then 65536 else 0
def HeadOk (l s o : Int) : Prop := (1 ≤ l ∧ l ≤ 1099511627776) ∧ (1 ≤ s ∧ s ≤ 1099511627776) ∧ (1 ≤ o ∧ o ≤ 6)
def NumOk (s i v q : Int) : Prop := (0 ≤ s ∧ s ≤ 1099511627776) ∧ (0 ≤ i ∧ i ≤ 254) ∧ (q ≤ v ∧ v ≤ 1099511627776)
def InfOk (i : InfP) : Prop := NumOk i.stripe i.index i.version 1 ∧ (i.state = 1 ∨ i.state = 2)
instance (l s o : Int) : Decidable (HeadOk l s o) := by unfold HeadOk; infer_instance
instance (s i v q : Int) : Decidable (NumOk s i v q) := by unfold NumOk; infer_instance
instance (i : InfP) : Decidable (InfOk i) := by unfold InfOk; infer_instance
def RightA (a : AskP) : Prop := HeadOk a.life a.seq a.op ∧ NumOk a.stripe a.index a.version (leastV a.op) ∧ (a.bytes.length : Int) ≤ mostB a.op
def RightT (x : TelP) : Prop := HeadOk x.life x.seq x.op ∧ (0 ≤ x.err ∧ x.err ≤ 1000) ∧ (0 ≤ x.room ∧ x.room ≤ 65536) ∧ (x.err ≠ 0 → x.infos = [] ∧ x.bytes = []) ∧ x.infos.length ≤ 50 ∧ x.bytes.length ≤ 65536 ∧ ∀ i ∈ x.infos, InfOk i
instance (a : AskP) : Decidable (RightA a) := by unfold RightA; infer_instance
instance (x : TelP) : Decidable (RightT x) := by unfold RightT; infer_instance
def zeroA : AskP := ⟨0, 0, 0, 0, 0, 0, []⟩
def zeroT : TelP := ⟨0, 0, 0, 0, [], [], 0⟩
def encN (l : List Int) : List UInt8 := l.flatMap fun x => dig x.toNat
def blobB (b : List UInt8) : List UInt8 := dig b.length ++ b
def askNs (a : AskP) : List Int := [1, a.life, a.seq, a.op, a.stripe, a.index, a.version]
def telNs (x : TelP) : List Int := [2, x.life, x.seq, x.op, x.err, x.room, (x.infos.length : Int)]
def infNs (i : InfP) : List Int := [i.stripe, i.index, i.version, i.state]
def encI (L : List InfP) : List UInt8 := L.flatMap fun i => encN (infNs i)
def encA (a : AskP) : List UInt8 := encN (askNs a) ++ blobB a.bytes
def encT (x : TelP) : List UInt8 := (encN (telNs x) ++ encI x.infos) ++ blobB x.bytes
/-- one number is read: the number, then the place and whether all was well -/
def nx (b : List UInt8) (most : Nat) (s : Nat × Bool) : Nat × (Nat × Bool) :=
  if s.2 = true ∧ (getU b (s.1 : Int)).2.2 = 0 ∧ (getU b (s.1 : Int)).1 ≤ most then ((getU b (s.1 : Int)).1, ((getU b (s.1 : Int)).2.1, true)) else (0, (s.1, false))
def nxs (b : List UInt8) : List Nat → Nat × Bool → List Int × (Nat × Bool)
  | [], s => ([], s)
  | m :: ms, s => (((nx b m s).1 : Int) :: (nxs b ms (nx b m s).2).1, (nxs b ms (nx b m s).2).2)
def askM : List Nat := [1, 1099511627776, 1099511627776, 6, 1099511627776, 254, 1099511627776]
def telM : List Nat := [2, 1099511627776, 1099511627776, 6, 1000, 65536, 50]
def infM : List Nat := [1099511627776, 254, 1099511627776, 2]
def infOf (l : List Int) : InfP := ⟨l.getD 0 0, l.getD 1 0, l.getD 2 0, l.getD 3 0⟩
def rdI (b : List UInt8) (s : Nat × Bool) : InfP × (Nat × Bool) := (infOf (nxs b infM s).1, (nxs b infM s).2)
def rds (b : List UInt8) : Nat → Nat × Bool → List InfP × (Nat × Bool)
  | 0, s => ([], s)
  | k + 1, s => ((rds b k s).1 ++ [(rdI b (rds b k s).2).1], (rdI b (rds b k s).2).2)
/-- what GetBlob tells of a number that came -/
def getB (l : List UInt8) (r : Nat × Nat × Nat) (most : Int) : List UInt8 × Nat × Nat :=
  if r.2.2 ≠ 0 then ([], 0, r.2.2)
  else if most < 0 ∨ most < (r.1 : Int) then ([], 0, 3)
  else if l.length - r.2.1 < r.1 then ([], 0, 11)
  else ((l.drop r.2.1).take r.1, r.2.1 + r.1, 0)
def blobR (b : List UInt8) (at_ : Nat) : List UInt8 × Nat × Nat := getB b (getU b (at_ : Int)) 65536
/-- how it stands behind the numbers: are these the bytes of a message, but for what is right? -/
def EndsB (b : List UInt8) (s : Nat × Bool) : Prop := s.2 = true ∧ (blobR b s.1).2.2 = 0 ∧ (blobR b s.1).2.1 = b.length
instance (b : List UInt8) (s : Nat × Bool) : Decidable (EndsB b s) := by unfold EndsB; infer_instance
def askOf (l : List Int) (bs : List UInt8) : AskP := ⟨l.getD 1 0, l.getD 2 0, l.getD 3 0, l.getD 4 0, l.getD 5 0, l.getD 6 0, bs⟩
def telOf (l : List Int) (L : List InfP) (bs : List UInt8) : TelP := ⟨l.getD 1 0, l.getD 2 0, l.getD 3 0, l.getD 4 0, L, bs, l.getD 5 0⟩
def askR (b : List UInt8) : List Int × (Nat × Bool) := nxs b askM (0, true)
def telR (b : List UInt8) : List Int × (Nat × Bool) := nxs b telM (0, true)
def telI (b : List UInt8) : List InfP × (Nat × Bool) := rds b ((telR b).1.getD 6 0).toNat (telR b).2
def parseA (b : List UInt8) : Option AskP :=
  if EndsB b (askR b).2 ∧ (askR b).1.getD 0 0 = 1 ∧ RightA (askOf (askR b).1 (blobR b (askR b).2.1).1) then some (askOf (askR b).1 (blobR b (askR b).2.1).1) else none
def parseT (b : List UInt8) : Option TelP :=
  if EndsB b (telI b).2 ∧ (telR b).1.getD 0 0 = 2 ∧ RightT (telOf (telR b).1 (telI b).1 (blobR b (telI b).2.1).1) then some (telOf (telR b).1 (telI b).1 (blobR b (telI b).2.1).1) else none

theorem nx_le (b : List UInt8) (most : Nat) (s : Nat × Bool) : (nx b most s).1 ≤ most := by
  unfold nx
  split
  · rename_i h; exact h.2.2
  · simp
theorem nx_at (b : List UInt8) (most : Nat) (s : Nat × Bool) (h : s.1 ≤ b.length) : (nx b most s).2.1 ≤ b.length := by
  unfold nx
  split
  · exact (getU_ok b _).at_
  · exact h
theorem nxs_at (b : List UInt8) : ∀ (ms : List Nat) (s : Nat × Bool), s.1 ≤ b.length → (nxs b ms s).2.1 ≤ b.length
  | [], _, h => h
  | m :: ms, s, h => nxs_at b ms _ (nx_at b m s h)
theorem rds_at (b : List UInt8) (s : Nat × Bool) (h : s.1 ≤ b.length) : ∀ k, (rds b k s).2.1 ≤ b.length
  | 0 => h
  | k + 1 => nxs_at b _ _ (rds_at b s h k)
theorem nxs_len (b : List UInt8) : ∀ (ms : List Nat) (s : Nat × Bool), (nxs b ms s).1.length = ms.length
  | [], _ => rfl
  | m :: ms, s => by rw [nxs]; simp [nxs_len b ms]
theorem rds_len (b : List UInt8) (s : Nat × Bool) : ∀ k, (rds b k s).1.length = k
  | 0 => rfl
  | k + 1 => by
    have := rds_len b s k
    rw [rds, List.length_append, this]
    rfl
/-- what was read, if all was well, are the bytes between -/
structure Took (b : List UInt8) (s s' : Nat × Bool) (xs : List UInt8) : Prop where
  ok : s.2 = true
  le : s'.1 ≤ b.length
  eq : b.take s'.1 = b.take s.1 ++ xs
theorem Took.refl {b : List UInt8} {s : Nat × Bool} (h : s.2 = true) (hl : s.1 ≤ b.length) : Took b s s [] := ⟨h, hl, by simp⟩
theorem Took.trans {b : List UInt8} {s t u : Nat × Bool} {xs ys : List UInt8} (h : Took b s t xs) (k : Took b t u ys) : Took b s u (xs ++ ys) := ⟨h.ok, k.le, by rw [k.eq, h.eq, List.append_assoc]⟩
theorem nx_took {b : List UInt8} {most : Nat} {s : Nat × Bool} (hs : s.1 ≤ b.length) (h : (nx b most s).2.2 = true) : Took b s (nx b most s).2 (dig (nx b most s).1) := by
  unfold nx at h ⊢
  split
  · rename_i hc
    obtain ⟨m, hcame⟩ := getU_came hs hc.2.1
    refine ⟨hc.1, (getU_ok b _).at_, ?_⟩
    simp only
    rw [hcame.next, hcame.back, List.take_add]
  · rename_i hc
    rw [if_neg hc] at h
    cases h
theorem nxs_took {b : List UInt8} : ∀ (ms : List Nat) (s : Nat × Bool), s.1 ≤ b.length → (nxs b ms s).2.2 = true → Took b s (nxs b ms s).2 (encN (nxs b ms s).1)
  | [], s, hs, h => Took.refl h hs
  | m :: ms, s, hs, h => by
    have h2 := nxs_took ms (nx b m s).2 (nx_at b m s hs) h
    have h1 := nx_took hs h2.ok
    have := h1.trans h2
    rw [nxs]
    simpa [encN] using this
theorem nxs_four (b : List UInt8) (s : Nat × Bool) : infNs (infOf (nxs b infM s).1) = (nxs b infM s).1 := by
  simp [infM, nxs, infOf, infNs]
theorem rds_took {b : List UInt8} {s : Nat × Bool} (hs : s.1 ≤ b.length) : ∀ k, (rds b k s).2.2 = true → Took b s (rds b k s).2 (encI (rds b k s).1)
  | 0, h => Took.refl h hs
  | k + 1, h => by
    have h1 := nxs_took infM _ (rds_at b s hs k) h
    have h2 := rds_took hs k h1.ok
    have := h2.trans h1
    rw [rds]
    simp only [rdI]
    unfold encI
    rw [List.flatMap_append, List.flatMap_cons, List.flatMap_nil, nxs_four, List.append_nil]
    exact this
theorem blobR_took {b : List UInt8} {x : Nat} (hx : x ≤ b.length) (h : (blobR b x).2.2 = 0) : (blobR b x).2.1 ≤ b.length ∧ b.take (blobR b x).2.1 = b.take x ++ blobB (blobR b x).1 ∧ (blobR b x).1.length ≤ 65536 := by
  unfold blobR getB at h ⊢
  split
  · rename_i hc; rw [if_pos hc] at h; exact absurd h hc
  · rename_i hc
    rw [if_neg hc] at h
    split
    · rename_i hd; rw [if_pos hd] at h; cases h
    · rename_i hd
      rw [if_neg hd] at h
      split
      · rename_i he; rw [if_pos he] at h; cases h
      · rename_i he
        obtain ⟨m, hm⟩ := getU_came hx (by simpa using hc)
        have hok := (getU_ok b (x : Int)).at_
        have hlen : ((b.drop (getU b (x : Int)).2.1).take (getU b (x : Int)).1).length = (getU b (x : Int)).1 := by
          rw [List.length_take, List.length_drop]; omega
        refine ⟨by simp only; omega, ?_, by simp only [hlen]; omega⟩
        simp only [blobB]
        rw [hlen, List.take_add, hm.back, hm.next, List.take_add, List.append_assoc]
theorem ends_took {b : List UInt8} {s : Nat × Bool} (hs : s.1 ≤ b.length) (h : EndsB b s) : b = b.take s.1 ++ blobB (blobR b s.1).1 ∧ (blobR b s.1).1.length ≤ 65536 := by
  obtain ⟨h1, h2, h3⟩ := blobR_took hs h.2.1
  rw [h.2.2, List.take_of_length_le (Nat.le_refl _)] at h2
  exact ⟨h2, h3⟩
theorem askR_ns (b : List UInt8) (bs : List UInt8) (h : (askR b).1.getD 0 0 = 1) : askNs (askOf (askR b).1 bs) = (askR b).1 := by
  simp only [askR, askM, nxs, askOf, askNs, List.getD_cons_zero, List.getD_cons_succ] at h ⊢
  rw [h]
theorem telR_ns (b : List UInt8) (bs : List UInt8) (h : (telR b).1.getD 0 0 = 2) : telNs (telOf (telR b).1 (telI b).1 bs) = (telR b).1 := by
  have hl : (telI b).1.length = ((telR b).1.getD 6 0).toNat := by unfold telI; exact rds_len _ _ _
  simp only [telOf, telNs]
  rw [hl]
  simp only [telR, telM, nxs, List.getD_cons_zero, List.getD_cons_succ] at h ⊢
  rw [h, Int.toNat_natCast]
theorem parseA_back {b : List UInt8} {a : AskP} (h : parseA b = some a) : RightA a ∧ encA a = b := by
  unfold parseA at h
  split at h
  · rename_i hc
    injection h with h
    subst h
    refine ⟨hc.2.2, ?_⟩
    have ha := nxs_at b askM (0, true) (Nat.zero_le _)
    have h1 := nxs_took askM (0, true) (Nat.zero_le _) hc.1.1
    have h2 := (ends_took ha hc.1).1
    have h3 := h1.eq
    rw [List.take_zero, List.nil_append] at h3
    unfold encA
    rw [askR_ns b _ hc.2.1]
    conv => rhs; rw [h2]
    show _ = _
    rw [show (askOf (askR b).1 (blobR b (askR b).2.1).1).bytes = (blobR b (askR b).2.1).1 from rfl]
    unfold askR
    rw [h3]
  · cases h
theorem parseT_back {b : List UInt8} {x : TelP} (h : parseT b = some x) : RightT x ∧ encT x = b := by
  unfold parseT at h
  split at h
  · rename_i hc
    injection h with h
    subst h
    refine ⟨hc.2.2, ?_⟩
    have ha := nxs_at b telM (0, true) (Nat.zero_le _)
    have hb := rds_at b _ ha ((telR b).1.getD 6 0).toNat
    have h2 := rds_took ha _ hc.1.1
    have h1 := nxs_took telM (0, true) (Nat.zero_le _) h2.ok
    have h3 := (ends_took hb hc.1).1
    have h4 := (h1.trans h2).eq
    rw [List.take_zero, List.nil_append] at h4
    unfold encT
    rw [telR_ns b _ hc.2.1]
    conv => rhs; rw [h3]
    show (encN (telR b).1 ++ encI (telI b).1) ++ blobB (blobR b (telI b).2.1).1 = _
    unfold telI telR
    unfold telR at h4
    rw [h4]
  · cases h
/-- what is written is read, whatever stands behind it -/
theorem nx_dig {pre post : List UInt8} {most N : Nat} (h1 : N ≤ most) (h2 : N ≤ 18446744073709551615) : nx (pre ++ (dig N ++ post)) most (pre.length, true) = (N, (pre.length + (dig N).length, true)) := by
  unfold nx
  simp only
  rw [getU_dig pre post N h2]
  rw [if_pos ⟨by trivial, rfl, h1⟩]
inductive Each : List Nat → List Int → Prop
  | nil : Each [] []
  | cons {m : Nat} {v : Int} {ms : List Nat} {vs : List Int} (h : 0 ≤ v ∧ v ≤ (m : Int) ∧ m ≤ 1099511627776) (k : Each ms vs) : Each (m :: ms) (v :: vs)
theorem nxs_dig {post : List UInt8} : ∀ (ms : List Nat) (vs : List Int) (pre : List UInt8), Each ms vs →
    nxs (pre ++ (encN vs ++ post)) ms (pre.length, true) = (vs, (pre.length + (encN vs).length, true))
  | [], [], pre, _ => by simp [nxs, encN]
  | m :: ms, v :: vs, pre, h => by
    cases h with
    | cons h1 h2 =>
      have e1 : pre ++ (encN (v :: vs) ++ post) = pre ++ (dig v.toNat ++ (encN vs ++ post)) := by simp [encN]
      have e2 : pre ++ (encN (v :: vs) ++ post) = (pre ++ dig v.toNat) ++ (encN vs ++ post) := by simp [encN]
      have n1 : nx (pre ++ (encN (v :: vs) ++ post)) m (pre.length, true) = (v.toNat, ((pre ++ dig v.toNat).length, true)) := by
        rw [e1, nx_dig (by omega) (by omega), List.length_append]
      have ih := nxs_dig ms vs (pre ++ dig v.toNat) h2 (post := post)
      rw [← e2] at ih
      rw [nxs, n1]
      simp only
      rw [ih]
      refine Prod.ext ?_ (Prod.ext ?_ rfl)
      · simp only
        rw [Int.toNat_of_nonneg h1.1]
      · simp only [encN, List.flatMap_cons, List.length_append]
        omega
theorem rdI_dig {pre post : List UInt8} {i : InfP} (h : InfOk i) : rdI (pre ++ (encN (infNs i) ++ post)) (pre.length, true) = (i, (pre.length + (encN (infNs i)).length, true)) := by
  obtain ⟨⟨h1, h2, h3⟩, h4⟩ := h
  have := nxs_dig (post := post) infM (infNs i) pre (by
    unfold infM infNs
    refine .cons ?_ (.cons ?_ (.cons ?_ (.cons ?_ .nil))) <;> omega)
  unfold rdI
  rw [this]
  rfl
theorem rds_dig {pre post : List UInt8} {L : List InfP} (hL : ∀ i ∈ L, InfOk i) : ∀ k, k ≤ L.length → rds (pre ++ (encI L ++ post)) k (pre.length, true) = (L.take k, (pre.length + (encI (L.take k)).length, true))
  | 0, _ => by simp [rds, encI]
  | k + 1, hk => by
    have ih := rds_dig (pre := pre) (post := post) hL k (by omega)
    obtain ⟨x, hx⟩ : ∃ x, L[k]? = some x := ⟨_, List.getElem?_eq_getElem (by omega)⟩
    rw [rds, ih]
    simp only
    have e : pre ++ (encI L ++ post) = (pre ++ encI (L.take k)) ++ (encN (infNs x) ++ (encI (L.drop (k + 1)) ++ post)) := by
      have h1 : encI L = encI (L.take k) ++ (encN (infNs x) ++ encI (L.drop (k + 1))) := by
        conv => lhs; rw [← List.take_append_drop k L]
        have hd : L.drop k = x :: L.drop (k + 1) := by
          have hlt := (List.getElem?_eq_some_iff.1 hx).1
          rw [List.drop_eq_getElem_cons hlt]
          congr 1
          exact (List.getElem?_eq_some_iff.1 hx).2
        rw [hd]
        simp [encI]
      rw [h1]
      simp only [List.append_assoc]
    have hpl : pre.length + (encI (L.take k)).length = (pre ++ encI (L.take k)).length := by simp
    rw [e, hpl, rdI_dig (hL x (List.mem_of_getElem? hx))]
    simp only
    have ht : L.take (k + 1) = L.take k ++ [x] := by rw [List.take_add_one, hx]; rfl
    rw [ht]
    refine Prod.ext rfl (Prod.ext ?_ rfl)
    simp only [encI, List.flatMap_append, List.flatMap_cons, List.flatMap_nil, List.append_nil, List.length_append]
    omega
theorem blobR_dig {pre post bs : List UInt8} (h : bs.length ≤ 65536) : blobR (pre ++ (blobB bs ++ post)) pre.length = (bs, pre.length + (blobB bs).length, 0) := by
  have e : pre ++ (blobB bs ++ post) = pre ++ (dig bs.length ++ (bs ++ post)) := by simp [blobB]
  have hd := dig_length bs.length
  unfold blobR
  rw [e, getU_dig pre (bs ++ post) bs.length (by omega)]
  unfold getB
  simp only
  rw [if_neg (by simp), if_neg (by omega), if_neg (by simp; omega)]
  refine Prod.ext ?_ (Prod.ext ?_ rfl)
  · simp only
    have e2 : pre ++ (dig bs.length ++ (bs ++ post)) = (pre ++ dig bs.length) ++ (bs ++ post) := by simp
    rw [e2, ← List.length_append, List.drop_left, List.take_left]
  · simp [blobB]
    omega
theorem askR_enc {a : AskP} (h : RightA a) (post : List UInt8) : askR (encA a ++ post) = (askNs a, ((encN (askNs a)).length, true)) := by
  obtain ⟨⟨h1, h2, h3⟩, ⟨h4, h5, h6⟩, _⟩ := h
  have hv : 0 ≤ a.version := by unfold leastV at h6; split at h6 <;> omega
  have := nxs_dig (post := blobB a.bytes ++ post) askM (askNs a) [] (by
    unfold askM askNs
    refine .cons ?_ (.cons ?_ (.cons ?_ (.cons ?_ (.cons ?_ (.cons ?_ (.cons ?_ .nil)))))) <;> omega)
  unfold askR encA
  simpa using this
theorem parseA_cut {a : AskP} (h : RightA a) (post : List UInt8) : (askR (encA a ++ post)).1 = askNs a ∧ (askR (encA a ++ post)).2 = ((encN (askNs a)).length, true) ∧ blobR (encA a ++ post) (encN (askNs a)).length = (a.bytes, (encA a).length, 0) := by
  have h0 := askR_enc h post
  have hb : a.bytes.length ≤ 65536 := by have := h.2.2; unfold mostB at this; split at this <;> omega
  refine ⟨by rw [h0], by rw [h0], ?_⟩
  have := blobR_dig (pre := encN (askNs a)) (post := post) hb
  unfold encA
  rw [List.append_assoc, this, List.length_append]
theorem parseA_enc {a : AskP} (h : RightA a) : parseA (encA a) = some a := by
  obtain ⟨h1, h2, h3⟩ := parseA_cut h []
  rw [List.append_nil] at h1 h2 h3
  have ha : askOf (askNs a) a.bytes = a := rfl
  unfold parseA
  rw [h1, h2, h3]
  simp only
  rw [ha, if_pos ⟨⟨rfl, by rw [h3], by rw [h3]⟩, rfl, h⟩]
theorem parseA_more {a : AskP} (h : RightA a) {post : List UInt8} (hp : post ≠ []) : parseA (encA a ++ post) = none := by
  obtain ⟨h1, h2, h3⟩ := parseA_cut h post
  unfold parseA
  rw [if_neg]
  intro hc
  have := hc.1.2.2
  rw [h2, h3] at this
  simp only [List.length_append] at this
  exact hp (List.eq_nil_of_length_eq_zero (by omega))
theorem parseA_less {a : AskP} (h : RightA a) {k : Nat} (hk : k < (encA a).length) : parseA ((encA a).take k) = none := by
  cases hq : parseA ((encA a).take k) with
  | none => rfl
  | some a' =>
    obtain ⟨h1, h2⟩ := parseA_back hq
    have e := parseA_more h1 (post := (encA a).drop k) (by intro e; have := congrArg List.length e; simp at this; omega)
    rw [h2, List.take_append_drop, parseA_enc h] at e
    cases e
theorem telR_enc {x : TelP} (h : RightT x) (post : List UInt8) : telR (encT x ++ post) = (telNs x, ((encN (telNs x)).length, true)) ∧ telI (encT x ++ post) = (x.infos, ((encN (telNs x) ++ encI x.infos).length, true)) := by
  obtain ⟨⟨h1, h2, h3⟩, h4, h5, h6, h7, h8, h9⟩ := h
  have hn := nxs_dig (post := encI x.infos ++ (blobB x.bytes ++ post)) telM (telNs x) [] (by
    unfold telM telNs
    refine .cons ?_ (.cons ?_ (.cons ?_ (.cons ?_ (.cons ?_ (.cons ?_ (.cons ?_ .nil)))))) <;> omega)
  have hr : telR (encT x ++ post) = (telNs x, ((encN (telNs x)).length, true)) := by
    unfold telR encT
    simpa using hn
  refine ⟨hr, ?_⟩
  unfold telI
  rw [hr]
  have := rds_dig (pre := encN (telNs x)) (post := blobB x.bytes ++ post) h9 x.infos.length (Nat.le_refl _)
  rw [List.take_of_length_le (Nat.le_refl _)] at this
  have e : encT x ++ post = encN (telNs x) ++ (encI x.infos ++ (blobB x.bytes ++ post)) := by unfold encT; simp only [List.append_assoc]
  have hk : ((telNs x).getD 6 0).toNat = x.infos.length := by simp [telNs]
  simp only
  rw [hk, e, this, List.length_append]
theorem parseT_enc {x : TelP} (h : RightT x) : parseT (encT x) = some x := by
  obtain ⟨h1, h2⟩ := telR_enc h []
  rw [List.append_nil] at h1 h2
  have h3 := blobR_dig (pre := encN (telNs x) ++ encI x.infos) (post := []) (bs := x.bytes) h.2.2.2.2.2.1
  rw [List.append_nil, ← List.length_append] at h3
  have h3' : blobR (encT x) (encN (telNs x) ++ encI x.infos).length = (x.bytes, (encT x).length, 0) := h3
  have ha : telOf (telNs x) x.infos x.bytes = x := rfl
  unfold parseT
  rw [h1, h2]
  simp only
  rw [h3', ha, if_pos ⟨⟨rfl, by simp only [h3'], by simp only [h3']⟩, rfl, h⟩]
theorem parseA_iff {b : List UInt8} {a : AskP} : parseA b = some a ↔ RightA a ∧ encA a = b := ⟨parseA_back, fun ⟨h, e⟩ => e ▸ parseA_enc h⟩
theorem parseT_iff {b : List UInt8} {x : TelP} : parseT b = some x ↔ RightT x ∧ encT x = b := ⟨parseT_back, fun ⟨h, e⟩ => e ▸ parseT_enc h⟩
theorem encA_head (a : AskP) : ∃ r, encA a = 1 :: r := ⟨_, by unfold encA askNs; rfl⟩
theorem encT_head (x : TelP) : ∃ r, encT x = 2 :: r := ⟨_, by unfold encT telNs; rfl⟩
theorem encA_inj {a b : AskP} (ha : RightA a) (hb : RightA b) (h : encA a = encA b) : a = b := by
  have h1 := parseA_enc ha
  rw [h, parseA_enc hb] at h1
  injection h1 with h1
  exact h1.symm
theorem encT_inj {a b : TelP} (ha : RightT a) (hb : RightT b) (h : encT a = encT b) : a = b := by
  have h1 := parseT_enc ha
  rw [h, parseT_enc hb] at h1
  injection h1 with h1
  exact h1.symm
theorem parseA_enT (x : TelP) : parseA (encT x) = none := by
  cases hq : parseA (encT x) with
  | none => rfl
  | some a =>
    obtain ⟨r, hr⟩ := encT_head x
    obtain ⟨q, hq'⟩ := encA_head a
    have := (parseA_back hq).2
    rw [hr, hq'] at this
    simp at this
theorem parseT_enA (a : AskP) : parseT (encA a) = none := by
  cases hq : parseT (encA a) with
  | none => rfl
  | some x =>
    obtain ⟨r, hr⟩ := encA_head a
    obtain ⟨q, hq'⟩ := encT_head x
    have := (parseT_back hq).2
    rw [hr, hq'] at this
    simp at this
theorem encN_len (l : List Int) : (encN l).length ≤ 10 * l.length := by
  induction l with
  | nil => simp [encN]
  | cons x l ih =>
    have := dig_length x.toNat
    simp only [encN, List.flatMap_cons, List.length_append, List.length_cons] at ih ⊢
    omega
theorem encI_len : ∀ (L : List InfP), (encI L).length ≤ 40 * L.length
  | [] => by simp [encI]
  | i :: L => by
    have h1 := encN_len (infNs i)
    have h2 := encI_len L
    have h3 : (infNs i).length = 4 := rfl
    simp only [encI, List.flatMap_cons, List.length_append, List.length_cons] at h2 ⊢
    omega
theorem encA_len (a : AskP) : (encA a).length ≤ 80 + a.bytes.length := by
  have h1 := encN_len (askNs a)
  have h2 := dig_length a.bytes.length
  have h3 : (askNs a).length = 7 := rfl
  unfold encA blobB
  rw [List.length_append, List.length_append]
  omega
theorem encT_len (x : TelP) : (encT x).length ≤ 80 + 40 * x.infos.length + x.bytes.length := by
  have h1 := encN_len (telNs x)
  have h2 := dig_length x.bytes.length
  have h3 : (telNs x).length = 7 := rfl
  have h4 := encI_len x.infos
  unfold encT blobB
  rw [List.length_append, List.length_append, List.length_append]
  omega
end Go.Coop
