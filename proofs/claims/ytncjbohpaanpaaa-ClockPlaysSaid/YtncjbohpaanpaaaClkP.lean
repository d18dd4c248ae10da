/- A clock, plain: a time, how many timers there may be, the timers in order; what each call makes of it. -/
import Derived.Test.YtncjbohpaanpaaaArr
namespace Go.Proofs.Ytncjbohpaanpaaa
set_option maxRecDepth 100000

/-- a part of a list that is ordered: those for which p holds come first -/
theorem prefix_of {α : Type} {R : α → α → Prop} {p : α → Bool} (hp : ∀ a b, R a b → p b = true → p a = true) : ∀ {L : List α}, L.Pairwise R → L.filter p = L.take (L.countP p) ∧ L.filter (fun x => !p x) = L.drop (L.countP p)
  | [], _ => by simp
  | a :: l, h => by
    obtain ⟨ha, hl⟩ := List.pairwise_cons.1 h
    obtain ⟨h1, h2⟩ := prefix_of hp hl
    cases hq : p a with
    | true => simp [hq, h1, h2]
    | false =>
      have hn : ∀ x ∈ l, p x = false := fun x hx => by
        cases hx' : p x with
        | false => rfl
        | true => have := hp a x (ha x hx) hx'; rw [hq] at this; cases this
      have h0 : l.countP p = 0 := List.countP_eq_zero.2 fun x hx => by simp [hn x hx]
      have h3 : l.filter p = [] := List.filter_eq_nil_iff.2 fun x hx => by simp [hn x hx]
      have h4 : l.filter (fun x => !p x) = l := List.filter_eq_self.2 fun x hx => by simp [hn x hx]
      simp [hq, h0, h3, h4]

/-- a timer -/
structure Tm where
  due : Int
  id : Int
theorem Tm.ext' {a b : Tm} (h1 : a.due = b.due) (h2 : a.id = b.id) : a = b := by
  cases a; cases b; simp at h1 h2; subst h1 h2; rfl
/-- is a ahead of b? -/
def Tm.lt (a b : Tm) : Bool := decide (a.due < b.due) || (decide (a.due = b.due) && decide (a.id < b.id))
theorem Tm.lt_iff {a b : Tm} : a.lt b = true ↔ a.due < b.due ∨ (a.due = b.due ∧ a.id < b.id) := by simp [Tm.lt]
theorem Tm.lt_trans {a b c : Tm} (h : a.lt b = true) (k : b.lt c = true) : a.lt c = true := by
  rw [Tm.lt_iff] at *; omega
theorem Tm.lt_irrefl (a : Tm) : a.lt a = false := by
  cases h : a.lt a with
  | false => rfl
  | true => rw [Tm.lt_iff] at h; omega
theorem Tm.lt_total {a b : Tm} (h : a.lt b = false) : a = b ∨ b.lt a = true := by
  by_cases e : a = b
  · exact .inl e
  · right
    have h' : ¬ a.lt b = true := by rw [h]; simp
    rw [Tm.lt_iff] at *
    have : ¬ (a.due = b.due ∧ a.id = b.id) := fun ⟨h1, h2⟩ => e (Tm.ext' h1 h2)
    omega
def Srt (L : List Tm) : Prop := L.Pairwise fun a b => a.lt b = true
/-- how many are ahead of x -/
def placeOf (x : Tm) (L : List Tm) : Nat := L.countP fun y => y.lt x
/-- those ahead of x, those behind it -/
theorem Srt.place {L : List Tm} (h : Srt L) (x : Tm) : L.filter (fun y => y.lt x) = L.take (placeOf x L) ∧ L.filter (fun y => !y.lt x) = L.drop (placeOf x L) :=
  prefix_of (p := fun y => y.lt x) (fun _ _ hab hb => Tm.lt_trans hab hb) h
theorem placeOf_le (x : Tm) (L : List Tm) : placeOf x L ≤ L.length := List.countP_le_length
def del (i : Int) (L : List Tm) : List Tm := L.filter fun t => !decide (t.id = i)
def ins (x : Tm) (L : List Tm) : List Tm := L.filter (fun y => y.lt x) ++ x :: L.filter (fun y => !y.lt x)
def findD (i : Int) : List Tm → Option Int
  | [] => none
  | t :: l => if t.id = i then some t.due else findD i l
def Nod (L : List Tm) : Prop := (L.map Tm.id).Nodup
theorem findD_none {i : Int} : ∀ {L : List Tm}, findD i L = none ↔ ∀ t ∈ L, t.id ≠ i
  | [] => by simp [findD]
  | t :: l => by
    have := findD_none (i := i) (L := l)
    unfold findD
    split
    · rename_i h; simp [h]
    · rename_i h; simp [h, this]
theorem findD_some {i d : Int} : ∀ {L : List Tm}, findD i L = some d → (⟨d, i⟩ : Tm) ∈ L
  | [], h => by simp [findD] at h
  | t :: l, h => by
    unfold findD at h
    split at h
    · rename_i e
      injection h with h
      have : t = ⟨d, i⟩ := Tm.ext' h e
      simp [this]
    · exact List.mem_cons_of_mem _ (findD_some h)
theorem findD_mem {t : Tm} : ∀ {L : List Tm}, Nod L → t ∈ L → findD t.id L = some t.due
  | [], _, h => by simp at h
  | a :: l, hn, h => by
    unfold Nod at hn
    rw [List.map_cons, List.nodup_cons] at hn
    rcases List.mem_cons.1 h with rfl | h
    · simp [findD]
    · unfold findD
      have hne : a.id ≠ t.id := fun e => hn.1 (by rw [e]; exact List.mem_map_of_mem h)
      rw [if_neg hne]
      exact findD_mem hn.2 h
theorem findD_iff {i d : Int} {L : List Tm} (hn : Nod L) : findD i L = some d ↔ (⟨d, i⟩ : Tm) ∈ L := ⟨findD_some, fun h => findD_mem (t := ⟨d, i⟩) hn h⟩
/-- two lists with the same timers find the same -/
theorem findD_congr {L M : List Tm} (hL : Nod L) (hM : Nod M) {i : Int} (h : ∀ t : Tm, t.id = i → (t ∈ L ↔ t ∈ M)) : findD i L = findD i M := by
  cases hq : findD i M with
  | none =>
    rw [findD_none] at hq ⊢
    intro t ht e
    exact hq t ((h t e).1 ht) e
  | some d =>
    rw [findD_iff hL]
    rw [findD_iff hM] at hq
    exact (h _ rfl).2 hq
theorem mem_del {i : Int} {L : List Tm} {t : Tm} : t ∈ del i L ↔ t ∈ L ∧ t.id ≠ i := by simp [del, List.mem_filter]
theorem mem_ins {x t : Tm} {L : List Tm} : t ∈ ins x L ↔ t = x ∨ t ∈ L := by
  unfold ins
  simp only [List.mem_append, List.mem_cons, List.mem_filter]
  cases h : t.lt x <;> simp [or_comm]
theorem Srt.filter {L : List Tm} (h : Srt L) (p : Tm → Bool) : Srt (L.filter p) := List.Pairwise.filter _ h
theorem Nod.filter {L : List Tm} (h : Nod L) (p : Tm → Bool) : Nod (L.filter p) := List.Nodup.sublist (List.filter_sublist.map _) h
theorem Srt.del {L : List Tm} (h : Srt L) (i : Int) : Srt (del i L) := h.filter _
theorem Nod.del {L : List Tm} (h : Nod L) (i : Int) : Nod (del i L) := h.filter _
theorem Srt.ins {L : List Tm} (h : Srt L) {x : Tm} (hx : ∀ t ∈ L, t.id ≠ x.id) : Srt (ins x L) := by
  unfold Srt Proofs.Ytncjbohpaanpaaa.ins
  rw [List.pairwise_append]
  refine ⟨List.Pairwise.filter _ h, List.pairwise_cons.2 ⟨fun b hb => ?_, List.Pairwise.filter _ h⟩, fun a ha b hb => ?_⟩
  · obtain ⟨h1, h2⟩ := List.mem_filter.1 hb
    simp at h2
    rcases Tm.lt_total h2 with e | e
    · exact absurd (congrArg Tm.id e) (hx b h1)
    · exact e
  · obtain ⟨h1, h2⟩ := List.mem_filter.1 ha
    rcases List.mem_cons.1 hb with rfl | hb
    · exact h2
    · obtain ⟨h3, h4⟩ := List.mem_filter.1 hb
      simp at h4
      rcases Tm.lt_total h4 with e | e
      · exact e ▸ h2
      · exact Tm.lt_trans h2 e
theorem Nod.ins {L : List Tm} (h : Nod L) {x : Tm} (hx : ∀ t ∈ L, t.id ≠ x.id) : Nod (ins x L) := by
  have e : ((Proofs.Ytncjbohpaanpaaa.ins x L).map Tm.id).Perm ((x :: L).map Tm.id) := by
    refine List.Perm.map _ ?_
    unfold Proofs.Ytncjbohpaanpaaa.ins
    refine List.perm_middle.trans (List.Perm.cons _ ?_)
    exact List.filter_append_perm _ _
  unfold Nod
  rw [e.nodup_iff, List.map_cons, List.nodup_cons]
  exact ⟨fun hm => by
    obtain ⟨t, ht, e⟩ := List.mem_map.1 hm
    exact hx t ht e, h⟩
theorem ins_len (x : Tm) (L : List Tm) : (ins x L).length = L.length + 1 := by
  have : (ins x L).Perm (x :: L) := by
    unfold ins
    refine List.perm_middle.trans (List.Perm.cons _ ?_)
    exact List.filter_append_perm _ _
  have := this.length_eq
  simpa using this
theorem ins_take {L : List Tm} (h : Srt L) (x : Tm) : ins x L = L.take (placeOf x L) ++ x :: L.drop (placeOf x L) := by
  unfold ins
  rw [(h.place x).1, (h.place x).2]
theorem del_none {i : Int} {L : List Tm} (h : ∀ t ∈ L, t.id ≠ i) : del i L = L := List.filter_eq_self.2 fun t ht => by simp [h t ht]
/-- where a timer stands -/
theorem Srt.at_ {L : List Tm} (h : Srt L) {x : Tm} (hx : x ∈ L) : L[placeOf x L]? = some x := by
  have h2 := (h.place x).2
  have hm : x ∈ L.filter (fun y => !y.lt x) := List.mem_filter.2 ⟨hx, by simp [Tm.lt_irrefl]⟩
  have hs := h.filter (fun y => !y.lt x)
  have hd : (L.drop (placeOf x L))[0]? = some x := by
    rw [← h2]
    cases hq : L.filter (fun y => !y.lt x) with
    | nil => rw [hq] at hm; simp at hm
    | cons a l =>
      rw [hq] at hm hs
      rcases List.mem_cons.1 hm with rfl | hm
      · rfl
      · have h5 := (List.pairwise_cons.1 hs).1 x hm
        have h6 : a ∈ L.filter (fun y => !y.lt x) := by rw [hq]; simp
        obtain ⟨_, h7⟩ := List.mem_filter.1 h6
        simp [h5] at h7
  rw [List.getElem?_drop] at hd
  simpa using hd
theorem del_at {L : List Tm} (hn : Nod L) {i : Nat} {x : Tm} (h : L[i]? = some x) : del x.id L = L.take i ++ L.drop (i + 1) := by
  have hi := (List.getElem?_eq_some_iff.1 h).1
  have e : L = L.take i ++ x :: L.drop (i + 1) := by
    have := List.take_append_drop i L
    rw [List.drop_eq_getElem_cons hi, (List.getElem?_eq_some_iff.1 h).2] at this
    exact this.symm
  have hn' : (L.map Tm.id).Nodup := hn
  rw [e, List.map_append, List.map_cons, List.nodup_append] at hn'
  obtain ⟨_, h2, h3⟩ := hn'
  obtain ⟨h4, _⟩ := List.nodup_cons.1 h2
  have e1 : del x.id (L.take i) = L.take i := del_none fun t ht e => h3 t.id (List.mem_map_of_mem ht) x.id (by simp) e
  have e2 : del x.id (L.drop (i + 1)) = L.drop (i + 1) := del_none fun t ht e => h4 (e ▸ List.mem_map_of_mem ht)
  have e3 : del x.id L = del x.id (L.take i ++ x :: L.drop (i + 1)) := by rw [← e]
  rw [e3]
  unfold del at *
  rw [List.filter_append, List.filter_cons_of_neg (by simp), e1, e2]
theorem del_len {L : List Tm} (hn : Nod L) {x : Tm} (h : x ∈ L) (hs : Srt L) : (del x.id L).length + 1 = L.length := by
  have hi := hs.at_ h
  have hlt := (List.getElem?_eq_some_iff.1 hi).1
  rw [del_at hn hi]
  simp
  omega

abbrev MT : Int := 1152921504606846976
/-- a clock -/
structure CS where
  most : Nat
  now : Int
  L : List Tm
namespace CS
structure Ok (S : CS) : Prop where
  m1 : 1 ≤ S.most
  m2 : S.most ≤ 65536
  n0 : 0 ≤ S.now
  n1 : S.now ≤ 1152921504606846976
  len : S.L.length ≤ S.most
  srt : Srt S.L
  nod : Nod S.L
  its : ∀ t ∈ S.L, S.now < t.due ∧ t.due ≤ 1152921504606846976 ∧ -9223372036854775808 ≤ t.id ∧ t.id ≤ 9223372036854775807
def new (most : Nat) : CS := ⟨most, 0, []⟩
def find (S : CS) (i : Int) : Option Int := findD i S.L
def unset (S : CS) (i : Int) : CS := { S with L := del i S.L }
def setE (S : CS) (i d : Int) : Int := if d < 1 ∨ 1152921504606846976 - S.now < d then 2 else if S.find i = none ∧ S.most ≤ S.L.length then 71 else 0
def laid (S : CS) (i d : Int) : CS := { S with L := ins ⟨S.now + d, i⟩ (del i S.L) }
def set (S : CS) (i d : Int) : CS := if S.setE i d = 0 then S.laid i d else S
def turn (S : CS) (n : Int) : CS := { S with now := n, L := S.L.filter fun t => !decide (t.due ≤ n) }
def told (S : CS) (n : Int) : List Tm := S.L.filter fun t => decide (t.due ≤ n)
def tickN (S : CS) : Int := if S.now + 1 ≤ 1152921504606846976 then S.now + 1 else 1152921504606846976
def tick (S : CS) : CS := S.turn S.tickN
def tickL (S : CS) : List Tm := S.told S.tickN
def skipN (S : CS) : Int := match S.L with
  | [] => S.now
  | t :: _ => t.due
def skip (S : CS) : CS := S.turn S.skipN
def skipL (S : CS) : List Tm := S.told S.skipN
theorem new_ok {most : Nat} (h1 : 1 ≤ most) (h2 : most ≤ 65536) : (new most).Ok := ⟨h1, h2, by simp [new], by simp [new], by simp [new], by simp [new, Srt], by simp [new, Nod], by simp [new]⟩
theorem unset_ok {S : CS} (h : S.Ok) (i : Int) : (S.unset i).Ok :=
  ⟨h.m1, h.m2, h.n0, h.n1, Nat.le_trans (List.length_filter_le _ _) h.len, h.srt.del i, h.nod.del i, fun t ht => h.its t (mem_del.1 ht).1⟩
theorem unset_none {S : CS} {i : Int} (h : S.find i = none) : S.unset i = S := by
  unfold unset
  rw [del_none (findD_none.1 h)]
theorem find_unset (S : CS) (i : Int) : (S.unset i).find i = none := findD_none.2 fun _ ht => (mem_del.1 ht).2
theorem setE_zero {S : CS} {i d : Int} (h : S.setE i d = 0) : 1 ≤ d ∧ S.now + d ≤ 1152921504606846976 ∧ (S.find i = none → S.L.length < S.most) := by
  unfold setE at h
  split at h
  · cases h
  · split at h
    · cases h
    · rename_i h1 h2
      refine ⟨by omega, by omega, fun e => ?_⟩
      have : ¬ S.most ≤ S.L.length := fun k => h2 ⟨e, k⟩
      omega
theorem laid_ok {S : CS} (h : S.Ok) {i d : Int} (hi : -9223372036854775808 ≤ i ∧ i ≤ 9223372036854775807) (hd : 1 ≤ d) (hm : S.now + d ≤ 1152921504606846976) (hl : S.find i = none → S.L.length < S.most) : (S.laid i d).Ok := by
  refine ⟨h.m1, h.m2, h.n0, h.n1, ?_, (h.srt.del i).ins fun t ht => (mem_del.1 ht).2, (h.nod.del i).ins fun t ht => (mem_del.1 ht).2, fun t ht => ?_⟩
  · show (ins _ (del i S.L)).length ≤ S.most
    rw [ins_len]
    cases hq : S.find i with
    | none =>
      have := hl hq
      rw [del_none (findD_none.1 hq)]
      omega
    | some e =>
      have := del_len h.nod (findD_some hq) h.srt
      have := h.len
      simp at *
      omega
  · rcases mem_ins.1 ht with rfl | ht
    · exact ⟨by show S.now < S.now + d; omega, hm, hi.1, hi.2⟩
    · exact h.its t (mem_del.1 ht).1
theorem set_ok {S : CS} (h : S.Ok) {i : Int} (hi : -9223372036854775808 ≤ i ∧ i ≤ 9223372036854775807) (d : Int) : (S.set i d).Ok := by
  unfold set
  split
  · rename_i hq
    obtain ⟨h1, h2, h3⟩ := setE_zero hq
    exact laid_ok h hi h1 h2 h3
  · exact h
theorem turn_ok {S : CS} (h : S.Ok) {n : Int} (h1 : S.now ≤ n) (h2 : n ≤ 1152921504606846976) : (S.turn n).Ok :=
  ⟨h.m1, h.m2, by have := h.n0; show 0 ≤ n; omega, h2, Nat.le_trans (List.length_filter_le _ _) h.len, h.srt.filter _, h.nod.filter _, fun t ht => by
    obtain ⟨h3, h4⟩ := List.mem_filter.1 ht
    simp at h4
    exact ⟨h4, (h.its t h3).2⟩⟩
theorem tickN_le (S : CS) (h : S.Ok) : S.now ≤ S.tickN ∧ S.tickN ≤ 1152921504606846976 := by
  have := h.n1
  unfold tickN
  split <;> omega
theorem tick_ok {S : CS} (h : S.Ok) : S.tick.Ok := turn_ok h (S.tickN_le h).1 (S.tickN_le h).2
theorem skipN_le (S : CS) (h : S.Ok) : S.now ≤ S.skipN ∧ S.skipN ≤ 1152921504606846976 := by
  unfold skipN
  split
  · exact ⟨Int.le_refl _, h.n1⟩
  · rename_i t l e
    have := h.its t (by rw [e]; simp)
    omega
theorem skip_ok {S : CS} (h : S.Ok) : S.skip.Ok := turn_ok h (S.skipN_le h).1 (S.skipN_le h).2
theorem skip_nil {S : CS} (h : S.L = []) : S.skip = S ∧ S.skipL = [] := by
  cases S
  simp at h
  subst h
  simp [skip, skipL, skipN, turn, told]
/-- those that are due come first -/
theorem due_first {S : CS} (h : S.Ok) (n : Int) : S.told n = S.L.take (S.L.countP fun t => decide (t.due ≤ n)) ∧ (S.turn n).L = S.L.drop (S.L.countP fun t => decide (t.due ≤ n)) :=
  prefix_of (R := fun a b : Tm => a.lt b = true) (p := fun t => decide (t.due ≤ n)) (fun a b hab hb => by
    rw [Tm.lt_iff] at hab
    simp at hb ⊢
    omega) h.srt
end CS
end Go.Proofs.Ytncjbohpaanpaaa
