/- What is due, and when, plain; a map of what is known of each timer. -/
import Derived.Test.YtncjbohpaanpaaaAnwP
import Derived.Test.YtncjbohpaanpaaaAwk
namespace Go.Proofs.Ytncjbohpaanpaaa
open Go.RowKit Go.Coop Go.Maps
set_option maxRecDepth 100000
namespace CS
variable {S : CS}
theorem set_find (h : S.Ok) {i : Int} (hi : -9223372036854775808 ≤ i ∧ i ≤ 9223372036854775807) (d : Int) {j : Int} (hj : j ≠ i) : (S.set i d).find j = S.find j := by
  have hok := set_ok h hi d
  unfold set at hok ⊢
  split at hok
  · rename_i he
    rw [if_pos he]
    refine findD_congr hok.nod h.nod (fun t ht => ?_)
    show t ∈ ins _ _ ↔ _
    rw [mem_ins, mem_del]
    constructor
    · rintro (rfl | h)
      · exact absurd ht.symm hj
      · exact h.1
    · intro h
      exact .inr ⟨h, by rw [ht]; exact hj⟩
  · rename_i he
    rw [if_neg he]
theorem unset_find (h : S.Ok) {i j : Int} (hj : j ≠ i) : (S.unset i).find j = S.find j :=
  findD_congr (h.nod.del i) h.nod fun t ht => by rw [mem_del]; exact ⟨fun h => h.1, fun h => ⟨h, by rw [ht]; exact hj⟩⟩
theorem does_find (h : S.Ok) {o : OpV} (ho : o.Ok) {j : Int} (hj : j ≠ o.id) : (S.does o).find j = S.find j := by
  unfold does
  split
  · exact set_find h ho.id _ hj
  · split
    · exact unset_find h hj
    · rfl
/-- all timers are due soon -/
def Near (S : CS) : Prop := ∀ t ∈ S.L, t.due ≤ S.now + 20
theorem Near.unset (h : S.Near) (i : Int) : (S.unset i).Near := fun t ht => h t (mem_del.1 ht).1
theorem Near.set (h : S.Near) (i : Int) {d : Int} (hd : d ≤ 20) : (S.set i d).Near := by
  unfold CS.set
  split
  · intro t ht
    rcases mem_ins.1 ht with rfl | ht
    · show S.now + d ≤ S.now + 20
      omega
    · exact h t (mem_del.1 ht).1
  · exact h
theorem later_le (o : OpV) : 1 ≤ o.later ∧ o.later ≤ 20 := by
  have h1 := Int.emod_nonneg (o.dt.tmod 1000) (show (20 : Int) ≠ 0 by decide)
  have h2 := Int.emod_lt_of_pos (o.dt.tmod 1000) (show (0 : Int) < 20 by decide)
  unfold OpV.later
  omega
theorem Near.does (h : S.Near) (o : OpV) : (S.does o).Near := by
  unfold CS.does
  split
  · exact h.set _ (later_le o).2
  · split
    · exact h.unset _
    · exact h
theorem Near.turn (h : S.Near) {n : Int} (hn : S.now ≤ n) : (S.turn n).Near := fun t ht => by
  have := h t (List.mem_filter.1 ht).1
  show t.due ≤ n + 20
  omega
theorem tickN_eq (h : S.now < 1152921504606846976) : S.tickN = S.now + 1 := by unfold tickN; rw [if_pos (by omega)]
/-- what is told is due now -/
theorem told_due (h : S.Ok) {t : Tm} (ht : t ∈ S.told (S.now + 1)) : t.due = S.now + 1 := by
  obtain ⟨h1, h2⟩ := List.mem_filter.1 ht
  have := h.its t h1
  simp at h2
  omega
theorem told_srt (h : S.Ok) (n : Int) : Srt (S.told n) := h.srt.filter _
end CS
/-- two that are told behind one another -/
theorem ids_rise {L : List Tm} (h : Srt L) {k : Nat} {s t : Tm} (hs : L[k]? = some s) (ht : L[k + 1]? = some t) (hd : s.due = t.due) : s.id < t.id := by
  have h1 := (List.getElem?_eq_some_iff.1 hs).1
  have h2 := (List.getElem?_eq_some_iff.1 ht).1
  have := List.pairwise_iff_getElem.1 h k (k + 1) h1 h2 (by omega)
  rw [(List.getElem?_eq_some_iff.1 hs).2, (List.getElem?_eq_some_iff.1 ht).2, Tm.lt_iff] at this
  omega
/-- the law's own map -/
abbrev OMap (w : World) (d n : Nat) (D : DataW Value) : Prop := w.ownsMap Try.prog 3 (plainElem Try.prog 2) d n D
theorem OMap.kp {w w' : World} {g c d n : Nat} {a a' : Option Nat} {D : DataW Value} (h : OMap w d n D) (hk : Kp g c a a' w w') (hd : d ≠ c) : OMap w' d n D := by
  obtain ⟨es, clock, hm, r⟩ := h
  exact ⟨es, clock, hk.maps _ _ _ hd hm, r⟩
theorem OMap.below {w w' : World} {d n : Nat} {D : DataW Value} (h : OMap w d n D) (hb : Below w.heap.size w w') : OMap w' d n D := owns_but h (But.of_below (gs := []) hb) (by simp)
/-- a clock while the law's own map is written -/
theorem Ck.omap {w w' : World} {B g c d n : Nat} {a : Option Nat} {S : CS} {D : DataW Value} (h : Ck w B g c a S) (hm : OMap w d n D) (hd : d ≠ c) (hb : But [d] w w') : Ck w' B g c a S := by
  obtain ⟨h0, A, cap, hA, h1⟩ := h
  refine ⟨Nat.le_trans h0 hb.size, A, cap, hA, h1.but hb fun k hk hm' => ?_⟩
  simp at hm'
  subst hm'
  obtain ⟨es, clock, hm, _⟩ := hm
  obtain ⟨D', hr, _⟩ := h1.raw
  rcases mem_nb.1 hk with e | e | e
  · subst e
    have := hm.symm.trans hr.blk
    injection this with e
    cases e
  · exact hd e
  · obtain ⟨cur, hc⟩ := hr.row.typ e
    have := hm.symm.trans hc
    injection this with e
    cases e
/-- where the law ClockOnce stands -/
structure On (w0 w : World) (g c d : Nat) (a : Option Nat) (S : CS) (D : DataW Value) (j : Nat) : Prop where
  ck : Ck w w0.heap.size g c a S
  bel : Below w0.heap.size w0 w
  own : OMap w d 65537 D
  due : DueIs D fun i => S.find i
  dc : d ≠ c
  dlo : w0.heap.size ≤ d
  near : S.Near
  n0 : 0 ≤ S.now
  nj : S.now ≤ j
  most : S.most = 200
theorem omap_le {w : World} {d nn : Nat} {D : DataW Value} {S : CS} (h : OMap w d nn D) (hd : DueIs D fun i => S.find i) (hok : S.Ok) : OMap w d 65537 D :=
  owns_exact h (by rw [owns_size h hd hok.nod]; have := hok.len; have := hok.m2; omega)
section
variable {w0 w w2 w3 : World} {g c d j : Nat} {a a' : Option Nat} {S : CS} {D : DataW Value} {o : OpV}
theorem On.does {r : Value} {e : Ending} (h : On w0 w g c d a S D j) (hp : CkP w w0.heap.size g c a (S.does o) r e w2) : ∃ a', Ck w2 w0.heap.size g c a' (S.does o) ∧ Below w0.heap.size w0 w2 ∧ OMap w2 d 65537 D := by
  obtain ⟨_, a', h1, h2, h3⟩ := hp
  exact ⟨a', h1, h.bel.trans h2, h.own.kp h3 h.dc⟩
theorem On.wrote {D' : DataW Value} {nn : Nat} (h : On w0 w g c d a S D j) (hck : Ck w2 w0.heap.size g c a' (S.does o)) (hb : Below w0.heap.size w0 w2) (hm : OMap w2 d 65537 D) (hown : OMap w3 d nn D') (hD : DueIs D' fun i => (S.does o).find i) (hg : w2.grownBy w3 (some d)) : On w0 w3 g c d a' (S.does o) D' (j + 1) := by
  have hbt := grown_but hg
  obtain ⟨e1, e2⟩ := CS.does_now (S := S) o
  exact ⟨hck.omap hm h.dc hbt, hb.trans (hbt.below hb.size (by simp; exact h.dlo)), omap_le hown hD hck.ok, hD, h.dc, h.dlo, h.near.does o, by rw [e1]; exact h.n0, by rw [e1]; have := h.nj; omega, by rw [e2]; exact h.most⟩
theorem On.put {x : Int} (h : On w0 w g c d a S D j) (ho : o.Ok) (hck : Ck w2 w0.heap.size g c a' (S.does o)) (hb : Below w0.heap.size w0 w2) (hm : OMap w2 d 65537 D) (hx : (S.does o).find o.id = some x) (hown : OMap w3 d (65537 + 1) (D.put (.int .i64 o.id) (.lit (.int .i64 x)))) (hg : w2.grownBy w3 (some d)) : On w0 w3 g c d a' (S.does o) (D.put (.int .i64 o.id) (.lit (.int .i64 x))) (j + 1) :=
  h.wrote hck hb hm hown (h.due.put hm.isMap hx fun i hi => (CS.does_find h.ck.ok ho hi).symm) hg
theorem On.del_ (h : On w0 w g c d a S D j) (ho : o.Ok) (hck : Ck w2 w0.heap.size g c a' (S.does o)) (hb : Below w0.heap.size w0 w2) (hm : OMap w2 d 65537 D) (hx : (S.does o).find o.id = none) (hown : OMap w3 d 65537 (D.del (.int .i64 o.id))) (hg : w2.grownBy w3 (some d)) : On w0 w3 g c d a' (S.does o) (D.del (.int .i64 o.id)) (j + 1) :=
  h.wrote hck hb hm hown (h.due.del hx fun i hi => (CS.does_find h.ck.ok ho hi).symm) hg
/-- when it is due, as the law looks it up -/
theorem On.soon {x : Int} (h : On w0 w g c d a S D j) (ho : o.Ok) (hx : (S.does o).find o.id = some x) : S.now < x ∧ x ≤ S.now + 20 := by
  have hm := findD_some hx
  obtain ⟨e1, _⟩ := CS.does_now (S := S) o
  have h1 := (CS.does_ok h.ck.ok ho).its _ hm
  have h2 := h.near.does o _ hm
  rw [e1] at h1 h2
  exact ⟨h1.1, h2⟩
/-- while what was told is struck out: k of l are -/
structure OnT (w0 w : World) (g c d : Nat) (a : Option Nat) (S : CS) (L : List Tm) (A : Option Addr) (n ca k : Nat) (D : DataW Value) : Prop where
  ck : Ck w w0.heap.size g c a S
  bel : Below w0.heap.size w0 w
  own : OMap w d 65537 D
  due : DueIs D fun i => findD i (L.drop k)
  lst : Tl w 0 A n ca (L.take n)
  lap : ∀ i, A.map (·.block) = some i → i ≠ d
theorem OnT.below {L : List Tm} {A : Option Addr} {n ca k : Nat} (h : OnT w0 w g c d a S L A n ca k D) (hb : Below w.heap.size w w2) : OnT w0 w2 g c d a S L A n ca k D :=
  ⟨h.ck.below hb, h.bel.trans (hb.mono h.bel.size), h.own.below hb, h.due, h.lst.below hb, h.lap⟩
theorem OnT.strike {L : List Tm} {A : Option Addr} {n ca k : Nat} {t : Tm} (h : OnT w0 w g c d a S L A n ca k D) (hn : Nod L) (hy : L[k]? = some t) (hdc : d ≠ c) (hdlo : w0.heap.size ≤ d) (hown : OMap w2 d 65537 (D.del (.int .i64 t.id))) (hg : w.grownBy w2 (some d)) : OnT w0 w2 g c d a S L A n ca (k + 1) (D.del (.int .i64 t.id)) := by
  have hb := grown_but hg
  exact ⟨h.ck.omap h.own hdc hb, h.bel.trans (hb.below h.bel.size (by simp; exact hdlo)), hown, due_del hn hy h.due, h.lst.but hb (fun i hi hm => h.lap i hi (by simpa using hm)), h.lap⟩
/-- Tick -/
theorem On.tick {A : Option Addr} {ca n : Nat} (h : On w0 w g c d a S D j) (hc : Ck w2 w0.heap.size g c a S.tick) (hb : Below w0.heap.size w0 w2) (hk : Kp g c a a w w2) (hN : Tl w2 w.heap.size A n ca (S.L.take n)) : OnT w0 w2 g c d a S.tick S.L A n ca 0 D :=
  ⟨hc, hb, h.own.kp hk h.dc, h.due, hN.lower (Nat.zero_le _), fun i hi e => by have h1 := (hN.block i hi).1; have h2 := h.own.lt; omega⟩
theorem OnT.done {A : Option Addr} {ca n : Nat} (h0 : On w0 w g c d a S D j) {D' : DataW Value} (h : OnT w0 w2 g c d a S.tick S.L A n ca n D') (hL : S.tick.L = S.L.drop n) (hnow : S.tick.now = S.now + 1) : On w0 w2 g c d a S.tick D' (j + 1) :=
  ⟨h.ck, h.bel, h.own, by have := h.due; rw [← hL] at this; exact this, h0.dc, h0.dlo, by have := h0.near.turn (n := S.tickN) (by have : S.tick.now = S.tickN := rfl; omega); exact this, by have := h0.n0; omega, by have := h0.nj; omega, h0.most⟩
theorem On.below (h : On w0 w g c d a S D j) (hb : Below w.heap.size w w2) : On w0 w2 g c d a S D j :=
  ⟨h.ck.below hb, h.bel.trans (hb.mono h.bel.size), h.own.below hb, h.due, h.dc, h.dlo, h.near, h.n0, h.nj, h.most⟩
theorem Ck.but {B : Nat} {gs : List Nat} (h : Ck w B g c a S) (hb : But gs w w2) (hg : g ∉ gs) (hc : c ∉ gs) (ha : ∀ k, a = some k → k ∉ gs) : Ck w2 B g c a S := by
  obtain ⟨h0, A, cap, hA, h1⟩ := h
  refine ⟨Nat.le_trans h0 hb.size, A, cap, hA, h1.but hb fun k hk => ?_⟩
  rcases mem_nb.1 hk with e | e | e
  · rw [e]; exact hg
  · rw [e]; exact hc
  · exact ha k (by rw [← hA]; exact e)
/-- the range over the law's map -/
structure ORng (w0 : World) (g c d : Nat) (a : Option Nat) (S : CS) (D : DataW Value) (j r : Nat) (w : World) : Prop where
  rg : ∃ left cnt, w.ranges Try.prog 3 (plainElem Try.prog 2) d r 65537 D left cnt
  on : On w0 w g c d a S D j
  gr : g < r
  cr : c < r
  dr : d < r
  ar : ∀ k, a = some k → k < r
  wr : w0.heap.size ≤ r
theorem Ck.lts {B : Nat} (h : Ck w B g c a S) : g < w.heap.size ∧ c < w.heap.size ∧ ∀ k, a = some k → k < w.heap.size := by
  have h3 := h.a_lt
  obtain ⟨h0, A, cap, hA, h1⟩ := h
  obtain ⟨D, hr, _⟩ := h1.raw
  exact ⟨hr.g_lt, hr.map.lt, h3⟩
theorem ORng.start {left : Lit → Bool} {cnt : Nat} (h : On w0 w g c d a S D j) (hg : w.grownBy w2 none) (hr : w2.ranges Try.prog 3 (plainElem Try.prog 2) d w.heap.size 65537 D left cnt) : ORng w0 g c d a S D j w.heap.size w2 := by
  obtain ⟨h1, h2, h3⟩ := h.ck.lts
  exact ⟨⟨left, cnt, hr⟩, h.below ⟨hg.os, hg.tape, hg.output, hg.size, fun k hk => hg.block k hk (by simp)⟩, h1, h2, h.own.lt, h3, h.bel.size⟩
theorem ORng.next {r : Nat} {left : Lit → Bool} {cnt : Nat} (h : ORng w0 g c d a S D j r w) (hg : w.grownBy w2 (some r)) (hr : w2.ranges Try.prog 3 (plainElem Try.prog 2) d r 65537 D left cnt) : ORng w0 g c d a S D j r w2 := by
  have hb := grown_but hg
  have h1 := h.gr
  have h2 := h.cr
  have h3 := h.dr
  have h4 := h.wr
  have o := h.on
  exact ⟨⟨left, cnt, hr⟩, ⟨o.ck.but hb (by simp; omega) (by simp; omega) (fun k hk => by have := h.ar k hk; simp; omega), o.bel.trans (hb.below o.bel.size (by simp; exact h4)), owns_but o.own hb (by simp; omega), o.due, o.dc, o.dlo, o.near, o.n0, o.nj, o.most⟩, h1, h2, h3, h.ar, h4⟩
/-- what an entry says -/
theorem entry_due {D : DataW Value} {S : CS} (hD : DueIs D fun i => S.find i) (hok : S.Ok) {x v : Int} (hat : ∀ zd, D.atKey (.int .i64 x) zd = (.lit (.int .i64 v) : DataW Value)) : S.now < v := by
  have h1 : Maps.has D (.int .i64 x) = true := Maps.has_true_of_atKey hat
  rw [hD.has_] at h1
  obtain ⟨y, hy⟩ := Option.isSome_iff_exists.1 h1
  have h2 := hD.at_ x
  rw [hat] at h2
  injection h2 with h2
  injection h2 with _ h2
  have h3 : S.find x = some v := by rw [hy]; rw [hy] at h2; simp at h2; rw [h2]
  exact (hok.its _ (findD_some h3)).1
theorem On.made (h : Ck w w0.heap.size g c a (CS.new 200)) (hb : Below w0.heap.size w0 w) (hm : OMap w d 65537 (.map [])) (hdc : d ≠ c) (hd : w0.heap.size ≤ d) : On w0 w g c d a (CS.new 200) (.map []) 0 :=
  ⟨h, hb, hm, due_empty, hdc, hd, fun t ht => by simp [CS.new] at ht, by simp [CS.new], by simp [CS.new], rfl⟩
end
end Go.Proofs.Ytncjbohpaanpaaa
