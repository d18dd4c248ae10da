/- What is due, and when, plain; a map of what is known of each timer. -/
import Derived.Test.YtncjbohpaanpaaaAnwP
import Derived.Test.YtncjbohpaanpaaaAwk
namespace Go.Proofs.Ytncjbohpaanpaaa
open Go.RowKit Go.Coop Go.Maps
set_option maxRecDepth 100000
namespace CS
variable {S : CS}
theorem set_find (h : S.Ok) {i : Int} (hi : -9223372036854775808 ≤ i ∧ i ≤ 9223372036854775807) (d : Int) {j : Int} (hj : j ≠ i) : (S.set i d).find j = S.find j := by
  have hok := set_ok h hi d
  unfold set at hok ⊢
  split at hok
  · rename_i he
    rw [if_pos he]
    refine findD_congr hok.nod h.nod (fun t ht => ?_)
    show t ∈ ins _ _ ↔ _
    rw [mem_ins, mem_del]
    constructor
    · rintro (rfl | h)
      · exact absurd ht.symm hj
      · exact h.1
    · intro h
      exact .inr ⟨h, by rw [ht]; exact hj⟩
  · rename_i he
    rw [if_neg he]
theorem unset_find (h : S.Ok) {i j : Int} (hj : j ≠ i) : (S.unset i).find j = S.find j :=
  findD_congr (h.nod.del i) h.nod fun t ht => by rw [mem_del]; exact ⟨fun h => h.1, fun h => ⟨h, by rw [ht]; exact hj⟩⟩
theorem does_find (h : S.Ok) {o : OpV} (ho : o.Ok) {j : Int} (hj : j ≠ o.id) : (S.does o).find j = S.find j := by
  unfold does
  split
  · exact set_find h ho.id _ hj
  · split
    · exact unset_find h hj
    · rfl
/-- all timers are due soon -/
def Near (S : CS) : Prop := ∀ t ∈ S.L, t.due ≤ S.now + 20
theorem Near.unset (h : S.Near) (i : Int) : (S.unset i).Near := fun t ht => h t (mem_del.1 ht).1
theorem Near.set (h : S.Near) (i : Int) {d : Int} (hd : d ≤ 20) : (S.set i d).Near := by
  unfold CS.set
  split
  · intro t ht
    rcases mem_ins.1 ht with rfl | ht
    · show S.now + d ≤ S.now + 20
      omega
    · exact h t (mem_del.1 ht).1
  · exact h
theorem later_le (o : OpV) : 1 ≤ o.later ∧ o.later ≤ 20 := by
  have h1 := Int.emod_nonneg (o.dt.tmod 1000) (show (20 : Int) ≠ 0 by decide)
  have h2 := Int.emod_lt_of_pos (o.dt.tmod 1000) (show (0 : Int) < 20 by decide)
  unfold OpV.later
  omega
theorem Near.does (h : S.Near) (o : OpV) : (S.does o).Near := by
  unfold CS.does
  split
  · exact h.set _ (later_le o).2
  · split
    · exact h.unset _
    · exact h
theorem Near.turn (h : S.Near) {n : Int} (hn : S.now ≤ n) : (S.turn n).Near := fun t ht => by
  have := h t (List.mem_filter.1 ht).1
  show t.due ≤ n + 20
  omega
theorem tickN_eq (h : S.now < 1152921504606846976) : S.tickN = S.now + 1 := by unfold tickN; rw [if_pos (by omega)]
/-- what is told is due now -/
theorem told_due (h : S.Ok) {t : Tm} (ht : t ∈ S.told (S.now + 1)) : t.due = S.now + 1 := by
  obtain ⟨h1, h2⟩ := List.mem_filter.1 ht
  have := h.its t h1
  simp at h2
  omega
theorem told_srt (h : S.Ok) (n : Int) : Srt (S.told n) := h.srt.filter _
end CS
/-- two that are told behind one another -/
theorem ids_rise {L : List Tm} (h : Srt L) {k : Nat} {s t : Tm} (hs : L[k]? = some s) (ht : L[k + 1]? = some t) (hd : s.due = t.due) : s.id < t.id := by
  have h1 := (List.getElem?_eq_some_iff.1 hs).1
  have h2 := (List.getElem?_eq_some_iff.1 ht).1
  have := List.pairwise_iff_getElem.1 h k (k + 1) h1 h2 (by omega)
  rw [(List.getElem?_eq_some_iff.1 hs).2, (List.getElem?_eq_some_iff.1 ht).2, Tm.lt_iff] at this
  omega
/-- the law's own map -/
abbrev OMap (w : World) (d n : Nat) (D : DataW Value) : Prop := w.ownsMap Try.prog 3 (plainElem Try.prog 2) d n D
theorem OMap.kp {w w' : World} {g c d n : Nat} {a a' : Option Nat} {D : DataW Value} (h : OMap w d n D) (hk : Kp g c a a' w w') (hd : d ≠ c) : OMap w' d n D := by
  obtain ⟨es, clock, hm, r⟩ := h
  exact ⟨es, clock, hk.maps _ _ _ hd hm, r⟩
theorem OMap.below {w w' : World} {d n : Nat} {D : DataW Value} (h : OMap w d n D) (hb : Below w.heap.size w w') : OMap w' d n D := owns_but h (But.of_below (gs := []) hb) (by simp)
/-- a clock while the law's own map is written -/
theorem Ck.omap {w w' : World} {B g c d n : Nat} {a : Option Nat} {S : CS} {D : DataW Value} (h : Ck w B g c a S) (hm : OMap w d n D) (hd : d ≠ c) (hb : But [d] w w') : Ck w' B g c a S := by
  obtain ⟨h0, A, cap, hA, h1⟩ := h
  refine ⟨Nat.le_trans h0 hb.size, A, cap, hA, h1.but hb fun k hk hm' => ?_⟩
  simp at hm'
  subst hm'
  obtain ⟨es, clock, hm, _⟩ := hm
  obtain ⟨D', hr, _⟩ := h1.raw
  rcases mem_nb.1 hk with e | e | e
  · subst e
    have := hm.symm.trans hr.blk
    injection this with e
    cases e
  · exact hd e
  · obtain ⟨cur, hc⟩ := hr.row.typ e
    have := hm.symm.trans hc
    injection this with e
    cases e
/-- where the law ClockOnce stands -/
structure On (w0 w : World) (g c d : Nat) (a : Option Nat) (S : CS) (D : DataW Value) (j : Nat) : Prop where
  ck : Ck w w0.heap.size g c a S
  bel : Below w0.heap.size w0 w
  own : OMap w d 65537 D
  due : DueIs D fun i => S.find i
  dc : d ≠ c
  dlo : w0.heap.size ≤ d
  near : S.Near
  n0 : 0 ≤ S.now
  nj : S.now ≤ j
  most : S.most = 200
/-- the clock has done something, and the map not yet -/
structure Onc (w0 w : World) (g c d : Nat) (a : Option Nat) (S : CS) (D : DataW Value) (j : Nat) (o : OpV) : Prop where
  ck : Ck w w0.heap.size g c a (S.does o)
  bel : Below w0.heap.size w0 w
  own : OMap w d 65537 D
  was : On w0 w0 g c d a S D j → True
theorem omap_le {w : World} {d nn : Nat} {D : DataW Value} {S : CS} (h : OMap w d nn D) (hd : DueIs D fun i => S.find i) (hok : S.Ok) : OMap w d 65537 D :=
  owns_exact h (by rw [owns_size h hd hok.nod]; have := hok.len; have := hok.m2; omega)
end Go.Proofs.Ytncjbohpaanpaaa
