/- Two clocks beside one another; Skip beside ticks, plain. -/
import Derived.Test.YtncjbohpaanpaaaOncP
namespace Go.Proofs.Ytncjbohpaanpaaa
open Go.RowKit Go.Coop Go.Maps
set_option maxRecDepth 100000
theorem Ck.lower {w : World} {B B' g c : Nat} {a : Option Nat} {S : CS} (h : Ck w B g c a S) (hB : B' ≤ B) : Ck w B' g c a S := by
  obtain ⟨h0, A, cap, hA, h1⟩ := h
  obtain ⟨D, hr, hD⟩ := h1.raw
  exact ⟨Nat.le_trans hB h0, A, cap, hA, h1.ok, D, ⟨Nat.le_trans hB hr.hg, Nat.le_trans hB hr.hc, hr.blk, hr.row.lower hB, hr.map⟩, hD⟩
/-- two clocks -/
structure Two (w : World) (B g c : Nat) (a : Option Nat) (S : CS) (g' c' : Nat) (a' : Option Nat) (S' : CS) : Prop where
  x : Ck w B g c a S
  y : Ck w B g' c' a' S'
  gg : g ≠ g'
  cc : c ≠ c'
  aa : ∀ k, a = some k → a' ≠ some k
section
variable {w w' : World} {B g c g' c' : Nat} {a a1 a' : Option Nat} {S S1 S' : CS}
theorem Two.swap (h : Two w B g c a S g' c' a' S') : Two w B g' c' a' S' g c a S := ⟨h.y, h.x, h.gg.symm, h.cc.symm, fun k hk e => h.aa k e hk⟩
theorem Two.below (h : Two w B g c a S g' c' a' S') (hb : Below w.heap.size w w') : Two w' B g c a S g' c' a' S' := ⟨h.x.below hb, h.y.below hb, h.gg, h.cc, h.aa⟩
theorem Two.first (h : Two w B g c a S g' c' a' S') (hc : Ck w' B g c a1 S1) (hk : Kp g c a a1 w w') : Two w' B g c a1 S1 g' c' a' S' := by
  refine ⟨hc, ?_, h.gg, h.cc, fun k hk1 hk2 => ?_⟩
  · obtain ⟨h0, A, cap, hA, h1⟩ := h.y
    refine ⟨Nat.le_trans h0 hk.size, A, cap, hA, h1.but hk.but fun k hm hm' => ?_⟩
    obtain ⟨_, X, capx, hX, hx⟩ := h.x
    obtain ⟨D, hr, _⟩ := hx.raw
    obtain ⟨D', hr', _⟩ := h1.raw
    obtain ⟨es, clock, hmx, _⟩ := hr.map
    obtain ⟨es', clock', hmy, _⟩ := hr'.map
    simp only [List.mem_cons, Option.mem_toList] at hm'
    rcases mem_nb.1 hm with e | e | e <;> rcases hm' with f | f | f
    · exact h.gg (f.symm.trans e)
    · subst e
      rw [f] at hr'
      have := hmx.symm.trans hr'.blk
      injection this with e
      cases e
    · subst e
      rw [← hX] at f
      obtain ⟨cur, hcu⟩ := hr.row.typ f
      have := hcu.symm.trans hr'.blk
      injection this with e
      injection e with _ e _
      cases e
    · subst e
      rw [f] at hmy
      have := hmy.symm.trans hr.blk
      injection this with e
      cases e
    · exact h.cc (f.symm.trans e)
    · subst e
      rw [← hX] at f
      obtain ⟨cur, hcu⟩ := hr.row.typ f
      have := hcu.symm.trans hmy
      injection this with e
      cases e
    · obtain ⟨cur, hcu⟩ := hr'.row.typ e
      rw [f] at hcu
      have := hcu.symm.trans hr.blk
      injection this with e
      injection e with _ e _
      cases e
    · obtain ⟨cur, hcu⟩ := hr'.row.typ e
      rw [f] at hcu
      have := hcu.symm.trans hmx
      injection this with e
      cases e
    · exact h.aa k f (hA ▸ e)
  · rcases hk.nxt with n | ⟨j, hj, n⟩
    · exact h.aa k (n ▸ hk1) hk2
    · rw [n] at hk1
      injection hk1 with hk1
      have := h.y.a_lt k hk2
      omega
theorem Two.step {r : Value} {e : Ending} (h : Two w B g c a S g' c' a' S') (hp : CkP w B g c a S1 r e w') : ∃ a1, Two w' B g c a1 S1 g' c' a' S' ∧ Below B w w' := by
  obtain ⟨_, a1, h1, h2, h3⟩ := hp
  exact ⟨a1, h.first h1 h3, h2⟩
theorem Two.made {c0 : World} (h1 : Ck c0 B g c a S) (h2 : Ck w c0.heap.size g' c' none S') (hb : Below c0.heap.size c0 w) (hg : c0.heap.size ≤ g') (hc : c0.heap.size ≤ c') : Two w B g c a S g' c' none S' := by
  obtain ⟨l1, l2, _⟩ := h1.lts
  exact ⟨h1.below hb, h2.lower h1.1, by omega, by omega, by simp⟩
end
namespace CS
variable {S : CS}
/-- the first one is due first -/
theorem head_le (h : S.Ok) {t : Tm} {l : List Tm} (hL : S.L = t :: l) : ∀ u ∈ S.L, t.due ≤ u.due := by
  intro u hu
  have hs := h.srt
  rw [hL] at hs hu
  rcases List.mem_cons.1 hu with rfl | hu
  · exact Int.le_refl _
  · have := (List.pairwise_cons.1 hs).1 u hu
    rw [Tm.lt_iff] at this
    omega
theorem turn_before {n : Int} (h : ∀ u ∈ S.L, n < u.due) : S.turn n = { S with now := n } ∧ S.told n = [] := by
  refine ⟨?_, ?_⟩
  · unfold turn
    rw [List.filter_eq_self.2 fun u hu => by have := h u hu; simp; omega]
  · exact List.filter_eq_nil_iff.2 fun u hu => by have := h u hu; simp; omega
theorem turn_now (h : S.Ok) : S.turn S.now = S := by rw [(turn_before fun u hu => (h.its u hu).1).1]
theorem turn_told {n k : Int} (h : ∀ u ∈ S.L, n < u.due) : (S.turn n).told k = S.told k ∧ (S.turn n).turn k = S.turn k := by
  rw [(turn_before h).1]
  exact ⟨rfl, rfl⟩
theorem skipN_cons {t : Tm} {l : List Tm} (hL : S.L = t :: l) : S.skipN = t.due := by unfold skipN; rw [hL]
theorem skipL_mem {t : Tm} {l : List Tm} (hL : S.L = t :: l) : t ∈ S.skipL := by
  unfold skipL
  rw [skipN_cons hL]
  exact List.mem_filter.2 ⟨by rw [hL]; simp, by simp⟩
theorem skipL_pos {t : Tm} {l : List Tm} (hL : S.L = t :: l) : 0 < S.skipL.length := List.length_pos_of_mem (skipL_mem hL)
/-- a tick, the clock having been turned on to n, nothing being due till then -/
theorem turn_tick {n : Int} (h : ∀ u ∈ S.L, n < u.due) (hn : n < 1152921504606846976) : (S.turn n).tick = S.turn (n + 1) ∧ (S.turn n).tickL = S.told (n + 1) := by
  have e : (S.turn n).tickN = n + 1 := tickN_eq hn
  unfold tick tickL
  rw [e]
  exact ⟨(turn_told h).2, (turn_told h).1⟩
end CS
end Go.Proofs.Ytncjbohpaanpaaa
