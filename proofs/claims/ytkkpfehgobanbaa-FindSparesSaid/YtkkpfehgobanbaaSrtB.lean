/- slices.Values, Collect, Sorted at ints. -/
import Derived.Test.YtkkpfehgobanbaaFndA
import Derived.Test.YtkkpfehgobanbaaSrtA
import Derived.RangeFuncNested
import Derived.RangeFuncBound
import Derived.RangeFuncCalls
import Derived.RangeFuncLeaves
import Derived.Shelf.Abstract
import Derived.Shelf.RegionOpen
import Derived.OwnWalkIn
import Derived.TacticsInMore
import Derived.LoopNIn
import Derived.LoopIn
import Derived.Lib.SlKeysI
import Derived.Shelf.Slices.In.SortNone
namespace Go.Proofs.Ytkkpfehgobanbaa
open Go.RowKit Go.Coop Go.Shelf Go.Sort
set_option maxRecDepth 100000
attribute [local go_sem] Oper.semAt_some
theorem _root_.Go.Coop.RdV.under {w w' : World} {A : Option Addr} {n B : Nat} {vs : List Value} (h : RdV w A n vs) (hb : Below B w w') (hA : 0 < n → ∀ j, A.map (·.block) = some j → j < B) : RdV w' A n vs :=
  ⟨h.len, fun hn => by
    obtain ⟨ad, e, hl, hc⟩ := h.cells hn
    refine ⟨ad, e, Nat.lt_of_lt_of_le hl hb.size, fun j v hj => (hb.cell (p := ad.add j) ?_).trans (hc j v hj)⟩
    rw [addr_add_block]
    exact hA hn _ (by rw [e]; rfl)⟩
theorem values_is (A : Option Addr) (n c : Nat) (w : World) : Calls Try.prog 35 #[.slice A n c] w fun e w' => e = .returned (.func (.func 51) #[] #[.pointer (some ⟨w.heap.size, 0, none⟩)]) ∧ w' = w.alloc (.cells #[.slice A n c] 24) := by
  go_enter Try.func35, Try.ntmps35
  go_wp2
  go_ret
  exact ⟨rfl, rfl⟩
theorem values_in (n l g : Nat) (A : Option Addr) (m c : Nat) (ms : List Int) (hm : m ≤ 1000000) (base : Nat) (J Jx : List Int → World → Prop)
    (hY : ∀ pre x W, J pre W → pre.length < m → YieldAt Fence.wide (n - 1) Try.prog l #[.int .i64 x] W fun e W' =>
      (e = .returned (.bool true) ∧ J (pre ++ [x]) W' ∧ Below base W W') ∨ (e = .returned (.bool false) ∧ Jx (pre ++ [x]) W'))
    (W : World) (h1 : Boxed W g 24 (.slice A m c)) (h2 : RdV W A m (ms.map IV)) (hA : 0 < m → ∀ j, A.map (·.block) = some j → j < base) (h0 : J [] W) :
    CallsIn Fence.wide n Try.prog 51 #[.func (.yield l) #[] #[], .pointer (some ⟨g, 0, none⟩)] W fun e W' => (∃ v, e = .returned v) ∧
      ((∃ ys, ys = ms ∧ J ys W') ∨ (∃ pre, True ∧ Jx pre W')) := by
  have hln : ms.length = m := by simpa using h2.len
  have hro : Fence.wide.round = none := rfl
  have hfn : ∀ f, Fence.wide.fn f := fun _ => trivial
  have H2 := Lib.hid (And.intro h2 hA)
  have hc1 := h1.cell
  clear h2 hA
  refine callsIn_of_wp Try.func51 rfl trivial ?_ rfl
  simp only [Try.ntmps51, List.size_toArray, List.length_cons, List.length_nil, Nat.reduceAdd, Nat.reduceSub, Array.replicate_succ, Array.replicate_zero, List.push_toArray, List.append_toArray, List.nil_append, List.cons_append]
  gi_wp2
  gi_loopw [7] (fun s7 wr => ∃ k : Nat, k ≤ m ∧ s7 = .int .i64 (k : Int) ∧ Hid (J (ms.take k) wr) ∧ Hid (Below base W wr)) (fun s7 _ => m - (intOf s7).toNat)
  case atStart => exact ⟨0, by omega, rfl, h0, Below.refl _ _⟩
  case round =>
    obtain ⟨k, hk, rfl, HJ, HB⟩ := hrel
    by_cases hlt : k < m
    · obtain ⟨y, hy⟩ : ∃ y, ms[k]? = some y := ⟨_, List.getElem?_eq_getElem (by rw [hln]; exact hlt)⟩
      obtain ⟨ad, rfl, _, hxc⟩ := (H2.out.1.under HB.out H2.out.2).cells (by omega)
      have e0 := hxc k (IV y) (by rw [List.getElem?_map, hy]; rfl)
      have hi1 : (0 : Int) ≤ (k : Int) := by omega
      have hi2 : (k : Int) < (m : Int) := by omega
      have hw1 : IntKind.i64.wrap ((k : Int) + 1) = (k : Int) + 1 := IntWalk.i64_in _ (by omega)
      obtain ⟨fn, tmps, assign, body, hyl, hR⟩ := hY (ms.take k) y wr HJ.out (by rw [List.length_take]; omega)
      have HT : Hid (ms.take (k + 1) = ms.take k ++ [y]) := by
        show _ = _
        rw [List.take_add_one, hy]
        rfl
      clear hy hxc
      gi_wp2
      refine ⟨fun e => (by cases e), hR.mono ?_⟩
      rintro e3 W3 (⟨rfl, hJ3, hk3⟩ | ⟨rfl, hJx3⟩)
      · gi_wp2
        go_roundw
        case rel => exact ⟨k + 1, by omega, by go_num, by rw [HT.out]; exact hJ3, HB.out.trans hk3⟩
        case measure => simp [intOf]; omega
      · gi_wp2
        refine bodyPost_ret (results_none rfl _ _ _) rfl ?_
        exact ⟨⟨_, rfl⟩, .inr ⟨_, trivial, hJx3⟩⟩
    · obtain rfl : k = m := by omega
      have hJ := HJ.out
      rw [List.take_of_length_le (by rw [hln]; exact Nat.le_refl _)] at hJ
      gi_wp2
      go_end0
      exact ⟨⟨_, rfl⟩, .inl ⟨_, rfl, hJ⟩⟩
theorem values_stops (n g : Nat) (A : Option Addr) (m c : Nat) (ms : List Int) (hm : m ≤ 1000000) (base : Nat) (w : World) (h1 : Boxed w g 24 (.slice A m c)) (h2 : RdV w A m (ms.map IV)) (hA : 0 < m → ∀ j, A.map (·.block) = some j → j < base) :
    SeqStopsK Fence.wide n Try.prog 51 #[.pointer (some ⟨g, 0, none⟩)] (fun x : Int => #[.int .i64 x]) (Below base) (fun ys => ys = ms) (fun _ => True) m w := fun l J Jx W hW _ _ hY h0 =>
  values_in n l g A m c ms hm base J Jx hY W ((hW.block g h1.lt).trans h1) (h2.below hW (Nat.le_refl _)) hA h0
/-- what AppendSeq's rounds keep -/
def ApI (w : World) (pre : List Int) (W : World) : Prop := (∃ A c, Boxed W w.heap.size 24 (.slice A pre.length c) ∧ OwnV W w.heap.size 3 A pre.length c (pre.map IV)) ∧ Below w.heap.size w W
theorem own_at {W W' : World} {row : Option Nat} {base E : Nat} {A : Option Addr} {n c : Nat} {l : List Value} (h : OwnV W base E A n c l) (hg : W.grownBy W' row) (hr : ∀ r, row = some r → ∃ o : Obj, W.heap[r]? = some o ∧ o.isCells = false) : OwnV W' base E A n c l := by
  refine h.kept hg ?_
  cases hA : A.map (·.block) with
  | none => exact .inl rfl
  | some j =>
    refine .inr fun e => ?_
    obtain ⟨o, ho, hc⟩ := hr j e.symm
    obtain ⟨cur, hg2⟩ := h.typ hA
    rw [hg2] at ho
    injection ho with ho
    subst ho
    cases hc
theorem box_at {W W' : World} {row : Option Nat} {b : Nat} {t : TypeId} {v : Value} (h : Boxed W b t v) (hg : W.grownBy W' row) (hr : ∀ r, row = some r → ∃ o : Obj, W.heap[r]? = some o ∧ o.isCells = false) : Boxed W' b t v :=
  h.kept hg fun e => by
    obtain ⟨o, ho, hc⟩ := hr b e.symm
    rw [show W.heap[b]? = _ from h] at ho
    injection ho with ho
    subst ho
    cases hc
theorem apI_own (w : World) (C : Nat) (hC : w.heap.size ≤ C) : OwnFrom C (ApI w) :=
  OwnFrom.and (Own.from (fun s X Y row hs hg hr => by
    obtain ⟨A, c, h1, h2⟩ := hs
    exact ⟨A, c, box_at h1 hg hr, own_at h2 hg hr⟩) _) (ownFrom_below (Nat.le_refl _) hC)
theorem own_map (A : Option Addr) (n c : Nat) : (Value.slice A n c).ownBlock = A.map (·.block) := by cases A <;> rfl
theorem ap_step {w W w3 : World} {A1 : Option Addr} {pl c1 : Nat} {pre : List Int} {x : Int} {v' : Value} (h1 : Boxed W w.heap.size 24 (.slice A1 pl c1)) (h2 : OwnV W w.heap.size 3 A1 pl c1 (pre.map IV)) (h3 : w3.ownsRow w.heap.size 3 1 v' (pl + 1) (pre.map IV ++ [.int .i64 x])) (hg : (W.alloc (.cells #[.int .i64 x] 3)).grownBy w3 (Value.slice A1 pl c1).ownBlock) :
    ∃ A' c', v' = .slice A' (pl + 1) c' ∧ w3.cell? ⟨w.heap.size, 0, none⟩ = some (.slice A1 pl c1) ∧ w3.frozen? ⟨w.heap.size, 0, none⟩ = false ∧ Hid (w3.ownsRow w.heap.size 3 1 (.slice A' (pl + 1) c') (pl + 1) (pre.map IV ++ [.int .i64 x]) ∧ (W.alloc (.cells #[.int .i64 x] 3)).grownBy w3 (Value.slice A1 pl c1).ownBlock ∧ Boxed w3 w.heap.size 24 (.slice A1 pl c1)) := by
  obtain ⟨A', c', rfl⟩ : ∃ A' c', v' = .slice A' (pl + 1) c' := by
    rcases h3.2 with ⟨_, h0⟩ | ⟨g', cap', _, h', _⟩
    · exact absurd h0 (by omega)
    · exact ⟨_, _, h'⟩
  have hb3 : Boxed w3 w.heap.size 24 (.slice A1 pl c1) := (h1.alloc (.cells #[.int .i64 x] 3)).kept hg ((h1.alloc (.cells #[.int .i64 x] 3)).not_row (by decide) (h2.row.alloc (.cells #[.int .i64 x] 3)))
  exact ⟨A', c', rfl, hb3.cell, hb3.frozen, ⟨h3, hg, hb3⟩⟩
set_option maxHeartbeats 2000000 in
theorem appendSeq_is (g : Nat) (A : Option Addr) (m c : Nat) (ms : List Int) (hm : m ≤ 1000000) (w : World) (h1 : Boxed w g 24 (.slice A m c)) (h2 : RdV w A m (ms.map IV)) :
    CallsIn Fence.wide 4 Try.prog 63 #[.slice none 0 0, .func (.func 51) #[] #[.pointer (some ⟨g, 0, none⟩)]] w (Ints w ms) := by
  have hro : Fence.wide.round = none := rfl
  have hfn : ∀ f, Fence.wide.fn f := fun _ => trivial
  obtain ⟨i0, hi0, hz0, hz1, hz2⟩ := info_parts info3
  have HI := Lib.hid (And.intro hi0 (And.intro hz0 (And.intro hz1 hz2)))
  have hA : 0 < m → ∀ j, A.map (·.block) = some j → j < w.heap.size := fun h0 j hj => by
    obtain ⟨ad, e, hl, _⟩ := h2.cells h0
    rw [e] at hj
    simp at hj
    omega
  obtain ⟨wa, hwa⟩ : ∃ wa, w.alloc (.cells #[.slice none 0 0] 24) = wa := ⟨_, rfl⟩
  have hba : Below w.heap.size w wa := by rw [← hwa]; exact (Below.refl _ w).alloc (Nat.le_refl _) _
  have hbx : Boxed wa w.heap.size 24 (.slice none 0 0) := by rw [← hwa]; exact Boxed.new w _ _
  have hsz : wa.heap.size = w.heap.size + 1 := by rw [← hwa]; simp
  have HV := Lib.hid (values_stops (4 - 1) g A m c ms hm w.heap.size wa ((hba.block g h1.lt).trans h1) (h2.below hba (Nat.le_refl _)) hA)
  have HA := Lib.hid (And.intro hba (And.intro hbx hsz))
  clear hi0 hz0 hz1 hz2 h1 h2 hA hba hbx hsz
  refine callsIn_of_wp_marks Try.func63 rfl trivial ?_ hro
  simp only [Try.ntmps63, List.size_toArray, List.length_cons, List.length_nil, Nat.reduceAdd, Nat.reduceSub, Array.replicate_succ, Array.replicate_zero, List.push_toArray, List.append_toArray, List.nil_append, List.cons_append]
  gi_wp2
  (try rw [hwa])
  clear hwa
  refine wpIn_rangeFunc_ownG hro (by omega) (gf := 51) (lb := #[.pointer (some ⟨g, 0, none⟩)]) rfl trivial (enters_of Try.func51 (by kernel_rfl) rfl)
    HV.out (fun h h' => h.trans h') (fun W l' o o' hl ho hc hw => belowK_b (w := wa) (by have := HA.out.2.2; omega) W l' o o' hl ho hc hw) (Below.refl _ _) (fun _ => rfl)
    (ApI w) (fun _ _ _ => False) (apI_own w _ (by have := HA.out.2.2; omega)) (fun _ _ _ _ _ hs _ _ => hs)
    ⟨⟨none, 0, HA.out.2.1, OwnV.nil _ _ _⟩, HA.out.1⟩
    (fun x => { tmps := #[.slice none 0 0, .func (.func 51) #[] #[.pointer (some ⟨g, 0, none⟩)], .pointer (some ⟨w.heap.size, 0, none⟩), undef, .slice none 0 0, .int .i64 x, .func (.func 51) #[] #[.pointer (some ⟨g, 0, none⟩)], .int .i64 x, undef, undef, undef, undef, undef], defers := [] }) ?assign ?body ?done ?stop
  case assign =>
    intro l' x W Kx hKx
    gi_wp2
    exact hKx
  case body =>
    intro l' pre x W hI hlt
    obtain ⟨⟨A1, c1, hb1, hO1⟩, hBW⟩ := hI
    obtain ⟨pl, hpl⟩ : ∃ pl, pre.length = pl := ⟨_, rfl⟩
    rw [hpl] at hb1 hO1 hlt
    have hcb := hb1.cell
    have hws := hBW.size
    have HO := Lib.hid (And.intro hb1 (And.intro hO1 (And.intro hBW hpl)))
    clear hb1 hO1 hBW hpl
    gi_wp2_with (gi_at_builtin; refine wpListIn_append_own _ rfl _ _ 24 rfl w.heap.size 3 i0 (.int .i64 0) 1 8 Try.underlying24 HI.out.1 HI.out.2.1 HI.out.2.2.1 HI.out.2.2.2 rfl (by decide) _ _ _ rfl (HO.out.2.1.row.alloc _) ⟨W.heap.size, 0, none⟩ 1 1 [.int .i64 x] rfl rfl (cell_one_new _ _ _) (by simp [Value.oneCell']) (by unfold maxLen; omega) (by omega) (by simp; omega) ?_; intro v' w3 hown' hg3 hnil3; obtain ⟨A', c', rfl, hcb3, hfz3, HW3⟩ := ap_step HO.out.1 HO.out.2.1 hown' hg3; clear hown' hg3 hnil3)
    have hO3 : OwnV w3 w.heap.size 3 A' (pl + 1) c' ((pre ++ [x]).map IV) := ⟨by simp [HO.out.2.2.2], by rw [List.map_append]; exact HW3.out.1⟩
    have hg3 := HW3.out.2.1
    rw [own_map] at hg3
    have hne : A'.map (·.block) ≠ some w.heap.size := fun e => by
      obtain ⟨cur, hc⟩ := hO3.typ e
      rw [show w3.heap[w.heap.size]? = _ from HW3.out.2.2] at hc
      injection hc with hc
      injection hc with _ hc _
      exact absurd hc (by decide)
    have hb3 : Below w.heap.size W w3 := ((Below.refl w.heap.size W).alloc hws _).grown hg3 (by simp; omega) (fun j hj => (HO.out.2.1.block j hj).1)
    have hb4 : Below w.heap.size W (w3.setCell ⟨w.heap.size, 0, none⟩ (.slice A' (pl + 1) c')) := hb3.setCell (Nat.le_refl _) _
    refine ⟨KeepsOthers.from (((KeepsOthers.alloc _ _).trans (KeepsOthers.of_grownBy hg3 fun j o ej hj => ?_)).trans (KeepsOthers.setCell _ _ _)) _, hb4, ⟨A', c', ?_, ?_⟩, HO.out.2.2.1.trans (hb4.mono (Nat.le_refl _))⟩
    · obtain ⟨cur, hc⟩ := (HO.out.2.1.alloc (.cells #[.int .i64 x] 3)).typ ej
      rw [hc] at hj
      injection hj with hj
      subst hj
      rfl
    · rw [List.length_append, HO.out.2.2.2]
      exact HW3.out.2.2.set _
    · rw [List.length_append, HO.out.2.2.2]
      exact hO3.kept (grownBy_setCell' w3 w.heap.size _) (.inr hne)
  case done =>
    rintro D ys W hD rfl hI hKd
    obtain ⟨⟨A1, c1, hb1, hT1⟩, hBW1⟩ := hI
    have hcc := hb1.cell
    gi_wp2
    refine ⟨by simp, .inl ⟨_, _, rfl, run_takeDeferred hKd, ?_⟩⟩
    refine ⟨_, results_tmp rfl _ _ _, A1, c1, rfl, ?_, ?_⟩
    · exact own_at hT1 (grownBy_putObj' W D _) (fun r er => by cases er; exact ⟨_, hKd, rfl⟩)
    · exact hBW1.trans (belowK_b (w := w) (Nat.le_refl _) W D _ _ (by have := HA.out.2.2; omega) hKd rfl rfl)
  case stop =>
    rintro D c pre W _ _ h _
    exact h.elim
theorem collect_is (g : Nat) (A : Option Addr) (m c : Nat) (ms : List Int) (hm : m ≤ 1000000) (w : World) (h1 : Boxed w g 24 (.slice A m c)) (h2 : RdV w A m (ms.map IV)) :
    Calls Try.prog 49 #[.func (.func 51) #[] #[.pointer (some ⟨g, 0, none⟩)]] w (Ints w ms) := by
  have hro : Fence.wide.round = none := rfl
  have hfn : ∀ f, Fence.wide.fn f := fun _ => trivial
  have H := Lib.hid (appendSeq_is g A m c ms hm w h1 h2)
  clear h1 h2
  refine (callsIn_wide (n := 5)).1 ?_
  refine callsIn_of_wp Try.func49 rfl trivial ?_ hro
  simp only [Try.ntmps49, List.size_toArray, List.length_cons, List.length_nil, Nat.reduceAdd, Nat.reduceSub, Array.replicate_succ, Array.replicate_zero, List.push_toArray, List.append_toArray, List.nil_append, List.cons_append]
  gi_wp2_with (gi_at_call 63; refine H.out.mono ?_; rintro e w' ⟨A', c', rfl, ho, hb⟩)
  go_ret
  exact ⟨A', c', rfl, ho, hb⟩
theorem sort_own {base : Nat} {A : Option Addr} {n c : Nat} {ms : List Int} {w : World} (h : OwnV w base 3 A n c (ms.map IV)) (hn : n ≤ 1000000) (hB : base ≤ w.heap.size) :
    Calls Try.prog 50 #[.slice A n c] w fun e w' => e = .returned (.tuple #[]) ∧ OwnV w' base 3 A n c ((srt ms).map IV) ∧ Below base w w' := by
  have hln : ms.length = n := by simpa using h.len
  rcases h.row.2 with ⟨hv, h0⟩ | ⟨g, cap, cur, hv, hb, hg, r1, r2, r3, r4⟩
  · injection hv with hA _ hc
    subst hA hc
    subst h0
    obtain rfl : ms = [] := List.eq_nil_of_length_eq_zero hln
    refine (Any.slices_Sort_int_none lays189 none 0 w).mono ?_
    rintro e w' ⟨rfl, rfl⟩
    exact ⟨rfl, by simpa [srt] using h, Below.refl _ _⟩
  · injection hv with hA _ hc
    subst hA hc
    subst hln
    have hgl : g < w.heap.size := (Array.getElem?_eq_some_iff.1 hg).1
    refine (sort_is g 0 c ms w (holds_of_block_i hg (by simpa using r4)) hgl (by omega)).mono ?_
    rintro e w' ⟨rfl, n', os, rfl⟩
    refine ⟨rfl, ⟨by simp [srt], ownsRow_sorted_i (List.length_mergeSort ..) hb hg r1 r2 r3⟩, ?_⟩
    exact (Below.refl base w).grown (grownBy_sorted_i _) hB (fun j hj => by cases hj; exact hb)
theorem sorted_is (g : Nat) (A : Option Addr) (m c : Nat) (ms : List Int) (hm : m ≤ 1000000) (w : World) (h1 : Boxed w g 24 (.slice A m c)) (h2 : RdV w A m (ms.map IV)) {ss : List Int} (hss : srt ms = ss) :
    Calls Try.prog 34 #[.func (.func 51) #[] #[.pointer (some ⟨g, 0, none⟩)]] w (Ints w ss) := by
  have hln : ms.length = m := by simpa using h2.len
  subst hln
  have hl : ss.length = ms.length := hss ▸ List.length_mergeSort ..
  have H := Lib.hid (collect_is g A _ c ms hm w h1 h2)
  have HS := Lib.hid hss
  have HL := Lib.hid hl
  clear h1 h2 hss hl
  go_enter Try.func34, Try.ntmps34
  go_wp2_with fail
  refine H.out.mono ?_
  rintro e w1 ⟨A', c', rfl, ho, hb⟩
  have HO := Lib.hid (And.intro ho hb)
  clear ho hb
  go_wp2_with fail
  refine (sort_own HO.out.1 (by omega) HO.out.2.size).mono ?_
  rintro e w2 ⟨rfl, ho2, hb2⟩
  rw [HS.out, ← HL.out] at ho2
  have HZ := Lib.hid (And.intro ho2 (HO.out.2.trans hb2))
  clear ho2 hb2
  go_wp2
  go_ret
  exact ⟨A', c', by rw [HL.out]; rfl, HZ.out.1, HZ.out.2⟩
end Go.Proofs.Ytkkpfehgobanbaa
