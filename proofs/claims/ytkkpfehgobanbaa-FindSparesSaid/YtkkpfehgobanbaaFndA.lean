/- The small ones of a find: fits, may; slices.Clone, SameInts at ints. -/
import Derived.Test.YtkkpfehgobanbaaRows
import Derived.Test.YtkkpfehgobanbaaRwK
import Derived.Test.YtkkpfehgobanbaaFndP
import Derived.Shelf.RegionOpenPlain
import Derived.Deep.LoopGhost
import Derived.Lib.SliceRun
import Derived.Deep.QuietTactic
import Derived.BigQuiet
import Derived.LaidEqlPtr
import Derived.Laws.ResultCell
import Derived.Deep.Upon
import Derived.WalkSpells
import Derived.WalkLawsBesides
namespace Go.Proofs.Ytkkpfehgobanbaa
open Go.RowKit Go.Coop
set_option maxRecDepth 100000
section
variable (w : World)
theorem fits_q (n least most : Int) {q : Bool} (hq : decide (least ≤ n ∧ n ≤ most) = q) : Calls Try.prog 47 #[.int .i64 n, .int .i64 least, .int .i64 most] w fun e w' => e = .returned (.bool q) ∧ w = w' := by
  by_cases h1 : least ≤ n
  · by_cases h2 : n ≤ most
    · obtain rfl : q = true := by rw [← hq]; simp; omega
      clear hq
      go_enter Try.func47, Try.ntmps47
      go_wp2
      go_ret
      exact ⟨rfl, rfl⟩
    · obtain rfl : q = false := by rw [← hq]; simp; omega
      clear hq
      go_enter Try.func47, Try.ntmps47
      go_wp2
      go_ret
      exact ⟨rfl, rfl⟩
  · obtain rfl : q = false := by rw [← hq]; simp; omega
    clear hq
    go_enter Try.func47, Try.ntmps47
    go_wp2
    go_ret
    exact ⟨rfl, rfl⟩
theorem may_q (s v n need : Int) {q : Bool} (hq : decide (MayF s v n need) = q) : Calls Try.prog 30 #[.int .i64 s, .int .i64 v, .int .i64 n, .int .i64 need] w fun e w' => e = .returned (.bool q) ∧ w = w' := by
  by_cases h0 : 0 ≤ s ∧ s ≤ 1099511627776
  · have k0 := Lib.hid (decide_eq_true h0)
    by_cases h1 : 1 ≤ v ∧ v ≤ 1099511627776
    · have k1 := Lib.hid (decide_eq_true h1)
      by_cases h2 : 1 ≤ n ∧ n ≤ 255
      · have k2 := Lib.hid (decide_eq_true h2)
        by_cases h3 : 1 ≤ need ∧ need ≤ n
        · have k3 := Lib.hid (decide_eq_true h3)
          obtain rfl : q = true := by rw [← hq]; exact decide_eq_true ⟨h0, h1, h2, h3⟩
          clear hq h0 h1 h2 h3
          go_enter Try.func30, Try.ntmps30
          go_wp2_with fail
          refine (fits_q _ s 0 1099511627776 k0.out).mono ?_
          rintro e w' ⟨rfl, rfl⟩
          go_wp2_with fail
          refine (fits_q _ v 1 1099511627776 k1.out).mono ?_
          rintro e w' ⟨rfl, rfl⟩
          go_wp2_with fail
          refine (fits_q _ n 1 255 k2.out).mono ?_
          rintro e w' ⟨rfl, rfl⟩
          go_wp2_with fail
          refine (fits_q _ need 1 n k3.out).mono ?_
          rintro e w' ⟨rfl, rfl⟩
          go_wp2
          go_ret
          exact ⟨rfl, rfl⟩
        · have k3 := Lib.hid (decide_eq_false h3)
          obtain rfl : q = false := by rw [← hq]; exact decide_eq_false (fun h => h3 h.2.2.2)
          clear hq h0 h1 h2 h3
          go_enter Try.func30, Try.ntmps30
          go_wp2_with fail
          refine (fits_q _ s 0 1099511627776 k0.out).mono ?_
          rintro e w' ⟨rfl, rfl⟩
          go_wp2_with fail
          refine (fits_q _ v 1 1099511627776 k1.out).mono ?_
          rintro e w' ⟨rfl, rfl⟩
          go_wp2_with fail
          refine (fits_q _ n 1 255 k2.out).mono ?_
          rintro e w' ⟨rfl, rfl⟩
          go_wp2_with fail
          refine (fits_q _ need 1 n k3.out).mono ?_
          rintro e w' ⟨rfl, rfl⟩
          go_wp2
          go_ret
          exact ⟨rfl, rfl⟩
      · have k2 := Lib.hid (decide_eq_false h2)
        obtain rfl : q = false := by rw [← hq]; exact decide_eq_false (fun h => h2 h.2.2.1)
        clear hq h0 h1 h2
        go_enter Try.func30, Try.ntmps30
        go_wp2_with fail
        refine (fits_q _ s 0 1099511627776 k0.out).mono ?_
        rintro e w' ⟨rfl, rfl⟩
        go_wp2_with fail
        refine (fits_q _ v 1 1099511627776 k1.out).mono ?_
        rintro e w' ⟨rfl, rfl⟩
        go_wp2_with fail
        refine (fits_q _ n 1 255 k2.out).mono ?_
        rintro e w' ⟨rfl, rfl⟩
        go_wp2
        go_ret
        exact ⟨rfl, rfl⟩
    · have k1 := Lib.hid (decide_eq_false h1)
      obtain rfl : q = false := by rw [← hq]; exact decide_eq_false (fun h => h1 h.2.1)
      clear hq h0 h1
      go_enter Try.func30, Try.ntmps30
      go_wp2_with fail
      refine (fits_q _ s 0 1099511627776 k0.out).mono ?_
      rintro e w' ⟨rfl, rfl⟩
      go_wp2_with fail
      refine (fits_q _ v 1 1099511627776 k1.out).mono ?_
      rintro e w' ⟨rfl, rfl⟩
      go_wp2
      go_ret
      exact ⟨rfl, rfl⟩
  · have k0 := Lib.hid (decide_eq_false h0)
    obtain rfl : q = false := by rw [← hq]; exact decide_eq_false (fun h => h0 h.1)
    clear hq h0
    go_enter Try.func30, Try.ntmps30
    go_wp2_with fail
    refine (fits_q _ s 0 1099511627776 k0.out).mono ?_
    rintro e w' ⟨rfl, rfl⟩
    go_wp2
    go_ret
    exact ⟨rfl, rfl⟩
end
theorem _root_.Go.Coop.OwnV.lower' {w : World} {base base' E : Nat} {A : Option Addr} {n c : Nat} {l : List Value} (h : OwnV w base E A n c l) (hb : base' ≤ base) : OwnV w base' E A n c l := by
  refine ⟨h.len, h.row.1, ?_⟩
  rcases h.row.2 with h0 | ⟨g, cap, cur, hv, hbg, hg, r⟩
  · exact .inl h0
  · exact .inr ⟨g, cap, cur, hv, Nat.le_trans hb hbg, hg, r⟩
theorem _root_.Go.Coop.OwnV.but {gs : List Nat} {w w' : World} {base E : Nat} {A : Option Addr} {n c : Nat} {l : List Value} (h : OwnV w base E A n c l) (hb : Go.Coop.But gs w w') (hn : ∀ j, A.map (·.block) = some j → j ∉ gs) : OwnV w' base E A n c l := by
  refine ⟨h.len, h.row.1, ?_⟩
  rcases h.row.2 with h0 | ⟨g, cap, cur, hv, hbg, hg, r⟩
  · exact .inl h0
  · injection hv with hA h2 h3
    subst hA h3
    exact .inr ⟨g, c, cur, rfl, hbg, hb.cells hg (hn g rfl), r⟩
theorem _root_.Go.Coop.OwnV.typ {w : World} {base E : Nat} {A : Option Addr} {n c : Nat} {l : List Value} (h : OwnV w base E A n c l) {j : Nat} (hj : A.map (·.block) = some j) : ∃ cur, w.heap[j]? = some (.cells cur E (0, 0)) := by
  rcases h.row.2 with ⟨hv, _⟩ | ⟨g, cap, cur, hv, hbg, hg, r⟩
  · injection hv with hA h2 h3
    subst hA
    cases hj
  · injection hv with hA h2 h3
    subst hA
    injection hj with hj
    subst hj
    exact ⟨cur, hg⟩
theorem ivs_one (l : List Int) : ∀ u ∈ l.map IV, u.oneCell' = true := by
  intro u hu
  obtain ⟨x, _, rfl⟩ := List.mem_map.1 hu
  rfl
/-- a list of ints of one's own is told -/
def Ints (w : World) (l : List Int) (e : Ending) (w' : World) : Prop := ∃ A c, e = .returned (.slice A l.length c) ∧ OwnV w' w.heap.size 3 A l.length c (l.map IV) ∧ Below w.heap.size w w'
section
variable (w : World)
theorem clone_none (n c : Nat) : Calls Try.prog 52 #[.slice none n c] w fun e w' => e = .returned (.slice none 0 0) ∧ w = w' := by
  have q30 : ∀ (w : World) (a : Option Addr) (n c n' c' : Nat), (binOp .eql 24 (.slice a n c) (.slice none n' c')).run Try.prog w = .ok (.bool a.isNone) w := fun w a n c n' c' => Lib.run_eql_slice_nil w _ _ a n c n' c' Try.underlying24
  go_enter Try.func52, Try.ntmps52
  go_wp2
  go_ret
  exact ⟨rfl, rfl⟩
theorem clone_is {A : Option Addr} {n c : Nat} {l : List Int} (h : RdV w A n (l.map IV)) (hm : n ≤ 1000000) : Calls Try.prog 52 #[.slice A n c] w (Ints w l) := by
  have hln : l.length = n := by simpa using h.len
  cases A with
  | none =>
    have h0 : n = 0 := by
      rcases Nat.eq_zero_or_pos n with h0 | h0
      · exact h0
      · obtain ⟨_, e, _⟩ := h.cells h0
        cases e
    have hl0 : l = [] := List.eq_nil_of_length_eq_zero (by omega)
    subst hl0
    exact (clone_none w n c).mono fun e w' ⟨he, hw⟩ => ⟨none, 0, he, OwnV.nil _ _ _, hw ▸ Below.refl _ _⟩
  | some a =>
    have q30 : ∀ (w : World) (a : Option Addr) (n c n' c' : Nat), (binOp .eql 24 (.slice a n c) (.slice none n' c')).run Try.prog w = .ok (.bool a.isNone) w := fun w a n c n' c' => Lib.run_eql_slice_nil w _ _ a n c n' c' Try.underlying24
    obtain ⟨i0, hi0, hz0, hz1, hz2⟩ := info_parts info3
    have HH := Lib.hid (And.intro h hln)
    have HI := Lib.hid (And.intro hi0 (And.intro hz0 (And.intro hz1 hz2)))
    clear h hln hi0 hz0 hz1 hz2
    go_enter Try.func52, Try.ntmps52
    go_wp2_with (at_builtin; refine wpList_append_own _ rfl _ _ 24 rfl w.heap.size 3 i0 (.int .i64 0) 1 8 Try.underlying24 HI.out.1 HI.out.2.1 HI.out.2.2.1 HI.out.2.2.2 rfl (by omega) _ _ _ rfl (World.ownsRow_made w #[] 0 (Nat.le_refl _) (Nat.zero_le _) (by simp)) a n c (l.map IV) rfl ?qc1 ?qc2 ?qc3 ?qc4 ?qc5 ?qc6 ?_)
    case qc1 => rw [List.length_map, HH.out.2, Nat.mul_one]
    case qc2 =>
      intro j u hj
      have hjl := (List.getElem?_eq_some_iff.1 hj).1
      obtain ⟨ad, e, _, hc⟩ := HH.out.1.cells (by rw [List.length_map, HH.out.2] at hjl; omega)
      injection e with e
      subst e
      exact Lib.cell?_alloc_some _ (hc j u hj)
    case qc3 => exact ivs_one l
    case qc4 => rw [Nat.zero_add]; unfold maxLen; omega
    case qc5 => rw [Nat.zero_add]; omega
    case qc6 => simp
    intro v' w1 hown hgrow hnil
    go_wp2
    go_ret
    have hown : w1.ownsRow w.heap.size 3 1 v' n (l.map IV) := by simpa using hown
    obtain ⟨A', c', rfl⟩ : ∃ A' c', v' = .slice A' n c' := by
      rcases hown.2 with ⟨rfl, h0⟩ | ⟨g, cap, cur, rfl, _⟩
      · exact ⟨none, 0, by rw [h0]⟩
      · exact ⟨_, _, rfl⟩
    refine ⟨A', c', by rw [HH.out.2]; rfl, ⟨by simp, by rw [HH.out.2]; exact hown⟩, ?_⟩
    exact ((Below.refl _ w).alloc (Nat.le_refl _) _).grown hgrow (by simp) (by intro k hk; simp [Value.ownBlock] at hk; omega)
theorem box_mk {w w1 : World} {o : Obj} (h : w.alloc o = w1) : Below w.heap.size w w1 ∧ w1.heap[w.heap.size]? = some o := by
  subst h
  exact ⟨(Below.refl _ _).alloc (Nat.le_refl _) _, heap_alloc_new _ _⟩
theorem sameInts_is {A X : Option Addr} {n m ca cx : Nat} {l k : List Int} (hA : RdV w A n (l.map IV)) (hX : RdV w X m (k.map IV)) (hn : n ≤ 1000000) {q : Bool} (hq : decide (l = k) = q) : Calls Try.prog 16 #[.slice A n ca, .slice X m cx] w fun e w' => e = .returned (.bool q) ∧ ∃ d, w' = w.drewN d := by
  have hln : l.length = n := by have := hA.len; simpa using this
  have hlm : k.length = m := by have := hX.len; simpa using this
  by_cases hnm : n = m
  · subst hnm
    have mixed : Try.prog.follows Departure.mixedOrders = true := by kernel_rfl
    have H := Lib.hid (And.intro hA (And.intro hX (And.intro hln (And.intro hlm hq))))
    clear hA hX hln hlm hq
    go_enter Try.func16, Try.ntmps16
    go_wp2
    go_loopw [5] (fun s5 wr => ∃ j d : Nat, j ≤ n ∧ s5 = .int .i64 j ∧ wr = w.drewN d ∧ Hid (l.take j = k.take j)) (fun s5 _ => n - (Go.RowKit.intOf s5).toNat)
    case atStart => exact ⟨0, 0, by omega, rfl, rfl, (by simp : l.take 0 = k.take 0)⟩
    case round =>
      obtain ⟨j, d, hj, rfl, rfl, HT⟩ := hrel
      by_cases hlt : j < n
      · obtain ⟨x, hx⟩ : ∃ x, l[j]? = some x := ⟨_, List.getElem?_eq_getElem (by rw [H.out.2.2.1]; exact hlt)⟩
        obtain ⟨y, hy⟩ : ∃ y, k[j]? = some y := ⟨_, List.getElem?_eq_getElem (by rw [H.out.2.2.2.1]; exact hlt)⟩
        obtain ⟨ad, rfl, hadl, hxc⟩ := H.out.1.cells (by omega)
        have d0 := hxc j (IV x) (by rw [List.getElem?_map, hx]; rfl)
        obtain ⟨ad', rfl, hadl', hxc'⟩ := H.out.2.1.cells (by omega)
        have e0 := hxc' j (IV y) (by rw [List.getElem?_map, hy]; rfl)
        have hi1 : (0 : Int) ≤ (j : Int) := by omega
        have hi2 : (j : Int) < (n : Int) := by omega
        have hw1 : IntKind.i64.wrap ((j : Int) + 1) = (j : Int) + 1 := IntWalk.i64_in _ (by omega)
        by_cases hb : x = y
        · subst hb
          have HX := Lib.hid (And.intro hx (And.intro hy hlt))
          clear hx hy hlt hxc hxc' hadl hadl'
          go_wp2
          go_quiet (fail)
          go_wp2
          go_roundw
          case rel =>
            refine ⟨j + 1, _, by have := HX.out.2.2; omega, by go_num, rfl, ?_⟩
            show l.take (j + 1) = k.take (j + 1)
            rw [List.take_add_one, List.take_add_one, HX.out.1, HX.out.2.1, HT.out]
          case measure => have := HX.out.2.2; simp [Go.RowKit.intOf]; omega
        · have hbb : (x == y) = false := by simpa using hb
          have HX : Hid (q = false) := by
            show q = false
            rw [← H.out.2.2.2.2]
            simp
            rintro rfl
            rw [hx] at hy
            injection hy with hy
            exact hb hy
          clear hx hy hlt hb hxc hxc' hadl hadl'
          go_wp2
          go_quiet (fail)
          go_wp2
          go_ret
          rw [HX.out]
          exact ⟨rfl, d + nq, by simp⟩
      · obtain rfl : j = n := by omega
        go_wp2
        go_ret
        have e : l = k := by
          have := HT.out
          rwa [List.take_of_length_le (by rw [H.out.2.2.1]; exact Nat.le_refl _), List.take_of_length_le (by rw [H.out.2.2.2.1]; exact Nat.le_refl _)] at this
        rw [← H.out.2.2.2.2]
        exact ⟨by simp [e], d, rfl⟩
  · have hq' : q = false := by
      rw [← hq]
      simp
      rintro rfl
      omega
    subst hq'
    have hb : ((n : Int) == (m : Int)) = false := by simp; omega
    clear hA hX hln hlm hq hnm
    go_enter Try.func16, Try.ntmps16
    go_wp2
    go_ret
    exact ⟨rfl, 0, rfl⟩
theorem equal_is {A X : Option Addr} {n m ca cx : Nat} {l k : List Int} (hA : RdV w A n (l.map IV)) (hX : RdV w X m (k.map IV)) (hn : n ≤ 1000000) {q : Bool} (hq : decide (l = k) = q) : Calls Try.prog 33 #[.slice A n ca, .slice X m cx] w fun e w' => e = .returned (.bool q) ∧ ∃ d, w' = w.drewN d := by
  have hln : l.length = n := by have := hA.len; simpa using this
  have hlm : k.length = m := by have := hX.len; simpa using this
  by_cases hnm : n = m
  · subst hnm
    have mixed : Try.prog.follows Departure.mixedOrders = true := by kernel_rfl
    have H := Lib.hid (And.intro hA (And.intro hX (And.intro hln (And.intro hlm hq))))
    clear hA hX hln hlm hq
    go_enter Try.func33, Try.ntmps33
    go_wp2
    go_loopw [5, 13] (fun _ s5 wr => ∃ j d : Nat, j ≤ n ∧ s5 = .int .i64 j ∧ wr = w.drewN d ∧ Hid (l.take j = k.take j)) (fun _ s5 _ => n - (Go.RowKit.intOf s5).toNat)
    case atStart => exact ⟨0, 0, by omega, rfl, rfl, (by simp : l.take 0 = k.take 0)⟩
    case round =>
      obtain ⟨j, d, hj, rfl, rfl, HT⟩ := hrel
      by_cases hlt : j < n
      · obtain ⟨x, hx⟩ : ∃ x, l[j]? = some x := ⟨_, List.getElem?_eq_getElem (by rw [H.out.2.2.1]; exact hlt)⟩
        obtain ⟨y, hy⟩ : ∃ y, k[j]? = some y := ⟨_, List.getElem?_eq_getElem (by rw [H.out.2.2.2.1]; exact hlt)⟩
        obtain ⟨ad, rfl, hadl, hxc⟩ := H.out.1.cells (by omega)
        have d0 := hxc j (IV x) (by rw [List.getElem?_map, hx]; rfl)
        obtain ⟨ad', rfl, hadl', hxc'⟩ := H.out.2.1.cells (by omega)
        have e0 := hxc' j (IV y) (by rw [List.getElem?_map, hy]; rfl)
        have hi1 : (0 : Int) ≤ (j : Int) := by omega
        have hi2 : (j : Int) < (n : Int) := by omega
        have hw1 : IntKind.i64.wrap ((j : Int) + 1) = (j : Int) + 1 := IntWalk.i64_in _ (by omega)
        by_cases hb : x = y
        · subst hb
          have HX := Lib.hid (And.intro hx (And.intro hy hlt))
          clear hx hy hlt hxc hxc' hadl hadl'
          go_wp2
          go_quiet (fail)
          go_wp2
          go_roundw
          case rel =>
            refine ⟨j + 1, _, by have := HX.out.2.2; omega, by go_num, rfl, ?_⟩
            show l.take (j + 1) = k.take (j + 1)
            rw [List.take_add_one, List.take_add_one, HX.out.1, HX.out.2.1, HT.out]
          case measure => have := HX.out.2.2; simp [Go.RowKit.intOf]; omega
        · have hbb : (x == y) = false := by simpa using hb
          have HX : Hid (q = false) := by
            show q = false
            rw [← H.out.2.2.2.2]
            simp
            rintro rfl
            rw [hx] at hy
            injection hy with hy
            exact hb hy
          clear hx hy hlt hb hxc hxc' hadl hadl'
          go_wp2
          go_quiet (fail)
          go_wp2
          go_ret
          rw [HX.out]
          exact ⟨rfl, d + nq, by simp⟩
      · obtain rfl : j = n := by omega
        go_wp2
        go_ret
        have e : l = k := by
          have := HT.out
          rwa [List.take_of_length_le (by rw [H.out.2.2.1]; exact Nat.le_refl _), List.take_of_length_le (by rw [H.out.2.2.2.1]; exact Nat.le_refl _)] at this
        rw [← H.out.2.2.2.2]
        exact ⟨by simp [e], d, rfl⟩
  · have hq' : q = false := by
      rw [← hq]
      simp
      rintro rfl
      omega
    subst hq'
    have hb : ((n : Int) == (m : Int)) = false := by simp; omega
    clear hA hX hln hlm hq hnm
    go_enter Try.func33, Try.ntmps33
    go_wp2
    go_ret
    exact ⟨rfl, 0, rfl⟩
/-- the closure that gathers -/
theorem gather_is {A : Option Addr} {n c : Nat} {ms : List Int} (hA : RdV w A n (ms.map IV)) (hn : n ≤ 1000000) {g : Nat} (hg : w.cell? ⟨g, 0, none⟩ = some (.slice A n c)) (k : Int) : Calls Try.prog 48 #[.int .i64 k, .pointer (some ⟨g, 0, none⟩)] w (Ints w (ixs k ms)) := by
  have hln : ms.length = n := by simpa using hA.len
  have H := Lib.hid hA
  clear hA
  go_enter Try.func48, Try.ntmps48
  go_wp2
  go_loopg [4, 5, 6, 9] n (fun kx s4 _ _ s9 wr => ∃ (j : Nat) (X : Option Addr) (m cx : Nat), j ≤ n ∧ m ≤ j ∧ n - j ≤ kx ∧ s9 = .int .i64 j ∧ s4 = .slice X m cx ∧ Hid (m = (ixs k (ms.take j)).length) ∧ Hid (OwnV wr w.heap.size 3 X m cx ((ixs k (ms.take j)).map IV)) ∧ Hid (Below w.heap.size w wr))
  case atStart => exact ⟨0, none, 0, 0, by omega, by omega, by omega, rfl, rfl, (by simp [ixs, idx] : 0 = (ixs k (ms.take 0)).length), (by simpa [ixs, idx] using OwnV.nil _ _ _ : OwnV w w.heap.size 3 none 0 0 ((ixs k (ms.take 0)).map IV)), (Below.refl _ _ : Below w.heap.size w w)⟩
  case round =>
    obtain ⟨j, X, m, cx, hj, hmj, hk, rfl, rfl, HM, HO, HW⟩ := hrel
    by_cases hlt : j < n
    · obtain ⟨y, hy⟩ : ∃ y, ms[j]? = some y := ⟨_, List.getElem?_eq_getElem (by rw [hln]; exact hlt)⟩
      obtain ⟨ad, rfl, hadl, hxc⟩ := (H.out.below HW.out (Nat.le_refl _)).cells (by omega)
      have e0 := hxc j (IV y) (by rw [List.getElem?_map, hy]; rfl)
      have hi1 : (0 : Int) ≤ (j : Int) := by omega
      have hi2 : (j : Int) < (n : Int) := by omega
      have hw1 : IntKind.i64.wrap ((j : Int) + 1) = (j : Int) + 1 := IntWalk.i64_in _ (by omega)
      have HT := Lib.hid (And.intro hlt (ixs_take (k := k) hy))
      clear hy hlt hadl hxc
      by_cases hyk : y = k
      · subst hyk
        have HS2 : Hid (ixs y (ms.take (j + 1)) = ixs y (ms.take j) ++ [(j : Int)]) := by
          show _ = _
          rw [HT.out.2, if_pos rfl]
        go_wp2_with (at_builtin; refine wpList_appV _ rfl (.tmp 17) (.tmp 19) _ rfl w.heap.size 3 (.int .i64 0) 8 Try.underlying24 info3 rfl rfl (HO.out.below ((Below.refl _ _).alloc (Nat.le_refl _) _) (Nat.le_refl _)) rfl (m := 1) (RdV.new _ [.int .i64 j] 3 (0, 0)) (by intro u hu; simp at hu; subst hu; rfl) (by omega) (by omega) (Nat.le_trans HW.out.size (by simp)) (m + 1) rfl ?_; intro A' c' w7 ho hg7 hat)
        have HO7 : Hid (OwnV w7 w.heap.size 3 A' (m + 1) c' ((ixs y (ms.take (j + 1))).map IV)) := by
          show OwnV _ _ _ _ _ _ _
          rw [HS2.out, List.map_append]
          exact ho
        have HW7 : Hid (Below w.heap.size w w7) := by
          show Below _ _ _
          exact (HW.out.alloc HW.out.size _).grown hg7 (by have := HW.out.size; simp; omega) (fun k hk => (HO.out.block k hk).1)
        clear ho hg7 hat
        have HM7 : Hid (m + 1 = (ixs y (ms.take (j + 1))).length) := by
          show _ = _
          rw [HS2.out, List.length_append, ← HM.out]
          rfl
        go_roundg (n - (j + 1))
        case measure => have := HT.out.1; omega
        case rel => exact ⟨j + 1, A', m + 1, c', by have := HT.out.1; omega, by omega, by omega, by go_num, rfl, HM7, HO7, HW7⟩
      · have HS2 : Hid (ixs k (ms.take (j + 1)) = ixs k (ms.take j)) := by
          show _ = _
          rw [HT.out.2, if_neg hyk, List.append_nil]
        have hyb : (y == k) = false := by simpa using hyk
        clear hyk
        go_wp2
        go_roundg (n - (j + 1))
        case measure => have := HT.out.1; omega
        case rel => exact ⟨j + 1, X, m, cx, by have := HT.out.1; omega, by omega, by omega, by go_num, rfl, by rw [HS2.out]; exact HM, by rw [HS2.out]; exact HO, HW⟩
    · obtain rfl : j = n := by omega
      have HF : Hid (ms.take j = ms) := List.take_of_length_le (by rw [hln]; exact Nat.le_refl _)
      go_wp2
      go_ret
      rw [HF.out] at HM HO
      have hm := HM.out
      subst hm
      exact ⟨X, cx, rfl, HO.out, HW.out⟩
theorem gat_is {A : Option Addr} {n c : Nat} {ms : List Int} (hA : RdV w A n (ms.map IV)) (hn : n ≤ 1000000) {g : Nat} (hg : w.cell? ⟨g, 0, none⟩ = some (.slice A n c)) (k : Int) {l : List Int} (hl : ixs k ms = l) {c1 : Nat} (hc : l.length = c1) : Calls Try.prog 48 #[.int .i64 k, .pointer (some ⟨g, 0, none⟩)] w fun e w' => ∃ A' c', e = .returned (.slice A' c1 c') ∧ OwnV w' w.heap.size 3 A' c1 c' (l.map IV) ∧ Below w.heap.size w w' := by
  subst hl hc
  exact gather_is w hA hn hg k
theorem gatherer_is (A : Option Addr) (n c : Nat) : Calls Try.prog 31 #[.slice A n c] w fun e w' => e = .returned (.func (.func 48) #[] #[.pointer (some ⟨w.heap.size, 0, none⟩)]) ∧ w' = w.alloc (.cells #[.slice A n c] 24) := by
  go_enter Try.func31, Try.ntmps31
  go_wp2
  go_ret
  exact ⟨rfl, rfl⟩
end
theorem flevel_any (S : Option Addr) (m d : Nat) (L : List (List UInt8)) (w : World) (h : MR w S m L) (hm : m ≤ 140737488355328) (hL : ∀ r ∈ L, r.length ≤ 140737488355328) :
    Calls Try.prog 32 #[.slice S m d] w fun e w' => e = .returned (.bool (levelB L)) ∧ w = w' := by
  have HS := Lib.hid h
  have HL := Lib.hid hL
  clear h hL
  go_enter Try.func32, Try.ntmps32
  go_wp2
  go_loopw [7] (fun i wr => ∃ q : Nat, q ≤ m ∧ i = .int .i64 q ∧ Hid (∀ (i : Nat) (r : List UInt8), i < q → L[i]? = some r → r.length = (L.headD []).length ∧ r.length ≤ 65536) ∧ Hid (wr = w)) (fun i _ => m - (intOf i).toNat)
  case atStart => exact ⟨0, by omega, rfl, fun i r h => by omega, rfl⟩
  case round =>
    obtain ⟨q, hq, rfl, HQ, HW⟩ := hrel
    obtain rfl := HW.out
    by_cases hlt : q < m
    · obtain ⟨ad, B0, d0, r0, rfl, _, hr0, hc0, _⟩ := HS.out.row (show 0 < m by omega)
      obtain ⟨ad', B, d', r, ea, _, hr, hc, _⟩ := HS.out.row hlt
      injection ea with ea
      subst ea
      rw [addr_add_0] at hc0
      have hh := headD_at hr0
      have hb0 := HL.out _ (List.mem_of_getElem? hr0)
      have hb := HL.out _ (List.mem_of_getElem? hr)
      have HR := Lib.hid (And.intro hr (congrArg List.length hh))
      obtain ⟨l0, hl0⟩ : ∃ l0, r0.length = l0 := ⟨_, rfl⟩
      obtain ⟨l1, hl1⟩ : ∃ l1, r.length = l1 := ⟨_, rfl⟩
      have HE := Lib.hid (And.intro hl0 hl1)
      rw [hl0] at hc0 hb0
      rw [hl1] at hc hb
      have hq1 : (q : Int) < m := by omega
      clear hr0 hr hh hl0 hl1
      by_cases e1 : l1 = l0
      · by_cases e2 : l1 ≤ 65536
        · subst e1
          go_wp2
          go_roundw
          case rel =>
            refine ⟨q + 1, by omega, by go_num, ?_, trivial⟩
            show ∀ (i : Nat) (r : List UInt8), _
            intro i r' hi hr'
            by_cases e : i < q
            · exact HQ.out i r' e hr'
            · obtain rfl : i = q := by omega
              rw [HR.out.1] at hr'
              injection hr' with hr'
              subst hr'
              rw [HR.out.2, HE.out.1, HE.out.2]
              exact ⟨rfl, e2⟩
          case measure => simp [intOf]; omega
        · subst e1
          go_wp2
          go_ret
          refine ⟨?_, rfl⟩
          have : levelB L = false := by
            refine Bool.eq_false_iff.2 fun h => ?_
            have := (levelB_at h HR.out.1).2
            rw [HE.out.2] at this
            omega
          exact by rw [this]; rfl
      · have hne : ((l1 : Int) == (l0 : Int)) = false := beq_eq_false_iff_ne.2 (by omega)
        go_wp2
        go_ret
        refine ⟨?_, rfl⟩
        have : levelB L = false := by
          refine Bool.eq_false_iff.2 fun h => ?_
          have := (levelB_at h HR.out.1).1
          rw [HR.out.2, HE.out.1, HE.out.2] at this
          omega
        exact by rw [this]; rfl
    · obtain rfl : q = m := by omega
      go_wp2
      go_ret
      refine ⟨?_, rfl⟩
      exact by rw [levelB_yes fun i r hr => HQ.out i r (by have := (List.getElem?_eq_some_iff.1 hr).1; have := HS.out.len; omega) hr]; rfl

end Go.Proofs.Ytkkpfehgobanbaa
