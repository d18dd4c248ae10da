/- The small ones: fits, within, slices.Index, Index, SameInts, SameBytes. -/
import Derived.Test.YtbilbfjmfaignaaRows
import Derived.Test.YtbilbfjmfaignaaRwK
import Derived.Test.YtbilbfjmfaignaaPlcP
import Derived.Shelf.RegionOpenPlain
import Derived.Deep.LoopGhost
import Derived.Lib.SliceRun
import Derived.Deep.QuietTactic
import Derived.BigQuiet
import Derived.LaidEqlPtr
import Derived.Laws.ResultCell
import Derived.Deep.Upon
import Derived.WalkSpells
import Derived.WalkLawsBesides
namespace Go.Proofs.Ytbilbfjmfaignaa
open Go.RowKit Go.Coop
set_option maxRecDepth 100000
theorem info3 : (Try.prog.info? 3).map (fun i => (i.zero, i.size, i.bytes)) = some (some (.int .i64 0), 1, 8) := by kernel_rfl
theorem info30 : (Try.prog.info? 30).map (fun i => (i.zero, i.size, i.bytes)) = some (some (.agg #[.int .i64 0, .slice none 0 0]), 2, 32) := by kernel_rfl
theorem info65 : (Try.prog.info? 65).map (fun i => (i.zero, i.size)) = some (some (.agg (Array.replicate 256 (.bool false))), 256) := by kernel_rfl
section
variable (w : World)
theorem fits_q (n most : Int) {q : Bool} (hq : decide (1 ≤ n ∧ n ≤ most) = q) : Calls Try.prog 34 #[.int .i64 n, .int .i64 most] w fun e w' => e = .returned (.bool q) ∧ w = w' := by
  by_cases h1 : 1 ≤ n
  · by_cases h2 : n ≤ most
    · obtain rfl : q = true := by rw [← hq]; simp; omega
      clear hq
      go_enter Try.func34, Try.ntmps34
      go_wp2
      go_ret
      exact ⟨rfl, rfl⟩
    · obtain rfl : q = false := by rw [← hq]; simp; omega
      clear hq
      go_enter Try.func34, Try.ntmps34
      go_wp2
      go_ret
      exact ⟨rfl, rfl⟩
  · obtain rfl : q = false := by rw [← hq]; simp; omega
    clear hq
    go_enter Try.func34, Try.ntmps34
    go_wp2
    go_ret
    exact ⟨rfl, rfl⟩
theorem within_q (n most : Int) {q : Bool} (hq : decide (0 ≤ n ∧ n < most) = q) : Calls Try.prog 37 #[.int .i64 n, .int .i64 most] w fun e w' => e = .returned (.bool q) ∧ w = w' := by
  by_cases h1 : 0 ≤ n
  · by_cases h2 : n < most
    · obtain rfl : q = true := by rw [← hq]; simp; omega
      clear hq
      go_enter Try.func37, Try.ntmps37
      go_wp2
      go_ret
      exact ⟨rfl, rfl⟩
    · obtain rfl : q = false := by rw [← hq]; simp; omega
      clear hq
      go_enter Try.func37, Try.ntmps37
      go_wp2
      go_ret
      exact ⟨rfl, rfl⟩
  · obtain rfl : q = false := by rw [← hq]; simp; omega
    clear hq
    go_enter Try.func37, Try.ntmps37
    go_wp2
    go_ret
    exact ⟨rfl, rfl⟩
/-- slices.Index -/
theorem sidx_is {A : Option Addr} {n c : Nat} {l : List Int} (h : RdV w A n (l.map IV)) (hn : n ≤ 1000000) (x : Int) {q : Int} (hq : idxP x l = q) : Calls Try.prog 45 #[.slice A n c, .int .i64 x] w fun e w' => e = .returned (.int .i64 q) ∧ w = w' := by
  have hln : l.length = n := by have := h.len; simpa using this
  have H := Lib.hid (And.intro h (And.intro hln hq))
  clear h hln hq
  go_enter Try.func45, Try.ntmps45
  go_wp2
  go_loopw [5, 8] (fun _ s8 wr => ∃ j : Nat, j ≤ n ∧ s8 = .int .i64 j ∧ wr = w ∧ Hid (x ∉ l.take j)) (fun _ s8 _ => n - (Go.RowKit.intOf s8).toNat)
  case atStart => exact ⟨0, by omega, rfl, rfl, (by simp : x ∉ l.take 0)⟩
  case round =>
    obtain ⟨j, hj, rfl, rfl, HR⟩ := hrel
    by_cases hlt : j < n
    · obtain ⟨y, hy⟩ : ∃ y, l[j]? = some y := ⟨_, List.getElem?_eq_getElem (by rw [H.out.2.1]; exact hlt)⟩
      obtain ⟨ad, rfl, hadl, hxc⟩ := H.out.1.cells (by omega)
      have e0 := hxc j (IV y) (by rw [List.getElem?_map, hy]; rfl)
      have hi1 : (0 : Int) ≤ (j : Int) := by omega
      have hi2 : (j : Int) < (n : Int) := by omega
      have hw1 : IntKind.i64.wrap ((j : Int) + 1) = (j : Int) + 1 := IntWalk.i64_in _ (by omega)
      have HT := Lib.hid (And.intro hy hlt)
      clear hy hlt hadl hxc
      by_cases hid : x = y
      · subst hid
        have hq : Hid (q = (j : Int)) := by
          show q = _
          have h1 := HT.out.2
          rw [← H.out.2.2, idxP, idxN_eq HR.out HT.out.1, if_pos (by rw [H.out.2.1]; exact h1)]
        go_wp2
        go_ret
        rw [hq.out]
        exact ⟨rfl, rfl⟩
      · have hne : (x == y) = false := by simpa using hid
        have HN := Lib.hid hid
        clear hid
        go_wp2
        go_roundw
        case rel =>
          refine ⟨j + 1, by have := HT.out.2; omega, by go_num, trivial, (?_ : x ∉ l.take (j + 1))⟩
          rw [take_snoc HT.out.1]
          intro hm
          rcases List.mem_append.1 hm with hm | hm
          · exact HR.out hm
          · simp at hm
            exact HN.out hm
        case measure => have := HT.out.2; simp [Go.RowKit.intOf]; omega
    · obtain rfl : j = n := by omega
      have hq : Hid (q = -1) := by
        show q = _
        have := HR.out
        rw [List.take_of_length_le (by rw [H.out.2.1]; exact Nat.le_refl _)] at this
        rw [← H.out.2.2, idxP_out this]
      go_wp2
      go_ret
      rw [hq.out]
      exact ⟨rfl, rfl⟩
theorem index_is {A : Option Addr} {n c : Nat} {l : List Int} (ep : Int) (h : RdV w A n (l.map IV)) (hn : n ≤ 1000000) (x : Int) {q : Int} (hq : idxP x l = q) : Calls Try.prog 17 #[.agg #[.int .i64 ep, .slice A n c], .int .i64 x] w fun e w' => e = .returned (.int .i64 q) ∧ Below w.heap.size w w' := by
  have H := Lib.hid h
  clear h
  go_enter Try.func17, Try.ntmps17
  go_wp2_with fail
  refine (sidx_is _ (H.out.alloc _) hn x hq).mono ?_
  rintro e w' ⟨rfl, rfl⟩
  go_wp2
  go_ret
  exact ⟨rfl, (Below.refl _ _).alloc (Nat.le_refl _) _⟩
theorem sameInts_is {A X : Option Addr} {n m ca cx : Nat} {l k : List Int} (hA : RdV w A n (l.map IV)) (hX : RdV w X m (k.map IV)) (hn : n ≤ 1000000) {q : Bool} (hq : decide (l = k) = q) : Calls Try.prog 26 #[.slice A n ca, .slice X m cx] w fun e w' => e = .returned (.bool q) ∧ ∃ d, w' = w.drewN d := by
  have hln : l.length = n := by have := hA.len; simpa using this
  have hlm : k.length = m := by have := hX.len; simpa using this
  by_cases hnm : n = m
  · subst hnm
    have mixed : Try.prog.follows Departure.mixedOrders = true := by kernel_rfl
    have H := Lib.hid (And.intro hA (And.intro hX (And.intro hln (And.intro hlm hq))))
    clear hA hX hln hlm hq
    go_enter Try.func26, Try.ntmps26
    go_wp2
    go_loopw [5] (fun s5 wr => ∃ j d : Nat, j ≤ n ∧ s5 = .int .i64 j ∧ wr = w.drewN d ∧ Hid (l.take j = k.take j)) (fun s5 _ => n - (Go.RowKit.intOf s5).toNat)
    case atStart => exact ⟨0, 0, by omega, rfl, rfl, (by simp : l.take 0 = k.take 0)⟩
    case round =>
      obtain ⟨j, d, hj, rfl, rfl, HT⟩ := hrel
      by_cases hlt : j < n
      · obtain ⟨x, hx⟩ : ∃ x, l[j]? = some x := ⟨_, List.getElem?_eq_getElem (by rw [H.out.2.2.1]; exact hlt)⟩
        obtain ⟨y, hy⟩ : ∃ y, k[j]? = some y := ⟨_, List.getElem?_eq_getElem (by rw [H.out.2.2.2.1]; exact hlt)⟩
        obtain ⟨ad, rfl, hadl, hxc⟩ := H.out.1.cells (by omega)
        have d0 := hxc j (IV x) (by rw [List.getElem?_map, hx]; rfl)
        obtain ⟨ad', rfl, hadl', hxc'⟩ := H.out.2.1.cells (by omega)
        have e0 := hxc' j (IV y) (by rw [List.getElem?_map, hy]; rfl)
        have hi1 : (0 : Int) ≤ (j : Int) := by omega
        have hi2 : (j : Int) < (n : Int) := by omega
        have hw1 : IntKind.i64.wrap ((j : Int) + 1) = (j : Int) + 1 := IntWalk.i64_in _ (by omega)
        by_cases hb : x = y
        · subst hb
          have HX := Lib.hid (And.intro hx (And.intro hy hlt))
          clear hx hy hlt hxc hxc' hadl hadl'
          go_wp2
          go_quiet (fail)
          go_wp2
          go_roundw
          case rel =>
            refine ⟨j + 1, _, by have := HX.out.2.2; omega, by go_num, rfl, ?_⟩
            show l.take (j + 1) = k.take (j + 1)
            rw [List.take_add_one, List.take_add_one, HX.out.1, HX.out.2.1, HT.out]
          case measure => have := HX.out.2.2; simp [Go.RowKit.intOf]; omega
        · have hbb : (x == y) = false := by simpa using hb
          have HX : Hid (q = false) := by
            show q = false
            rw [← H.out.2.2.2.2]
            simp
            rintro rfl
            rw [hx] at hy
            injection hy with hy
            exact hb hy
          clear hx hy hlt hb hxc hxc' hadl hadl'
          go_wp2
          go_quiet (fail)
          go_wp2
          go_ret
          rw [HX.out]
          exact ⟨rfl, d + nq, by simp⟩
      · obtain rfl : j = n := by omega
        go_wp2
        go_ret
        have e : l = k := by
          have := HT.out
          rwa [List.take_of_length_le (by rw [H.out.2.2.1]; exact Nat.le_refl _), List.take_of_length_le (by rw [H.out.2.2.2.1]; exact Nat.le_refl _)] at this
        rw [← H.out.2.2.2.2]
        exact ⟨by simp [e], d, rfl⟩
  · have hq' : q = false := by
      rw [← hq]
      simp
      rintro rfl
      omega
    subst hq'
    have hb : ((n : Int) == (m : Int)) = false := by simp; omega
    clear hA hX hln hlm hq hnm
    go_enter Try.func26, Try.ntmps26
    go_wp2
    go_ret
    exact ⟨rfl, 0, rfl⟩
end
end Go.Proofs.Ytbilbfjmfaignaa
