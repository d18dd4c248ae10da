/- The same placements. -/
import Derived.Test.YtbilbfjmfaignaaPlcD
namespace Go.Proofs.Ytbilbfjmfaignaa
open Go.RowKit Go.Coop
set_option maxRecDepth 100000
section
variable (w : World)
theorem samePl_is {A X : Option Addr} {n m ca cx : Nat} {ps qs : List Pc} (hA : PL w A n ps) (hX : PL w X m qs) (hn : n ≤ 1000000) {q : Bool} (hq : ps.map Pc.pl = qs.map Pc.pl ↔ q = true) : Calls Try.prog 25 #[.slice A n ca, .slice X m cx] w fun e w' => e = .returned (.bool q) ∧ ∃ d, w' = w.drewN d := by
  have hln := hA.len
  have hlm := hX.len
  by_cases hnm : n = m
  · subst hnm
    have mixed : Try.prog.follows Departure.mixedOrders = true := by kernel_rfl
    have H := Lib.hid (And.intro hA (And.intro hX (And.intro hln (And.intro hlm hq))))
    clear hA hX hln hlm hq
    go_enter Try.func25, Try.ntmps25
    go_wp2
    go_loopw [5] (fun s5 wr => ∃ j d : Nat, j ≤ n ∧ s5 = .int .i64 j ∧ Hid (wr = w.drewN d) ∧ Hid ((ps.take j).map Pc.pl = (qs.take j).map Pc.pl)) (fun s5 _ => n - (Go.RowKit.intOf s5).toNat)
    case atStart => exact ⟨0, 0, by omega, rfl, (rfl : w = w.drewN 0), (by simp : (ps.take 0).map Pc.pl = (qs.take 0).map Pc.pl)⟩
    case round =>
      obtain ⟨j, d, hj, rfl, HD, HT⟩ := hrel
      have HB : Hid (Below w.heap.size w wr) := by
        have e := HD.out
        show Below w.heap.size w wr
        rw [e]
        exact ⟨rfl, rfl, rfl, Nat.le_refl _, fun _ _ => rfl⟩
      by_cases hlt : j < n
      · obtain ⟨x, hx⟩ : ∃ x, ps[j]? = some x := ⟨_, List.getElem?_eq_getElem (by rw [H.out.2.2.1]; exact hlt)⟩
        obtain ⟨y, hy⟩ : ∃ y, qs[j]? = some y := ⟨_, List.getElem?_eq_getElem (by rw [H.out.2.2.2.1]; exact hlt)⟩
        obtain ⟨ad, okx, rfl, hadl, hload, d0, d1⟩ := (H.out.1.below HB.out (Nat.le_refl _)).get' hx
        obtain ⟨ad', oky, rfl, hadl', hload', e0, e1⟩ := (H.out.2.1.below HB.out (Nat.le_refl _)).get' hy
        have hi1 : (0 : Int) ≤ (j : Int) := by omega
        have hi2 : (j : Int) < (n : Int) := by omega
        have hw1 : IntKind.i64.wrap ((j : Int) + 1) = (j : Int) + 1 := IntWalk.i64_in _ (by omega)
        have HX := Lib.hid (And.intro hx (And.intro hy (And.intro hlt (And.intro okx oky))))
        clear hx hy hlt okx oky hadl hadl' hload hload'
        obtain ⟨xe, xA, xn, xc, xl⟩ := x
        obtain ⟨ye, yA, yn, yc, yl⟩ := y
        simp only at d0 d1 e0 e1
        by_cases hb : xe = ye
        · subst hb
          by_cases hl : xl = yl
          · have hlb := Lib.hid (decide_eq_true hl)
            have HE := Lib.hid hl
            clear hl
            go_wp2
            go_quiet (first | (go_at_call 26; refine Calls.quiet_of (sameInts_is _ (HX.out.2.2.2.1.rd.drewN _) (HX.out.2.2.2.2.rd.drewN _) HX.out.2.2.2.1.small hlb.out)))
            go_wp2
            go_roundw
            case rel =>
              refine ⟨j + 1, d + nq, by have := HX.out.2.2.1; omega, by go_num, (?_ : wr.drewN nq = w.drewN (d + nq)), ?_⟩
              · rw [HD.out, World.drewN_drewN]
              show (ps.take (j + 1)).map Pc.pl = (qs.take (j + 1)).map Pc.pl
              rw [take_snoc HX.out.1, take_snoc HX.out.2.1, List.map_append, List.map_append, HT.out]
              congr 1
              simp [Pc.pl, HE.out]
            case measure => have := HX.out.2.2.1; simp [Go.RowKit.intOf]; omega
          · have hlb := Lib.hid (decide_eq_false hl)
            have HQ : Hid (q = false) := by
              show q = false
              cases hq : q with
              | false => rfl
              | true =>
                have := congrArg (fun l => l[j]?) (H.out.2.2.2.2.2 hq)
                simp [HX.out.1, HX.out.2.1, Pc.pl] at this
                exact absurd this hl
            clear hl
            go_wp2
            go_quiet (first | (go_at_call 26; refine Calls.quiet_of (sameInts_is _ (HX.out.2.2.2.1.rd.drewN _) (HX.out.2.2.2.2.rd.drewN _) HX.out.2.2.2.1.small hlb.out)))
            go_wp2
            go_ret
            rw [HQ.out]
            exact ⟨rfl, d + nq, by rw [HD.out, World.drewN_drewN]⟩
        · have hbb : (xe == ye) = false := by simpa using hb
          have hne : (xe != ye) = true := by simpa using hb
          have HQ : Hid (q = false) := by
            show q = false
            cases hq : q with
            | false => rfl
            | true =>
              have := congrArg (fun l => l[j]?) (H.out.2.2.2.2.2 hq)
              simp [HX.out.1, HX.out.2.1, Pc.pl] at this
              exact absurd this.1 hb
          clear hb
          go_wp2
          go_quiet (fail)
          go_wp2
          go_ret
          rw [HQ.out]
          exact ⟨rfl, d + nq, by rw [HD.out, World.drewN_drewN]⟩
      · obtain rfl : j = n := by omega
        have HQ : Hid (q = true) := by
          have := HT.out
          rw [List.take_of_length_le (by rw [H.out.2.2.1]; exact Nat.le_refl _), List.take_of_length_le (by rw [H.out.2.2.2.1]; exact Nat.le_refl _)] at this
          exact H.out.2.2.2.2.1 this
        go_wp2
        go_ret
        rw [HQ.out]
        exact ⟨rfl, d, HD.out⟩
  · have hq' : q = false := by
      cases hq' : q with
      | false => rfl
      | true =>
        have := congrArg List.length (hq.2 hq')
        simp at this
        omega
    subst hq'
    have hb : ((n : Int) == (m : Int)) = false := by simp; omega
    clear hA hX hln hlm hq hnm
    go_enter Try.func25, Try.ntmps25
    go_wp2
    go_ret
    exact ⟨rfl, 0, rfl⟩
end
end Go.Proofs.Ytbilbfjmfaignaa
