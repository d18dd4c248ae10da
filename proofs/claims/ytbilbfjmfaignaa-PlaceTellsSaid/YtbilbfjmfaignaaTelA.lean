/- The reference's Right and Index; CopyInts. -/
import Derived.Test.YtbilbfjmfaignaaPlcD
namespace Go.Proofs.Ytbilbfjmfaignaa
open Go.RowKit Go.Coop
set_option maxRecDepth 100000
section
variable (w : World)
set_option maxHeartbeats 1000000 in
theorem rright_is {A : Option Addr} {n c : Nat} {l : List Int} (N ep : Int) (h : RdV w A n (l.map IV)) (hm : n ≤ 1000000) {q : Bool} (hq : rightB N ⟨ep, l⟩ = q) : Calls Try.prog 29 #[.agg #[.int .i64 ep, .slice A n c], .int .i64 N] w (Told w q) := by
  have hln : l.length = n := by simpa using h.len
  by_cases c0 : N < 1
  · have hq' : q = false := by
      rw [← hq, rightB, decide_eq_false_iff_not]
      intro h'
      have h1 := h'.1
      have h2 := h'.2.1
      have h3 := h'.2.2.1
      simp only at h1 h2 h3
      omega
    subst hq'
    clear h hln hq
    go_enter Try.func29, Try.ntmps29
    go_wp2
    go_ret
    exact ⟨rfl, (Below.refl _ _).alloc (Nat.le_refl _) _⟩
  have d0 : 1 ≤ N := by omega
  by_cases c1 : 256 < N
  · have hq' : q = false := by
      rw [← hq, rightB, decide_eq_false_iff_not]
      intro h'
      have h1 := h'.1
      have h2 := h'.2.1
      have h3 := h'.2.2.1
      simp only at h1 h2 h3
      omega
    subst hq'
    clear h hln hq
    go_enter Try.func29, Try.ntmps29
    go_wp2
    go_ret
    exact ⟨rfl, (Below.refl _ _).alloc (Nat.le_refl _) _⟩
  have d1 : N ≤ 256 := by omega
  by_cases c2 : ep < 1
  · have hq' : q = false := by
      rw [← hq, rightB, decide_eq_false_iff_not]
      intro h'
      have h1 := h'.1
      have h2 := h'.2.1
      have h3 := h'.2.2.1
      simp only at h1 h2 h3
      omega
    subst hq'
    clear h hln hq
    go_enter Try.func29, Try.ntmps29
    go_wp2
    go_ret
    exact ⟨rfl, (Below.refl _ _).alloc (Nat.le_refl _) _⟩
  have d2 : 1 ≤ ep := by omega
  by_cases c3 : 1099511627776 < ep
  · have hq' : q = false := by
      rw [← hq, rightB, decide_eq_false_iff_not]
      intro h'
      have h1 := h'.1
      have h2 := h'.2.1
      have h3 := h'.2.2.1
      simp only at h1 h2 h3
      omega
    subst hq'
    clear h hln hq
    go_enter Try.func29, Try.ntmps29
    go_wp2
    go_ret
    exact ⟨rfl, (Below.refl _ _).alloc (Nat.le_refl _) _⟩
  have d3 : ep ≤ 1099511627776 := by omega
  by_cases c4 : (n : Int) < 1
  · have hq' : q = false := by
      rw [← hq, rightB, decide_eq_false_iff_not]
      intro h'
      have h1 := h'.1
      have h2 := h'.2.1
      have h3 := h'.2.2.1
      simp only at h1 h2 h3
      omega
    subst hq'
    clear h hln hq
    go_enter Try.func29, Try.ntmps29
    go_wp2
    go_ret
    exact ⟨rfl, (Below.refl _ _).alloc (Nat.le_refl _) _⟩
  have d4 : 1 ≤ (n : Int) := by omega
  by_cases c5 : 255 < (n : Int)
  · have hq' : q = false := by
      rw [← hq, rightB, decide_eq_false_iff_not]
      intro h'
      have h1 := h'.1
      have h2 := h'.2.1
      have h3 := h'.2.2.1
      simp only at h1 h2 h3
      omega
    subst hq'
    clear h hln hq
    go_enter Try.func29, Try.ntmps29
    go_wp2
    go_ret
    exact ⟨rfl, (Below.refl _ _).alloc (Nat.le_refl _) _⟩
  have d5 : (n : Int) ≤ 255 := by omega
  have hqq : (NodesOk N l ↔ q = true) := by
    rw [← hq, rightB, decide_eq_true_iff]
    exact ⟨fun h => ⟨⟨d0, d1⟩, ⟨d2, d3⟩, by simp only; omega, h⟩, fun h => h.2.2.2⟩
  obtain ⟨w1, hw1⟩ : ∃ v, w.alloc (.cells #[.int .i64 ep, .slice A n c] 30) = v := ⟨_, rfl⟩
  obtain ⟨hb1, hx1⟩ := box_new hw1
  obtain ⟨b, hb⟩ : ∃ b, w.heap.size = b := ⟨_, rfl⟩
  rw [hb] at hx1
  obtain ⟨⟨m0, m1⟩, _⟩ := two30 hx1
  have H := Lib.hid (And.intro (h.below hb1 (Nat.le_refl _)) (And.intro hln (And.intro hqq hb1)))
  clear h hln hqq hq hx1 hb1
  have mixed : Try.prog.follows Departure.mixedOrders = true := by kernel_rfl
  go_enter Try.func29, Try.ntmps29
  go_wp2
  (try rw [hw1]); (try rw [hb])
  clear hw1
  have hfin : ∀ d, Below w.heap.size w (w1.drewN d) := fun d => H.out.2.2.2.trans ⟨rfl, rfl, rfl, Nat.le_refl _, fun _ _ => rfl⟩
  have HF := Lib.hid hfin
  clear hfin c0 c1 c2 c3 c4 c5 d0 d1 d2 d3 d4
  go_loopw [5, 6] (fun s5 _ wr => ∃ j d : Nat, j ≤ n ∧ s5 = .int .i64 j ∧ wr = w1.drewN d ∧ Hid (NodesOk N (l.take j))) (fun s5 _ _ => n - (Go.RowKit.intOf s5).toNat)
  case atStart => exact ⟨0, 0, by omega, rfl, rfl, (by simpa using NodesOk.nil N : NodesOk N (l.take 0))⟩
  case round =>
    obtain ⟨j, d, hj, rfl, rfl, HR⟩ := hrel
    by_cases hlt : j < n
    · obtain ⟨y, hy⟩ : ∃ y, l[j]? = some y := ⟨_, List.getElem?_eq_getElem (by rw [H.out.2.1]; exact hlt)⟩
      obtain ⟨ad, rfl, hadl, hxc⟩ := H.out.1.cells (by omega)
      have e0 := hxc j (IV y) (by rw [List.getElem?_map, hy]; rfl)
      have hi1 : (0 : Int) ≤ (j : Int) := by omega
      have hi2 : (j : Int) < (n : Int) := by omega
      have hw1 : IntKind.i64.wrap ((j : Int) + 1) = (j : Int) + 1 := IntWalk.i64_in _ (by omega)
      have hout : ¬ (0 ≤ y ∧ y < N) → q = false := by
        intro hno
        cases hq : q with
        | false => rfl
        | true => exact absurd ((H.out.2.2.1.2 hq).1 y (mem_at hy)) hno
      have HT := Lib.hid (And.intro hy (And.intro hlt (And.intro hout hxc)))
      clear hy hlt hadl hout hxc
      by_cases g0 : y < 0
      · have hq : Hid (q = false) := HT.out.2.2.1 (by omega)
        go_wp2
        go_ret
        rw [hq.out]
        exact ⟨rfl, HF.out _⟩
      have g0' : 0 ≤ y := by omega
      by_cases g1 : N ≤ y
      · have hq : Hid (q = false) := HT.out.2.2.1 (by omega)
        go_wp2
        go_ret
        rw [hq.out]
        exact ⟨rfl, HF.out _⟩
      have g1' : y < N := by omega
      have HG := Lib.hid (And.intro g0' g1')
      go_wp2
      clear g0 g0' g1 g1'
      go_loopw [6] (fun s6 wr => ∃ k d' : Nat, k ≤ j ∧ s6 = .int .i64 k ∧ wr = w1.drewN d' ∧ Hid (y ∉ l.take k)) (fun s6 _ => j - (Go.RowKit.intOf s6).toNat)
      case atStart => exact ⟨0, d, by omega, rfl, rfl, (by simp : y ∉ l.take 0)⟩
      case round =>
        obtain ⟨k, d', hk, rfl, rfl, HK⟩ := hrel
        by_cases hlt : k < j
        · obtain ⟨z, hz⟩ : ∃ z, l[k]? = some z := ⟨_, List.getElem?_eq_getElem (by rw [H.out.2.1]; have := HT.out.2.1; omega)⟩
          have z0 := HT.out.2.2.2 k (IV z) (by rw [List.getElem?_map, hz]; rfl)
          have hk1 : (0 : Int) ≤ (k : Int) := by omega
          have hk2 : (k : Int) < (j : Int) := by omega
          have hk3 : (k : Int) < (n : Int) := by omega
          have hw2 : IntKind.i64.wrap ((k : Int) + 1) = (k : Int) + 1 := IntWalk.i64_in _ (by omega)
          have HZ := Lib.hid (And.intro hz hlt)
          clear hz hlt
          by_cases hzy : z = y
          · subst hzy
            have hq : Hid (q = false) := by
              show q = false
              cases hq : q with
              | false => rfl
              | true =>
                have hn := mem_take_ne (H.out.2.2.1.2 hq).2 HT.out.1
                exact absurd (mem_at (k := k) (by rw [List.getElem?_take, if_pos HZ.out.2]; exact HZ.out.1)) hn
            go_wp2
            go_quiet (fail)
            go_wp2
            go_ret
            rw [hq.out]
            exact ⟨rfl, by simpa using HF.out _⟩
          · have hzb : (z == y) = false := by simpa using hzy
            have HN := Lib.hid hzy
            clear hzy
            go_wp2
            go_quiet (fail)
            go_wp2
            go_roundw
            case rel =>
              refine ⟨k + 1, _, by have := HZ.out.2; omega, by go_num, by first | rfl | trivial | simp, (?_ : y ∉ l.take (k + 1))⟩
              rw [take_snoc HZ.out.1]
              intro hm
              rcases List.mem_append.1 hm with hm | hm
              · exact HK.out hm
              · simp at hm
                exact HN.out hm.symm
            case measure => have := HZ.out.2; simp [Go.RowKit.intOf]; omega
        · obtain rfl : k = j := by omega
          clear hlt
          go_wp2
          go_roundw
          case rel =>
            refine ⟨k + 1, d', by have := HT.out.2.1; omega, by go_num, rfl, (?_ : NodesOk N (l.take (k + 1)))⟩
            rw [take_snoc HT.out.1]
            exact HR.out.snoc HG.out HK.out
          case measure => have := HT.out.2.1; simp [Go.RowKit.intOf]; omega
    · obtain rfl : j = n := by omega
      have hq : Hid (q = true) := by
        have := HR.out
        rw [List.take_of_length_le (by rw [H.out.2.1]; exact Nat.le_refl _)] at this
        exact H.out.2.2.1.1 this
      go_wp2
      go_ret
      rw [hq.out]
      exact ⟨rfl, HF.out _⟩
theorem rindex_is {A : Option Addr} {n c : Nat} {l : List Int} (ep : Int) (h : RdV w A n (l.map IV)) (hn : n ≤ 1000000) (x : Int) {q : Int} (hq : idxP x l = q) : Calls Try.prog 30 #[.agg #[.int .i64 ep, .slice A n c], .int .i64 x] w fun e w' => e = .returned (.int .i64 q) ∧ Below w.heap.size w w' := by
  have hln : l.length = n := by have := h.len; simpa using this
  obtain ⟨w1, hw1⟩ : ∃ v, w.alloc (.cells #[.int .i64 ep, .slice A n c] 30) = v := ⟨_, rfl⟩
  obtain ⟨hb1, hx1⟩ := box_new hw1
  obtain ⟨b, hb⟩ : ∃ b, w.heap.size = b := ⟨_, rfl⟩
  rw [hb] at hx1
  obtain ⟨⟨m0, m1⟩, _⟩ := two30 hx1
  have H := Lib.hid (And.intro (h.below hb1 (Nat.le_refl _)) (And.intro hln (And.intro hq hb1)))
  clear h hln hq hx1 hb1
  go_enter Try.func30, Try.ntmps30
  go_wp2
  (try rw [hw1]); (try rw [hb])
  clear hw1
  go_loopw [5] (fun s5 wr => ∃ j : Nat, j ≤ n ∧ s5 = .int .i64 j ∧ wr = w1 ∧ Hid (x ∉ l.take j)) (fun s5 _ => n - (Go.RowKit.intOf s5).toNat)
  case atStart => exact ⟨0, by omega, rfl, rfl, (by simp : x ∉ l.take 0)⟩
  case round =>
    obtain ⟨j, hj, rfl, rfl, HR⟩ := hrel
    by_cases hlt : j < n
    · obtain ⟨y, hy⟩ : ∃ y, l[j]? = some y := ⟨_, List.getElem?_eq_getElem (by rw [H.out.2.1]; exact hlt)⟩
      obtain ⟨ad, rfl, hadl, hxc⟩ := H.out.1.cells (by omega)
      have e0 := hxc j (IV y) (by rw [List.getElem?_map, hy]; rfl)
      have hi1 : (0 : Int) ≤ (j : Int) := by omega
      have hi2 : (j : Int) < (n : Int) := by omega
      have hw1 : IntKind.i64.wrap ((j : Int) + 1) = (j : Int) + 1 := IntWalk.i64_in _ (by omega)
      have HT := Lib.hid (And.intro hy hlt)
      clear hy hlt hadl hxc
      by_cases hid : y = x
      · subst hid
        have hq : Hid (q = (j : Int)) := by
          show q = _
          have h1 := HT.out.2
          rw [← H.out.2.2.1, idxP, idxN_eq HR.out HT.out.1, if_pos (by rw [H.out.2.1]; exact h1)]
        go_wp2
        go_ret
        rw [hq.out]
        exact ⟨rfl, H.out.2.2.2⟩
      · have hne : (y == x) = false := by simpa using hid
        have HN := Lib.hid hid
        clear hid
        go_wp2
        go_roundw
        case rel =>
          refine ⟨j + 1, by have := HT.out.2; omega, by go_num, trivial, (?_ : x ∉ l.take (j + 1))⟩
          rw [take_snoc HT.out.1]
          intro hm
          rcases List.mem_append.1 hm with hm | hm
          · exact HR.out hm
          · simp at hm
            exact HN.out hm.symm
        case measure => have := HT.out.2; simp [Go.RowKit.intOf]; omega
    · obtain rfl : j = n := by omega
      have hq : Hid (q = -1) := by
        show q = _
        have := HR.out
        rw [List.take_of_length_le (by rw [H.out.2.1]; exact Nat.le_refl _)] at this
        rw [← H.out.2.2.1, idxP_out this]
      go_wp2
      go_ret
      rw [hq.out]
      exact ⟨rfl, H.out.2.2.2⟩

end
end Go.Proofs.Ytbilbfjmfaignaa
