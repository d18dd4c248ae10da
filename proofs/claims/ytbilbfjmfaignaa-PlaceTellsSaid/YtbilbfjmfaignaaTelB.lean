/- The reference's All and Of; SmallPlaces; CopyInts. -/
import Derived.Test.YtbilbfjmfaignaaTelA
import Derived.Test.YtbilbfjmfaignaaArgsPl
namespace Go.Proofs.Ytbilbfjmfaignaa
open Go.RowKit Go.Coop
set_option maxRecDepth 100000
section
variable (w : World)
theorem rall_is {A : Option Addr} {n c : Nat} {ps : List Pc} (h : PL w A n ps) (hm : n ≤ 1000000) {q : Bool} (hq : allB (ps.map Pc.pl) = q) : Calls Try.prog 46 #[.slice A n c] w (Told w q) := by
  have hln := h.len
  by_cases c0 : (n : Int) < 1
  · have hq' : q = false := by
      rw [← hq, allB, decide_eq_false_iff_not]
      intro h'
      have := h'.1
      simp at this
      omega
    subst hq'
    clear h hln hq
    go_enter Try.func46, Try.ntmps46
    go_wp2
    go_ret
    exact ⟨rfl, Below.refl _ _⟩
  have d0 : 1 ≤ (n : Int) := by omega
  by_cases c1 : 1000 < (n : Int)
  · have hq' : q = false := by
      rw [← hq, allB, decide_eq_false_iff_not]
      intro h'
      have := h'.1
      simp at this
      omega
    subst hq'
    clear h hln hq
    go_enter Try.func46, Try.ntmps46
    go_wp2
    go_ret
    exact ⟨rfl, Below.refl _ _⟩
  have d1 : (n : Int) ≤ 1000 := by omega
  have hqq : q = true ↔ ∀ p ∈ ps, RightP 256 p.pl := by
    rw [← hq, allB, decide_eq_true_iff]
    constructor
    · intro h p hp
      exact h.2 _ (List.mem_map.2 ⟨p, hp, rfl⟩)
    · intro h
      refine ⟨by simp; omega, fun p hp => ?_⟩
      obtain ⟨x, hx, rfl⟩ := List.mem_map.1 hp
      exact h x hx
  have H := Lib.hid (And.intro h (And.intro hln hqq))
  clear h hln hqq hq
  go_enter Try.func46, Try.ntmps46
  go_wp2
  clear c0 c1 d0 d1
  go_loopw [3] (fun sc wr => ∃ j : Nat, j ≤ n ∧ sc = .int .i64 j ∧ Hid ((∀ p ∈ ps.take j, RightP 256 p.pl) ∧ Below w.heap.size w wr)) (fun sc _ => n - (Go.RowKit.intOf sc).toNat)
  case atStart => exact ⟨0, by omega, rfl, (⟨by simp, Below.refl _ _⟩ : (∀ p ∈ ps.take 0, RightP 256 p.pl) ∧ Below w.heap.size w w)⟩
  case round =>
    obtain ⟨j, hj, rfl, HR⟩ := hrel
    by_cases hlt : j < n
    · obtain ⟨p, hp⟩ : ∃ p, ps[j]? = some p := ⟨_, List.getElem?_eq_getElem (by rw [H.out.2.1]; exact hlt)⟩
      obtain ⟨ad, hok, rfl, hadl, hload, _, _⟩ := (H.out.1.below HR.out.2 (Nat.le_refl _)).get' hp
      have hi1 : (0 : Int) ≤ (j : Int) := by omega
      have hi2 : (j : Int) < (n : Int) := by omega
      have hw1 : IntKind.i64.wrap ((j : Int) + 1) = (j : Int) + 1 := IntWalk.i64_in _ (by omega)
      have HT := Lib.hid (And.intro hp (And.intro hlt hok))
      clear hp hlt hadl hok
      cases hb : rightB 256 p.pl with
      | false =>
        have hq : Hid (q = false) := by
          show q = false
          cases hq : q with
          | false => rfl
          | true =>
            have := (H.out.2.2.1 hq) p (mem_at HT.out.1)
            rw [rightB, decide_eq_false_iff_not] at hb
            exact absurd this hb
        have HH := Lib.hid hb
        clear hb
        go_wp2_with fail
        refine (rright_is _ 256 p.e HT.out.2.2.rd HT.out.2.2.small HH.out).mono ?_
        rintro e w2 ⟨rfl, hb2⟩
        have HB2 := Lib.hid hb2
        clear hb2 hload
        go_wp2
        go_ret
        rw [hq.out]
        exact ⟨rfl, HR.out.2.trans (HB2.out.mono HR.out.2.size)⟩
      | true =>
        have HH := Lib.hid hb
        clear hb
        go_wp2_with fail
        refine (rright_is _ 256 p.e HT.out.2.2.rd HT.out.2.2.small HH.out).mono ?_
        rintro e w2 ⟨rfl, hb2⟩
        have HB2 := Lib.hid hb2
        clear hb2 hload
        go_wp2
        go_roundw
        case rel =>
          refine ⟨j + 1, by have := HT.out.2.1; omega, by go_num, (⟨?_, HR.out.2.trans (HB2.out.mono HR.out.2.size)⟩ : (∀ p ∈ ps.take (j + 1), RightP 256 p.pl) ∧ _)⟩
          rw [take_snoc HT.out.1]
          intro x hx
          rcases List.mem_append.1 hx with hx | hx
          · exact HR.out.1 x hx
          · simp at hx
            subst hx
            exact of_decide_eq_true HH.out
        case measure => have := HT.out.2.1; simp [Go.RowKit.intOf]; omega
    · obtain rfl : j = n := by omega
      have hq : Hid (q = true) := by
        have := HR.out.1
        rw [List.take_of_length_le (by rw [H.out.2.1]; exact Nat.le_refl _)] at this
        exact H.out.2.2.2 this
      go_wp2
      go_ret
      rw [hq.out]
      exact ⟨rfl, HR.out.2⟩
theorem copyInts_is {A : Option Addr} {n c : Nat} {l : List Int} (h : RdV w A n (l.map IV)) (hn : n ≤ 1000000) : Calls Try.prog 20 #[.slice A n c] w fun e w' => ∃ A' c', e = .returned (.slice A' n c') ∧ OwnV w' w.heap.size 3 A' n c' (l.map IV) ∧ Below w.heap.size w w' := by
  have H := Lib.hid h
  clear h
  have h0n : 0 + n = n := Nat.zero_add n
  go_enter Try.func20, Try.ntmps20
  go_wp2_with (at_builtin; refine wpList_appV _ rfl (.tmp 4) (.tmp 5) _ rfl w.heap.size 3 (.int .i64 0) 8 Try.underlying28 info3 rfl (A := none) (n := 0) (c := 0) rfl (OwnV.nil _ _ _) rfl H.out (ivs_one _) (by omega) (by omega) (Nat.le_refl _) n (by omega) ?_; intro A' c' w' ho hg hat)
  have hb : Below w.heap.size w w' := ((But.refl [] w).grown hg (by simp)).none
  go_ret
  exact ⟨A', c', rfl, by simpa using ho, hb⟩
/-- what SmallPlaces tells -/
def smallB (ps : List Pc) (m k : Int) : Bool := decide ((ps.length : Int) ≤ m ∧ ∀ p ∈ ps, (p.n : Int) ≤ k)
theorem PA.get' {A : Option Addr} {n : Nat} {ps : List Pc} {w : World} (h : PA w A n ps) {i : Nat} {p : Pc} (hp : ps[i]? = some p) : ∃ ad, RdV w p.A p.n (p.l.map IV) ∧ A = some ad ∧ ad.block < w.heap.size ∧
    w.cell? (ad.add (i * 2)) = some (.int .i64 p.e) ∧ w.cell? ⟨(ad.add (i * 2)).block, (ad.add (i * 2)).off + 1, none⟩ = some (.slice p.A p.n p.c) := by
  obtain ⟨⟨h1, _⟩, ad, h2, h3, h4⟩ := h.at_ i p hp
  refine ⟨ad, h1, h2, h3, h4 0 _ rfl, ?_⟩
  have := h4 1 _ rfl
  rwa [addr_succ] at this
theorem small_is {A : Option Addr} {n c : Nat} {ps : List Pc} (h : PA w A n ps) (hm : n ≤ maxLen) (m k : Int) (hm2 : m ≤ 1000) {q : Bool} (hq : smallB ps m k = q) : Calls Try.prog 19 #[.slice A n c, .int .i64 m, .int .i64 k] w fun e w' => e = .returned (.bool q) ∧ w' = w := by
  have hln := h.len
  by_cases c0 : m < (n : Int)
  · have hq' : q = false := by
      rw [← hq, smallB, decide_eq_false_iff_not]
      intro h'
      have := h'.1
      omega
    subst hq'
    clear h hln hq hm
    go_enter Try.func19, Try.ntmps19
    go_wp2
    go_ret
    exact ⟨rfl, rfl⟩
  have d0 : (n : Int) ≤ m := by omega
  have hn : n ≤ 1000 := by omega
  have hqq : q = true ↔ ∀ p ∈ ps, (p.n : Int) ≤ k := by
    rw [← hq, smallB, decide_eq_true_iff, hln]
    exact ⟨fun h => h.2, fun h => ⟨d0, h⟩⟩
  have H := Lib.hid (And.intro h (And.intro hln hqq))
  clear h hln hqq hq hm
  go_enter Try.func19, Try.ntmps19
  go_wp2
  clear c0 d0 hm2
  go_loopw [7] (fun sc wr => ∃ j : Nat, j ≤ n ∧ sc = .int .i64 j ∧ wr = w ∧ Hid (∀ p ∈ ps.take j, (p.n : Int) ≤ k)) (fun sc _ => n - (Go.RowKit.intOf sc).toNat)
  case atStart => exact ⟨0, by omega, rfl, rfl, (by simp : ∀ p ∈ ps.take 0, (p.n : Int) ≤ k)⟩
  case round =>
    obtain ⟨j, hj, rfl, rfl, HR⟩ := hrel
    by_cases hlt : j < n
    · obtain ⟨p, hp⟩ : ∃ p, ps[j]? = some p := ⟨_, List.getElem?_eq_getElem (by rw [H.out.2.1]; exact hlt)⟩
      obtain ⟨ad, _, rfl, hadl, e0, e1⟩ := H.out.1.get' hp
      have hi1 : (0 : Int) ≤ (j : Int) := by omega
      have hi2 : (j : Int) < (n : Int) := by omega
      have hw1 : IntKind.i64.wrap ((j : Int) + 1) = (j : Int) + 1 := IntWalk.i64_in _ (by omega)
      have HT := Lib.hid (And.intro hp hlt)
      clear hp hlt hadl
      by_cases hk : k < (p.n : Int)
      · have hq : Hid (q = false) := by
          show q = false
          cases hq : q with
          | false => rfl
          | true =>
            have := (H.out.2.2.1 hq) p (mem_at HT.out.1)
            omega
        go_wp2
        go_ret
        rw [hq.out]
        exact ⟨rfl, rfl⟩
      · have hk' : (p.n : Int) ≤ k := by omega
        go_wp2
        go_roundw
        case rel =>
          refine ⟨j + 1, by have := HT.out.2; omega, by go_num, trivial, (?_ : ∀ p ∈ ps.take (j + 1), (p.n : Int) ≤ k)⟩
          rw [take_snoc HT.out.1]
          intro x hx
          rcases List.mem_append.1 hx with hx | hx
          · exact HR.out x hx
          · simp at hx
            subst hx
            exact hk'
        case measure => have := HT.out.2; simp [Go.RowKit.intOf]; omega
    · obtain rfl : j = n := by omega
      have hq : Hid (q = true) := by
        have := HR.out
        rw [List.take_of_length_le (by rw [H.out.2.1]; exact Nat.le_refl _)] at this
        exact H.out.2.2.2 this
      go_wp2
      go_ret
      rw [hq.out]
      exact ⟨rfl, rfl⟩

end
end Go.Proofs.Ytbilbfjmfaignaa
