/- Whether all placements are right; small ones; the same ones. -/
import Derived.Test.YtbilbfjmfaignaaPlcC
namespace Go.Proofs.Ytbilbfjmfaignaa
open Go.RowKit Go.Coop
set_option maxRecDepth 100000
section
variable (w : World)
theorem PL.get' {w : World} {A : Option Addr} {n : Nat} {ps : List Pc} (h : PL w A n ps) {i : Nat} {p : Pc} (hp : ps[i]? = some p) : ∃ ad, p.Ok w ∧ A = some ad ∧ ad.block < w.heap.size ∧
    (Instr.loadAt 30 (.pointer (some (ad.add (i * 2))))).run Try.prog w = .ok p.val w ∧ w.cell? (ad.add (i * 2)) = some (.int .i64 p.e) ∧ w.cell? ⟨(ad.add (i * 2)).block, (ad.add (i * 2)).off + 1, none⟩ = some (.slice p.A p.n p.c) := by
  have hl := h.len
  obtain ⟨p', ad, h1, h2, h3⟩ := h.get (i := i) (by have := (List.getElem?_eq_some_iff.1 hp).1; omega)
  rw [hp] at h1
  injection h1 with h1
  subst h1
  exact ⟨ad, h2, h3⟩

theorem rightAll_is {A : Option Addr} {n c : Nat} {ps : List Pc} (h : PL w A n ps) (hm : n ≤ 1000000) {q : Bool} (hq : allB (ps.map Pc.pl) = q) : Calls Try.prog 38 #[.slice A n c] w (Told w q) := by
  have hln := h.len
  by_cases c1 : 1 ≤ (n : Int) ∧ (n : Int) ≤ 1000
  · have HC := Lib.hid (decide_eq_true c1)
    have hqq : q = true ↔ ∀ p ∈ ps, RightP 256 p.pl := by
      rw [← hq, allB, decide_eq_true_iff]
      constructor
      · intro h p hp
        exact h.2 _ (List.mem_map.2 ⟨p, hp, rfl⟩)
      · intro h
        refine ⟨by simp; omega, fun p hp => ?_⟩
        obtain ⟨x, hx, rfl⟩ := List.mem_map.1 hp
        exact h x hx
    have H := Lib.hid (And.intro h (And.intro hln hqq))
    clear h hln hqq hq
    go_enter Try.func38, Try.ntmps38
    go_wp2_with fail
    refine (fits_q _ (n : Int) 1000 HC.out).mono ?_
    rintro e _ ⟨rfl, rfl⟩
    go_wp2
    go_loopw [4, 11] (fun _ sc wr => ∃ j : Nat, j ≤ n ∧ sc = .int .i64 j ∧ Hid ((∀ p ∈ ps.take j, RightP 256 p.pl) ∧ Below w.heap.size w wr)) (fun _ sc _ => n - (Go.RowKit.intOf sc).toNat)
    case atStart => exact ⟨0, by omega, rfl, (⟨by simp, Below.refl _ _⟩ : (∀ p ∈ ps.take 0, RightP 256 p.pl) ∧ Below w.heap.size w w)⟩
    case round =>
      obtain ⟨j, hj, rfl, HR⟩ := hrel
      by_cases hlt : j < n
      · obtain ⟨p, hp⟩ : ∃ p, ps[j]? = some p := ⟨_, List.getElem?_eq_getElem (by rw [H.out.2.1]; exact hlt)⟩
        obtain ⟨ad, hok, rfl, hadl, hload, _, _⟩ := (H.out.1.below HR.out.2 (Nat.le_refl _)).get' hp
        have hi1 : (0 : Int) ≤ (j : Int) := by omega
        have hi2 : (j : Int) < (n : Int) := by omega
        have hw1 : IntKind.i64.wrap ((j : Int) + 1) = (j : Int) + 1 := IntWalk.i64_in _ (by omega)
        have HT := Lib.hid (And.intro hp (And.intro hlt hok))
        clear hp hlt hadl hok
        obtain ⟨wa, hwa⟩ : ∃ v, wr.alloc (.cells #[.int .i64 p.e, .slice p.A p.n p.c] 30) = v := ⟨_, rfl⟩
        obtain ⟨hba, hxa⟩ := box_new hwa
        obtain ⟨⟨m0, m1⟩, _⟩ := two30 hxa
        have HB := Lib.hid hba
        clear hba hxa
        cases hb : rightB 256 p.pl with
        | false =>
          have hq : Hid (q = false) := by
            show q = false
            cases hq : q with
            | false => rfl
            | true =>
              have := (H.out.2.2.1 hq) p (mem_at HT.out.1)
              rw [rightB, decide_eq_false_iff_not] at hb
              exact absurd this hb
          have HH := Lib.hid hb
          clear hb
          go_wp2_with fail
          (try rw [hwa])
          refine (right_is _ 256 p.e (HT.out.2.2.rd.below HB.out (Nat.le_refl _)) HT.out.2.2.small HH.out).mono ?_
          rintro e w2 ⟨rfl, hb2⟩
          have HB2 := Lib.hid hb2
          clear hb2 hwa m0 m1 hload
          go_wp2
          go_ret
          rw [hq.out]
          exact ⟨rfl, (HR.out.2.trans (HB.out.mono HR.out.2.size)).trans (HB2.out.mono (Nat.le_trans HR.out.2.size HB.out.size))⟩
        | true =>
          have HH := Lib.hid hb
          clear hb
          go_wp2_with fail
          (try rw [hwa])
          refine (right_is _ 256 p.e (HT.out.2.2.rd.below HB.out (Nat.le_refl _)) HT.out.2.2.small HH.out).mono ?_
          rintro e w2 ⟨rfl, hb2⟩
          have HB2 := Lib.hid hb2
          clear hb2 hwa m0 m1 hload
          go_wp2
          go_roundw
          case rel =>
            refine ⟨j + 1, by have := HT.out.2.1; omega, by go_num, (⟨?_, (HR.out.2.trans (HB.out.mono HR.out.2.size)).trans (HB2.out.mono (Nat.le_trans HR.out.2.size HB.out.size))⟩ : (∀ p ∈ ps.take (j + 1), RightP 256 p.pl) ∧ _)⟩
            rw [take_snoc HT.out.1]
            intro x hx
            rcases List.mem_append.1 hx with hx | hx
            · exact HR.out.1 x hx
            · simp at hx
              subst hx
              exact of_decide_eq_true HH.out
          case measure => have := HT.out.2.1; simp [Go.RowKit.intOf]; omega
      · obtain rfl : j = n := by omega
        have hq : Hid (q = true) := by
          have := HR.out.1
          rw [List.take_of_length_le (by rw [H.out.2.1]; exact Nat.le_refl _)] at this
          exact H.out.2.2.2 this
        have hpos : (0 : Int) < (j : Int) := by omega
        go_wp2
        go_ret
        rw [hq.out]
        exact ⟨rfl, HR.out.2⟩
  · have HC := Lib.hid (decide_eq_false c1)
    have hq' : q = false := by
      rw [← hq, allB, decide_eq_false_iff_not]
      intro h'
      have := h'.1
      simp at this
      omega
    subst hq'
    clear h hln hq c1
    go_enter Try.func38, Try.ntmps38
    go_wp2_with fail
    refine (fits_q _ (n : Int) 1000 HC.out).mono ?_
    rintro e _ ⟨rfl, rfl⟩
    go_wp2
    go_ret
    exact ⟨rfl, Below.refl _ _⟩

theorem lawRight_is {A : Option Addr} {n c : Nat} {ps : List Pc} (h : PL w A n ps) (hm : n ≤ 1000000) (h0 : 0 < n) {q : Bool} (hq : decide (∀ p ∈ ps, RightP 256 p.pl) = q) : Calls Try.prog 32 #[.slice A n c] w (Told w q) := by
  have hln := h.len
  · skip
    have hqq : q = true ↔ ∀ p ∈ ps, RightP 256 p.pl := by
      rw [← hq, decide_eq_true_iff]
    have H := Lib.hid (And.intro h (And.intro hln hqq))
    clear h hln hqq hq
    go_enter Try.func32, Try.ntmps32
    go_wp2
    go_loopw [4, 7] (fun _ sc wr => ∃ j : Nat, j ≤ n ∧ sc = .int .i64 j ∧ Hid ((∀ p ∈ ps.take j, RightP 256 p.pl) ∧ Below w.heap.size w wr)) (fun _ sc _ => n - (Go.RowKit.intOf sc).toNat)
    case atStart => exact ⟨0, by omega, rfl, (⟨by simp, Below.refl _ _⟩ : (∀ p ∈ ps.take 0, RightP 256 p.pl) ∧ Below w.heap.size w w)⟩
    case round =>
      obtain ⟨j, hj, rfl, HR⟩ := hrel
      by_cases hlt : j < n
      · obtain ⟨p, hp⟩ : ∃ p, ps[j]? = some p := ⟨_, List.getElem?_eq_getElem (by rw [H.out.2.1]; exact hlt)⟩
        obtain ⟨ad, hok, rfl, hadl, hload, _, _⟩ := (H.out.1.below HR.out.2 (Nat.le_refl _)).get' hp
        have hi1 : (0 : Int) ≤ (j : Int) := by omega
        have hi2 : (j : Int) < (n : Int) := by omega
        have hw1 : IntKind.i64.wrap ((j : Int) + 1) = (j : Int) + 1 := IntWalk.i64_in _ (by omega)
        have HT := Lib.hid (And.intro hp (And.intro hlt hok))
        clear hp hlt hadl hok
        obtain ⟨wa, hwa⟩ : ∃ v, wr.alloc (.cells #[.int .i64 p.e, .slice p.A p.n p.c] 30) = v := ⟨_, rfl⟩
        obtain ⟨hba, hxa⟩ := box_new hwa
        obtain ⟨⟨m0, m1⟩, _⟩ := two30 hxa
        have HB := Lib.hid hba
        clear hba hxa
        cases hb : rightB 256 p.pl with
        | false =>
          have hq : Hid (q = false) := by
            show q = false
            cases hq : q with
            | false => rfl
            | true =>
              have := (H.out.2.2.1 hq) p (mem_at HT.out.1)
              rw [rightB, decide_eq_false_iff_not] at hb
              exact absurd this hb
          have HH := Lib.hid hb
          clear hb
          go_wp2_with fail
          (try rw [hwa])
          refine (right_is _ 256 p.e (HT.out.2.2.rd.below HB.out (Nat.le_refl _)) HT.out.2.2.small HH.out).mono ?_
          rintro e w2 ⟨rfl, hb2⟩
          have HB2 := Lib.hid hb2
          clear hb2 hwa m0 m1 hload
          go_wp2
          go_ret
          rw [hq.out]
          exact ⟨rfl, (HR.out.2.trans (HB.out.mono HR.out.2.size)).trans (HB2.out.mono (Nat.le_trans HR.out.2.size HB.out.size))⟩
        | true =>
          have HH := Lib.hid hb
          clear hb
          go_wp2_with fail
          (try rw [hwa])
          refine (right_is _ 256 p.e (HT.out.2.2.rd.below HB.out (Nat.le_refl _)) HT.out.2.2.small HH.out).mono ?_
          rintro e w2 ⟨rfl, hb2⟩
          have HB2 := Lib.hid hb2
          clear hb2 hwa m0 m1 hload
          go_wp2
          go_roundw
          case rel =>
            refine ⟨j + 1, by have := HT.out.2.1; omega, by go_num, (⟨?_, (HR.out.2.trans (HB.out.mono HR.out.2.size)).trans (HB2.out.mono (Nat.le_trans HR.out.2.size HB.out.size))⟩ : (∀ p ∈ ps.take (j + 1), RightP 256 p.pl) ∧ _)⟩
            rw [take_snoc HT.out.1]
            intro x hx
            rcases List.mem_append.1 hx with hx | hx
            · exact HR.out.1 x hx
            · simp at hx
              subst hx
              exact of_decide_eq_true HH.out
          case measure => have := HT.out.2.1; simp [Go.RowKit.intOf]; omega
      · obtain rfl : j = n := by omega
        have hq : Hid (q = true) := by
          have := HR.out.1
          rw [List.take_of_length_le (by rw [H.out.2.1]; exact Nat.le_refl _)] at this
          exact H.out.2.2.2 this
        have hpos : (0 : Int) < (j : Int) := by omega
        go_wp2
        go_ret
        rw [hq.out]
        exact ⟨rfl, HR.out.2⟩
end
end Go.Proofs.Ytbilbfjmfaignaa
