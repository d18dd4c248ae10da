/- Whether lists are the same; Fits. -/
import Derived.Test.YtobbjeephmfdeaaCodG
import Derived.Deep.RegionHeld
namespace Go.Proofs.Ytobbjeephmfdeaa
open Go.RowKit Go.Coop
set_option maxRecDepth 100000

theorem beq_any (A : Option Addr) (n c : Nat) (l : List UInt8) (B : Option Addr) (m d : Nat) (k : List UInt8) (w : World) (ha : Rd w A n l) (hb : Rd w B m k) :
    Calls Try.prog 48 #[.slice A n c, .slice B m d] w fun e w' => e = .returned (.bool (l == k)) ∧ w = w' := by
  have ka := conv_str (P := Try.prog) Try.underlying31 Try.underlying5 Try.underlying9 ha c
  have kb := conv_str (P := Try.prog) Try.underlying31 Try.underlying5 Try.underlying9 hb d
  go_enter Try.func48, Try.ntmps48
  go_wp2
  go_ret
  exact ⟨rfl, rfl⟩
theorem eq_upto {α : Type} {L M : List α} {n : Nat} (h1 : L.length = n) (h2 : M.length = n) (h : ∀ i, i < n → L[i]? = M[i]?) : L = M := by
  apply List.ext_getElem?
  intro i
  by_cases hi : i < n
  · exact h i hi
  · rw [List.getElem?_eq_none (by omega), List.getElem?_eq_none (by omega)]

/-- EqualFunc, by bytes.Equal -/
theorem equal_any (A : Option Addr) (n c : Nat) (L : List (List UInt8)) (B : Option Addr) (m d : Nat) (M : List (List UInt8)) (w : World) (ha : MR w A n L) (hb : MR w B m M) (hn : n ≤ 1000000) :
    Calls Try.prog 47 #[.slice A n c, .slice B m d, .func (.func 48) #[] #[]] w fun e w' => e = .returned (.bool (decide (L = M))) ∧ w = w' := by
  have HA := Lib.hid ha
  have HB := Lib.hid hb
  have hl1 : Hid (L.length = n) := ha.len
  have hl2 : Hid (M.length = m) := hb.len
  clear ha hb
  by_cases hnm : n = m
  · subst hnm
    go_enter Try.func47, Try.ntmps47
    go_wp2
    go_loopw [17] (fun i wr => ∃ q : Nat, q ≤ n ∧ i = .int .i64 q ∧ Hid (∀ i, i < q → L[i]? = M[i]?) ∧ Hid (wr = w)) (fun i _ => n - (intOf i).toNat)
    case atStart => exact ⟨0, by omega, rfl, fun i h => by omega, rfl⟩
    case round =>
      obtain ⟨q, hq, rfl, HQ, HW⟩ := hrel
      have HA1 : Hid (MR wr A n L) := by show MR _ _ _ _; rw [HW.out]; exact HA.out
      have HB1 : Hid (MR wr B n M) := by show MR _ _ _ _; rw [HW.out]; exact HB.out
      by_cases hlt : q < n
      · obtain ⟨a1, B1, d1, r1, rfl, _, hr1, hc1, hd1⟩ := HA1.out.row hlt
        obtain ⟨a2, B2, d2, r2, rfl, _, hr2, hc2, hd2⟩ := HB1.out.row hlt
        have KQ := Lib.hid (beq_any B1 r1.length d1 r1 B2 r2.length d2 r2 wr hd1 hd2)
        have HR := Lib.hid (And.intro hr1 hr2)
        generalize r1.length = L1 at *
        generalize r2.length = L2 at *
        have hq1 : (q : Int) < n := by omega
        clear hr1 hr2 hd1 hd2
        by_cases e : r1 = r2
        · have e' : (r1 == r2) = true := by rw [e]; exact beq_self_eq_true _
          rw [e'] at KQ
          go_wp2_with (go_at_call 48; refine KQ.out.mono ?_; rintro e w' ⟨rfl, rfl⟩)
          go_roundw
          case rel =>
            refine ⟨q + 1, by omega, by go_num, ?_, HW.out⟩
            show ∀ i, _
            intro i hi
            by_cases e2 : i < q
            · exact HQ.out i e2
            · obtain rfl : i = q := by omega
              rw [HR.out.1, HR.out.2, e]
          case measure => simp [intOf]; omega
        · have e' : (r1 == r2) = false := beq_eq_false_iff_ne.2 e
          rw [e'] at KQ
          have hne : decide (L = M) = false := decide_eq_false fun h => e (by
            have h1 := HR.out.1
            rw [h, HR.out.2] at h1
            injection h1 with h1
            exact h1.symm)
          go_wp2_with (go_at_call 48; refine KQ.out.mono ?_; rintro e w' ⟨rfl, rfl⟩)
          go_ret
          exact ⟨by rw [hne]; rfl, HW.out.symm⟩
      · obtain rfl : q = n := by omega
        have he : decide (L = M) = true := decide_eq_true (eq_upto hl1.out hl2.out HQ.out)
        go_wp2
        go_ret
        exact ⟨by rw [he]; rfl, HW.out.symm⟩
  · have hne : decide (L = M) = false := decide_eq_false fun h => hnm (by rw [← hl1.out, ← hl2.out, h])
    have hq : ((n : Int) == (m : Int)) = false := beq_eq_false_iff_ne.2 (by omega)
    go_enter Try.func47, Try.ntmps47
    go_wp2
    go_ret
    exact ⟨by rw [hne]; rfl, rfl⟩

theorem same_qq (A : Option Addr) (n c : Nat) (l : List UInt8) (B : Option Addr) (m d : Nat) (k : List UInt8) (w : World) (ha : Rd w A n l) (hb : Rd w B m k) (b : Bool) (e : (l == k) = b) (j : Nat) :
    Calls Try.prog 29 #[.slice A n c, .slice B m d] (w.drewN j) (fun e w' => e = .returned (.bool b) ∧ ∃ j, w' = w.drewN j) := by
  refine (same_any A n c l B m d k _ (ha.drewN j) (hb.drewN j)).mono ?_
  rw [e]
  rintro e w' ⟨rfl, rfl⟩
  exact ⟨rfl, j, rfl⟩
/-- SameLists -/
theorem lists_any (A : Option Addr) (n c : Nat) (L : List (List UInt8)) (B : Option Addr) (m d : Nat) (M : List (List UInt8)) (w : World) (ha : MR w A n L) (hb : MR w B m M) (hn : n ≤ 140737488355328) :
    Calls Try.prog 28 #[.slice A n c, .slice B m d] w (Still w (.bool (decide (L = M)))) := by
  have HA := Lib.hid ha
  have HB := Lib.hid hb
  have hl1 : Hid (L.length = n) := ha.len
  have hl2 : Hid (M.length = m) := hb.len
  clear ha hb
  by_cases hnm : n = m
  · subst hnm
    go_enter Try.func28, Try.ntmps28
    go_wp2
    go_loopw [5] (fun i wr => ∃ q j : Nat, q ≤ n ∧ i = .int .i64 q ∧ Hid (∀ i, i < q → L[i]? = M[i]?) ∧ Hid (wr = w.drewN j)) (fun i _ => n - (intOf i).toNat)
    case atStart => exact ⟨0, 0, by omega, rfl, fun i h => by omega, rfl⟩
    case round =>
      obtain ⟨q, j, hq, rfl, HQ, HW⟩ := hrel
      have HA1 : Hid (MR wr A n L) := by show MR _ _ _ _; rw [HW.out]; exact HA.out.drewN j
      have HB1 : Hid (MR wr B n M) := by show MR _ _ _ _; rw [HW.out]; exact HB.out.drewN j
      by_cases hlt : q < n
      · obtain ⟨a1, B1, d1, r1, rfl, _, hr1, hc1, hd1⟩ := HA1.out.row hlt
        obtain ⟨a2, B2, d2, r2, rfl, _, hr2, hc2, hd2⟩ := HB1.out.row hlt
        have HR := Lib.hid (And.intro hr1 hr2)
        by_cases e : r1 = r2
        · have KQ := Lib.hid (same_qq B1 r1.length d1 r1 B2 r2.length d2 r2 wr hd1 hd2 true (by rw [e]; exact beq_self_eq_true _))
          generalize r1.length = L1 at *
          generalize r2.length = L2 at *
          have hq0 : (0 : Int) ≤ (q : Int) := by omega
          have hq1 : (q : Int) < n := by omega
          clear hr1 hr2 hd1 hd2
          go_wp2_with fail
          go_quiet ((go_at_call 29; exact KQ.out _))
          go_wp2
          go_roundw
          case rel =>
            refine ⟨q + 1, _, by omega, by go_num, ?_, by rw [HW.out, World.drewN_drewN]; rfl⟩
            show ∀ i, _
            intro i hi
            by_cases e2 : i < q
            · exact HQ.out i e2
            · obtain rfl : i = q := by omega
              rw [HR.out.1, HR.out.2, e]
          case measure => simp [intOf]; omega
        · have KQ := Lib.hid (same_qq B1 r1.length d1 r1 B2 r2.length d2 r2 wr hd1 hd2 false (beq_eq_false_iff_ne.2 e))
          have hne : decide (L = M) = false := decide_eq_false fun h => e (by
            have h1 := HR.out.1
            rw [h, HR.out.2] at h1
            injection h1 with h1
            exact h1.symm)
          generalize r1.length = L1 at *
          generalize r2.length = L2 at *
          have hq0 : (0 : Int) ≤ (q : Int) := by omega
          have hq1 : (q : Int) < n := by omega
          clear hr1 hr2 hd1 hd2
          go_wp2_with fail
          go_quiet ((go_at_call 29; exact KQ.out _))
          go_wp2
          go_ret
          exact ⟨by rw [hne]; rfl, _, by rw [HW.out, World.drewN_drewN]⟩
      · obtain rfl : q = n := by omega
        have he : decide (L = M) = true := decide_eq_true (eq_upto hl1.out hl2.out HQ.out)
        go_wp2
        go_ret
        exact ⟨by rw [he]; rfl, j, HW.out⟩
  · have hne : decide (L = M) = false := decide_eq_false fun h => hnm (by rw [← hl1.out, ← hl2.out, h])
    have hq : ((n : Int) == (m : Int)) = false := beq_eq_false_iff_ne.2 (by omega)
    go_enter Try.func28, Try.ntmps28
    go_wp2
    go_ret
    exact ⟨by rw [hne]; rfl, 0, rfl⟩

/-- all shards of a stripe -/
def encL (n k : Nat) (L : List (List UInt8)) : List (List UInt8) := tabM n (L.headD []).length (mulF k (codF k) (matF L))
/-- whether these are all shards of a stripe -/
def fitsB (n k : Nat) (L : List (List UInt8)) : Bool := decide (L.length = n) && (stripeB k (L.take k) && decide (encL n k (L.take k) = L))
theorem fits_none (p : Option Addr) (S : Option Addr) (m d : Nat) (w : World) (h : NoCode w p) : Calls Try.prog 15 #[.pointer p, .slice S m d] w fun e w' => e = .returned (.bool false) ∧ w = w' := by
  have H := Lib.hid h
  clear h
  go_enter Try.func15, Try.ntmps15
  go_wp2_with (go_at_call 43; refine (cmade_no _ _ H.out).mono ?_; rintro e w' ⟨rfl, rfl⟩)
  go_ret
  exact ⟨rfl, rfl⟩
theorem fits_any {g n k gf c : Nat} {A : Option Addr} (S : Option Addr) (m d : Nat) (L : List (List UInt8)) (w : World) (hg : CodeAt w g n k gf A c) (h : MR w S m L) (hm : m ≤ 1000000) (hmd : m ≤ d) (hL : ∀ r ∈ L, r.length ≤ 140737488355328) :
    Calls Try.prog 15 #[.pointer (some ⟨g, 0, none⟩), .slice S m d] w fun e w' => e = .returned (.bool (fitsB n k L)) ∧ Below w.heap.size w w' := by
  have H := Lib.hid hg
  have HS := Lib.hid h
  have hc1 := hg.c1
  have hc2 := hg.c2
  have hk1 := hg.k1
  have hkn := hg.kn
  have hn255 := hg.n255
  have hlen : Hid (L.length = m) := h.len
  have HL := Lib.hid hL
  clear hg h hL
  by_cases hmn : m = n
  · subst hmn
    have hsl := slice_hi (E := 31) 32 Try.underlying32 info31 S m d k (by omega)
    have HTk : Hid (MR w S k (L.take k)) := HS.out.take hkn
    by_cases hs : stripeB k (L.take k) = true
    · have hs' := hs
      unfold stripeB at hs'
      rw [Bool.and_eq_true, decide_eq_true_eq] at hs'
      have htab := level_tab hs'.1 hs'.2
      have hbd := level_bound hs'.2
      have HE := Lib.hid (enc_yes (g := g) S d ((L.take k).headD []).length (matF (L.take k)) w H.out (by rw [← htab]; exact HTk.out) hbd)
      have hv : fitsB m k L = decide (encL m k (L.take k) = L) := by unfold fitsB; rw [hlen.out, hs]; simp
      rw [hv]
      have HTT : Hid (encL m k (L.take k) = tabM m ((L.take k).headD []).length (mulF k (codF k) (matF (L.take k)))) := rfl
      clear htab hs hs' hv
      go_enter Try.func15, Try.ntmps15
      go_wp2_with fail
      refine (cmade_yes _ H.out).mono ?_
      rintro e w' ⟨rfl, rfl⟩
      go_wp2_with fail
      refine HE.out.mono ?_
      rintro e w1 ⟨X, xc, rfl, hX, hB⟩
      have HX := Lib.hid hX.mr
      have HB := Lib.hid hB
      clear hX hB HE
      go_wp2_with fail
      refine (equal_any X m xc _ S m d L w1 HX.out (HS.out.below HB.out (Nat.le_refl _)) (by omega)).mono ?_
      rw [← HTT.out]
      rintro e w2 ⟨rfl, rfl⟩
      go_wp2
      go_ret
      exact ⟨rfl, HB.out⟩
    · have hs : stripeB k (L.take k) = false := by simpa using hs
      have hv : fitsB m k L = false := by unfold fitsB; rw [hs]; simp
      rw [hv]
      have HE := Lib.hid (enc_no (g := g) S k d (L.take k) w H.out HTk.out (by omega) (fun r hr => HL.out r (List.mem_of_mem_take hr)) hs)
      clear hs hv
      have hne : decide (([] : List (List UInt8)) = L) = false := decide_eq_false fun h => by have := hlen.out; rw [← h] at this; simp at this; omega
      go_enter Try.func15, Try.ntmps15
      go_wp2_with fail
      refine (cmade_yes _ H.out).mono ?_
      rintro e w' ⟨rfl, rfl⟩
      go_wp2_with fail
      refine HE.out.mono ?_
      rintro e w1 ⟨rfl, hB⟩
      have HB := Lib.hid hB
      clear hB HE
      go_wp2_with fail
      refine (equal_any none 0 0 [] S m d L w1 (MO.nil (w := w1) 0 0).mr (HS.out.below HB.out (Nat.le_refl _)) (by omega)).mono ?_
      rw [hne]
      rintro e w2 ⟨rfl, rfl⟩
      go_wp2
      go_ret
      exact ⟨rfl, HB.out⟩
  · have hv : fitsB n k L = false := by unfold fitsB; rw [hlen.out, decide_eq_false hmn]; rfl
    rw [hv]
    have hq : ((m : Int) == (n : Int)) = false := beq_eq_false_iff_ne.2 (by omega)
    go_enter Try.func15, Try.ntmps15
    go_wp2_with (go_at_call 43; refine (cmade_yes _ H.out).mono ?_; rintro e w' ⟨rfl, rfl⟩)
    go_ret
    exact ⟨rfl, Below.refl _ _⟩
end Go.Proofs.Ytobbjeephmfdeaa
