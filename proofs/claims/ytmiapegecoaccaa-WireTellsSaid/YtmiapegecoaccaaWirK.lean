/- The laws' own: SameBytes, SameAsk, SameInfos, SameTell, small. -/
import Derived.Test.YtmiapegecoaccaaWirJ
namespace Go.Proofs.Ytmiapegecoaccaa
open Go.RowKit Go.Coop
set_option maxRecDepth 100000
theorem told_mk {w w' : World} {q p : Bool} (h : q = p) (hb : Below w.heap.size w w') : Told w p (.returned (.bool q)) w' := ⟨by rw [h], hb⟩
theorem below_drewN' {B : Nat} {a b : World} (h : Below B a b) (d : Nat) : Below B a (b.drewN d) := ⟨h.os, h.tape, h.output, h.size, h.block⟩
section
variable (w : World)
theorem sameB_is {A X : Option Addr} {n m ca cx : Nat} {l k : List UInt8} (hA : Rd w A n l) (hX : Rd w X m k) {q : Bool} (hq : decide (l = k) = q) : Calls Try.prog 21 #[.slice A n ca, .slice X m cx] w fun e w' => e = .returned (.bool q) ∧ w = w' := by
  have k1 := conv_str (P := Try.prog) Try.underlying23 Try.underlying5 Try.underlying9 hA ca
  have k2 := conv_str (P := Try.prog) Try.underlying23 Try.underlying5 Try.underlying9 hX cx
  clear hA hX
  by_cases h : l = k
  · subst h
    obtain rfl : q = true := by rw [← hq]; simp
    clear hq
    go_enter Try.func21, Try.ntmps21
    go_wp2
    go_ret
    exact ⟨rfl, rfl⟩
  · obtain rfl : q = false := by rw [← hq]; simp [h]
    have hne : (l == k) = false := beq_eq_false_iff_ne.2 h
    clear hq h
    go_enter Try.func21, Try.ntmps21
    go_wp2
    go_ret
    exact ⟨rfl, rfl⟩
set_option maxHeartbeats 4000000 in
theorem sameA_is (l s o st i v l2 s2 o2 st2 i2 v2 : Int) (bs bs2 : List UInt8) {A X : Option Addr} {n m c d : Nat} (hA : Rd w A n bs) (hX : Rd w X m bs2) {q : Bool} (hq : decide ((⟨l, s, o, st, i, v, bs⟩ : AskP) = ⟨l2, s2, o2, st2, i2, v2, bs2⟩) = q) :
    Calls Try.prog 27 #[.agg #[.int .i64 l, .int .i64 s, .int .u8 o, .int .i64 st, .int .i64 i, .int .i64 v, .slice A n c], .agg #[.int .i64 l2, .int .i64 s2, .int .u8 o2, .int .i64 st2, .int .i64 i2, .int .i64 v2, .slice X m d]] w (Told w q) := by
  by_cases e : l = l2
  case neg =>
    have b : (l == l2) = false := beq_eq_false_iff_ne.2 e
    obtain rfl : q = false := by rw [← hq]; exact decide_eq_false fun h => e (by injection h)
    clear hq e hA hX
    go_enter Try.func27, Try.ntmps27
    go_wp2
    go_ret
    exact ⟨rfl, ((Below.refl _ _).alloc (Nat.le_refl _) _).alloc (by simp) _⟩
  subst e
  by_cases e : s = s2
  case neg =>
    have b : (s == s2) = false := beq_eq_false_iff_ne.2 e
    obtain rfl : q = false := by rw [← hq]; exact decide_eq_false fun h => e (by injection h)
    clear hq e hA hX
    go_enter Try.func27, Try.ntmps27
    go_wp2
    go_ret
    exact ⟨rfl, ((Below.refl _ _).alloc (Nat.le_refl _) _).alloc (by simp) _⟩
  subst e
  by_cases e : o = o2
  case neg =>
    have b : (o == o2) = false := beq_eq_false_iff_ne.2 e
    obtain rfl : q = false := by rw [← hq]; exact decide_eq_false fun h => e (by injection h)
    clear hq e hA hX
    go_enter Try.func27, Try.ntmps27
    go_wp2
    go_ret
    exact ⟨rfl, ((Below.refl _ _).alloc (Nat.le_refl _) _).alloc (by simp) _⟩
  subst e
  by_cases e : st = st2
  case neg =>
    have b : (st == st2) = false := beq_eq_false_iff_ne.2 e
    obtain rfl : q = false := by rw [← hq]; exact decide_eq_false fun h => e (by injection h)
    clear hq e hA hX
    go_enter Try.func27, Try.ntmps27
    go_wp2
    go_ret
    exact ⟨rfl, ((Below.refl _ _).alloc (Nat.le_refl _) _).alloc (by simp) _⟩
  subst e
  by_cases e : i = i2
  case neg =>
    have b : (i == i2) = false := beq_eq_false_iff_ne.2 e
    obtain rfl : q = false := by rw [← hq]; exact decide_eq_false fun h => e (by injection h)
    clear hq e hA hX
    go_enter Try.func27, Try.ntmps27
    go_wp2
    go_ret
    exact ⟨rfl, ((Below.refl _ _).alloc (Nat.le_refl _) _).alloc (by simp) _⟩
  subst e
  by_cases e : v = v2
  case neg =>
    have b : (v == v2) = false := beq_eq_false_iff_ne.2 e
    obtain rfl : q = false := by rw [← hq]; exact decide_eq_false fun h => e (by injection h)
    clear hq e hA hX
    go_enter Try.func27, Try.ntmps27
    go_wp2
    go_ret
    exact ⟨rfl, ((Below.refl _ _).alloc (Nat.le_refl _) _).alloc (by simp) _⟩
  subst e
  obtain ⟨w1, hw1⟩ : ∃ x, w.alloc (.cells #[.int .i64 l, .int .i64 s, .int .u8 o, .int .i64 st, .int .i64 i, .int .i64 v, .slice A n c] 25) = x := ⟨_, rfl⟩
  obtain ⟨w2, hw2⟩ : ∃ x, w1.alloc (.cells #[.int .i64 l, .int .i64 s, .int .u8 o, .int .i64 st, .int .i64 i, .int .i64 v, .slice X m d] 25) = x := ⟨_, rfl⟩
  obtain ⟨hb1, _⟩ := box_new hw1
  obtain ⟨hb2, _⟩ := box_new hw2
  have hB := hb1.trans (hb2.mono hb1.size)
  have hq2 : decide (bs = bs2) = q := by rw [← hq]; exact decide_eq_decide.2 ⟨fun h => by rw [h], fun h => by injection h⟩
  have H := Lib.hid (And.intro (sameB_is w2 (ca := c) (cx := d) (hA.below hB (Nat.le_refl _)) (hX.below hB (Nat.le_refl _)) hq2) hB)
  have HW := Lib.hid (And.intro hw1 hw2)
  clear hA hX hq hq2 hb1 hb2 hB hw1 hw2
  go_enter Try.func27, Try.ntmps27
  go_wp2_with fail
  rw [HW.out.1, HW.out.2]
  refine H.out.1.mono ?_
  rintro e _ ⟨rfl, rfl⟩
  go_wp2
  go_ret
  exact ⟨rfl, H.out.2⟩
def inB (a b : InfP) : Bool := decide (a.stripe = b.stripe ∧ a.index = b.index ∧ a.version = b.version ∧ a.state = b.state)
theorem inB_iff {a b : InfP} : inB a b = true ↔ a = b := by
  unfold inB
  rw [decide_eq_true_iff]
  exact InfP.same a b
theorem eqg30 : Try.prog.eqGuardType Try.prog.depth 30 = false := by kernel_rfl
theorem neq30 (w : World) (a b : InfP) : (binOp .neq 30 (ival a) (ival b)).run Try.prog w = .ok (.bool (!inB a b)) w := by
  have u3 := Try.underlying3
  have u5 := Try.underlying28
  have hS : Try.prog.underlying 30 = some (.struct (Try.prog.fieldsOf 30)) := by kernel_rfl
  have hp : Try.prog.stoodInHeld 30 = false := by kernel_rfl
  rw [run_neq_struct, show (10000 : Nat) = 9999 + 1 from rfl, run_equalIn_agg w 9999 30 _ _ hS hp]
  simp only [Program.fieldsOf, Try.underlying30]
  go_simp
  unfold inB
  by_cases h1 : a.stripe = b.stripe <;> by_cases h2 : a.index = b.index <;> by_cases h3 : a.version = b.version <;> by_cases h4 : a.state = b.state <;> simp [h1, h2, h3, h4]
theorem sameI_is {A X : Option Addr} {n m ca cx : Nat} {L K : List InfP} (hA : IL w A n L) (hX : IL w X m K) (hn : n ≤ 1000000) {q : Bool} (hq : decide (L = K) = q) : Calls Try.prog 52 #[.slice A n ca, .slice X m cx] w fun e w' => e = .returned (.bool q) ∧ ∃ d, w' = w.drewN d := by
  have h1 := hA.len
  have h2 := hX.len
  by_cases hnm : n = m
  · subst hnm
    have bn : ((n : Int) != (n : Int)) = false := by simp
    have H := Lib.hid (And.intro hA (And.intro hX (And.intro h1 (And.intro h2 hq))))
    clear hA hX h1 h2 hq
    go_enter Try.func52, Try.ntmps52
    go_wp2
    clear bn
    go_loopw [5] (fun s5 wr => ∃ j d : Nat, j ≤ n ∧ s5 = .int .i64 (j : Int) ∧ wr = w.drewN d ∧ Hid (L.take j = K.take j)) (fun s5 _ => n - (Go.RowKit.intOf s5).toNat)
    case atStart => exact ⟨0, 0, by omega, rfl, rfl, (by simp : L.take 0 = K.take 0)⟩
    case round =>
      obtain ⟨j, d, hj, rfl, rfl, HR⟩ := hrel
      by_cases hlt : j < n
      · obtain ⟨p, hp⟩ : ∃ p, L[j]? = some p := ⟨_, List.getElem?_eq_getElem (by rw [H.out.2.2.1]; exact hlt)⟩
        obtain ⟨p2, hp2⟩ : ∃ p, K[j]? = some p := ⟨_, List.getElem?_eq_getElem (by rw [H.out.2.2.2.1]; exact hlt)⟩
        obtain ⟨ad, rfl, hl1, hld, _⟩ := H.out.1.get hp
        obtain ⟨ad2, rfl, hl2, hld2, _⟩ := H.out.2.1.get hp2
        have hi1 : (0 : Int) ≤ (j : Int) := by omega
        have hi2 : (j : Int) < (n : Int) := by omega
        have hw1 : IntKind.i64.wrap ((j : Int) + 1) = (j : Int) + 1 := IntWalk.i64_in _ (by omega)
        have hld' : ∀ d, (Instr.loadAt 30 (.pointer (some (ad.add (j * 4))))).run Try.prog (w.drewN d) = .ok (ival p) (w.drewN d) := fun d => by
          obtain ⟨ad', e, _, hh, _⟩ := (H.out.1.drewN d).get hp
          injection e with e
          subst e
          exact hh
        have hld2' : ∀ d, (Instr.loadAt 30 (.pointer (some (ad2.add (j * 4))))).run Try.prog (w.drewN d) = .ok (ival p2) (w.drewN d) := fun d => by
          obtain ⟨ad', e, _, hh, _⟩ := (H.out.2.1.drewN d).get hp2
          injection e with e
          subst e
          exact hh
        have hne := fun W => neq30 W p p2
        have hg := eqg30
        cases hb : inB p p2 with
        | true =>
          simp only [hb] at hne
          have HX := Lib.hid (And.intro hp (And.intro hp2 (inB_iff.1 hb)))
          clear hp hp2 hb hlt hld hld2
          go_wp2
          go_quiet (fail)
          go_wp2
          go_roundw
          case rel =>
            refine ⟨j + 1, _, by omega, by go_num, rfl, ?_⟩
            show L.take (j + 1) = K.take (j + 1)
            rw [List.take_add_one, List.take_add_one, HX.out.1, HX.out.2.1, HX.out.2.2, HR.out]
          case measure => simp [Go.RowKit.intOf]; omega
        | false =>
          simp only [hb] at hne
          have hpp : ¬ p = p2 := fun e => by rw [inB_iff.2 e] at hb; cases hb
          obtain rfl : q = false := by
            rw [← H.out.2.2.2.2]
            refine decide_eq_false fun e => hpp ?_
            rw [e, hp2] at hp
            injection hp with hp
            exact hp.symm
          clear hp hp2 hb hlt hld hld2 hpp
          go_wp2
          go_quiet (fail)
          go_wp2
          go_ret
          exact ⟨rfl, _, World.drewN_drewN _ _ _⟩
      · obtain rfl : j = n := by omega
        obtain rfl : q = true := by
          rw [← H.out.2.2.2.2]
          have := HR.out
          rw [List.take_of_length_le (by rw [H.out.2.2.1]; exact Nat.le_refl _), List.take_of_length_le (by rw [H.out.2.2.2.1]; exact Nat.le_refl _)] at this
          simp [this]
        go_wp2
        go_ret
        exact ⟨rfl, _, rfl⟩
  · have bn : ((n : Int) != (m : Int)) = true := by simp; omega
    obtain rfl : q = false := by rw [← hq]; exact decide_eq_false fun h => hnm (by rw [← h1, ← h2, h])
    clear hq hnm h1 h2 hA hX
    go_enter Try.func52, Try.ntmps52
    go_wp2
    go_ret
    exact ⟨rfl, 0, rfl⟩
set_option maxHeartbeats 4000000 in
theorem sameT_is (l s o er room l2 s2 o2 er2 room2 : Int) (L L2 : List InfP) (bs bs2 : List UInt8) {I J A X : Option Addr} {a b ac bc n m c d : Nat} (hI : IL w I a L) (hJ : IL w J b L2) (ha : a ≤ 1000000) (hA : Rd w A n bs) (hX : Rd w X m bs2) {q : Bool} (hq : decide ((⟨l, s, o, er, L, bs, room⟩ : TelP) = ⟨l2, s2, o2, er2, L2, bs2, room2⟩) = q) :
    Calls Try.prog 28 #[.agg #[.int .i64 l, .int .i64 s, .int .u8 o, .int .i64 er, .slice I a ac, .slice A n c, .int .i64 room], .agg #[.int .i64 l2, .int .i64 s2, .int .u8 o2, .int .i64 er2, .slice J b bc, .slice X m d, .int .i64 room2]] w (Told w q) := by
  by_cases e : l = l2
  case neg =>
    have b : (l == l2) = false := beq_eq_false_iff_ne.2 e
    obtain rfl : q = false := by rw [← hq]; exact decide_eq_false fun h => e (by injection h)
    clear hq e hA hX hI hJ
    go_enter Try.func28, Try.ntmps28
    go_wp2
    go_ret
    exact ⟨rfl, ((Below.refl _ _).alloc (Nat.le_refl _) _).alloc (by simp) _⟩
  subst e
  by_cases e : s = s2
  case neg =>
    have b : (s == s2) = false := beq_eq_false_iff_ne.2 e
    obtain rfl : q = false := by rw [← hq]; exact decide_eq_false fun h => e (by injection h)
    clear hq e hA hX hI hJ
    go_enter Try.func28, Try.ntmps28
    go_wp2
    go_ret
    exact ⟨rfl, ((Below.refl _ _).alloc (Nat.le_refl _) _).alloc (by simp) _⟩
  subst e
  by_cases e : o = o2
  case neg =>
    have b : (o == o2) = false := beq_eq_false_iff_ne.2 e
    obtain rfl : q = false := by rw [← hq]; exact decide_eq_false fun h => e (by injection h)
    clear hq e hA hX hI hJ
    go_enter Try.func28, Try.ntmps28
    go_wp2
    go_ret
    exact ⟨rfl, ((Below.refl _ _).alloc (Nat.le_refl _) _).alloc (by simp) _⟩
  subst e
  by_cases e : er = er2
  case neg =>
    have b : (er == er2) = false := beq_eq_false_iff_ne.2 e
    obtain rfl : q = false := by rw [← hq]; exact decide_eq_false fun h => e (by injection h)
    clear hq e hA hX hI hJ
    go_enter Try.func28, Try.ntmps28
    go_wp2
    go_ret
    exact ⟨rfl, ((Below.refl _ _).alloc (Nat.le_refl _) _).alloc (by simp) _⟩
  subst e
  obtain ⟨w1, hw1⟩ : ∃ x, w.alloc (.cells #[.int .i64 l, .int .i64 s, .int .u8 o, .int .i64 er, .slice I a ac, .slice A n c, .int .i64 room] 34) = x := ⟨_, rfl⟩
  obtain ⟨w2, hw2⟩ : ∃ x, w1.alloc (.cells #[.int .i64 l, .int .i64 s, .int .u8 o, .int .i64 er, .slice J b bc, .slice X m d, .int .i64 room2] 34) = x := ⟨_, rfl⟩
  obtain ⟨hb1, hx1⟩ := box_new hw1
  obtain ⟨hb2, hx2⟩ := box_new hw2
  obtain ⟨g, hg⟩ : ∃ g, w.heap.size = g := ⟨_, rfl⟩
  have s1 : w1.heap.size = g + 1 := by rw [← hw1, size_alloc, hg]
  rw [hg] at hx1
  rw [s1] at hx2
  have hx1' : w2.heap[g]? = _ := (hb2.block g (by omega)).trans hx1
  have hB := hb1.trans (hb2.mono hb1.size)
  have h1 := fun (q : Bool) (hq : decide (L = L2) = q) => sameI_is w2 (ca := ac) (cx := bc) (hI.below hB (Nat.le_refl _)) (hJ.below hB (Nat.le_refl _)) ha hq
  have h2 := fun (d' : Nat) (q : Bool) (hq : decide (bs = bs2) = q) => sameB_is (w2.drewN d') (ca := c) (cx := d) ((hA.below hB (Nat.le_refl _)).drewN d') ((hX.below hB (Nat.le_refl _)).drewN d') hq
  have H := Lib.hid (And.intro hB (And.intro hx1' (And.intro hx2 (And.intro h1 h2))))
  have HW := Lib.hid (And.intro hw1 hw2)
  have HQ := Lib.hid hq
  clear hA hX hI hJ hb1 hb2 hB hw1 hw2 hx1 hx2 hx1' h1 h2 hq
  by_cases eL : L = L2
  · have qL := Lib.hid (decide_eq_true eL)
    by_cases eB : bs = bs2
    · have qB := Lib.hid (decide_eq_true eB)
      by_cases eR : room = room2
      · obtain rfl : q = true := by rw [← HQ.out]; exact decide_eq_true (by rw [eL, eB, eR])
        subst eR
        clear HQ eL eB
        go_enter Try.func28, Try.ntmps28
        go_wp2_with fail
        rw [HW.out.1, HW.out.2]
        refine (H.out.2.2.2.1 _ qL.out).mono ?_
        rintro e _ ⟨rfl, dd, rfl⟩
        obtain ⟨c0, c1, c2, c3, c4, c5, c6⟩ := arr7 (w := w2.drewN dd) H.out.2.1
        obtain ⟨f0, f1, f2, f3, f4, f5, f6⟩ := arr7 (w := w2.drewN dd) H.out.2.2.1
        go_wp2_with fail
        refine (H.out.2.2.2.2 dd _ qB.out).mono ?_
        rintro e _ ⟨rfl, rfl⟩
        go_wp2
        go_ret
        exact ⟨rfl, below_drewN' H.out.1 _⟩
      · have bR : (room == room2) = false := beq_eq_false_iff_ne.2 eR
        obtain rfl : q = false := by rw [← HQ.out]; exact decide_eq_false fun h => eR (by injection h)
        clear HQ eL eB eR
        go_enter Try.func28, Try.ntmps28
        go_wp2_with fail
        rw [HW.out.1, HW.out.2]
        refine (H.out.2.2.2.1 _ qL.out).mono ?_
        rintro e _ ⟨rfl, dd, rfl⟩
        obtain ⟨c0, c1, c2, c3, c4, c5, c6⟩ := arr7 (w := w2.drewN dd) H.out.2.1
        obtain ⟨f0, f1, f2, f3, f4, f5, f6⟩ := arr7 (w := w2.drewN dd) H.out.2.2.1
        go_wp2_with fail
        refine (H.out.2.2.2.2 dd _ qB.out).mono ?_
        rintro e _ ⟨rfl, rfl⟩
        go_wp2
        go_ret
        exact ⟨rfl, below_drewN' H.out.1 _⟩
    · have qB := Lib.hid (decide_eq_false eB)
      obtain rfl : q = false := by rw [← HQ.out]; exact decide_eq_false fun h => eB (by injection h)
      clear HQ eL eB
      go_enter Try.func28, Try.ntmps28
      go_wp2_with fail
      rw [HW.out.1, HW.out.2]
      refine (H.out.2.2.2.1 _ qL.out).mono ?_
      rintro e _ ⟨rfl, dd, rfl⟩
      obtain ⟨c0, c1, c2, c3, c4, c5, c6⟩ := arr7 (w := w2.drewN dd) H.out.2.1
      obtain ⟨f0, f1, f2, f3, f4, f5, f6⟩ := arr7 (w := w2.drewN dd) H.out.2.2.1
      go_wp2_with fail
      refine (H.out.2.2.2.2 dd _ qB.out).mono ?_
      rintro e _ ⟨rfl, rfl⟩
      go_wp2
      go_ret
      exact ⟨rfl, below_drewN' H.out.1 _⟩
  · have qL := Lib.hid (decide_eq_false eL)
    obtain rfl : q = false := by rw [← HQ.out]; exact decide_eq_false fun h => eL (by injection h)
    clear HQ eL
    go_enter Try.func28, Try.ntmps28
    go_wp2_with fail
    rw [HW.out.1, HW.out.2]
    refine (H.out.2.2.2.1 _ qL.out).mono ?_
    rintro e _ ⟨rfl, dd, rfl⟩
    go_wp2
    go_ret
    exact ⟨rfl, below_drewN' H.out.1 _⟩
theorem small_is (l s o st i v : Int) {A : Option Addr} {n c : Nat} (l2 s2 o2 er room : Int) {I : Option Addr} {m mc : Nat} {B : Option Addr} {k d : Nat} {X : Option Addr} {z zc : Nat} {q : Bool} (hq : decide (n ≤ 500 ∧ k ≤ 500 ∧ m ≤ 60 ∧ z ≤ 1000) = q) :
    Calls Try.prog 18 #[.agg #[.int .i64 l, .int .i64 s, .int .u8 o, .int .i64 st, .int .i64 i, .int .i64 v, .slice A n c], .agg #[.int .i64 l2, .int .i64 s2, .int .u8 o2, .int .i64 er, .slice I m mc, .slice B k d, .int .i64 room], .slice X z zc] w (Told w q) := by
  by_cases e : n ≤ 500
  case neg =>
    have b : (500 : Int) < (n : Int) := by omega
    obtain rfl : q = false := by rw [← hq]; exact decide_eq_false fun h => e (by omega)
    clear hq e
    go_enter Try.func18, Try.ntmps18
    go_wp2
    go_ret
    exact ⟨by first | rfl | exact ended_b (decide_eq_false (by omega)), ((Below.refl _ _).alloc (Nat.le_refl _) _).alloc (by simp) _⟩
  by_cases e : k ≤ 500
  case neg =>
    have b : (500 : Int) < (k : Int) := by omega
    obtain rfl : q = false := by rw [← hq]; exact decide_eq_false fun h => e (by omega)
    clear hq e
    go_enter Try.func18, Try.ntmps18
    go_wp2
    go_ret
    exact ⟨by first | rfl | exact ended_b (decide_eq_false (by omega)), ((Below.refl _ _).alloc (Nat.le_refl _) _).alloc (by simp) _⟩
  by_cases e : m ≤ 60
  case neg =>
    have b : (60 : Int) < (m : Int) := by omega
    obtain rfl : q = false := by rw [← hq]; exact decide_eq_false fun h => e (by omega)
    clear hq e
    go_enter Try.func18, Try.ntmps18
    go_wp2
    go_ret
    exact ⟨by first | rfl | exact ended_b (decide_eq_false (by omega)), ((Below.refl _ _).alloc (Nat.le_refl _) _).alloc (by simp) _⟩
  by_cases e4 : z ≤ 1000
  · obtain rfl : q = true := by rw [← hq]; exact decide_eq_true (by omega)
    have b : (z : Int) ≤ 1000 := by omega
    clear hq
    go_enter Try.func18, Try.ntmps18
    go_wp2
    go_ret
    exact ⟨by first | rfl | exact ended_b (decide_eq_true (by omega)), ((Below.refl _ _).alloc (Nat.le_refl _) _).alloc (by simp) _⟩
  · obtain rfl : q = false := by rw [← hq]; exact decide_eq_false (by omega)
    have b : (1000 : Int) < (z : Int) := by omega
    clear hq
    go_enter Try.func18, Try.ntmps18
    go_wp2
    go_ret
    exact ⟨by first | rfl | exact ended_b (decide_eq_false (by omega)), ((Below.refl _ _).alloc (Nat.le_refl _) _).alloc (by simp) _⟩
end
end Go.Proofs.Ytmiapegecoaccaa
