/- What the laws compare with; the laws' told, begun. -/
import Derived.Test.YtkkpfehgobanbaaFndG
import Derived.Deep.RegionHeld
import Derived.Deep.Slices
import Derived.Deep.Fields
import Derived.Lib.SmallJoins
import Derived.OpenShut
namespace Go.Proofs.Ytkkpfehgobanbaa
open Go.RowKit Go.Coop
set_option maxRecDepth 100000
theorem eq_upto {α : Type} {L M : List α} {n : Nat} (h1 : L.length = n) (h2 : M.length = n) (h : ∀ i, i < n → L[i]? = M[i]?) : L = M := by
  apply List.ext_getElem?
  intro i
  by_cases hi : i < n
  · exact h i hi
  · rw [List.getElem?_eq_none (by omega), List.getElem?_eq_none (by omega)]

theorem tmod_pos {x n : Int} (h : 0 ≤ x.tmod n) : x.tmod n = x % n := by
  rcases Int.lt_or_le x 0 with hx | hx
  · have h1 := Int.tmod_eq_emod (a := x) (b := n)
    have h2 := Int.tmod_nonneg n (show (0 : Int) ≤ -x by omega)
    rw [Int.neg_tmod] at h2
    have h3 : x.tmod n = 0 := by omega
    have h4 : n ∣ x := Int.dvd_of_tmod_eq_zero h3
    rw [h3, Int.emod_eq_zero_of_dvd h4]
  · exact Int.tmod_eq_emod_of_nonneg hx
theorem tmod_neg' {x n : Int} (h : x.tmod n < 0) (hn : 0 < n) : x.tmod n + n = x % n := by
  have hx : x < 0 := by
    rcases Int.lt_or_le x 0 with hx | hx
    · exact hx
    · have := Int.tmod_nonneg n hx
      omega
  have h1 : x.tmod n = -((-x).tmod n) := by rw [Int.neg_tmod, Int.neg_neg]
  have h2 : (-x).tmod n = (-x) % n := Int.tmod_eq_emod_of_nonneg (by omega)
  have h3 := Int.emod_lt_of_pos (-x) hn
  have h4 : (x.tmod n + n) % n = x % n := by
    rw [Int.add_emod_right]
    have h5 : x.tmod n = x - n * (x.tdiv n) := by have := Int.mul_tdiv_add_tmod x n; omega
    rw [h5, Int.sub_mul_emod_self_left]
  rw [← h4]
  refine (Int.emod_eq_of_lt ?_ ?_).symm <;> omega
theorem same_qq (A : Option Addr) (n c : Nat) (l : List UInt8) (B : Option Addr) (m d : Nat) (k : List UInt8) (w : World) (ha : Rd w A n l) (hb : Rd w B m k) (b : Bool) (e : (l == k) = b) (j : Nat) :
    Calls Try.prog 29 #[.slice A n c, .slice B m d] (w.drewN j) (fun e w' => e = .returned (.bool b) ∧ ∃ j, w' = w.drewN j) := by
  refine (same_any A n c l B m d k _ (ha.drewN j) (hb.drewN j)).mono ?_
  rw [e]
  rintro e w' ⟨rfl, rfl⟩
  exact ⟨rfl, j, rfl⟩
/-- SameLists -/
theorem lists_any (A : Option Addr) (n c : Nat) (L : List (List UInt8)) (B : Option Addr) (m d : Nat) (M : List (List UInt8)) (w : World) (ha : MR w A n L) (hb : MR w B m M) (hn : n ≤ 140737488355328) :
    Calls Try.prog 27 #[.slice A n c, .slice B m d] w (Still w (.bool (decide (L = M)))) := by
  have HA := Lib.hid ha
  have HB := Lib.hid hb
  have hl1 : Hid (L.length = n) := ha.len
  have hl2 : Hid (M.length = m) := hb.len
  clear ha hb
  by_cases hnm : n = m
  · subst hnm
    go_enter Try.func27, Try.ntmps27
    go_wp2
    go_loopw [5] (fun i wr => ∃ q j : Nat, q ≤ n ∧ i = .int .i64 q ∧ Hid (∀ i, i < q → L[i]? = M[i]?) ∧ Hid (wr = w.drewN j)) (fun i _ => n - (intOf i).toNat)
    case atStart => exact ⟨0, 0, by omega, rfl, fun i h => by omega, rfl⟩
    case round =>
      obtain ⟨q, j, hq, rfl, HQ, HW⟩ := hrel
      have HA1 : Hid (MR wr A n L) := by show MR _ _ _ _; rw [HW.out]; exact HA.out.drewN j
      have HB1 : Hid (MR wr B n M) := by show MR _ _ _ _; rw [HW.out]; exact HB.out.drewN j
      by_cases hlt : q < n
      · obtain ⟨a1, B1, d1, r1, rfl, _, hr1, hc1, hd1⟩ := HA1.out.row hlt
        obtain ⟨a2, B2, d2, r2, rfl, _, hr2, hc2, hd2⟩ := HB1.out.row hlt
        have HR := Lib.hid (And.intro hr1 hr2)
        by_cases e : r1 = r2
        · have KQ := Lib.hid (same_qq B1 r1.length d1 r1 B2 r2.length d2 r2 wr hd1 hd2 true (by rw [e]; exact beq_self_eq_true _))
          generalize r1.length = L1 at *
          generalize r2.length = L2 at *
          have hq0 : (0 : Int) ≤ (q : Int) := by omega
          have hq1 : (q : Int) < n := by omega
          clear hr1 hr2 hd1 hd2
          go_wp2_with fail
          go_quiet ((go_at_call 29; exact KQ.out _))
          go_wp2
          go_roundw
          case rel =>
            refine ⟨q + 1, _, by omega, by go_num, ?_, by rw [HW.out, World.drewN_drewN]; rfl⟩
            show ∀ i, _
            intro i hi
            by_cases e2 : i < q
            · exact HQ.out i e2
            · obtain rfl : i = q := by omega
              rw [HR.out.1, HR.out.2, e]
          case measure => simp [intOf]; omega
        · have KQ := Lib.hid (same_qq B1 r1.length d1 r1 B2 r2.length d2 r2 wr hd1 hd2 false (beq_eq_false_iff_ne.2 e))
          have hne : decide (L = M) = false := decide_eq_false fun h => e (by
            have h1 := HR.out.1
            rw [h, HR.out.2] at h1
            injection h1 with h1
            exact h1.symm)
          generalize r1.length = L1 at *
          generalize r2.length = L2 at *
          have hq0 : (0 : Int) ≤ (q : Int) := by omega
          have hq1 : (q : Int) < n := by omega
          clear hr1 hr2 hd1 hd2
          go_wp2_with fail
          go_quiet ((go_at_call 29; exact KQ.out _))
          go_wp2
          go_ret
          exact ⟨by rw [hne]; rfl, _, by rw [HW.out, World.drewN_drewN]⟩
      · obtain rfl : q = n := by omega
        have he : decide (L = M) = true := decide_eq_true (eq_upto hl1.out hl2.out HQ.out)
        go_wp2
        go_ret
        exact ⟨by rw [he]; rfl, j, HW.out⟩
  · have hne : decide (L = M) = false := decide_eq_false fun h => hnm (by rw [← hl1.out, ← hl2.out, h])
    have hq : ((n : Int) == (m : Int)) = false := beq_eq_false_iff_ne.2 (by omega)
    go_enter Try.func27, Try.ntmps27
    go_wp2
    go_ret
    exact ⟨by rw [hne]; rfl, 0, rfl⟩

theorem wcs_get : ∀ {l : List (Int × Int)} {i : Nat} {x : Int × Int} {j : Nat} {v : Value}, l[i]? = some x → [Value.int .i64 x.1, Value.int .u8 x.2][j]? = some v → (wcs l)[i * 2 + j]? = some v
  | [], i, p, j, v, h, _ => by simp at h
  | q :: ps, 0, p, j, v, h, hj => by
    simp at h
    subst h
    have : j < [Value.int .i64 q.1, Value.int .u8 q.2].length := (List.getElem?_eq_some_iff.1 hj).1
    simp only [wcs, List.flatMap_cons]
    rw [Nat.zero_mul, Nat.zero_add, List.getElem?_append_left this, hj]
  | q :: ps, i + 1, p, j, v, h, hj => by
    have := wcs_get (l := ps) (i := i) (by simpa using h) hj
    simp only [wcs, List.flatMap_cons] at this ⊢
    have hl : [Value.int .i64 q.1, Value.int .u8 q.2].length = 2 := rfl
    rw [List.getElem?_append_right (by rw [hl]; omega), hl, show (i + 1) * 2 + j - 2 = i * 2 + j by omega, this]
theorem wcs_len : ∀ l : List (Int × Int), (wcs l).length = l.length * 2
  | [] => rfl
  | p :: ps => by
    have := wcs_len ps
    simp only [wcs, List.flatMap_cons, List.length_append, List.length_cons, List.length_nil] at this ⊢
    omega
theorem addr_succ (a : Addr) (j : Nat) : a.add (j + 1) = ⟨(a.add j).block, (a.add j).off + 1, none⟩ := by
  unfold Addr.add
  rw [if_neg (by omega)]
  split
  · rename_i h; subst h; rfl
  · rfl
/-- wants that are read -/
structure WR (w : World) (A : Option Addr) (n : Nat) (l : List (Int × Int)) : Prop where
  len : l.length = n
  rd : RdV w A (n * 2) (wcs l)
theorem WR.below {w w' : World} {A : Option Addr} {n : Nat} {l : List (Int × Int)} {B : Nat} (h : WR w A n l) (hb : Below B w w') (hB : w.heap.size ≤ B) : WR w' A n l := ⟨h.len, h.rd.below hb hB⟩
theorem _root_.Go.Coop.OwnK.wr {w : World} {B n c : Nat} {A : Option Addr} {l : List (Int × Int)} (h : OwnK w B 57 2 A n c (wcs l)) : WR w A n l := ⟨by have := h.len; rw [wcs_len] at this; omega, h.rd⟩
theorem WR.get {w : World} {A : Option Addr} {n : Nat} {l : List (Int × Int)} (h : WR w A n l) {i : Nat} {x : Int × Int} (hx : l[i]? = some x) : ∃ ad, A = some ad ∧ ad.block < w.heap.size ∧
    (Instr.loadAt 57 (.pointer (some (ad.add (i * 2))))).run Try.prog w = .ok (.agg #[.int .i64 x.1, .int .u8 x.2]) w ∧ w.cell? (ad.add (i * 2)) = some (.int .i64 x.1) ∧ w.cell? ⟨(ad.add (i * 2)).block, (ad.add (i * 2)).off + 1, none⟩ = some (.int .u8 x.2) := by
  have hi := (List.getElem?_eq_some_iff.1 hx).1
  obtain ⟨ad, e, hl, hc⟩ := h.rd.cells (by have := h.len; omega)
  have c0 := hc (i * 2) (.int .i64 x.1) (by simpa using wcs_get (j := 0) hx rfl)
  have c1 := hc (i * 2 + 1) (.int .u8 x.2) (wcs_get (j := 1) hx rfl)
  refine ⟨ad, e, hl, ?_, c0, by rwa [addr_succ] at c1⟩
  refine run_loadAt_at w _ 57 [.int .i64 x.1, .int .u8 x.2] _ (fun j v hj => ?_) Try.underlying57 rfl (by kernel_rfl)
  rw [addr_add_add]
  exact hc _ _ (wcs_get hx hj)
theorem eqg57 : Try.prog.eqGuardType Try.prog.depth 57 = false := by kernel_rfl
theorem neq57 (w : World) (a b : Int × Int) : (binOp .neq 57 (.agg #[.int .i64 a.1, .int .u8 a.2]) (.agg #[.int .i64 b.1, .int .u8 b.2])).run Try.prog w = .ok (.bool (!decide (a = b))) w := by
  have u3 := Try.underlying3
  have u55 := Try.underlying55
  have hS : Try.prog.underlying 57 = some (.struct (Try.prog.fieldsOf 57)) := by kernel_rfl
  have hp : Try.prog.stoodInHeld 57 = false := by kernel_rfl
  rw [run_neq_struct, show (10000 : Nat) = 9999 + 1 from rfl, run_equalIn_agg w 9999 57 _ _ hS hp]
  simp only [Program.fieldsOf, Try.underlying57]
  go_simp
  obtain ⟨a1, a2⟩ := a
  obtain ⟨b1, b2⟩ := b
  by_cases h1 : a1 = b1 <;> by_cases h2 : a2 = b2 <;> simp [h1, h2]
theorem lists_is {A : Option Addr} {n c : Nat} {L : List (List UInt8)} {B : Option Addr} {m d : Nat} {M : List (List UInt8)} {w : World} (ha : MR w A n L) (hb : MR w B m M) (hn : n ≤ 1000000) {z : Bool} (hz : decide (L = M) = z) : Calls Try.prog 27 #[.slice A n c, .slice B m d] w (Told w z) := by
  refine (lists_any A n c L B m d M w ha hb (by omega)).mono ?_
  rintro e w' ⟨rfl, j, rfl⟩
  rw [hz]
  exact ⟨rfl, ⟨rfl, rfl, rfl, Nat.le_refl _, fun _ _ => rfl⟩⟩
theorem ints_is {A X : Option Addr} {n m ca cx : Nat} {l k : List Int} {w : World} (hA : RdV w A n (l.map IV)) (hX : RdV w X m (k.map IV)) (hn : n ≤ 1000000) {q : Bool} (hq : decide (l = k) = q) : Calls Try.prog 16 #[.slice A n ca, .slice X m cx] w (Told w q) := by
  refine (sameInts_is w hA hX hn hq).mono ?_
  rintro e w' ⟨rfl, j, rfl⟩
  exact ⟨rfl, ⟨rfl, rfl, rfl, Nat.le_refl _, fun _ _ => rfl⟩⟩
/-- two finds are one -/
def SameF (a b : Fq) : Prop := a.s = b.s ∧ a.v = b.v ∧ a.need = b.need ∧ a.ph = b.ph ∧ a.ms = b.ms ∧ a.ws = b.ws ∧ a.bs = b.bs
instance (a b : Fq) : Decidable (SameF a b) := by unfold SameF; infer_instance
theorem SameF.refl (a : Fq) : SameF a a := ⟨rfl, rfl, rfl, rfl, rfl, rfl, rfl⟩
theorem SameF.eq {a b : Fq} (h : SameF a b) : a = b := by
  obtain ⟨a1, a2, a3, a4, a5, a6, a7⟩ := a
  obtain ⟨b1, b2, b3, b4, b5, b6, b7⟩ := b
  obtain ⟨h1, h2, h3, h4, h5, h6, h7⟩ := h
  simp only at h1 h2 h3 h4 h5 h6 h7
  subst h1 h2 h3 h4 h5 h6 h7
  rfl
section
variable (w : World)
theorem pick_is {x n : Int} (hn : 0 < n) (hn2 : n ≤ 1000000) : Calls Try.prog 22 #[.int .i64 x, .int .i64 n] w fun e w' => e = .returned (.int .i64 (x % n)) ∧ w = w' := by
  have hn0 : ¬ n = 0 := by omega
  have hnb : (n == 0) = false := by simpa using hn0
  have hlt := Int.tmod_lt_of_pos x hn
  have hgt : -n < x.tmod n := by
    have h1 : x.tmod n = -((-x).tmod n) := by rw [Int.neg_tmod, Int.neg_neg]
    have := Int.tmod_lt_of_pos (-x) hn
    omega
  have hw : IntKind.i64.wrap (x.tmod n) = x.tmod n := IntWalk.i64_in _ (by omega)
  have hw2 : IntKind.i64.wrap (x.tmod n + n) = x.tmod n + n := IntWalk.i64_in _ (by omega)
  by_cases h : x.tmod n < 0
  · have e := tmod_neg' h hn
    have HE := Lib.hid e
    clear e hlt hgt
    go_enter Try.func22, Try.ntmps22
    go_wp2
    go_ret
    exact ⟨congrArg (fun k => Ending.returned (Value.int .i64 k)) HE.out, rfl⟩
  · have e := tmod_pos (x := x) (n := n) (by omega)
    have HE := Lib.hid e
    clear e hlt hgt
    go_enter Try.func22, Try.ntmps22
    go_wp2
    go_ret
    exact ⟨congrArg (fun k => Ending.returned (Value.int .i64 k)) HE.out, rfl⟩
theorem sameW_is {A X : Option Addr} {n m ca cx : Nat} {l k : List (Int × Int)} (hA : WR w A n l) (hX : WR w X m k) (hn : n ≤ 1000000) {q : Bool} (hq : decide (l = k) = q) : Calls Try.prog 44 #[.slice A n ca, .slice X m cx] w (Told w q) := by
  have hln := hA.len
  have hlm := hX.len
  by_cases hnm : n = m
  · subst hnm
    have mixed : Try.prog.follows Departure.mixedOrders = true := by kernel_rfl
    have H := Lib.hid (And.intro hA (And.intro hX (And.intro hln (And.intro hlm hq))))
    clear hA hX hln hlm hq
    go_enter Try.func44, Try.ntmps44
    go_wp2
    go_loopw [5] (fun s5 wr => ∃ j : Nat, j ≤ n ∧ s5 = .int .i64 j ∧ Hid (Below w.heap.size w wr) ∧ Hid (l.take j = k.take j)) (fun s5 _ => n - (Go.RowKit.intOf s5).toNat)
    case atStart => exact ⟨0, by omega, rfl, Below.refl _ _, (by simp : l.take 0 = k.take 0)⟩
    case round =>
      obtain ⟨j, hj, rfl, HB, HT⟩ := hrel
      by_cases hlt : j < n
      · obtain ⟨x, hx⟩ : ∃ x, l[j]? = some x := ⟨_, List.getElem?_eq_getElem (by rw [H.out.2.2.1]; exact hlt)⟩
        obtain ⟨y, hy⟩ : ∃ y, k[j]? = some y := ⟨_, List.getElem?_eq_getElem (by rw [H.out.2.2.2.1]; exact hlt)⟩
        obtain ⟨r, rfl, _, hl0, d0, d1⟩ := (H.out.1.below HB.out (Nat.le_refl _)).get hx
        obtain ⟨r', rfl, _, hl1, e0, e1⟩ := (H.out.2.1.below HB.out (Nat.le_refl _)).get hy
        have hi1 : (0 : Int) ≤ (j : Int) := by omega
        have hi2 : (j : Int) < (n : Int) := by omega
        have hw1 : IntKind.i64.wrap ((j : Int) + 1) = (j : Int) + 1 := IntWalk.i64_in _ (by omega)
        have hne := fun W => neq57 W x y
        have hg := eqg57
        cases hb : decide (x = y) with
        | true =>
          simp only [hb] at hne
          have HX := Lib.hid (And.intro hx (And.intro hy (of_decide_eq_true hb)))
          clear hx hy hb hlt
          go_wp2
          go_quiet (fail)
          go_wp2
          go_roundw
          case rel =>
            refine ⟨j + 1, by omega, by go_num, HB.out.trans ⟨rfl, rfl, rfl, Nat.le_refl _, fun _ _ => rfl⟩, ?_⟩
            show l.take (j + 1) = k.take (j + 1)
            rw [List.take_add_one, List.take_add_one, HX.out.1, HX.out.2.1, HX.out.2.2, HT.out]
          case measure => simp [Go.RowKit.intOf]; omega
        | false =>
          simp only [hb] at hne
          have HX : Hid (q = false) := by
            show q = false
            rw [← H.out.2.2.2.2]
            refine decide_eq_false fun hs => ?_
            subst hs
            rw [hx] at hy
            injection hy with hy
            exact (of_decide_eq_false hb) hy
          clear hx hy hb hlt
          go_wp2
          go_quiet (fail)
          go_wp2
          go_ret
          rw [HX.out]
          exact ⟨rfl, HB.out.trans ⟨rfl, rfl, rfl, Nat.le_refl _, fun _ _ => rfl⟩⟩
      · obtain rfl : j = n := by omega
        go_wp2
        go_ret
        have e : l = k := by
          have := HT.out
          rwa [List.take_of_length_le (by rw [H.out.2.2.1]; exact Nat.le_refl _), List.take_of_length_le (by rw [H.out.2.2.2.1]; exact Nat.le_refl _)] at this
        rw [← H.out.2.2.2.2, decide_eq_true e]
        exact ⟨rfl, HB.out⟩
  · obtain rfl : q = false := by
      rw [← hq]
      exact decide_eq_false fun hs => hnm (by rw [← hln, ← hlm, hs])
    have hb : ((n : Int) == (m : Int)) = false := by simp; omega
    clear hA hX hln hlm hq hnm
    go_enter Try.func44, Try.ntmps44
    go_wp2
    go_ret
    exact ⟨rfl, Below.refl _ _⟩
theorem marks_is (s v need ph k0 : Int) {A : Option Addr} {n c : Nat} {ms : List Int} (B : Option Addr) (m d : Nat) (C : Option Addr) (q1 k1 : Nat) (h : RdV w A n (ms.map IV)) (hn : n ≤ 1000000) {q : Int} (hq : ((ixs k0 ms).length : Int) = q) : Calls Try.prog 23 #[.agg #[.int .i64 s, .int .i64 v, .int .i64 need, .int .i64 ph, .slice A n c, .slice B m d, .slice C q1 k1], .int .i64 k0] w fun e w' => e = .returned (.int .i64 q) ∧ Below w.heap.size w w' := by
  have hln : ms.length = n := by have := h.len; simpa using this
  obtain ⟨w1, hw1⟩ : ∃ z, w.alloc (.cells #[.int .i64 s, .int .i64 v, .int .i64 need, .int .i64 ph, .slice A n c, .slice B m d, .slice C q1 k1] 27) = z := ⟨_, rfl⟩
  obtain ⟨hb1, hx1⟩ := box_mk hw1
  obtain ⟨b, hb⟩ : ∃ b, w.heap.size = b := ⟨_, rfl⟩
  rw [hb] at hx1
  have H := Lib.hid (And.intro (h.below hb1 (Nat.le_refl _)) (And.intro hln hq))
  have HB1 := Lib.hid hb1
  obtain ⟨⟨m0, m1, m2, m3, m4, m5, m6⟩, hbl⟩ := seven hx1
  clear h hln hq hb1 hx1
  go_enter Try.func23, Try.ntmps23
  go_wp2
  (try rw [hw1])
  go_loopw [5, 7, 11] (fun s5 _ s11 wr => ∃ j k : Nat, j ≤ n ∧ k ≤ j ∧ s11 = .int .i64 j ∧ s5 = .int .i64 k ∧ wr = w1 ∧ Hid (((ixs k0 (ms.take j)).length : Int) = k)) (fun _ _ s11 _ => n - (Go.RowKit.intOf s11).toNat)
  case atStart => exact ⟨0, 0, by omega, by omega, rfl, rfl, by first | trivial | rfl, (by simp [ixs, idx] : ((ixs k0 (ms.take 0)).length : Int) = (0 : Nat))⟩
  case round =>
    obtain ⟨j, k, hj, hkj, rfl, rfl, rfl, HR⟩ := hrel
    by_cases hlt : j < n
    · obtain ⟨y, hy⟩ : ∃ y, ms[j]? = some y := ⟨_, List.getElem?_eq_getElem (by rw [H.out.2.1]; exact hlt)⟩
      obtain ⟨ad, rfl, hadl, hxc⟩ := H.out.1.cells (by omega)
      have e0 := hxc j (IV y) (by rw [List.getElem?_map, hy]; rfl)
      have hi1 : (0 : Int) ≤ (j : Int) := by omega
      have hi2 : (j : Int) < (n : Int) := by omega
      have hw1 : IntKind.i64.wrap ((j : Int) + 1) = (j : Int) + 1 := IntWalk.i64_in _ (by omega)
      have hw2 : IntKind.i64.wrap ((k : Int) + 1) = (k : Int) + 1 := IntWalk.i64_in _ (by omega)
      have HT := Lib.hid (And.intro hy hlt)
      have HS := congrArg List.length (ixs_take (k := k0) hy)
      clear hy hlt hadl hxc
      by_cases hin : y = k0
      · have hc : Hid (((ixs k0 (ms.take (j + 1))).length : Int) = ((k + 1 : Nat) : Int)) := by
          show _ = _
          have := HR.out
          rw [HS, if_pos hin, List.length_append]
          simp
          omega
        subst hin
        clear HS
        go_wp2
        go_roundw
        case rel => exact ⟨j + 1, k + 1, by have := HT.out.2; omega, by omega, by go_num, by go_num, by first | trivial | rfl, hc⟩
        case measure => have := HT.out.2; simp [Go.RowKit.intOf]; omega
      · have hc : Hid (((ixs k0 (ms.take (j + 1))).length : Int) = (k : Int)) := by
          show _ = _
          have := HR.out
          rw [HS, if_neg hin, List.append_nil]
          exact this
        have hb : (y == k0) = false := by simpa using hin
        clear HS hin
        go_wp2
        go_roundw
        case rel => exact ⟨j + 1, k, by have := HT.out.2; omega, by omega, by go_num, rfl, by first | trivial | rfl, hc⟩
        case measure => have := HT.out.2; simp [Go.RowKit.intOf]; omega
    · obtain rfl : j = n := by omega
      have hq : Hid (q = (k : Int)) := by
        show q = _
        rw [← H.out.2.2, ← HR.out, List.take_of_length_le (by rw [H.out.2.1]; exact Nat.le_refl _)]
      go_wp2
      go_ret
      rw [hq.out]
      exact ⟨rfl, HB1.out⟩
set_option maxHeartbeats 2000000 in
theorem sameF_is (s1 v1 d1 p1 s2 v2 d2' p2 : Int) {A : Option Addr} {n c : Nat} {ms : List Int} {B : Option Addr} {m d : Nat} {ws : List Int} {C : Option Addr} {q k : Nat} {bs : List (List UInt8)} {A2 : Option Addr} {n2 c2 : Nat} {ms2 : List Int} {B2 : Option Addr} {m2 d2 : Nat} {ws2 : List Int} {C2 : Option Addr} {q2 k2 : Nat} {bs2 : List (List UInt8)} (h : FR w A n ms B m ws C q bs) (h2 : FR w A2 n2 ms2 B2 m2 ws2 C2 q2 bs2) {z : Bool} (hz : decide (SameF ⟨s1, v1, d1, p1, ms, ws, bs⟩ ⟨s2, v2, d2', p2, ms2, ws2, bs2⟩) = z) : Calls Try.prog 17 #[.agg #[.int .i64 s1, .int .i64 v1, .int .i64 d1, .int .i64 p1, .slice A n c, .slice B m d, .slice C q k], .agg #[.int .i64 s2, .int .i64 v2, .int .i64 d2', .int .i64 p2, .slice A2 n2 c2, .slice B2 m2 d2, .slice C2 q2 k2]] w (Told w z) := by
  obtain ⟨w1, hw1⟩ : ∃ z, w.alloc (.cells #[.int .i64 s1, .int .i64 v1, .int .i64 d1, .int .i64 p1, .slice A n c, .slice B m d, .slice C q k] 27) = z := ⟨_, rfl⟩
  obtain ⟨w2, hw2⟩ : ∃ z, w1.alloc (.cells #[.int .i64 s2, .int .i64 v2, .int .i64 d2', .int .i64 p2, .slice A2 n2 c2, .slice B2 m2 d2, .slice C2 q2 k2] 27) = z := ⟨_, rfl⟩
  obtain ⟨hb1, hx1⟩ := box_mk hw1
  obtain ⟨hb2, hx2⟩ := box_mk hw2
  obtain ⟨b, hb⟩ : ∃ b, w.heap.size = b := ⟨_, rfl⟩
  obtain ⟨b2, hbb⟩ : ∃ b, w1.heap.size = b := ⟨_, rfl⟩
  have hx12 := (hb2.block _ (lt_of_block hx1)).trans hx1
  rw [hb] at hx12
  rw [hbb] at hx2
  have HB2 := Lib.hid (hb1.trans (hb2.mono hb1.size))
  have HR2 := Lib.hid (h.below HB2.out (Nat.le_refl _))
  have HS2 := Lib.hid (h2.below HB2.out (Nat.le_refl _))
  have HX2 := Lib.hid hx12
  have HY2 := Lib.hid hx2
  have hnn := h.le
  obtain ⟨⟨f0, f1, f2, f3, f4, f5, f6⟩, fbl⟩ := seven hx12
  obtain ⟨⟨g0, g1, g2, g3, g4, g5, g6⟩, gbl⟩ := seven hx2
  clear h h2 hb1 hb2 hx1 hx12 hx2
  have hz2 : decide (s1 = s2 ∧ v1 = v2 ∧ d1 = d2' ∧ p1 = p2 ∧ ms = ms2 ∧ ws = ws2 ∧ bs = bs2) = z := hz
  clear hz
  by_cases h0 : s1 = s2
  · subst h0
    by_cases h0 : v1 = v2
    · subst h0
      by_cases h0 : d1 = d2'
      · subst h0
        by_cases h0 : p1 = p2
        · subst h0
          obtain ⟨x1, e1⟩ : ∃ x, decide (ms = ms2) = x := ⟨_, rfl⟩
          obtain ⟨x2, e2⟩ : ∃ x, decide (ws = ws2) = x := ⟨_, rfl⟩
          obtain ⟨x3, e3⟩ : ∃ x, decide (bs = bs2) = x := ⟨_, rfl⟩
          have HZ : Hid (z = (x1 && (x2 && x3))) := by
            show _ = _
            rw [← hz2, ← e1, ← e2, ← e3, Bool.eq_iff_iff]
            simp
          have E1 := Lib.hid e1
          have E2 := Lib.hid e2
          have E3 := Lib.hid e3
          clear hz2 e1 e2 e3
          go_enter Try.func17, Try.ntmps17
          go_wp2_with fail
          (try rw [hw1]); (try rw [hw2]); (try rw [hb]); (try rw [hbb])
          clear hw1 hw2 hb hbb
          refine (ints_is HR2.out.ma HS2.out.ma hnn.1 E1.out).mono ?_
          rintro e w3 ⟨rfl, hb3⟩
          have HX3 := Lib.hid ((hb3.block _ (lt_of_block HX2.out)).trans HX2.out)
          have HY3 := Lib.hid ((hb3.block _ (lt_of_block HY2.out)).trans HY2.out)
          have HR3 := Lib.hid (HR2.out.below hb3 (Nat.le_refl _))
          have HS3 := Lib.hid (HS2.out.below hb3 (Nat.le_refl _))
          have HB3 := Lib.hid (HB2.out.trans (hb3.mono HB2.out.size))
          clear hb3 f0 f1 f2 f3 f4 f5 f6 fbl g0 g1 g2 g3 g4 g5 g6 gbl
          obtain ⟨⟨f0, f1, f2, f3, f4, f5, f6⟩, fbl⟩ := seven HX3.out
          obtain ⟨⟨g0, g1, g2, g3, g4, g5, g6⟩, gbl⟩ := seven HY3.out
          cases x1 with
          | false =>
            go_wp2
            go_ret
            exact told_mk HZ.out.symm HB3.out
          | true =>
            go_wp2_with fail
            refine (ints_is HR3.out.wa HS3.out.wa hnn.2.1 E2.out).mono ?_
            rintro e w4 ⟨rfl, hb4⟩
            have HX4 := Lib.hid ((hb4.block _ (lt_of_block HX3.out)).trans HX3.out)
            have HY4 := Lib.hid ((hb4.block _ (lt_of_block HY3.out)).trans HY3.out)
            have HR4 := Lib.hid (HR3.out.below hb4 (Nat.le_refl _))
            have HS4 := Lib.hid (HS3.out.below hb4 (Nat.le_refl _))
            have HB4 := Lib.hid (HB3.out.trans (hb4.mono HB3.out.size))
            clear hb4 f0 f1 f2 f3 f4 f5 f6 fbl g0 g1 g2 g3 g4 g5 g6 gbl
            obtain ⟨⟨f0, f1, f2, f3, f4, f5, f6⟩, fbl⟩ := seven HX4.out
            obtain ⟨⟨g0, g1, g2, g3, g4, g5, g6⟩, gbl⟩ := seven HY4.out
            cases x2 with
            | false =>
              go_wp2
              go_ret
              exact told_mk HZ.out.symm HB4.out
            | true =>
              go_wp2_with fail
              refine (lists_is HR4.out.sh HS4.out.sh hnn.2.2 E3.out).mono ?_
              rintro e w5 ⟨rfl, hb5⟩
              have HB5 := Lib.hid (HB4.out.trans (hb5.mono HB4.out.size))
              clear hb5
              go_wp2
              go_ret
              exact told_mk HZ.out.symm HB5.out
        · obtain rfl : z = false := by rw [← hz2]; exact decide_eq_false (fun h => h0 (h.2.2.2.1))
          clear hz2
          have hb3q : (p1 == p2) = false := by simpa using h0
          have hb3r : decide (p1 = p2) = false := decide_eq_false h0
          go_enter Try.func17, Try.ntmps17
          go_wp2
          go_ret
          (try rw [hw1]); (try rw [hw2])
          exact told_mk rfl HB2.out
      · obtain rfl : z = false := by rw [← hz2]; exact decide_eq_false (fun h => h0 (h.2.2.1))
        clear hz2
        have hb2q : (d1 == d2') = false := by simpa using h0
        have hb2r : decide (d1 = d2') = false := decide_eq_false h0
        go_enter Try.func17, Try.ntmps17
        go_wp2
        go_ret
        (try rw [hw1]); (try rw [hw2])
        exact told_mk rfl HB2.out
    · obtain rfl : z = false := by rw [← hz2]; exact decide_eq_false (fun h => h0 (h.2.1))
      clear hz2
      have hb1q : (v1 == v2) = false := by simpa using h0
      have hb1r : decide (v1 = v2) = false := decide_eq_false h0
      go_enter Try.func17, Try.ntmps17
      go_wp2
      go_ret
      (try rw [hw1]); (try rw [hw2])
      exact told_mk rfl HB2.out
  · obtain rfl : z = false := by rw [← hz2]; exact decide_eq_false (fun h => h0 (h.1))
    clear hz2
    have hb0q : (s1 == s2) = false := by simpa using h0
    have hb0r : decide (s1 = s2) = false := decide_eq_false h0
    go_enter Try.func17, Try.ntmps17
    go_wp2
    go_ret
    (try rw [hw1]); (try rw [hw2])
    exact told_mk rfl HB2.out
end
end Go.Proofs.Ytkkpfehgobanbaa
