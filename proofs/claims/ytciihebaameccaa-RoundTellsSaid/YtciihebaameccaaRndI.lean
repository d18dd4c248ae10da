/- SameRound, SameWants, CopyInts, Pick, marks. -/
import Derived.Test.YtciihebaameccaaRndH
import Derived.Laws.StructEq
import Derived.BigQuiet
namespace Go.Coop
theorem wcs_dummy : True := trivial
end Go.Coop
namespace Go.Proofs.Ytciihebaameccaa
open Go.RowKit Go.Coop
set_option maxRecDepth 100000
theorem tmod_pos {x n : Int} (h : 0 ≤ x.tmod n) : x.tmod n = x % n := by
  rcases Int.lt_or_le x 0 with hx | hx
  · have h1 := Int.tmod_eq_emod (a := x) (b := n)
    have h2 := Int.tmod_nonneg n (show (0 : Int) ≤ -x by omega)
    rw [Int.neg_tmod] at h2
    have h3 : x.tmod n = 0 := by omega
    have h4 : n ∣ x := Int.dvd_of_tmod_eq_zero h3
    rw [h3, Int.emod_eq_zero_of_dvd h4]
  · exact Int.tmod_eq_emod_of_nonneg hx
theorem tmod_neg' {x n : Int} (h : x.tmod n < 0) (hn : 0 < n) : x.tmod n + n = x % n := by
  have hx : x < 0 := by
    rcases Int.lt_or_le x 0 with hx | hx
    · exact hx
    · have := Int.tmod_nonneg n hx
      omega
  have h1 : x.tmod n = -((-x).tmod n) := by rw [Int.neg_tmod, Int.neg_neg]
  have h2 : (-x).tmod n = (-x) % n := Int.tmod_eq_emod_of_nonneg (by omega)
  have h3 := Int.emod_lt_of_pos (-x) hn
  have h4 : (x.tmod n + n) % n = x % n := by
    rw [Int.add_emod_right]
    have h5 : x.tmod n = x - n * (x.tdiv n) := by have := Int.mul_tdiv_add_tmod x n; omega
    rw [h5, Int.sub_mul_emod_self_left]
  rw [← h4]
  refine (Int.emod_eq_of_lt ?_ ?_).symm <;> omega
/-- two rounds are one -/
def SameR (a b : Rn) : Prop := a.s = b.s ∧ a.v = b.v ∧ a.need = b.need ∧ a.ph = b.ph ∧ a.ms = b.ms
instance (a b : Rn) : Decidable (SameR a b) := by unfold SameR; infer_instance
theorem SameR.refl (a : Rn) : SameR a a := ⟨rfl, rfl, rfl, rfl, rfl⟩
theorem SameR.eq {a b : Rn} (h : SameR a b) : a = b := by
  obtain ⟨a1, a2, a3, a4, a5⟩ := a
  obtain ⟨b1, b2, b3, b4, b5⟩ := b
  obtain ⟨h1, h2, h3, h4, h5⟩ := h
  simp only at h1 h2 h3 h4 h5
  subst h1 h2 h3 h4 h5
  rfl
theorem wcs_get : ∀ {l : List (Int × Int)} {i : Nat} {x : Int × Int} {j : Nat} {v : Value}, l[i]? = some x → [Value.int .i64 x.1, Value.int .u8 x.2][j]? = some v → (wcs l)[i * 2 + j]? = some v
  | [], i, p, j, v, h, _ => by simp at h
  | q :: ps, 0, p, j, v, h, hj => by
    simp at h
    subst h
    have : j < [Value.int .i64 q.1, Value.int .u8 q.2].length := (List.getElem?_eq_some_iff.1 hj).1
    simp only [wcs, List.flatMap_cons]
    rw [Nat.zero_mul, Nat.zero_add, List.getElem?_append_left this, hj]
  | q :: ps, i + 1, p, j, v, h, hj => by
    have := wcs_get (l := ps) (i := i) (by simpa using h) hj
    simp only [wcs, List.flatMap_cons] at this ⊢
    have hl : [Value.int .i64 q.1, Value.int .u8 q.2].length = 2 := rfl
    rw [List.getElem?_append_right (by rw [hl]; omega), hl, show (i + 1) * 2 + j - 2 = i * 2 + j by omega, this]
theorem wcs_len : ∀ l : List (Int × Int), (wcs l).length = l.length * 2
  | [] => rfl
  | p :: ps => by
    have := wcs_len ps
    simp only [wcs, List.flatMap_cons, List.length_append, List.length_cons, List.length_nil] at this ⊢
    omega
theorem addr_succ (a : Addr) (j : Nat) : a.add (j + 1) = ⟨(a.add j).block, (a.add j).off + 1, none⟩ := by
  unfold Addr.add
  rw [if_neg (by omega)]
  split
  · rename_i h; subst h; rfl
  · rfl
/-- wants that are read -/
structure WR (w : World) (A : Option Addr) (n : Nat) (l : List (Int × Int)) : Prop where
  len : l.length = n
  rd : RdV w A (n * 2) (wcs l)
theorem WR.below {w w' : World} {A : Option Addr} {n : Nat} {l : List (Int × Int)} {B : Nat} (h : WR w A n l) (hb : Below B w w') (hB : w.heap.size ≤ B) : WR w' A n l := ⟨h.len, h.rd.below hb hB⟩
theorem _root_.Go.Coop.OwnK.wr {w : World} {B n c : Nat} {A : Option Addr} {l : List (Int × Int)} (h : OwnK w B 60 2 A n c (wcs l)) : WR w A n l := ⟨by have := h.len; rw [wcs_len] at this; omega, h.rd⟩
theorem WR.get {w : World} {A : Option Addr} {n : Nat} {l : List (Int × Int)} (h : WR w A n l) {i : Nat} {x : Int × Int} (hx : l[i]? = some x) : ∃ ad, A = some ad ∧ ad.block < w.heap.size ∧
    (Instr.loadAt 60 (.pointer (some (ad.add (i * 2))))).run Try.prog w = .ok (.agg #[.int .i64 x.1, .int .u8 x.2]) w ∧ w.cell? (ad.add (i * 2)) = some (.int .i64 x.1) ∧ w.cell? ⟨(ad.add (i * 2)).block, (ad.add (i * 2)).off + 1, none⟩ = some (.int .u8 x.2) := by
  have hi := (List.getElem?_eq_some_iff.1 hx).1
  obtain ⟨ad, e, hl, hc⟩ := h.rd.cells (by have := h.len; omega)
  have c0 := hc (i * 2) (.int .i64 x.1) (by simpa using wcs_get (j := 0) hx rfl)
  have c1 := hc (i * 2 + 1) (.int .u8 x.2) (wcs_get (j := 1) hx rfl)
  refine ⟨ad, e, hl, ?_, c0, by rwa [addr_succ] at c1⟩
  refine run_loadAt_at w _ 60 [.int .i64 x.1, .int .u8 x.2] _ (fun j v hj => ?_) Try.underlying60 rfl (by kernel_rfl)
  rw [addr_add_add]
  exact hc _ _ (wcs_get hx hj)
theorem eqg60 : Try.prog.eqGuardType Try.prog.depth 60 = false := by kernel_rfl
theorem neq60 (w : World) (a b : Int × Int) : (binOp .neq 60 (.agg #[.int .i64 a.1, .int .u8 a.2]) (.agg #[.int .i64 b.1, .int .u8 b.2])).run Try.prog w = .ok (.bool (!decide (a = b))) w := by
  have u3 := Try.underlying3
  have u33 := Try.underlying33
  have hS : Try.prog.underlying 60 = some (.struct (Try.prog.fieldsOf 60)) := by kernel_rfl
  have hp : Try.prog.stoodInHeld 60 = false := by kernel_rfl
  rw [run_neq_struct, show (10000 : Nat) = 9999 + 1 from rfl, run_equalIn_agg w 9999 60 _ _ hS hp]
  simp only [Program.fieldsOf, Try.underlying60]
  go_simp
  obtain ⟨a1, a2⟩ := a
  obtain ⟨b1, b2⟩ := b
  by_cases h1 : a1 = b1 <;> by_cases h2 : a2 = b2 <;> simp [h1, h2]
section
variable (w : World)
theorem pick_is {x n : Int} (hn : 0 < n) (hn2 : n ≤ 1000000) : Calls Try.prog 33 #[.int .i64 x, .int .i64 n] w fun e w' => e = .returned (.int .i64 (x % n)) ∧ w = w' := by
  have hn0 : ¬ n = 0 := by omega
  have hnb : (n == 0) = false := by simpa using hn0
  have hlt := Int.tmod_lt_of_pos x hn
  have hgt : -n < x.tmod n := by
    have h1 : x.tmod n = -((-x).tmod n) := by rw [Int.neg_tmod, Int.neg_neg]
    have := Int.tmod_lt_of_pos (-x) hn
    omega
  have hw : IntKind.i64.wrap (x.tmod n) = x.tmod n := IntWalk.i64_in _ (by omega)
  have hw2 : IntKind.i64.wrap (x.tmod n + n) = x.tmod n + n := IntWalk.i64_in _ (by omega)
  by_cases h : x.tmod n < 0
  · have e := tmod_neg' h hn
    have HE := Lib.hid e
    clear e hlt hgt
    go_enter Try.func33, Try.ntmps33
    go_wp2
    go_ret
    exact ⟨congrArg (fun k => Ending.returned (Value.int .i64 k)) HE.out, rfl⟩
  · have e := tmod_pos (x := x) (n := n) (by omega)
    have HE := Lib.hid e
    clear e hlt hgt
    go_enter Try.func33, Try.ntmps33
    go_wp2
    go_ret
    exact ⟨congrArg (fun k => Ending.returned (Value.int .i64 k)) HE.out, rfl⟩
theorem copyInts_is {A : Option Addr} {n c : Nat} {l : List Int} (h : RdV w A n (l.map IV)) (hn : n ≤ 1000000) : Calls Try.prog 22 #[.slice A n c] w fun e w' => ∃ A' c', e = .returned (.slice A' n c') ∧ OwnV w' w.heap.size 3 A' n c' (l.map IV) ∧ Below w.heap.size w w' := by
  have H := Lib.hid h
  clear h
  have h0n : 0 + n = n := Nat.zero_add n
  go_enter Try.func22, Try.ntmps22
  go_wp2_with (at_builtin; refine wpList_appV _ rfl (.tmp 4) (.tmp 5) _ rfl w.heap.size 3 (.int .i64 0) 8 Try.underlying24 info3 rfl (A := none) (n := 0) (c := 0) rfl (OwnV.nil _ _ _) rfl H.out (ivs_one _) (by omega) (by omega) (Nat.le_refl _) n (by omega) ?_; intro A' c' w' ho hg hat)
  have hb : Below w.heap.size w w' := ((But.refl [] w).grown hg (by simp)).none
  go_ret
  exact ⟨A', c', rfl, by simpa using ho, hb⟩
set_option maxHeartbeats 2000000 in
theorem sameR_is (s1 v1 d1 p1 s2 v2 d2 p2 : Int) {A X : Option Addr} {n m ca cx : Nat} {l k : List Int} (hA : RdV w A n (l.map IV)) (hX : RdV w X m (k.map IV)) (hn : n ≤ 1000000) {q : Bool} (hq : decide (SameR ⟨s1, v1, d1, p1, l⟩ ⟨s2, v2, d2, p2, k⟩) = q) : Calls Try.prog 18 #[.agg #[.int .i64 s1, .int .i64 v1, .int .i64 d1, .int .i64 p1, .slice A n ca], .agg #[.int .i64 s2, .int .i64 v2, .int .i64 d2, .int .i64 p2, .slice X m cx]] w (Told w q) := by
  obtain ⟨w1, hw1⟩ : ∃ z, w.alloc (.cells #[.int .i64 s1, .int .i64 v1, .int .i64 d1, .int .i64 p1, .slice A n ca] 26) = z := ⟨_, rfl⟩
  obtain ⟨w2, hw2⟩ : ∃ z, w1.alloc (.cells #[.int .i64 s2, .int .i64 v2, .int .i64 d2, .int .i64 p2, .slice X m cx] 26) = z := ⟨_, rfl⟩
  obtain ⟨hb1, hx1⟩ := box_new hw1
  obtain ⟨hb2, hx2⟩ := box_new hw2
  obtain ⟨b, hb⟩ : ∃ b, w.heap.size = b := ⟨_, rfl⟩
  obtain ⟨b2, hbb⟩ : ∃ b, w1.heap.size = b := ⟨_, rfl⟩
  have hx12 := (hb2.block _ (lt_of_block hx1)).trans hx1
  rw [hb] at hx12
  rw [hbb] at hx2
  have hB2 := hb1.trans (hb2.mono hb1.size)
  have HA := Lib.hid (hA.below hB2 (Nat.le_refl _))
  have HX := Lib.hid (hX.below hB2 (Nat.le_refl _))
  obtain ⟨⟨m0, m1, m2, m3, m4⟩, hbl⟩ := five26 hx12
  obtain ⟨⟨n0, n1, n2, n3, n4⟩, nbl⟩ := five26 hx2
  have HB := Lib.hid hB2
  clear hA hX hx12 hx2 hx1 hb1 hb2 hB2
  by_cases h0 : s1 = s2
  · subst h0
    by_cases h1 : v1 = v2
    · subst h1
      by_cases h2 : d1 = d2
      · subst h2
        by_cases h3 : p1 = p2
        · subst h3
          have kq : Hid (decide (l = k) = q) := by
            show _ = _
            rw [← hq]
            exact decide_eq_decide.2 ⟨fun h => ⟨rfl, rfl, rfl, rfl, h⟩, fun h => h.2.2.2.2⟩
          clear hq
          go_enter Try.func18, Try.ntmps18
          go_wp2_with fail
          (try rw [hw1]); (try rw [hw2]); (try rw [hb]); (try rw [hbb])
          refine (sameInts_is _ HA.out HX.out hn kq.out).mono ?_
          rintro e w' ⟨rfl, d, rfl⟩
          go_wp2
          go_ret
          exact told_mk rfl (HB.out.trans ⟨rfl, rfl, rfl, Nat.le_refl _, fun _ _ => rfl⟩)
        · have t3 : (p1 == p2) = false := by simpa using h3
          obtain rfl : q = false := by rw [← hq]; exact decide_eq_false (fun h => h3 h.2.2.2.1)
          clear hq h3
          go_enter Try.func18, Try.ntmps18
          go_wp2
          (try rw [hw1]); (try rw [hw2])
          go_ret
          exact told_mk rfl HB.out
      · have t2 : (d1 == d2) = false := by simpa using h2
        obtain rfl : q = false := by rw [← hq]; exact decide_eq_false (fun h => h2 h.2.2.1)
        clear hq h2
        go_enter Try.func18, Try.ntmps18
        go_wp2
        (try rw [hw1]); (try rw [hw2])
        go_ret
        exact told_mk rfl HB.out
    · have t1 : (v1 == v2) = false := by simpa using h1
      obtain rfl : q = false := by rw [← hq]; exact decide_eq_false (fun h => h1 h.2.1)
      clear hq h1
      go_enter Try.func18, Try.ntmps18
      go_wp2
      (try rw [hw1]); (try rw [hw2])
      go_ret
      exact told_mk rfl HB.out
  · have t0 : (s1 == s2) = false := by simpa using h0
    obtain rfl : q = false := by rw [← hq]; exact decide_eq_false (fun h => h0 h.1)
    clear hq h0
    go_enter Try.func18, Try.ntmps18
    go_wp2
    (try rw [hw1]); (try rw [hw2])
    go_ret
    exact told_mk rfl HB.out
theorem sameW_is {A X : Option Addr} {n m ca cx : Nat} {l k : List (Int × Int)} (hA : WR w A n l) (hX : WR w X m k) (hn : n ≤ 1000000) {q : Bool} (hq : decide (l = k) = q) : Calls Try.prog 29 #[.slice A n ca, .slice X m cx] w (Told w q) := by
  have hln := hA.len
  have hlm := hX.len
  by_cases hnm : n = m
  · subst hnm
    have mixed : Try.prog.follows Departure.mixedOrders = true := by kernel_rfl
    have H := Lib.hid (And.intro hA (And.intro hX (And.intro hln (And.intro hlm hq))))
    clear hA hX hln hlm hq
    go_enter Try.func29, Try.ntmps29
    go_wp2
    go_loopw [5] (fun s5 wr => ∃ j : Nat, j ≤ n ∧ s5 = .int .i64 j ∧ Hid (Below w.heap.size w wr) ∧ Hid (l.take j = k.take j)) (fun s5 _ => n - (Go.RowKit.intOf s5).toNat)
    case atStart => exact ⟨0, by omega, rfl, Below.refl _ _, (by simp : l.take 0 = k.take 0)⟩
    case round =>
      obtain ⟨j, hj, rfl, HB, HT⟩ := hrel
      by_cases hlt : j < n
      · obtain ⟨x, hx⟩ : ∃ x, l[j]? = some x := ⟨_, List.getElem?_eq_getElem (by rw [H.out.2.2.1]; exact hlt)⟩
        obtain ⟨y, hy⟩ : ∃ y, k[j]? = some y := ⟨_, List.getElem?_eq_getElem (by rw [H.out.2.2.2.1]; exact hlt)⟩
        obtain ⟨r, rfl, _, hl0, d0, d1⟩ := (H.out.1.below HB.out (Nat.le_refl _)).get hx
        obtain ⟨r', rfl, _, hl1, e0, e1⟩ := (H.out.2.1.below HB.out (Nat.le_refl _)).get hy
        have hi1 : (0 : Int) ≤ (j : Int) := by omega
        have hi2 : (j : Int) < (n : Int) := by omega
        have hw1 : IntKind.i64.wrap ((j : Int) + 1) = (j : Int) + 1 := IntWalk.i64_in _ (by omega)
        have hne := fun W => neq60 W x y
        have hg := eqg60
        cases hb : decide (x = y) with
        | true =>
          simp only [hb] at hne
          have HX := Lib.hid (And.intro hx (And.intro hy (of_decide_eq_true hb)))
          clear hx hy hb hlt
          go_wp2
          go_quiet (fail)
          go_wp2
          go_roundw
          case rel =>
            refine ⟨j + 1, by omega, by go_num, HB.out.trans ⟨rfl, rfl, rfl, Nat.le_refl _, fun _ _ => rfl⟩, ?_⟩
            show l.take (j + 1) = k.take (j + 1)
            rw [List.take_add_one, List.take_add_one, HX.out.1, HX.out.2.1, HX.out.2.2, HT.out]
          case measure => simp [Go.RowKit.intOf]; omega
        | false =>
          simp only [hb] at hne
          have HX : Hid (q = false) := by
            show q = false
            rw [← H.out.2.2.2.2]
            refine decide_eq_false fun hs => ?_
            subst hs
            rw [hx] at hy
            injection hy with hy
            exact (of_decide_eq_false hb) hy
          clear hx hy hb hlt
          go_wp2
          go_quiet (fail)
          go_wp2
          go_ret
          rw [HX.out]
          exact ⟨rfl, HB.out.trans ⟨rfl, rfl, rfl, Nat.le_refl _, fun _ _ => rfl⟩⟩
      · obtain rfl : j = n := by omega
        go_wp2
        go_ret
        have e : l = k := by
          have := HT.out
          rwa [List.take_of_length_le (by rw [H.out.2.2.1]; exact Nat.le_refl _), List.take_of_length_le (by rw [H.out.2.2.2.1]; exact Nat.le_refl _)] at this
        rw [← H.out.2.2.2.2, decide_eq_true e]
        exact ⟨rfl, HB.out⟩
  · obtain rfl : q = false := by
      rw [← hq]
      exact decide_eq_false fun hs => hnm (by rw [← hln, ← hlm, hs])
    have hb : ((n : Int) == (m : Int)) = false := by simp; omega
    clear hA hX hln hlm hq hnm
    go_enter Try.func29, Try.ntmps29
    go_wp2
    go_ret
    exact ⟨rfl, Below.refl _ _⟩
theorem cnt_take {k : Int} {l : List Int} {j : Nat} {y : Int} (h : l[j]? = some y) : cnt k (l.take (j + 1)) = cnt k (l.take j) + if y = k then 1 else 0 := by
  rw [take_snoc h]
  unfold cnt
  rw [List.countP_append]
  by_cases h2 : y = k <;> simp [h2]
set_option maxHeartbeats 1000000 in
theorem marks_is (s v need ph k0 : Int) {A : Option Addr} {n c : Nat} {ms : List Int} (h : RdV w A n (ms.map IV)) (hn : n ≤ 1000000) {q : Int} (hq : cnt k0 ms = q) : Calls Try.prog 34 #[.agg #[.int .i64 s, .int .i64 v, .int .i64 need, .int .i64 ph, .slice A n c], .int .i64 k0] w fun e w' => e = .returned (.int .i64 q) ∧ Below w.heap.size w w' := by
  have hln : ms.length = n := by have := h.len; simpa using this
  obtain ⟨w1, hw1⟩ : ∃ z, w.alloc (.cells #[.int .i64 s, .int .i64 v, .int .i64 need, .int .i64 ph, .slice A n c] 26) = z := ⟨_, rfl⟩
  obtain ⟨hb1, hx1⟩ := box_new hw1
  obtain ⟨b, hb⟩ : ∃ b, w.heap.size = b := ⟨_, rfl⟩
  rw [hb] at hx1
  have H := Lib.hid (And.intro (h.below hb1 (Nat.le_refl _)) (And.intro hln hq))
  have HB1 := Lib.hid hb1
  obtain ⟨⟨m0, m1, m2, m3, m4⟩, hbl⟩ := five26 hx1
  clear h hln hq hb1 hx1
  go_enter Try.func34, Try.ntmps34
  go_wp2
  (try rw [hw1])
  go_loopw [5, 7, 11] (fun s5 _ s11 wr => ∃ j k : Nat, j ≤ n ∧ k ≤ j ∧ s11 = .int .i64 j ∧ s5 = .int .i64 k ∧ wr = w1 ∧ Hid (cnt k0 (ms.take j) = k)) (fun _ _ s11 _ => n - (Go.RowKit.intOf s11).toNat)
  case atStart => exact ⟨0, 0, by omega, by omega, rfl, rfl, by first | trivial | rfl, (by simp [cnt] : cnt k0 (ms.take 0) = (0 : Nat))⟩
  case round =>
    obtain ⟨j, k, hj, hkj, rfl, rfl, rfl, HR⟩ := hrel
    by_cases hlt : j < n
    · obtain ⟨y, hy⟩ : ∃ y, ms[j]? = some y := ⟨_, List.getElem?_eq_getElem (by rw [H.out.2.1]; exact hlt)⟩
      obtain ⟨ad, rfl, hadl, hxc⟩ := H.out.1.cells (by omega)
      have e0 := hxc j (IV y) (by rw [List.getElem?_map, hy]; rfl)
      have hi1 : (0 : Int) ≤ (j : Int) := by omega
      have hi2 : (j : Int) < (n : Int) := by omega
      have hw1 : IntKind.i64.wrap ((j : Int) + 1) = (j : Int) + 1 := IntWalk.i64_in _ (by omega)
      have hw2 : IntKind.i64.wrap ((k : Int) + 1) = (k : Int) + 1 := IntWalk.i64_in _ (by omega)
      have HT := Lib.hid (And.intro hy hlt)
      have HS := cnt_take (k := k0) hy
      clear hy hlt hadl hxc
      by_cases hin : y = k0
      · have hc : Hid (cnt k0 (ms.take (j + 1)) = ((k + 1 : Nat) : Int)) := by
          show _ = _
          rw [HS, if_pos hin, HR.out]
          simp
        subst hin
        clear HS
        go_wp2
        go_roundw
        case rel => exact ⟨j + 1, k + 1, by have := HT.out.2; omega, by omega, by go_num, by go_num, by first | trivial | rfl, hc⟩
        case measure => have := HT.out.2; simp [Go.RowKit.intOf]; omega
      · have hc : Hid (cnt k0 (ms.take (j + 1)) = (k : Int)) := by
          show _ = _
          rw [HS, if_neg hin, HR.out]
          simp
        have hb : (y == k0) = false := by simpa using hin
        clear HS hin
        go_wp2
        go_roundw
        case rel => exact ⟨j + 1, k, by have := HT.out.2; omega, by omega, by go_num, rfl, by first | trivial | rfl, hc⟩
        case measure => have := HT.out.2; simp [Go.RowKit.intOf]; omega
    · obtain rfl : j = n := by omega
      have hq : Hid (q = (k : Int)) := by
        show q = _
        rw [← H.out.2.2, ← HR.out, List.take_of_length_le (by rw [H.out.2.1]; exact Nat.le_refl _)]
      go_wp2
      go_ret
      rw [hq.out]
      exact ⟨rfl, HB1.out⟩
end
end Go.Proofs.Ytciihebaameccaa
