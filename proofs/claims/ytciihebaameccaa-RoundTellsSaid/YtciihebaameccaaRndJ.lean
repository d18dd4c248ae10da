/- The laws' told and wants. -/
import Derived.Test.YtciihebaameccaaRndI
import Derived.Test.YtciihebaameccaaRndQ
namespace Go.Proofs.Ytciihebaameccaa
open Go.RowKit Go.Coop
set_option maxRecDepth 100000
theorem addr_succ2 (a : Addr) (j : Nat) : a.add (j + 2) = ⟨(a.add j).block, (a.add j).off + 2, none⟩ := by
  rw [show j + 2 = (j + 1) + 1 from rfl, addr_succ, addr_succ]
/-- rounds behind answers -/
def toldL (r : Rn) (l : List (Int × Int × Int)) : Rn := l.foldl (fun r x => (r.told x.1 x.2.1 x.2.2).1) r
theorem toldL_take {r : Rn} {l : List (Int × Int × Int)} {j : Nat} {x : Int × Int × Int} (h : l[j]? = some x) : toldL r (l.take (j + 1)) = ((toldL r (l.take j)).told x.1 x.2.1 x.2.2).1 := by
  unfold toldL
  rw [take_snoc h, List.foldl_append]
  rfl
/-- each answer is one to an ask, none errs -/
def OkL (r : Rn) (l : List (Int × Int × Int)) : Prop := ∀ (j : Nat) (x : Int × Int × Int), l[j]? = some x → ((toldL r (l.take j)).told x.1 x.2.1 x.2.2).2 = 0 ∧ 0 ≤ x.2.1 ∧ x.2.1 ≤ 255
theorem toldL_len (r : Rn) (l : List (Int × Int × Int)) : (toldL r l).ms.length = r.ms.length := by
  induction l generalizing r with
  | nil => rfl
  | cons x l ih =>
    unfold toldL at ih ⊢
    rw [List.foldl_cons, ih]
    exact (told_len _ _ _).1
def tcs (l : List (Int × Int × Int)) : List Value := l.flatMap fun x => [.int .i64 x.1, .int .i64 x.2.1, .int .i64 x.2.2]
theorem tcs_get : ∀ {l : List (Int × Int × Int)} {i : Nat} {x : Int × Int × Int} {j : Nat} {v : Value}, l[i]? = some x → [Value.int .i64 x.1, Value.int .i64 x.2.1, Value.int .i64 x.2.2][j]? = some v → (tcs l)[i * 3 + j]? = some v
  | [], i, p, j, v, h, _ => by simp at h
  | q :: ps, 0, p, j, v, h, hj => by
    simp at h
    subst h
    have : j < [Value.int .i64 q.1, Value.int .i64 q.2.1, Value.int .i64 q.2.2].length := (List.getElem?_eq_some_iff.1 hj).1
    simp only [tcs, List.flatMap_cons]
    rw [Nat.zero_mul, Nat.zero_add, List.getElem?_append_left this, hj]
  | q :: ps, i + 1, p, j, v, h, hj => by
    have := tcs_get (l := ps) (i := i) (by simpa using h) hj
    simp only [tcs, List.flatMap_cons] at this ⊢
    have hl : [Value.int .i64 q.1, Value.int .i64 q.2.1, Value.int .i64 q.2.2].length = 3 := rfl
    rw [List.getElem?_append_right (by rw [hl]; omega), hl, show (i + 1) * 3 + j - 3 = i * 3 + j by omega, this]
def dcs (l : List (Int × Int)) : List Value := l.flatMap fun x => [.int .i64 x.1, .int .i64 x.2]
theorem dcs_get : ∀ {l : List (Int × Int)} {i : Nat} {x : Int × Int} {j : Nat} {v : Value}, l[i]? = some x → [Value.int .i64 x.1, Value.int .i64 x.2][j]? = some v → (dcs l)[i * 2 + j]? = some v
  | [], i, p, j, v, h, _ => by simp at h
  | q :: ps, 0, p, j, v, h, hj => by
    simp at h
    subst h
    have : j < [Value.int .i64 q.1, Value.int .i64 q.2].length := (List.getElem?_eq_some_iff.1 hj).1
    simp only [dcs, List.flatMap_cons]
    rw [Nat.zero_mul, Nat.zero_add, List.getElem?_append_left this, hj]
  | q :: ps, i + 1, p, j, v, h, hj => by
    have := dcs_get (l := ps) (i := i) (by simpa using h) hj
    simp only [dcs, List.flatMap_cons] at this ⊢
    have hl : [Value.int .i64 q.1, Value.int .i64 q.2].length = 2 := rfl
    rw [List.getElem?_append_right (by rw [hl]; omega), hl, show (i + 1) * 2 + j - 2 = i * 2 + j by omega, this]
theorem _root_.Go.Coop.RdV.but0 {gs : List Nat} {w w' : World} {A : Option Addr} {n : Nat} {vs : List Value} (h : RdV w A n vs) (hb : But gs w w') (hn : 0 < n → ∀ j, A.map (·.block) = some j → j ∉ gs) : RdV w' A n vs := by
  rcases Nat.eq_zero_or_pos n with h0 | h0
  · subst h0
    have : vs = [] := List.eq_nil_of_length_eq_zero h.len
    subst this
    exact RdV.nil _ _
  · exact h.but hb (hn h0)
/-- two_end, the marks anywhere -/
theorem two_end0 {w W : World} {b2 : Nat} {s v need ph : Int} {A : Option Addr} {n c : Nat} {L : List Int} (hr : RdV W A n (L.map IV)) (hA : 0 < n → ∀ j, A.map (·.block) = some j → j ≠ b2)
    (hx : W.heap[b2]? = some (.cells #[.int .i64 0, .int .i64 0, .int .i64 0, .int .i64 0, .slice none 0 0] 26 (0, 0))) (hb : Below w.heap.size w W) (hle : w.heap.size ≤ b2) :
    ∃ _ : (((((W.setCell ⟨b2, 0, none⟩ (.int .i64 s)).setCell ⟨b2, 1, none⟩ (.int .i64 v)).setCell ⟨b2, 2, none⟩ (.int .i64 need)).setCell ⟨b2, 3, none⟩ (.int .i64 ph)).setCell ⟨b2, 4, none⟩ (.slice A n c)).heap[b2]? = some (.cells #[.int .i64 s, .int .i64 v, .int .i64 need, .int .i64 ph, .slice A n c] 26 (0, 0)),
      RdV (((((W.setCell ⟨b2, 0, none⟩ (.int .i64 s)).setCell ⟨b2, 1, none⟩ (.int .i64 v)).setCell ⟨b2, 2, none⟩ (.int .i64 need)).setCell ⟨b2, 3, none⟩ (.int .i64 ph)).setCell ⟨b2, 4, none⟩ (.slice A n c)) A n (L.map IV) ∧
      Below w.heap.size w (((((W.setCell ⟨b2, 0, none⟩ (.int .i64 s)).setCell ⟨b2, 1, none⟩ (.int .i64 v)).setCell ⟨b2, 2, none⟩ (.int .i64 need)).setCell ⟨b2, 3, none⟩ (.int .i64 ph)).setCell ⟨b2, 4, none⟩ (.slice A n c)) := by
  have hb3 : But [b2] W (((((W.setCell ⟨b2, 0, none⟩ (.int .i64 s)).setCell ⟨b2, 1, none⟩ (.int .i64 v)).setCell ⟨b2, 2, none⟩ (.int .i64 need)).setCell ⟨b2, 3, none⟩ (.int .i64 ph)).setCell ⟨b2, 4, none⟩ (.slice A n c)) :=
    (((((But.refl _ _).setCell (by simp) _).setCell (by simp) _).setCell (by simp) _).setCell (by simp) _).setCell (by simp) _
  refine ⟨row5 hx, hr.but0 hb3 fun h0 j hj hm => ?_, ?_⟩
  · have := hA h0 j hj
    simp at hm
    omega
  · exact ((((hb.setCell (by simpa using hle) _).setCell (by simpa using hle) _).setCell (by simpa using hle) _).setCell (by simpa using hle) _).setCell (by simpa using hle) _
/-- a round and a truth -/
def RoundB (w : World) (r : Rn) (q : Bool) (e : Ending) (w' : World) : Prop := ∃ A c, e = .returned (.tuple #[RVal r A r.ms.length c, .bool q]) ∧ RdV w' A r.ms.length (r.ms.map IV) ∧ Below w.heap.size w w'
section
variable (w : World)
set_option maxHeartbeats 4000000 in
theorem ltold_is (r : Rn) {A : Option Addr} {n c : Nat} (h : RdV w A n (r.ms.map IV)) (hn : n ≤ 1000000) {F : Option Addr} {m cF : Nat} {l : List (Int × Int × Int)} (hF : RdV w F (m * 3) (tcs l)) (hm : l.length = m) (hm2 : m ≤ 1000000) (hok : OkL r l) {Q : Rn} (hQ : toldL r l = Q) : Calls Try.prog 15 #[.agg #[.int .i64 r.s, .int .i64 r.v, .int .i64 r.need, .int .i64 r.ph, .slice A n c], .slice F m cF] w (RoundB w Q true) := by
  have hln : r.ms.length = n := by simpa using h.len
  obtain ⟨w1, hw1⟩ : ∃ z, w.alloc (.cells #[.int .i64 r.s, .int .i64 r.v, .int .i64 r.need, .int .i64 r.ph, .slice A n c] 26) = z := ⟨_, rfl⟩
  obtain ⟨w2, hw2⟩ : ∃ z, w1.alloc (.cells #[.int .i64 0, .int .i64 0, .int .i64 0, .int .i64 0, .slice none 0 0] 26) = z := ⟨_, rfl⟩
  obtain ⟨hb1, hx1⟩ := box_new hw1
  obtain ⟨hb2, hx2⟩ := box_new hw2
  obtain ⟨b, hb⟩ : ∃ b, w.heap.size = b := ⟨_, rfl⟩
  obtain ⟨b2, hbb⟩ : ∃ b, w1.heap.size = b := ⟨_, rfl⟩
  have hlt : b < b2 := by rw [← hb, ← hbb]; exact lt_of_block hx1
  have hx12 := (hb2.block _ (lt_of_block hx1)).trans hx1
  rw [hb] at hx12
  rw [hbb] at hx2
  have hB2 := hb1.trans (hb2.mono hb1.size)
  have hne : b2 ≠ b := by omega
  have hne' : b ≠ b2 := by omega
  have HE := Lib.hid (And.intro (h.below hB2 (Nat.le_refl _)) (And.intro hB2 (And.intro hx12 (And.intro hx2 (And.intro hb hlt)))))
  have HA0 := Lib.hid h
  have HF := Lib.hid hF
  have HO := Lib.hid hok
  have HQ := Lib.hid hQ
  have HM := Lib.hid hm
  clear h hB2 hx12 hx2 hlt hx1 hb1 hb2 hF hok hQ hm
  go_enter Try.func15, Try.ntmps15
  go_wp2
  (try rw [hw1]); (try rw [hw2]); (try rw [hb]); (try rw [hbb])
  clear hw1 hw2 hb hbb
  go_loopw [6, 8, 9, 12] (fun s6 _ _ s12 wr => ∃ (j : Nat) (X : Option Addr) (cx : Nat), j ≤ m ∧ s12 = .int .i64 j ∧ s6 = .bool true ∧ Hid (wr.heap[b]? = some (.cells #[.int .i64 (toldL r (l.take j)).s, .int .i64 (toldL r (l.take j)).v, .int .i64 (toldL r (l.take j)).need, .int .i64 (toldL r (l.take j)).ph, .slice X n cx] 26 (0, 0))) ∧ Hid (RdV wr X n ((toldL r (l.take j)).ms.map IV)) ∧ Hid (0 < n → ∀ g, X.map (·.block) = some g → g ≠ b2) ∧ Hid (wr.heap[b2]? = some (.cells #[.int .i64 0, .int .i64 0, .int .i64 0, .int .i64 0, .slice none 0 0] 26 (0, 0))) ∧ Hid (Below w.heap.size w wr)) (fun _ _ _ s12 _ => m - (Go.RowKit.intOf s12).toNat)
  case atStart => exact ⟨0, A, c, Nat.zero_le _, rfl, rfl, HE.out.2.2.1, HE.out.1, (fun h0 g hg => by
    obtain ⟨ad, e, h1, _⟩ := HA0.out.cells h0
    rw [e] at hg
    simp at hg
    have := HE.out.2.2.2.2
    omega), HE.out.2.2.2.1, HE.out.2.1⟩
  case round =>
    obtain ⟨j, X, cx, hj, rfl, rfl, HX, HR, HXb, HZ, HB⟩ := hrel
    obtain ⟨⟨f0, f1, f2, f3, f4⟩, fbl⟩ := five26 HX.out
    by_cases hlt : j < m
    · obtain ⟨x, hx⟩ : ∃ x, l[j]? = some x := ⟨_, List.getElem?_eq_getElem (by rw [HM.out]; exact hlt)⟩
      obtain ⟨ad, rfl, hadl, hxc⟩ := (HF.out.below HB.out (Nat.le_refl _)).cells (by omega)
      have c0 := hxc (j * 3) _ (by simpa using tcs_get (j := 0) hx rfl)
      have c1 := hxc (j * 3 + 1) _ (tcs_get (j := 1) hx rfl)
      have c2 := hxc (j * 3 + 2) _ (tcs_get (j := 2) hx rfl)
      rw [addr_succ] at c1
      rw [addr_succ2] at c2
      have hi1 : (0 : Int) ≤ (j : Int) := by omega
      have hi2 : (j : Int) < (m : Int) := by omega
      have hw1 : IntKind.i64.wrap ((j : Int) + 1) = (j : Int) + 1 := IntWalk.i64_in _ (by omega)
      obtain ⟨hk1, hk2, hk3⟩ := HO.out j x hx
      have hmod : x.2.1 % 256 = x.2.1 := Int.emod_eq_of_lt hk2 (by omega)
      have HS := Lib.hid (toldL_take (r := r) hx)
      have HLn := Lib.hid (show (toldL r (l.take j)).ms.length = n by rw [toldL_len]; exact hln)
      obtain ⟨x0, x1, x2⟩ := x
      simp only at c0 c1 c2 hk1 hmod HS
      obtain ⟨rj, hrj⟩ : ∃ q, toldL r (l.take j) = q := ⟨_, rfl⟩
      rw [hrj] at HS HLn HR f0 f1 f2 f3 HX hk1
      obtain ⟨Q1, hQ1⟩ : ∃ q, (rj.told x0 x1 x2).1 = q := ⟨_, rfl⟩
      have hP : Rn.told ⟨rj.s, rj.v, rj.need, rj.ph, rj.ms⟩ x0 x1 x2 = (Q1, 0) := Prod.ext hQ1 hk1
      rw [hQ1] at HS
      have hQn : Q1.ms.length = n := by rw [← hQ1]; exact (told_len _ _ _).1.trans HLn.out
      have HP := Lib.hid hP
      have HQn := Lib.hid hQn
      have HT := Lib.hid (And.intro hlt hj)
      obtain ⟨wa, hwa⟩ : ∃ z, wr.alloc (.cells #[.int .i64 x0, .int .i64 x1, .int .i64 x2] 36) = z := ⟨_, rfl⟩
      obtain ⟨hba, hxa⟩ := box_new hwa
      obtain ⟨⟨f0, f1, f2, f3, f4⟩, fbl⟩ := five26 ((hba.block _ (lt_of_block HX.out)).trans HX.out)
      have e0 := cell_of_row wa _ 0 _ 36 (0, 0) hxa
      have e1 := cell_of_row wa _ 1 _ 36 (0, 0) hxa
      have e2 := cell_of_row wa _ 2 _ 36 (0, 0) hxa
      simp at e0 e1 e2
      clear hxa
      clear hx hk1 hk2 hk3 hrj hQ1 hP hQn hlt hxc hadl hj
      go_wp2_with fail
      (try rw [hwa])
      refine (told_is _ rj.s rj.v rj.need rj.ph x0 x1 x2 (HR.out.below hba (Nat.le_refl _)) hn HP.out).mono ?_
      rintro e w3 ⟨A9, c9, rfl, hr9, hA9, hb9⟩
      simp only [HQn.out, RVal] at hr9 ⊢
      have hx3 := (hb9.block _ (by have := lt_of_block HX.out; have := hba.size; omega)).trans ((hba.block _ (lt_of_block HX.out)).trans HX.out)
      have hz3 := (hb9.block _ (by have := lt_of_block HZ.out; have := hba.size; omega)).trans ((hba.block _ (lt_of_block HZ.out)).trans HZ.out)
      obtain ⟨w4, hw4⟩ : ∃ z, ((((w3.setCell ⟨b, 0, none⟩ (.int .i64 Q1.s)).setCell ⟨b, 1, none⟩ (.int .i64 Q1.v)).setCell ⟨b, 2, none⟩ (.int .i64 Q1.need)).setCell ⟨b, 3, none⟩ (.int .i64 Q1.ph)).setCell ⟨b, 4, none⟩ (.slice A9 n c9) = z := ⟨_, rfl⟩
      have hx4 : w4.heap[b]? = some (.cells #[.int .i64 Q1.s, .int .i64 Q1.v, .int .i64 Q1.need, .int .i64 Q1.ph, .slice A9 n c9] 26 (0, 0)) := hw4 ▸ row5 hx3
      have hbt : But [b] w3 w4 := hw4 ▸ (((((But.refl _ _).setCell (by simp) _).setCell (by simp) _).setCell (by simp) _).setCell (by simp) _).setCell (by simp) _
      have hz4 := hbt.cells hz3 (by simpa using hne)
      have hAb : ∀ g, A9.map (·.block) = some g → g ≠ b ∧ g ≠ b2 := fun g hg => by
        have h1 := hA9 g hg
        have h2 := lt_of_block HX.out
        have h3 := lt_of_block HZ.out
        have h4 := hba.size
        omega
      have hr4 := hr9.but hbt (fun g hg hm => (hAb g hg).1 (by simpa using hm))
      have HB4 : Hid (Below w.heap.size w w4) := by
        show Below _ _ _
        have h1 := HB.out.size
        have h2 := hba.size
        exact (HB.out.trans ((hba.trans (hb9.mono h2)).mono h1)).trans (hbt.below (B := w.heap.size) (by have := hb9.size; omega) (by intro g hg; simp at hg; have := HE.out.2.2.2.2; omega))
      have HN := Lib.hid (And.intro hx4 (And.intro hr4 (And.intro (fun (_ : 0 < n) g hg => (hAb g hg).2) hz4)))
      obtain ⟨⟨a0, a1, a2, a3, a4⟩, abl⟩ := five26 hx3
      obtain ⟨t0, t1, t2, t3, t4⟩ := thaw5 hx3
      clear hr9 hA9 hb9 hx3 hz3 hx4 hbt hz4 hAb hr4 hba hwa f0 f1 f2 f3 f4
      go_wp2
      (try rw [hw4])
      go_roundw
      case rel =>
        refine ⟨j + 1, A9, c9, by have := HT.out.1; omega, by go_num, by simp, ?_, ?_, HN.out.2.2.1, HN.out.2.2.2, HB4⟩
        · show w4.heap[b]? = _
          rw [HS.out]
          exact HN.out.1
        · show RdV w4 A9 n _
          rw [HS.out]
          exact HN.out.2.1
      case measure => have := HT.out.1; simp [Go.RowKit.intOf]; omega
    · obtain rfl : j = m := by omega
      have hfin : l.take j = l := List.take_of_length_le (by rw [HM.out]; exact Nat.le_refl _)
      rw [hfin, HQ.out] at HX HR f0 f1 f2 f3
      have hQn : Q.ms.length = n := by rw [← HQ.out, toldL_len]; exact hln
      have HQn := Lib.hid hQn
      obtain ⟨⟨r0, r1, r2, r3, r4⟩, rbl⟩ := five26 HZ.out
      obtain ⟨y0, y1, y2, y3, y4⟩ := thaw5 HZ.out
      clear hfin hQn hlt hj
      go_wp2
      obtain ⟨hw, hr9, hb9⟩ := two_end0 (w := w) (s := Q.s) (v := Q.v) (need := Q.need) (ph := Q.ph) (c := cx) HR.out HXb.out HZ.out HB.out (by have := HE.out.2.2.2.2; omega)
      refine bodyPost_ret (v := .tuple #[.agg #[.int .i64 Q.s, .int .i64 Q.v, .int .i64 Q.need, .int .i64 Q.ph, .slice X n cx], .bool true]) ?_ rfl ⟨X, cx, ?_, ?_, hb9⟩
      · rw [results_cell_tmp rfl]
        simp [asAddr, Result.andThen, loadv26 hw]
      · simp only [HQn.out]
      · simp only [HQn.out]; exact hr9
set_option maxHeartbeats 2000000 in
theorem lwants_is (s v need ph : Int) {A : Option Addr} {n c : Nat} {ms : List Int} (h : RdV w A n (ms.map IV)) (hn : n ≤ 1000000) {F : Option Addr} {m cF : Nat} {l : List (Int × Int)} (hF : RdV w F (m * 2) (dcs l)) (hm : l.length = m) (hm2 : m ≤ 1000000) (hop : ∀ x ∈ l, 0 ≤ x.2 ∧ x.2 ≤ 255) {q : Bool} (hq : decide (Rn.wants ⟨s, v, need, ph, ms⟩ = l) = q) : Calls Try.prog 17 #[.agg #[.int .i64 s, .int .i64 v, .int .i64 need, .int .i64 ph, .slice A n c], .slice F m cF] w (Told w q) := by
  have hln : ms.length = n := by simpa using h.len
  obtain ⟨w1, hw1⟩ : ∃ z, w.alloc (.cells #[.int .i64 s, .int .i64 v, .int .i64 need, .int .i64 ph, .slice A n c] 26) = z := ⟨_, rfl⟩
  obtain ⟨hb1, hx1⟩ := box_new hw1
  obtain ⟨b, hb⟩ : ∃ b, w.heap.size = b := ⟨_, rfl⟩
  rw [hb] at hx1
  have HX := Lib.hid hx1
  have HR := Lib.hid (h.below hb1 (Nat.le_refl _))
  have HB1 := Lib.hid hb1
  have HF := Lib.hid (hF.below hb1 (Nat.le_refl _))
  have HO := Lib.hid hop
  have HM := Lib.hid hm
  have HQ := Lib.hid hq
  clear h hx1 hb1 hF hop hm hq
  go_enter Try.func17, Try.ntmps17
  go_wp2
  (try rw [hw1]); (try rw [hb])
  clear hw1 hb
  go_loopw [5, 7, 10] (fun s5 _ s10 wr => ∃ (j : Nat) (X : Option Addr) (cx : Nat), j ≤ m ∧ s10 = .int .i64 j ∧ s5 = .slice X j cx ∧ Hid (OwnK wr w1.heap.size 60 2 X j cx (wcs (l.take j))) ∧ Hid (Below w1.heap.size w1 wr)) (fun _ _ s10 _ => m - (Go.RowKit.intOf s10).toNat)
  case atStart => exact ⟨0, none, 0, Nat.zero_le _, rfl, rfl, (by simpa [wcs] using OwnK.nil _ _ _ _ : OwnK w1 w1.heap.size 60 2 none 0 0 (wcs (l.take 0))), (Below.refl _ _ : Below w1.heap.size w1 w1)⟩
  case round =>
    obtain ⟨j, X, cx, hj, rfl, rfl, HW, HB⟩ := hrel
    by_cases hlt : j < m
    · obtain ⟨x, hx⟩ : ∃ x, l[j]? = some x := ⟨_, List.getElem?_eq_getElem (by rw [HM.out]; exact hlt)⟩
      obtain ⟨ad, rfl, hadl, hxc⟩ := (HF.out.below HB.out (Nat.le_refl _)).cells (by omega)
      have c0 := hxc (j * 2) _ (by simpa using dcs_get (j := 0) hx rfl)
      have c1 := hxc (j * 2 + 1) _ (dcs_get (j := 1) hx rfl)
      rw [addr_succ] at c1
      have hi1 : (0 : Int) ≤ (j : Int) := by omega
      have hi2 : (j : Int) < (m : Int) := by omega
      have hw1 : IntKind.i64.wrap ((j : Int) + 1) = (j : Int) + 1 := IntWalk.i64_in _ (by omega)
      have hk := HO.out x (mem_at hx)
      have hmod : x.2 % 256 = x.2 := Int.emod_eq_of_lt hk.1 (by omega)
      have HS : Hid (wcs (l.take (j + 1)) = wcs (l.take j) ++ [.int .i64 x.1, .int .u8 x.2]) := by
        show _ = _
        rw [take_snoc hx, wcs_append]
        simp [wcs]
      have HT := Lib.hid hlt
      obtain ⟨x0, x1⟩ := x
      simp only at c0 c1 hmod HS
      obtain ⟨wa, hwa⟩ : ∃ z, wr.alloc (.cells #[.int .i64 x0, .int .i64 x1] 39) = z := ⟨_, rfl⟩
      obtain ⟨hba, hxa⟩ := box_new hwa
      have e0 := cell_of_row wa _ 0 _ 39 (0, 0) hxa
      have e1 := cell_of_row wa _ 1 _ 39 (0, 0) hxa
      simp at e0 e1
      have HBA := Lib.hid hba
      clear hx hk hlt hxc hadl hxa hba
      go_wp2_with (at_builtin; refine wpList_appK _ rfl (.tmp 14) (.tmp 21) _ rfl w1.heap.size 60 2 (.agg #[.int .i64 0, .int .u8 0]) 16 Try.underlying41 info60 rfl (by omega) rfl ((HW.out.below HBA.out (Nat.le_refl _)).below ((Below.refl _ _).alloc (Nat.le_refl _) _) (Nat.le_refl _)) rfl (m := 1) (RdV.new _ [.int .i64 x0, .int .u8 x1] 60 (0, 0)) (by omega) (by intro u hu; simp at hu; rcases hu with rfl | rfl <;> rfl) (by omega) (by omega) (Nat.le_trans HB.out.size (Nat.le_trans HBA.out.size (by simp))) (j + 1) rfl ?_; intro A' c' w7 ho hg hat)
      have HO7 : Hid (OwnK w7 w1.heap.size 60 2 A' (j + 1) c' (wcs (l.take (j + 1)))) := by
        show OwnK _ _ _ _ _ _ _ _
        rw [HS.out]
        exact ho
      have HW7 : Hid (Below w1.heap.size w1 w7) := by
        show Below _ _ _
        exact ((HB.out.trans (HBA.out.mono HB.out.size)).alloc (Nat.le_trans HB.out.size HBA.out.size) _).grown hg (by have := HB.out.size; have := HBA.out.size; simp; omega) (fun k hk => (HW.out.block k hk).1)
      clear ho hg hat hwa
      go_roundw
      case rel => exact ⟨j + 1, A', c', by have := HT.out; omega, by go_num, rfl, HO7, HW7⟩
      case measure => have := HT.out; simp [Go.RowKit.intOf]; omega
    · obtain rfl : j = m := by omega
      have hfin : l.take j = l := List.take_of_length_le (by rw [HM.out]; exact Nat.le_refl _)
      rw [hfin] at HW
      obtain ⟨⟨f0, f1, f2, f3, f4⟩, fbl⟩ := five26 ((HB.out.block _ (lt_of_block HX.out)).trans HX.out)
      have HRr := Lib.hid (HR.out.below HB.out (Nat.le_refl _))
      clear hfin hlt hj
      go_wp2_with fail
      refine (wants_is _ s v need ph HRr.out hn rfl).mono ?_
      rintro e w3 ⟨A9, c9, rfl, ho9, hb9⟩
      have hwl : (Rn.wants ⟨s, v, need, ph, ms⟩).length ≤ 1000000 := by
        unfold Rn.wants
        split
        · exact Nat.le_trans (wantsL_length _ _ _) (by simp only [hln]; exact hn)
        · simp
      obtain ⟨wl, hwl'⟩ : ∃ z, Rn.wants ⟨s, v, need, ph, ms⟩ = z := ⟨_, rfl⟩
      rw [hwl'] at HQ hwl ho9 ⊢
      have hw9 := (HW.out.below hb9 (Nat.le_refl _)).wr
      have HW9 := Lib.hid (And.intro ho9.wr (And.intro hw9 (HB1.out.trans ((HB.out.trans (hb9.mono HB.out.size)).mono HB1.out.size))))
      clear ho9 hb9 hw9 hwl'
      go_wp2_with fail
      refine (sameW_is _ HW9.out.1 HW9.out.2.1 hwl HQ.out).mono ?_
      rintro e w4 ⟨rfl, hb4⟩
      have HB4 := Lib.hid (HW9.out.2.2.trans (hb4.mono HW9.out.2.2.size))
      clear hb4
      go_wp2
      go_ret
      exact told_mk rfl HB4.out
end
end Go.Proofs.Ytciihebaameccaa
