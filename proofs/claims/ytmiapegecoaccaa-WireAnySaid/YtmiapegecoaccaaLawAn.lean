/- WireAny's walk. -/
import Derived.Test.YtmiapegecoaccaaLawA
namespace Go.Proofs.Ytmiapegecoaccaa
open Go.RowKit Go.Coop
set_option maxRecDepth 100000
set_option linter.unusedVariables false
theorem own_one (w : World) (x : UInt8) {g : Nat} (hg : w.heap.size = g) : Own (w.alloc (.cells #[.int .u8 (x.toNat : Int)] 5)) g 5 (some ⟨g, 0, none⟩) 1 1 [x] := by
  subst hg
  refine ⟨rfl, rfl, .inr ⟨w.heap.size, 1, #[.int .u8 (x.toNat : Int)], rfl, Nat.le_refl _, heap_alloc_new _ _, Nat.le_refl _, by unfold maxLen; omega, by simp, ?_⟩⟩
  simp [bvs, BV]
theorem wpList_app1 {ops : Array Oper} {rest : List Oper} {o : Oper} {a : Act} {Q : Exit → Act → World → Prop} (hgd : o.guard = none) (s y : Operand)
    (ho : o.op = .call { callee := .builtin .append, args := #[s, y], argTypes := #[23, 23] }) (w : World) (g : Nat) (hg : w.heap.size = g) (x : UInt8) (v : Int) (hv : v = (x.toNat : Int)) (hs : a.eval s = .slice (some ⟨g, 0, none⟩) 1 1)
    {X : Option Addr} {xn xc : Nat} {bs : List UInt8} (hx : a.eval y = .slice X xn xc) (hr : Rd w X xn bs) (hn : xn ≤ 1000000)
    (h : ∀ A' c' w', Own w' g 5 A' (xn + 1) c' (x :: bs) → Below g w w' → wpList Try.prog ops Q rest (a.put o.dst (.slice A' (xn + 1) c')) w') : wpList Try.prog ops Q (o :: rest) a (w.alloc (.cells #[.int .u8 v] 5)) := by
  subst hg hv
  have h1 := own_one w x rfl
  have hb : Below w.heap.size w (w.alloc (.cells #[.int .u8 (x.toNat : Int)] 5)) := (Below.refl _ _).alloc (Nat.le_refl _) _
  refine wpList_app _ hgd s y 23 ho w.heap.size 5 Try.underlying23 info5 hs h1 hx (hr.below hb (Nat.le_refl _)) (by omega) (by rw [size_alloc]; omega) (xn + 1) (by omega) ?_
  intro A' c' w' ho' hg' _
  exact h A' c' w' (by simpa using ho') (hb.grown hg' (by rw [size_alloc]; omega) (fun q hq => (h1.block q hq).1))
theorem getA_sealed (t : Nat → Nat) (l : List UInt8) : getA t (sealed t l) = orZ zeroA (parseA l) := by
  unfold getA
  rw [unsl_sealed, if_pos rfl]
theorem getT_sealed (t : Nat → Nat) (l : List UInt8) : getT t (sealed t l) = orZ zeroT (parseT l) := by
  unfold getT
  rw [unsl_sealed, if_pos rfl]
theorem parseA_two (r : List UInt8) : parseA (2 :: r) = none := by
  cases h : parseA (2 :: r) with
  | none => rfl
  | some a =>
    obtain ⟨q, hq⟩ := encA_head a
    have := (parseA_back h).2
    rw [hq] at this
    simp at this
theorem parseT_one (r : List UInt8) : parseT (1 :: r) = none := by
  cases h : parseT (1 :: r) with
  | none => rfl
  | some a =>
    obtain ⟨q, hq⟩ := encT_head a
    have := (parseT_back h).2
    rw [hq] at this
    simp at this
theorem Keep.but {u u' : World} {gs : List Nat} {R : List (Nat × Array Value × TypeId)} {B : List (Option Addr × Nat × List UInt8)} {I : List (Option Addr × Nat × List InfP)} {T : List (Nat × (Nat → Nat))} (h : Keep u R B I T) (hb : But gs u u') (hR : ∀ p ∈ R, p.1 ∉ gs) (hB : ∀ p ∈ B, ∀ j, p.1.map (·.block) = some j → j ∉ gs) : Keep u' R B [] [] :=
  ⟨fun p hp => hb.cells (h.rows p hp) (hR p hp), fun p hp => rd_but (h.reads p hp) hb (hB p hp), by simp, by simp⟩
def Lt (u : World) (g : Nat) : Prop := g < u.heap.size
theorem Lt.below {Z : Nat} {u u' : World} {g : Nat} (h : Lt u g) (hb : Below Z u u') (_ : u.heap.size ≤ Z) : Lt u' g := Nat.lt_of_lt_of_le h hb.size
theorem xor255 {x : Nat} (h : x < 256) : bits BinOp.xor IntKind.u8 (x : Int) 255 = ((x ^^^ 255 : Nat) : Int) := u8_xor_nat x 255 h (by omega)
section
variable (w : World)
set_option maxHeartbeats 16000000 in
theorem any_law {X : Option Addr} {xn xc : Nat} {bs : List UInt8} (hX : Rd w X xn bs) (hc : xn ≤ xc) (tell : Bool) :
    Calls Try.prog 8 #[.slice X xn xc, .bool tell] w (Told w true) := by
  by_cases hbig : xn ≤ 1000
  · have hbg : ¬ (1000 : Int) < (xn : Int) := by omega
    cases tell with
    | false =>
      cases hp0 : parseA (1 :: bs) with
      | none =>
        have HK := Lib.hid (Keep.start w)
        replace HK := Lib.hid (HK.out.read (hX))
        have hlen := hX.len
        clear hX
        have hgT : getT entry (sealed entry (1 :: bs)) = (zeroT, 110) := by rw [getT_sealed, parseT_one]; rfl
        have hgA : getA entry (sealed entry (1 :: bs)) = (zeroA, 110) := by rw [getA_sealed, hp0]; rfl
        have HGA := Lib.hid hgA
        have HGT := Lib.hid hgT
        clear hgA hgT hp0
        obtain ⟨Z, hZs, hz⟩ := zero39
        have HZ := Lib.hid hZs
        clear hZs
        have hz25 := (zero_of_info zero25).1
        have hz34 := (zero_of_info zero34).1
        go_enter Try.func8, Try.ntmps8
        go_upto_region 7 with (first
          | (go_at_call 12; refine (table_any _).mono ?_; rintro e w1 ⟨rfl, hb1⟩; rw [show tarr ((List.range 256).map entry) = T0 from rfl])
          | ((with_reducible refine wpList_store_new (o := ⟨none, .store 39 (.tmp 5) (.tmp 19), _, _, _, _⟩) ?_ 39 (.tmp 5) (.tmp 19) ?_ T0 Z ?_ ?_ 39 size39' HZ.out T0_one ?_)
             case refine_1 => rfl
             case refine_2 => rfl
             case refine_3 => rfl
             case refine_4 => rfl))
        have hW : Below w.heap.size w w1 := hb1
        clear hb1 hz
        replace HK := Lib.hid (HK.out.below hW (Nat.le_refl _))
        have HB := Lib.hid hW
        clear hW
        obtain ⟨p, hp⟩ : ∃ p, w1.heap.size = p := ⟨_, rfl⟩
        obtain ⟨wT, e⟩ : ∃ x, w1.alloc (.cells T0 39) = x := ⟨_, rfl⟩
        obtain ⟨hW, hx⟩ := box_new e
        rw [hp] at hx
        have EwT := Lib.hid e
        have SwT := size_of_alloc e
        clear e
        replace hx := Lib.hid hx
        replace HK := Lib.hid (HK.out.below hW (Nat.le_refl _))
        replace HB := Lib.hid (HB.out.trans (hW.mono HB.out.size))
        clear hW
        clear hx
        have hTb : Tb wT p entry := by rw [← EwT.out, ← hp]; exact ⟨tab_new w1 (0, 0), by rw [size_alloc]; simp⟩
        replace HK := Lib.hid (HK.out.tab (hTb))
        clear hTb
        have sT : wT.heap.size = p + 1 := by rw [SwT, hp]
        clear SwT
        rw [EwT.out]
        clear EwT
        (try rw [hp])
        go_wp2_with (at_builtin; refine wpList_app1 rfl (.tmp 22) (.tmp 23) rfl wT (p + 1) sT 1 _ (by rfl) rfl rfl (HK.out.reads _ (.head _)) (by omega) ?_; intro A2 c2 w2 ho2 hb2)
        have hW : Below wT.heap.size wT w2 := by rw [sT]; exact hb2
        clear sT hb2
        replace HK := Lib.hid (HK.out.below hW (Nat.le_refl _))
        replace HB := Lib.hid (HB.out.trans (hW.mono HB.out.size))
        clear hW
        replace HK := Lib.hid (HK.out.read (ho2.rd))
        clear ho2
        have hs2 := HB.out.size
        refine (seal_any ⟨p, 0, none⟩ entry A2 (xn + 1) c2 _ w2 (HK.out.tabs _ (.head _)).1 (HK.out.reads _ (.head _)) (show xn + 1 ≤ 70368744177664 by omega)).mono ?_
        rintro e w3 ⟨A3, c3, rfl, ho3, hb⟩
        have hW : Below w2.heap.size w2 w3 := hb
        replace HK := Lib.hid (HK.out.below hW (Nat.le_refl _))
        replace HB := Lib.hid (HB.out.trans (hW.mono HB.out.size))
        clear hW
        have HO := Lib.hid ho3
        clear ho3 hb
        have hc3 := HO.out.cap
        obtain ⟨gl, rfl, hgl1, hgl2, hglf⟩ := HO.out.addr (by omega)
        clear hglf
        have HL := Lib.hid (show Lt w3 gl from hgl2)
        have HGW := Lib.hid (Nat.le_trans hs2 hgl1)
        clear hgl1 hgl2 hs2
        go_wp2_with fail
        refine (getA_is w3 (HK.out.tabs _ (.head _)).1 (HK.out.tabs _ (.head _)).2 HO.out.rd (show xn + 1 + 4 ≤ 1000000 by omega) hc3).mono ?_
        rintro e w4 ⟨A4, n4, c4, rfl, ho4, hb⟩
        rw [HGA.out] at ho4 ⊢
        simp only [zeroA] at ho4 ⊢
        obtain rfl : n4 = 0 := size_drop ho4 0 rfl
        have hbl4 : ∀ j, A4.map (·.block) = some j → gl < j := fun j hj => by have h1 := (ho4.block j hj).1; have h2 : gl < w3.heap.size := HL.out; omega
        have hW : Below w3.heap.size w3 w4 := hb
        replace HK := Lib.hid (HK.out.below hW (Nat.le_refl _))
        replace HO := Lib.hid (HO.out.below hW (Nat.le_refl _))
        replace HL := Lib.hid (HL.out.below hW (Nat.le_refl _))
        replace HB := Lib.hid (HB.out.trans (hW.mono HB.out.size))
        clear hW
        replace HK := Lib.hid (HK.out.read (ho4.rd))
        have hn4 : ([] : List UInt8).length = 0 := ho4.len
        clear ho4 hb
        obtain ⟨g_w5, h_w5⟩ : ∃ g, w4.heap.size = g := ⟨_, rfl⟩
        obtain ⟨w5, e⟩ : ∃ x, w4.alloc (.cells #[.int .i64 0, .int .i64 0, .int .u8 0, .int .i64 0, .int .i64 0, .int .i64 0, .slice A4 0 c4] 25) = x := ⟨_, rfl⟩
        obtain ⟨hW, hx⟩ := box_new e
        rw [h_w5] at hx
        have Ew5 := Lib.hid e
        clear e
        replace hx := Lib.hid hx
        replace HK := Lib.hid (HK.out.below hW (Nat.le_refl _))
        replace HO := Lib.hid (HO.out.below hW (Nat.le_refl _))
        replace HL := Lib.hid (HL.out.below hW (Nat.le_refl _))
        replace HB := Lib.hid (HB.out.trans (hW.mono HB.out.size))
        clear hW
        replace HK := Lib.hid (HK.out.row (show Row w5 (g_w5) #[.int .i64 0, .int .i64 0, .int .u8 0, .int .i64 0, .int .i64 0, .int .i64 0, .slice A4 0 c4] 25 from hx.out))
        clear hx
        go_wp2_with fail
        rw [Ew5.out]
        clear Ew5
        refine (getT_is w5 (HK.out.tabs _ (.head _)).1 (HK.out.tabs _ (.head _)).2 HO.out.rd (show xn + 1 + 4 ≤ 1000000 by omega) hc3).mono ?_
        rintro e w6 ⟨I6, m6, mc6, A6, n6, c6, rfl, hi6, hm6, ho6, hb⟩
        rw [HGT.out] at hi6 ho6 ⊢
        simp only [zeroT] at hi6 ho6 ⊢
        obtain rfl : n6 = 0 := size_drop ho6 0 rfl
        obtain rfl : m6 = 0 := by have := hi6.len; simp [ics] at this; omega
        have hbl6 : ∀ j, A6.map (·.block) = some j → gl < j := fun j hj => by have h1 := (ho6.block j hj).1; have h2 : gl < w5.heap.size := HL.out; omega
        have hW : Below w5.heap.size w5 w6 := hb
        replace HK := Lib.hid (HK.out.below hW (Nat.le_refl _))
        replace HO := Lib.hid (HO.out.below hW (Nat.le_refl _))
        replace HL := Lib.hid (HL.out.below hW (Nat.le_refl _))
        replace HB := Lib.hid (HB.out.trans (hW.mono HB.out.size))
        clear hW
        replace HK := Lib.hid (HK.out.read (ho6.rd))
        replace HK := Lib.hid (HK.out.il (ownK_il hi6))
        have hn6 : ([] : List UInt8).length = 0 := ho6.len
        clear ho6 hi6 hb hm6
        obtain ⟨g_w7, h_w7⟩ : ∃ g, w6.heap.size = g := ⟨_, rfl⟩
        obtain ⟨w7, e⟩ : ∃ x, w6.alloc (.cells #[.int .i64 0, .int .i64 0, .int .u8 0, .int .i64 0, .slice I6 0 mc6, .slice A6 0 c6, .int .i64 0] 34) = x := ⟨_, rfl⟩
        obtain ⟨hW, hx⟩ := box_new e
        rw [h_w7] at hx
        have Ew7 := Lib.hid e
        clear e
        replace hx := Lib.hid hx
        replace HK := Lib.hid (HK.out.below hW (Nat.le_refl _))
        replace HO := Lib.hid (HO.out.below hW (Nat.le_refl _))
        replace HL := Lib.hid (HL.out.below hW (Nat.le_refl _))
        replace HB := Lib.hid (HB.out.trans (hW.mono HB.out.size))
        clear hW
        replace HK := Lib.hid (HK.out.row (show Row w7 (g_w7) #[.int .i64 0, .int .i64 0, .int .u8 0, .int .i64 0, .slice I6 0 mc6, .slice A6 0 c6, .int .i64 0] 34 from hx.out))
        clear hx
        obtain ⟨a0, a1, a2, a3, a4, a5, a6⟩ := arr7 (w := (World.alloc w6 (.cells #[.int .i64 0, .int .i64 0, .int .u8 0, .int .i64 0, .slice I6 0 mc6, .slice A6 0 c6, .int .i64 0] 34))) (by rw [Ew7.out]; exact (HK.out.rows _ (.tail _ (.head _))))
        go_wp2_with fail
        rw [Ew7.out]
        clear Ew7
        refine (sameA_is w7 0 0 0 0 0 0 0 0 0 0 0 0 [] [] (HK.out.reads _ (.tail _ (.head _))) (Rd.nil w7 none) (q := true) (by decide)).mono ?_
        rintro e w8 ⟨rfl, hb⟩
        have hW : Below w7.heap.size w7 w8 := hb
        replace HK := Lib.hid (HK.out.below hW (Nat.le_refl _))
        replace HO := Lib.hid (HO.out.below hW (Nat.le_refl _))
        replace HL := Lib.hid (HL.out.below hW (Nat.le_refl _))
        replace HB := Lib.hid (HB.out.trans (hW.mono HB.out.size))
        clear hW
        clear a0 a1 a2 a3 a4 a5 a6 hb
        obtain ⟨a0, a1, a2, a3, a4, a5, a6⟩ := arr7 (w := w8) (by exact (HK.out.rows _ (.head _)))
        go_wp2_with fail
        refine (sameT_is w8 0 0 0 0 0 0 0 0 0 0 [] [] [] [] (HK.out.ils _ (.head _)) (IL.nil w8 none) (show 0 ≤ 1000000 by omega) (HK.out.reads _ (.head _)) (Rd.nil w8 none) (q := true) (by decide)).mono ?_
        rintro e w9 ⟨rfl, hb⟩
        have hW : Below w8.heap.size w8 w9 := hb
        replace HK := Lib.hid (HK.out.below hW (Nat.le_refl _))
        replace HO := Lib.hid (HO.out.below hW (Nat.le_refl _))
        replace HL := Lib.hid (HL.out.below hW (Nat.le_refl _))
        replace HB := Lib.hid (HB.out.trans (hW.mono HB.out.size))
        clear hW
        clear a0 a1 a2 a3 a4 a5 a6 hb
        go_wp2_with fail
        refine wp_region_held_drew (S := fun u => Keep u [(g_w7, #[.int .i64 0, .int .i64 0, .int .u8 0, .int .i64 0, .slice I6 0 mc6, .slice A6 0 c6, .int .i64 0], 34), (g_w5, #[.int .i64 0, .int .i64 0, .int .u8 0, .int .i64 0, .int .i64 0, .int .i64 0, .slice A4 0 c4], 25)] [(A6, 0, []), (A4, 0, []), (A2, xn + 1, (1 :: bs)), (X, xn, bs)] [(I6, 0, [])] [(p, entry)]) (by kernel_rfl) (HK.out.drew) (fun hHeld => ?_)
        have HBr := Lib.hid (HB.out.drew)
        clear HK HB
        have HOr := Lib.hid (HO.out.drew)
        clear HO
        have HL0 : Hid (gl < w9.drew.heap.size) := Lib.hid HL.out
        clear HL
        refine wpAnyH_take (i := 0) (oi := ⟨some 69, _, _, _, _, _⟩) (v := ?_) rfl (by as_aux_lemma => kernel_rfl) (by as_aux_lemma => kernel_rfl) (by as_aux_lemma => kernel_rfl) (fun _ _ _ h => h) (Or.inl ⟨by rfl, ?_⟩) (by assumption) ?_
        rotate_left
        · intro w hSw
          (try dsimp only at hSw)
          go_simp
          all_goals (with_reducible rfl)
        try simp only [Act.put, List.setIfInBounds_toArray, List.set_cons_zero, List.set_cons_succ]
        refine wpAnyH_take (i := 1) (oi := ⟨some 70, _, _, _, _, _⟩) (v := ?_) rfl (by as_aux_lemma => kernel_rfl) (by as_aux_lemma => kernel_rfl) (by as_aux_lemma => kernel_rfl) (fun _ _ _ h => h) (Or.inl ⟨by rfl, ?_⟩) (by assumption) ?_
        rotate_left
        · intro w hSw
          obtain ⟨l0, l1, l2, l3, l4, l5, l6⟩ := arr7 (w := w) (hSw.rows _ (.tail _ (.head _)))
          go_simp
          all_goals (with_reducible rfl)
        try simp only [Act.put, List.setIfInBounds_toArray, List.set_cons_zero, List.set_cons_succ]
        refine wpAnyH_take (i := 3) (oi := ⟨some 72, _, _, _, _, _⟩) (v := ?_) rfl (by as_aux_lemma => kernel_rfl) (by as_aux_lemma => kernel_rfl) (by as_aux_lemma => kernel_rfl) (fun _ _ _ h => h) (Or.inl ⟨by rfl, ?_⟩) (by assumption) ?_
        rotate_left
        · intro w hSw
          (try dsimp only at hSw)
          go_simp
          all_goals (with_reducible rfl)
        try simp only [Act.put, List.setIfInBounds_toArray, List.set_cons_zero, List.set_cons_succ]
        refine wpAnyH_take (i := 4) (oi := ⟨some 73, _, _, _, _, _⟩) (v := ?_) rfl (by as_aux_lemma => kernel_rfl) (by as_aux_lemma => kernel_rfl) (by as_aux_lemma => kernel_rfl) (fun _ _ _ h => h) (Or.inl ⟨by rfl, ?_⟩) (by assumption) ?_
        rotate_left
        · intro w hSw
          obtain ⟨l0, l1, l2, l3, l4, l5, l6⟩ := arr7 (w := w) (hSw.rows _ (.head _))
          go_simp
          all_goals (with_reducible rfl)
        try simp only [Act.put, List.setIfInBounds_toArray, List.set_cons_zero, List.set_cons_succ]
        refine wpAnyH_ready (rs := [2]) (by as_aux_lemma => kernel_rfl) (by simp) (AllReadyH.cons (o := ⟨some 71, _, _, _, _, _⟩) rfl (fun K hK => ?_) AllReadyH.nil)
        go_simp
        refine (copy_any A4 0 c4 [] _ (hHeld.reads _ (.tail _ (.head _))) (by omega)).mono ?_
        rintro e u1 ⟨Aw, cw, rfl, how, hb⟩
        have hS2 := hHeld.below hb (Nat.le_refl _)
        replace HBr := Lib.hid (HBr.out.trans (hb.mono HBr.out.size))
        refine hK.out _ _ hS2 (fun hHeld => ?_)
        clear hK K hS2
        try simp only [Act.put, List.setIfInBounds_toArray, List.set_cons_zero, List.set_cons_succ]
        replace HOr := Lib.hid (HOr.out.below hb (Nat.le_refl _))
        have hblw : ∀ j, Aw.map (·.block) = some j → gl < j := fun j hj => by have h1 := (how.block j hj).1; have h2 := HL0.out; omega
        have HL1 := Lib.hid (Nat.lt_of_lt_of_le HL0.out hb.size)
        clear hb HL0
        refine wpAnyH_ready (rs := [5]) (by as_aux_lemma => kernel_rfl) (by simp) (AllReadyH.cons (o := ⟨some 74, _, _, _, _, _⟩) rfl (fun K hK => ?_) AllReadyH.nil)
        go_simp
        refine (copy_any A6 0 c6 [] _ (hHeld.reads _ (.head _)) (by omega)).mono ?_
        rintro e u2 ⟨An, cn, rfl, hon, hb⟩
        have hS2 := hHeld.below hb (Nat.le_refl _)
        replace HBr := Lib.hid (HBr.out.trans (hb.mono HBr.out.size))
        refine hK.out _ _ hS2 (fun hHeld => ?_)
        clear hK K hS2
        try simp only [Act.put, List.setIfInBounds_toArray, List.set_cons_zero, List.set_cons_succ]
        have HOw := Lib.hid (how.rd.below hb (Nat.le_refl _))
        have HOn := Lib.hid hon.rd
        replace HOr := Lib.hid (HOr.out.below hb (Nat.le_refl _))
        have hbln : ∀ j, An.map (·.block) = some j → gl < j := fun j hj => by have h1 := (hon.block j hj).1; have h2 := HL1.out; omega
        clear how hon hb HL1
        refine wpAnyH_take (i := 6) (oi := ⟨some 12, _, _, _, _, _⟩) (v := ?_) rfl (by as_aux_lemma => kernel_rfl) (by as_aux_lemma => kernel_rfl) (by as_aux_lemma => kernel_rfl) (fun _ _ _ h => h) (Or.inl ⟨by rfl, ?_⟩) (by assumption) ?_
        rotate_left
        · intro w hSw
          (try dsimp only at hSw)
          go_simp
          all_goals (with_reducible rfl)
        try simp only [Act.put, List.setIfInBounds_toArray, List.set_cons_zero, List.set_cons_succ]
        refine wpAnyH_take (i := 7) (oi := ⟨some 13, _, _, _, _, _⟩) (v := ?_) rfl (by as_aux_lemma => kernel_rfl) (by as_aux_lemma => kernel_rfl) (by as_aux_lemma => kernel_rfl) (fun _ _ _ h => h) (Or.inl ⟨by rfl, ?_⟩) (by assumption) ?_
        rotate_left
        · intro w hSw
          (try dsimp only at hSw)
          go_simp
          all_goals (with_reducible rfl)
        try simp only [Act.put, List.setIfInBounds_toArray, List.set_cons_zero, List.set_cons_succ]
        refine wpAnyH_done (by kernel_rfl) ?_ _
        have HK := Lib.hid hHeld
        have HB := HBr
        clear HBr hHeld
        replace HK := Lib.hid (HK.out.read (HOw.out))
        replace HK := Lib.hid (HK.out.read (HOn.out))
        clear HOw HOn
        have HO := HOr
        clear HOr
        obtain ⟨cur, hcur⟩ := HO.out.typ (j := gl) rfl
        have hgx := ne_of_type (E := 34) (F := 5) (HK.out.rows _ (.head _)) hcur (by decide)
        have hga := ne_of_type (E := 25) (F := 5) (HK.out.rows _ (.tail _ (.head _))) hcur (by decide)
        have K4 := Lib.hid (show Keep u2 [(g_w7, #[.int .i64 0, .int .i64 0, .int .u8 0, .int .i64 0, .slice I6 0 mc6, .slice A6 0 c6, .int .i64 0], 34), (g_w5, #[.int .i64 0, .int .i64 0, .int .u8 0, .int .i64 0, .int .i64 0, .int .i64 0, .slice A4 0 c4], 25)] [(A4, 0, []), (A6, 0, []), (Aw, 0, []), (An, 0, [])] [] [] from ((((((Keep.start u2).read (HK.out.reads _ (.head _))).read (HK.out.reads _ (.tail _ (.head _)))).read (HK.out.reads _ (.tail _ (.tail _ (.head _))))).read (HK.out.reads _ (.tail _ (.tail _ (.tail _ (.head _)))))).row (HK.out.rows _ (.tail _ (.head _)))).row (HK.out.rows _ (.head _)))
        clear HK hcur
        have HK := K4
        clear K4
        go_wp2
        go_loopw [14, 77] (fun _ s77 wr => ∃ (j : Nat) (l' : List UInt8), j ≤ xn + 1 + 4 ∧ s77 = .int .i64 (j : Int) ∧ Own wr w2.heap.size 5 (some ⟨gl, 0, none⟩) (xn + 1 + 4) c3 l' ∧ Hid (But [gl] u2 wr)) (fun _ s77 _ => xn + 1 + 4 - (Go.RowKit.intOf s77).toNat)
        case atStart => exact ⟨0, _, by omega, rfl, HO.out, But.refl _ _⟩
        case round =>
          obtain ⟨j, l', hj, rfl, hown, HR⟩ := hrel
          by_cases hlt : j < xn + 1 + 4
          · obtain ⟨ad, cc, hade, hadl, hcc, hcell⟩ := hown.rd.at_ hlt
            injection hade with hade
            subst hade
            have hfz : wr.frozen? ⟨gl, j, none⟩ = false := by
              obtain ⟨g2, e2, _, _, h2⟩ := hown.addr (by omega)
              injection e2 with e2
              injection e2 with e2
              subst e2
              exact h2 j
            have hadd : (⟨gl, 0, none⟩ : Addr).add j = ⟨gl, j, none⟩ := by unfold Addr.add; split <;> simp_all
            rw [hadd] at hcell
            unfold BV at hcell
            have hx := cc.toNat_lt
            obtain ⟨xb, hxb⟩ : ∃ xb, cc.toNat = xb := ⟨_, rfl⟩
            rw [hxb] at hx hcell
            have hxx := xor255 hx
            have hi1 : (0 : Int) ≤ (j : Int) := by omega
            have hi2 : (j : Int) < (xn : Int) + 1 + 4 := by omega
            have hi3 : (j : Int) < ((xn + 1 + 4 : Nat) : Int) := by omega
            have hwk : IntKind.i64.wrap ((j : Int) + 1) = (j : Int) + 1 := IntWalk.i64_in _ (by omega)
            have HX := Lib.hid (And.intro hxb (And.intro hlt hown))
            clear hcc hxb hlt hown hadd hadl
            go_wp2
            go_roundw
            case rel =>
              refine ⟨j + 1, l'.set j (UInt8.ofNat (xb ^^^ 255)), by have := HX.out.2.1; omega, by go_num, ?_, ?_⟩
              · have hv : Value.int IntKind.u8 ((xb ^^^ 255 : Nat) : Int) = BV (UInt8.ofNat (xb ^^^ 255)) := by
                  unfold BV
                  rw [UInt8.toNat_ofNat', Nat.mod_eq_of_lt (Nat.xor_lt_two_pow (n := 8) hx (by omega))]
                rw [hv]
                exact HX.out.2.2.set rfl (k := j) _
              · exact HR.out.setCell (by simp) _
            case measure => have := HX.out.2.1; simp [Go.RowKit.intOf]; omega
          · obtain rfl : j = xn + 1 + 4 := by omega
            replace HK := Lib.hid (HK.out.but HR.out (by simp; omega) (by intro q hq k hk; simp only [List.mem_cons, List.not_mem_nil, or_false] at hq; rcases hq with rfl | rfl | rfl | rfl <;> (simp; first | (have := hbl4 k hk; omega) | (have := hbl6 k hk; omega) | (have := hblw k hk; omega) | (have := hbln k hk; omega))))
            replace HB := Lib.hid (HB.out.trans (HR.out.below HB.out.size (by simp; have := HGW.out; omega)))
            clear HR hown
            obtain ⟨a0, a1, a2, a3, a4, a5, a6⟩ := arr7 (w := wr) (by exact (HK.out.rows _ (.tail _ (.head _))))
            obtain ⟨b0, b1, b2, b3, b4, b5, b6⟩ := arr7 (w := wr) (HK.out.rows _ (.head _))
            go_wp2_with fail
            refine (sameB_is wr (HK.out.reads _ (.head _)) (HK.out.reads _ (.tail _ (.tail _ (.head _)))) (q := true) (by simp)).mono ?_
            rintro e _ ⟨rfl, rfl⟩
            go_wp2_with fail
            refine (sameB_is wr (HK.out.reads _ (.tail _ (.head _))) (HK.out.reads _ (.tail _ (.tail _ (.tail _ (.head _))))) (q := true) (by simp)).mono ?_
            rintro e _ ⟨rfl, rfl⟩
            go_wp2_with fail
            refine (awake_is _).mono ?_
            rintro e wz ⟨rfl, hb⟩
            have hW : Below wr.heap.size wr wz := hb
            replace HK := Lib.hid (HK.out.below hW (Nat.le_refl _))
            replace HB := Lib.hid (HB.out.trans (hW.mono HB.out.size))
            clear hW
            go_wp2
            go_ret
            exact told_mk (by simp) HB.out
      | some a =>
        obtain ⟨al, asq, ao, ast, ai, av, ab⟩ := a
        have hsm : ab.length ≤ 65536 := by have := (parseA_back hp0).1.2.2; unfold mostB at this; simp only at this; split at this <;> omega
        have HK := Lib.hid (Keep.start w)
        replace HK := Lib.hid (HK.out.read (hX))
        have hlen := hX.len
        clear hX
        have hgT : getT entry (sealed entry (1 :: bs)) = (zeroT, 110) := by rw [getT_sealed, parseT_one]; rfl
        have hgA : getA entry (sealed entry (1 :: bs)) = (⟨al, asq, ao, ast, ai, av, ab⟩, 0) := by rw [getA_sealed, hp0]; rfl
        have HGA := Lib.hid hgA
        have HGT := Lib.hid hgT
        clear hgA hgT hp0
        obtain ⟨Z, hZs, hz⟩ := zero39
        have HZ := Lib.hid hZs
        clear hZs
        have hz25 := (zero_of_info zero25).1
        have hz34 := (zero_of_info zero34).1
        go_enter Try.func8, Try.ntmps8
        go_upto_region 7 with (first
          | (go_at_call 12; refine (table_any _).mono ?_; rintro e w1 ⟨rfl, hb1⟩; rw [show tarr ((List.range 256).map entry) = T0 from rfl])
          | ((with_reducible refine wpList_store_new (o := ⟨none, .store 39 (.tmp 5) (.tmp 19), _, _, _, _⟩) ?_ 39 (.tmp 5) (.tmp 19) ?_ T0 Z ?_ ?_ 39 size39' HZ.out T0_one ?_)
             case refine_1 => rfl
             case refine_2 => rfl
             case refine_3 => rfl
             case refine_4 => rfl))
        have hW : Below w.heap.size w w1 := hb1
        clear hb1 hz
        replace HK := Lib.hid (HK.out.below hW (Nat.le_refl _))
        have HB := Lib.hid hW
        clear hW
        obtain ⟨p, hp⟩ : ∃ p, w1.heap.size = p := ⟨_, rfl⟩
        obtain ⟨wT, e⟩ : ∃ x, w1.alloc (.cells T0 39) = x := ⟨_, rfl⟩
        obtain ⟨hW, hx⟩ := box_new e
        rw [hp] at hx
        have EwT := Lib.hid e
        have SwT := size_of_alloc e
        clear e
        replace hx := Lib.hid hx
        replace HK := Lib.hid (HK.out.below hW (Nat.le_refl _))
        replace HB := Lib.hid (HB.out.trans (hW.mono HB.out.size))
        clear hW
        clear hx
        have hTb : Tb wT p entry := by rw [← EwT.out, ← hp]; exact ⟨tab_new w1 (0, 0), by rw [size_alloc]; simp⟩
        replace HK := Lib.hid (HK.out.tab (hTb))
        clear hTb
        have sT : wT.heap.size = p + 1 := by rw [SwT, hp]
        clear SwT
        rw [EwT.out]
        clear EwT
        (try rw [hp])
        go_wp2_with (at_builtin; refine wpList_app1 rfl (.tmp 22) (.tmp 23) rfl wT (p + 1) sT 1 _ (by rfl) rfl rfl (HK.out.reads _ (.head _)) (by omega) ?_; intro A2 c2 w2 ho2 hb2)
        have hW : Below wT.heap.size wT w2 := by rw [sT]; exact hb2
        clear sT hb2
        replace HK := Lib.hid (HK.out.below hW (Nat.le_refl _))
        replace HB := Lib.hid (HB.out.trans (hW.mono HB.out.size))
        clear hW
        replace HK := Lib.hid (HK.out.read (ho2.rd))
        clear ho2
        have hs2 := HB.out.size
        refine (seal_any ⟨p, 0, none⟩ entry A2 (xn + 1) c2 _ w2 (HK.out.tabs _ (.head _)).1 (HK.out.reads _ (.head _)) (show xn + 1 ≤ 70368744177664 by omega)).mono ?_
        rintro e w3 ⟨A3, c3, rfl, ho3, hb⟩
        have hW : Below w2.heap.size w2 w3 := hb
        replace HK := Lib.hid (HK.out.below hW (Nat.le_refl _))
        replace HB := Lib.hid (HB.out.trans (hW.mono HB.out.size))
        clear hW
        have HO := Lib.hid ho3
        clear ho3 hb
        have hc3 := HO.out.cap
        obtain ⟨gl, rfl, hgl1, hgl2, hglf⟩ := HO.out.addr (by omega)
        clear hglf
        have HL := Lib.hid (show Lt w3 gl from hgl2)
        have HGW := Lib.hid (Nat.le_trans hs2 hgl1)
        clear hgl1 hgl2 hs2
        go_wp2_with fail
        refine (getA_is w3 (HK.out.tabs _ (.head _)).1 (HK.out.tabs _ (.head _)).2 HO.out.rd (show xn + 1 + 4 ≤ 1000000 by omega) hc3).mono ?_
        rintro e w4 ⟨A4, n4, c4, rfl, ho4, hb⟩
        rw [HGA.out] at ho4 ⊢
        simp only at ho4 ⊢
        have hbl4 : ∀ j, A4.map (·.block) = some j → gl < j := fun j hj => by have h1 := (ho4.block j hj).1; have h2 : gl < w3.heap.size := HL.out; omega
        have hW : Below w3.heap.size w3 w4 := hb
        replace HK := Lib.hid (HK.out.below hW (Nat.le_refl _))
        replace HO := Lib.hid (HO.out.below hW (Nat.le_refl _))
        replace HL := Lib.hid (HL.out.below hW (Nat.le_refl _))
        replace HB := Lib.hid (HB.out.trans (hW.mono HB.out.size))
        clear hW
        replace HK := Lib.hid (HK.out.read (ho4.rd))
        have hn4 : (ab : List UInt8).length = n4 := ho4.len
        clear ho4 hb
        obtain ⟨g_w5, h_w5⟩ : ∃ g, w4.heap.size = g := ⟨_, rfl⟩
        obtain ⟨w5, e⟩ : ∃ x, w4.alloc (.cells #[.int .i64 al, .int .i64 asq, .int .u8 ao, .int .i64 ast, .int .i64 ai, .int .i64 av, .slice A4 n4 c4] 25) = x := ⟨_, rfl⟩
        obtain ⟨hW, hx⟩ := box_new e
        rw [h_w5] at hx
        have Ew5 := Lib.hid e
        clear e
        replace hx := Lib.hid hx
        replace HK := Lib.hid (HK.out.below hW (Nat.le_refl _))
        replace HO := Lib.hid (HO.out.below hW (Nat.le_refl _))
        replace HL := Lib.hid (HL.out.below hW (Nat.le_refl _))
        replace HB := Lib.hid (HB.out.trans (hW.mono HB.out.size))
        clear hW
        replace HK := Lib.hid (HK.out.row (show Row w5 (g_w5) #[.int .i64 al, .int .i64 asq, .int .u8 ao, .int .i64 ast, .int .i64 ai, .int .i64 av, .slice A4 n4 c4] 25 from hx.out))
        clear hx
        go_wp2_with fail
        rw [Ew5.out]
        clear Ew5
        refine (getT_is w5 (HK.out.tabs _ (.head _)).1 (HK.out.tabs _ (.head _)).2 HO.out.rd (show xn + 1 + 4 ≤ 1000000 by omega) hc3).mono ?_
        rintro e w6 ⟨I6, m6, mc6, A6, n6, c6, rfl, hi6, hm6, ho6, hb⟩
        rw [HGT.out] at hi6 ho6 ⊢
        simp only [zeroT] at hi6 ho6 ⊢
        obtain rfl : n6 = 0 := size_drop ho6 0 rfl
        obtain rfl : m6 = 0 := by have := hi6.len; simp [ics] at this; omega
        have hbl6 : ∀ j, A6.map (·.block) = some j → gl < j := fun j hj => by have h1 := (ho6.block j hj).1; have h2 : gl < w5.heap.size := HL.out; omega
        have hW : Below w5.heap.size w5 w6 := hb
        replace HK := Lib.hid (HK.out.below hW (Nat.le_refl _))
        replace HO := Lib.hid (HO.out.below hW (Nat.le_refl _))
        replace HL := Lib.hid (HL.out.below hW (Nat.le_refl _))
        replace HB := Lib.hid (HB.out.trans (hW.mono HB.out.size))
        clear hW
        replace HK := Lib.hid (HK.out.read (ho6.rd))
        replace HK := Lib.hid (HK.out.il (ownK_il hi6))
        have hn6 : ([] : List UInt8).length = 0 := ho6.len
        clear ho6 hi6 hb hm6
        obtain ⟨g_w7, h_w7⟩ : ∃ g, w6.heap.size = g := ⟨_, rfl⟩
        obtain ⟨w7, e⟩ : ∃ x, w6.alloc (.cells #[.int .i64 0, .int .i64 0, .int .u8 0, .int .i64 0, .slice I6 0 mc6, .slice A6 0 c6, .int .i64 0] 34) = x := ⟨_, rfl⟩
        obtain ⟨hW, hx⟩ := box_new e
        rw [h_w7] at hx
        have Ew7 := Lib.hid e
        clear e
        replace hx := Lib.hid hx
        replace HK := Lib.hid (HK.out.below hW (Nat.le_refl _))
        replace HO := Lib.hid (HO.out.below hW (Nat.le_refl _))
        replace HL := Lib.hid (HL.out.below hW (Nat.le_refl _))
        replace HB := Lib.hid (HB.out.trans (hW.mono HB.out.size))
        clear hW
        replace HK := Lib.hid (HK.out.row (show Row w7 (g_w7) #[.int .i64 0, .int .i64 0, .int .u8 0, .int .i64 0, .slice I6 0 mc6, .slice A6 0 c6, .int .i64 0] 34 from hx.out))
        clear hx
        obtain ⟨a0, a1, a2, a3, a4, a5, a6⟩ := arr7 (w := (World.alloc w6 (.cells #[.int .i64 0, .int .i64 0, .int .u8 0, .int .i64 0, .slice I6 0 mc6, .slice A6 0 c6, .int .i64 0] 34))) (by rw [Ew7.out]; exact (HK.out.rows _ (.head _)))
        go_wp2_with fail
        rw [Ew7.out]
        clear Ew7
        refine (sameT_is w7 0 0 0 0 0 0 0 0 0 0 [] [] [] [] (HK.out.ils _ (.head _)) (IL.nil w7 none) (show 0 ≤ 1000000 by omega) (HK.out.reads _ (.head _)) (Rd.nil w7 none) (q := true) (by decide)).mono ?_
        rintro e w9 ⟨rfl, hb⟩
        have hW : Below w7.heap.size w7 w9 := hb
        replace HK := Lib.hid (HK.out.below hW (Nat.le_refl _))
        replace HO := Lib.hid (HO.out.below hW (Nat.le_refl _))
        replace HL := Lib.hid (HL.out.below hW (Nat.le_refl _))
        replace HB := Lib.hid (HB.out.trans (hW.mono HB.out.size))
        clear hW
        clear a0 a1 a2 a3 a4 a5 a6 hb
        go_wp2_with fail
        refine wp_region_held_drew (S := fun u => Keep u [(g_w7, #[.int .i64 0, .int .i64 0, .int .u8 0, .int .i64 0, .slice I6 0 mc6, .slice A6 0 c6, .int .i64 0], 34), (g_w5, #[.int .i64 al, .int .i64 asq, .int .u8 ao, .int .i64 ast, .int .i64 ai, .int .i64 av, .slice A4 n4 c4], 25)] [(A6, 0, []), (A4, n4, ab), (A2, xn + 1, (1 :: bs)), (X, xn, bs)] [(I6, 0, [])] [(p, entry)]) (by kernel_rfl) (HK.out.drew) (fun hHeld => ?_)
        have HBr := Lib.hid (HB.out.drew)
        clear HK HB
        have HOr := Lib.hid (HO.out.drew)
        clear HO
        have HL0 : Hid (gl < w9.drew.heap.size) := Lib.hid HL.out
        clear HL
        refine wpAnyH_take (i := 0) (oi := ⟨some 69, _, _, _, _, _⟩) (v := ?_) rfl (by as_aux_lemma => kernel_rfl) (by as_aux_lemma => kernel_rfl) (by as_aux_lemma => kernel_rfl) (fun _ _ _ h => h) (Or.inl ⟨by rfl, ?_⟩) (by assumption) ?_
        rotate_left
        · intro w hSw
          (try dsimp only at hSw)
          go_simp
          all_goals (with_reducible rfl)
        try simp only [Act.put, List.setIfInBounds_toArray, List.set_cons_zero, List.set_cons_succ]
        refine wpAnyH_take (i := 1) (oi := ⟨some 70, _, _, _, _, _⟩) (v := ?_) rfl (by as_aux_lemma => kernel_rfl) (by as_aux_lemma => kernel_rfl) (by as_aux_lemma => kernel_rfl) (fun _ _ _ h => h) (Or.inl ⟨by rfl, ?_⟩) (by assumption) ?_
        rotate_left
        · intro w hSw
          obtain ⟨l0, l1, l2, l3, l4, l5, l6⟩ := arr7 (w := w) (hSw.rows _ (.tail _ (.head _)))
          go_simp
          all_goals (with_reducible rfl)
        try simp only [Act.put, List.setIfInBounds_toArray, List.set_cons_zero, List.set_cons_succ]
        refine wpAnyH_take (i := 3) (oi := ⟨some 72, _, _, _, _, _⟩) (v := ?_) rfl (by as_aux_lemma => kernel_rfl) (by as_aux_lemma => kernel_rfl) (by as_aux_lemma => kernel_rfl) (fun _ _ _ h => h) (Or.inl ⟨by rfl, ?_⟩) (by assumption) ?_
        rotate_left
        · intro w hSw
          (try dsimp only at hSw)
          go_simp
          all_goals (with_reducible rfl)
        try simp only [Act.put, List.setIfInBounds_toArray, List.set_cons_zero, List.set_cons_succ]
        refine wpAnyH_take (i := 4) (oi := ⟨some 73, _, _, _, _, _⟩) (v := ?_) rfl (by as_aux_lemma => kernel_rfl) (by as_aux_lemma => kernel_rfl) (by as_aux_lemma => kernel_rfl) (fun _ _ _ h => h) (Or.inl ⟨by rfl, ?_⟩) (by assumption) ?_
        rotate_left
        · intro w hSw
          obtain ⟨l0, l1, l2, l3, l4, l5, l6⟩ := arr7 (w := w) (hSw.rows _ (.head _))
          go_simp
          all_goals (with_reducible rfl)
        try simp only [Act.put, List.setIfInBounds_toArray, List.set_cons_zero, List.set_cons_succ]
        refine wpAnyH_ready (rs := [2]) (by as_aux_lemma => kernel_rfl) (by simp) (AllReadyH.cons (o := ⟨some 71, _, _, _, _, _⟩) rfl (fun K hK => ?_) AllReadyH.nil)
        go_simp
        refine (copy_any A4 n4 c4 ab _ (hHeld.reads _ (.tail _ (.head _))) (by omega)).mono ?_
        rintro e u1 ⟨Aw, cw, rfl, how, hb⟩
        have hS2 := hHeld.below hb (Nat.le_refl _)
        replace HBr := Lib.hid (HBr.out.trans (hb.mono HBr.out.size))
        refine hK.out _ _ hS2 (fun hHeld => ?_)
        clear hK K hS2
        try simp only [Act.put, List.setIfInBounds_toArray, List.set_cons_zero, List.set_cons_succ]
        replace HOr := Lib.hid (HOr.out.below hb (Nat.le_refl _))
        have hblw : ∀ j, Aw.map (·.block) = some j → gl < j := fun j hj => by have h1 := (how.block j hj).1; have h2 := HL0.out; omega
        have HL1 := Lib.hid (Nat.lt_of_lt_of_le HL0.out hb.size)
        clear hb HL0
        refine wpAnyH_ready (rs := [5]) (by as_aux_lemma => kernel_rfl) (by simp) (AllReadyH.cons (o := ⟨some 74, _, _, _, _, _⟩) rfl (fun K hK => ?_) AllReadyH.nil)
        go_simp
        refine (copy_any A6 0 c6 [] _ (hHeld.reads _ (.head _)) (by omega)).mono ?_
        rintro e u2 ⟨An, cn, rfl, hon, hb⟩
        have hS2 := hHeld.below hb (Nat.le_refl _)
        replace HBr := Lib.hid (HBr.out.trans (hb.mono HBr.out.size))
        refine hK.out _ _ hS2 (fun hHeld => ?_)
        clear hK K hS2
        try simp only [Act.put, List.setIfInBounds_toArray, List.set_cons_zero, List.set_cons_succ]
        have HOw := Lib.hid (how.rd.below hb (Nat.le_refl _))
        have HOn := Lib.hid hon.rd
        replace HOr := Lib.hid (HOr.out.below hb (Nat.le_refl _))
        have hbln : ∀ j, An.map (·.block) = some j → gl < j := fun j hj => by have h1 := (hon.block j hj).1; have h2 := HL1.out; omega
        clear how hon hb HL1
        refine wpAnyH_take (i := 6) (oi := ⟨some 12, _, _, _, _, _⟩) (v := ?_) rfl (by as_aux_lemma => kernel_rfl) (by as_aux_lemma => kernel_rfl) (by as_aux_lemma => kernel_rfl) (fun _ _ _ h => h) (Or.inl ⟨by rfl, ?_⟩) (by assumption) ?_
        rotate_left
        · intro w hSw
          (try dsimp only at hSw)
          go_simp
          all_goals (with_reducible rfl)
        try simp only [Act.put, List.setIfInBounds_toArray, List.set_cons_zero, List.set_cons_succ]
        refine wpAnyH_take (i := 7) (oi := ⟨some 13, _, _, _, _, _⟩) (v := ?_) rfl (by as_aux_lemma => kernel_rfl) (by as_aux_lemma => kernel_rfl) (by as_aux_lemma => kernel_rfl) (fun _ _ _ h => h) (Or.inl ⟨by rfl, ?_⟩) (by assumption) ?_
        rotate_left
        · intro w hSw
          (try dsimp only at hSw)
          go_simp
          all_goals (with_reducible rfl)
        try simp only [Act.put, List.setIfInBounds_toArray, List.set_cons_zero, List.set_cons_succ]
        refine wpAnyH_done (by kernel_rfl) ?_ _
        have HK := Lib.hid hHeld
        have HB := HBr
        clear HBr hHeld
        replace HK := Lib.hid (HK.out.read (HOw.out))
        replace HK := Lib.hid (HK.out.read (HOn.out))
        clear HOw HOn
        have HO := HOr
        clear HOr
        obtain ⟨cur, hcur⟩ := HO.out.typ (j := gl) rfl
        have hgx := ne_of_type (E := 34) (F := 5) (HK.out.rows _ (.head _)) hcur (by decide)
        have hga := ne_of_type (E := 25) (F := 5) (HK.out.rows _ (.tail _ (.head _))) hcur (by decide)
        have K4 := Lib.hid (show Keep u2 [(g_w7, #[.int .i64 0, .int .i64 0, .int .u8 0, .int .i64 0, .slice I6 0 mc6, .slice A6 0 c6, .int .i64 0], 34), (g_w5, #[.int .i64 al, .int .i64 asq, .int .u8 ao, .int .i64 ast, .int .i64 ai, .int .i64 av, .slice A4 n4 c4], 25)] [(A4, n4, ab), (A6, 0, []), (Aw, n4, ab), (An, 0, [])] [] [] from ((((((Keep.start u2).read (HK.out.reads _ (.head _))).read (HK.out.reads _ (.tail _ (.head _)))).read (HK.out.reads _ (.tail _ (.tail _ (.head _))))).read (HK.out.reads _ (.tail _ (.tail _ (.tail _ (.head _)))))).row (HK.out.rows _ (.tail _ (.head _)))).row (HK.out.rows _ (.head _)))
        clear HK hcur
        have HK := K4
        clear K4
        go_wp2
        go_loopw [14, 77] (fun _ s77 wr => ∃ (j : Nat) (l' : List UInt8), j ≤ xn + 1 + 4 ∧ s77 = .int .i64 (j : Int) ∧ Own wr w2.heap.size 5 (some ⟨gl, 0, none⟩) (xn + 1 + 4) c3 l' ∧ Hid (But [gl] u2 wr)) (fun _ s77 _ => xn + 1 + 4 - (Go.RowKit.intOf s77).toNat)
        case atStart => exact ⟨0, _, by omega, rfl, HO.out, But.refl _ _⟩
        case round =>
          obtain ⟨j, l', hj, rfl, hown, HR⟩ := hrel
          by_cases hlt : j < xn + 1 + 4
          · obtain ⟨ad, cc, hade, hadl, hcc, hcell⟩ := hown.rd.at_ hlt
            injection hade with hade
            subst hade
            have hfz : wr.frozen? ⟨gl, j, none⟩ = false := by
              obtain ⟨g2, e2, _, _, h2⟩ := hown.addr (by omega)
              injection e2 with e2
              injection e2 with e2
              subst e2
              exact h2 j
            have hadd : (⟨gl, 0, none⟩ : Addr).add j = ⟨gl, j, none⟩ := by unfold Addr.add; split <;> simp_all
            rw [hadd] at hcell
            unfold BV at hcell
            have hx := cc.toNat_lt
            obtain ⟨xb, hxb⟩ : ∃ xb, cc.toNat = xb := ⟨_, rfl⟩
            rw [hxb] at hx hcell
            have hxx := xor255 hx
            have hi1 : (0 : Int) ≤ (j : Int) := by omega
            have hi2 : (j : Int) < (xn : Int) + 1 + 4 := by omega
            have hi3 : (j : Int) < ((xn + 1 + 4 : Nat) : Int) := by omega
            have hwk : IntKind.i64.wrap ((j : Int) + 1) = (j : Int) + 1 := IntWalk.i64_in _ (by omega)
            have HX := Lib.hid (And.intro hxb (And.intro hlt hown))
            clear hcc hxb hlt hown hadd hadl
            go_wp2
            go_roundw
            case rel =>
              refine ⟨j + 1, l'.set j (UInt8.ofNat (xb ^^^ 255)), by have := HX.out.2.1; omega, by go_num, ?_, ?_⟩
              · have hv : Value.int IntKind.u8 ((xb ^^^ 255 : Nat) : Int) = BV (UInt8.ofNat (xb ^^^ 255)) := by
                  unfold BV
                  rw [UInt8.toNat_ofNat', Nat.mod_eq_of_lt (Nat.xor_lt_two_pow (n := 8) hx (by omega))]
                rw [hv]
                exact HX.out.2.2.set rfl (k := j) _
              · exact HR.out.setCell (by simp) _
            case measure => have := HX.out.2.1; simp [Go.RowKit.intOf]; omega
          · obtain rfl : j = xn + 1 + 4 := by omega
            replace HK := Lib.hid (HK.out.but HR.out (by simp; omega) (by intro q hq k hk; simp only [List.mem_cons, List.not_mem_nil, or_false] at hq; rcases hq with rfl | rfl | rfl | rfl <;> (simp; first | (have := hbl4 k hk; omega) | (have := hbl6 k hk; omega) | (have := hblw k hk; omega) | (have := hbln k hk; omega))))
            replace HB := Lib.hid (HB.out.trans (HR.out.below HB.out.size (by simp; have := HGW.out; omega)))
            clear HR hown
            obtain ⟨a0, a1, a2, a3, a4, a5, a6⟩ := arr7 (w := wr) (by exact (HK.out.rows _ (.tail _ (.head _))))
            obtain ⟨b0, b1, b2, b3, b4, b5, b6⟩ := arr7 (w := wr) (HK.out.rows _ (.head _))
            go_wp2_with fail
            refine (sameB_is wr (HK.out.reads _ (.head _)) (HK.out.reads _ (.tail _ (.tail _ (.head _)))) (q := true) (by simp)).mono ?_
            rintro e _ ⟨rfl, rfl⟩
            go_wp2_with fail
            refine (sameB_is wr (HK.out.reads _ (.tail _ (.head _))) (HK.out.reads _ (.tail _ (.tail _ (.tail _ (.head _))))) (q := true) (by simp)).mono ?_
            rintro e _ ⟨rfl, rfl⟩
            go_wp2_with fail
            refine (awake_is _).mono ?_
            rintro e wz ⟨rfl, hb⟩
            have hW : Below wr.heap.size wr wz := hb
            replace HK := Lib.hid (HK.out.below hW (Nat.le_refl _))
            replace HB := Lib.hid (HB.out.trans (hW.mono HB.out.size))
            clear hW
            go_wp2
            go_ret
            exact told_mk (by simp) HB.out
    | true =>
      cases hp0 : parseT (2 :: bs) with
      | none =>
        have HK := Lib.hid (Keep.start w)
        replace HK := Lib.hid (HK.out.read (hX))
        have hlen := hX.len
        clear hX
        have hgA : getA entry (sealed entry (2 :: bs)) = (zeroA, 110) := by rw [getA_sealed, parseA_two]; rfl
        have hgT : getT entry (sealed entry (2 :: bs)) = (zeroT, 110) := by rw [getT_sealed, hp0]; rfl
        have HGA := Lib.hid hgA
        have HGT := Lib.hid hgT
        clear hgA hgT hp0
        obtain ⟨Z, hZs, hz⟩ := zero39
        have HZ := Lib.hid hZs
        clear hZs
        have hz25 := (zero_of_info zero25).1
        have hz34 := (zero_of_info zero34).1
        go_enter Try.func8, Try.ntmps8
        go_upto_region 7 with (first
          | (go_at_call 12; refine (table_any _).mono ?_; rintro e w1 ⟨rfl, hb1⟩; rw [show tarr ((List.range 256).map entry) = T0 from rfl])
          | ((with_reducible refine wpList_store_new (o := ⟨none, .store 39 (.tmp 5) (.tmp 19), _, _, _, _⟩) ?_ 39 (.tmp 5) (.tmp 19) ?_ T0 Z ?_ ?_ 39 size39' HZ.out T0_one ?_)
             case refine_1 => rfl
             case refine_2 => rfl
             case refine_3 => rfl
             case refine_4 => rfl))
        have hW : Below w.heap.size w w1 := hb1
        clear hb1 hz
        replace HK := Lib.hid (HK.out.below hW (Nat.le_refl _))
        have HB := Lib.hid hW
        clear hW
        obtain ⟨p, hp⟩ : ∃ p, w1.heap.size = p := ⟨_, rfl⟩
        obtain ⟨wT, e⟩ : ∃ x, w1.alloc (.cells T0 39) = x := ⟨_, rfl⟩
        obtain ⟨hW, hx⟩ := box_new e
        rw [hp] at hx
        have EwT := Lib.hid e
        have SwT := size_of_alloc e
        clear e
        replace hx := Lib.hid hx
        replace HK := Lib.hid (HK.out.below hW (Nat.le_refl _))
        replace HB := Lib.hid (HB.out.trans (hW.mono HB.out.size))
        clear hW
        clear hx
        have hTb : Tb wT p entry := by rw [← EwT.out, ← hp]; exact ⟨tab_new w1 (0, 0), by rw [size_alloc]; simp⟩
        replace HK := Lib.hid (HK.out.tab (hTb))
        clear hTb
        have sT : wT.heap.size = p + 1 := by rw [SwT, hp]
        clear SwT
        rw [EwT.out]
        clear EwT
        (try rw [hp])
        go_wp2_with (at_builtin; refine wpList_app1 rfl (.tmp 22) (.tmp 23) rfl wT (p + 1) sT 2 _ (by rfl) rfl rfl (HK.out.reads _ (.head _)) (by omega) ?_; intro A2 c2 w2 ho2 hb2)
        have hW : Below wT.heap.size wT w2 := by rw [sT]; exact hb2
        clear sT hb2
        replace HK := Lib.hid (HK.out.below hW (Nat.le_refl _))
        replace HB := Lib.hid (HB.out.trans (hW.mono HB.out.size))
        clear hW
        replace HK := Lib.hid (HK.out.read (ho2.rd))
        clear ho2
        have hs2 := HB.out.size
        refine (seal_any ⟨p, 0, none⟩ entry A2 (xn + 1) c2 _ w2 (HK.out.tabs _ (.head _)).1 (HK.out.reads _ (.head _)) (show xn + 1 ≤ 70368744177664 by omega)).mono ?_
        rintro e w3 ⟨A3, c3, rfl, ho3, hb⟩
        have hW : Below w2.heap.size w2 w3 := hb
        replace HK := Lib.hid (HK.out.below hW (Nat.le_refl _))
        replace HB := Lib.hid (HB.out.trans (hW.mono HB.out.size))
        clear hW
        have HO := Lib.hid ho3
        clear ho3 hb
        have hc3 := HO.out.cap
        obtain ⟨gl, rfl, hgl1, hgl2, hglf⟩ := HO.out.addr (by omega)
        clear hglf
        have HL := Lib.hid (show Lt w3 gl from hgl2)
        have HGW := Lib.hid (Nat.le_trans hs2 hgl1)
        clear hgl1 hgl2 hs2
        go_wp2_with fail
        refine (getA_is w3 (HK.out.tabs _ (.head _)).1 (HK.out.tabs _ (.head _)).2 HO.out.rd (show xn + 1 + 4 ≤ 1000000 by omega) hc3).mono ?_
        rintro e w4 ⟨A4, n4, c4, rfl, ho4, hb⟩
        rw [HGA.out] at ho4 ⊢
        simp only [zeroA] at ho4 ⊢
        obtain rfl : n4 = 0 := size_drop ho4 0 rfl
        have hbl4 : ∀ j, A4.map (·.block) = some j → gl < j := fun j hj => by have h1 := (ho4.block j hj).1; have h2 : gl < w3.heap.size := HL.out; omega
        have hW : Below w3.heap.size w3 w4 := hb
        replace HK := Lib.hid (HK.out.below hW (Nat.le_refl _))
        replace HO := Lib.hid (HO.out.below hW (Nat.le_refl _))
        replace HL := Lib.hid (HL.out.below hW (Nat.le_refl _))
        replace HB := Lib.hid (HB.out.trans (hW.mono HB.out.size))
        clear hW
        replace HK := Lib.hid (HK.out.read (ho4.rd))
        have hn4 : ([] : List UInt8).length = 0 := ho4.len
        clear ho4 hb
        obtain ⟨g_w5, h_w5⟩ : ∃ g, w4.heap.size = g := ⟨_, rfl⟩
        obtain ⟨w5, e⟩ : ∃ x, w4.alloc (.cells #[.int .i64 0, .int .i64 0, .int .u8 0, .int .i64 0, .int .i64 0, .int .i64 0, .slice A4 0 c4] 25) = x := ⟨_, rfl⟩
        obtain ⟨hW, hx⟩ := box_new e
        rw [h_w5] at hx
        have Ew5 := Lib.hid e
        clear e
        replace hx := Lib.hid hx
        replace HK := Lib.hid (HK.out.below hW (Nat.le_refl _))
        replace HO := Lib.hid (HO.out.below hW (Nat.le_refl _))
        replace HL := Lib.hid (HL.out.below hW (Nat.le_refl _))
        replace HB := Lib.hid (HB.out.trans (hW.mono HB.out.size))
        clear hW
        replace HK := Lib.hid (HK.out.row (show Row w5 (g_w5) #[.int .i64 0, .int .i64 0, .int .u8 0, .int .i64 0, .int .i64 0, .int .i64 0, .slice A4 0 c4] 25 from hx.out))
        clear hx
        go_wp2_with fail
        rw [Ew5.out]
        clear Ew5
        refine (getT_is w5 (HK.out.tabs _ (.head _)).1 (HK.out.tabs _ (.head _)).2 HO.out.rd (show xn + 1 + 4 ≤ 1000000 by omega) hc3).mono ?_
        rintro e w6 ⟨I6, m6, mc6, A6, n6, c6, rfl, hi6, hm6, ho6, hb⟩
        rw [HGT.out] at hi6 ho6 ⊢
        simp only [zeroT] at hi6 ho6 ⊢
        obtain rfl : n6 = 0 := size_drop ho6 0 rfl
        obtain rfl : m6 = 0 := by have := hi6.len; simp [ics] at this; omega
        have hbl6 : ∀ j, A6.map (·.block) = some j → gl < j := fun j hj => by have h1 := (ho6.block j hj).1; have h2 : gl < w5.heap.size := HL.out; omega
        have hW : Below w5.heap.size w5 w6 := hb
        replace HK := Lib.hid (HK.out.below hW (Nat.le_refl _))
        replace HO := Lib.hid (HO.out.below hW (Nat.le_refl _))
        replace HL := Lib.hid (HL.out.below hW (Nat.le_refl _))
        replace HB := Lib.hid (HB.out.trans (hW.mono HB.out.size))
        clear hW
        replace HK := Lib.hid (HK.out.read (ho6.rd))
        replace HK := Lib.hid (HK.out.il (ownK_il hi6))
        have hn6 : ([] : List UInt8).length = 0 := ho6.len
        clear ho6 hi6 hb hm6
        obtain ⟨g_w7, h_w7⟩ : ∃ g, w6.heap.size = g := ⟨_, rfl⟩
        obtain ⟨w7, e⟩ : ∃ x, w6.alloc (.cells #[.int .i64 0, .int .i64 0, .int .u8 0, .int .i64 0, .slice I6 0 mc6, .slice A6 0 c6, .int .i64 0] 34) = x := ⟨_, rfl⟩
        obtain ⟨hW, hx⟩ := box_new e
        rw [h_w7] at hx
        have Ew7 := Lib.hid e
        clear e
        replace hx := Lib.hid hx
        replace HK := Lib.hid (HK.out.below hW (Nat.le_refl _))
        replace HO := Lib.hid (HO.out.below hW (Nat.le_refl _))
        replace HL := Lib.hid (HL.out.below hW (Nat.le_refl _))
        replace HB := Lib.hid (HB.out.trans (hW.mono HB.out.size))
        clear hW
        replace HK := Lib.hid (HK.out.row (show Row w7 (g_w7) #[.int .i64 0, .int .i64 0, .int .u8 0, .int .i64 0, .slice I6 0 mc6, .slice A6 0 c6, .int .i64 0] 34 from hx.out))
        clear hx
        obtain ⟨a0, a1, a2, a3, a4, a5, a6⟩ := arr7 (w := (World.alloc w6 (.cells #[.int .i64 0, .int .i64 0, .int .u8 0, .int .i64 0, .slice I6 0 mc6, .slice A6 0 c6, .int .i64 0] 34))) (by rw [Ew7.out]; exact (HK.out.rows _ (.tail _ (.head _))))
        go_wp2_with fail
        rw [Ew7.out]
        clear Ew7
        refine (sameA_is w7 0 0 0 0 0 0 0 0 0 0 0 0 [] [] (HK.out.reads _ (.tail _ (.head _))) (Rd.nil w7 none) (q := true) (by decide)).mono ?_
        rintro e w8 ⟨rfl, hb⟩
        have hW : Below w7.heap.size w7 w8 := hb
        replace HK := Lib.hid (HK.out.below hW (Nat.le_refl _))
        replace HO := Lib.hid (HO.out.below hW (Nat.le_refl _))
        replace HL := Lib.hid (HL.out.below hW (Nat.le_refl _))
        replace HB := Lib.hid (HB.out.trans (hW.mono HB.out.size))
        clear hW
        clear a0 a1 a2 a3 a4 a5 a6 hb
        obtain ⟨a0, a1, a2, a3, a4, a5, a6⟩ := arr7 (w := w8) (by exact (HK.out.rows _ (.head _)))
        go_wp2_with fail
        refine (sameT_is w8 0 0 0 0 0 0 0 0 0 0 [] [] [] [] (HK.out.ils _ (.head _)) (IL.nil w8 none) (show 0 ≤ 1000000 by omega) (HK.out.reads _ (.head _)) (Rd.nil w8 none) (q := true) (by decide)).mono ?_
        rintro e w9 ⟨rfl, hb⟩
        have hW : Below w8.heap.size w8 w9 := hb
        replace HK := Lib.hid (HK.out.below hW (Nat.le_refl _))
        replace HO := Lib.hid (HO.out.below hW (Nat.le_refl _))
        replace HL := Lib.hid (HL.out.below hW (Nat.le_refl _))
        replace HB := Lib.hid (HB.out.trans (hW.mono HB.out.size))
        clear hW
        clear a0 a1 a2 a3 a4 a5 a6 hb
        go_wp2_with fail
        refine wp_region_held_drew (S := fun u => Keep u [(g_w7, #[.int .i64 0, .int .i64 0, .int .u8 0, .int .i64 0, .slice I6 0 mc6, .slice A6 0 c6, .int .i64 0], 34), (g_w5, #[.int .i64 0, .int .i64 0, .int .u8 0, .int .i64 0, .int .i64 0, .int .i64 0, .slice A4 0 c4], 25)] [(A6, 0, []), (A4, 0, []), (A2, xn + 1, (2 :: bs)), (X, xn, bs)] [(I6, 0, [])] [(p, entry)]) (by kernel_rfl) (HK.out.drew) (fun hHeld => ?_)
        have HBr := Lib.hid (HB.out.drew)
        clear HK HB
        have HOr := Lib.hid (HO.out.drew)
        clear HO
        have HL0 : Hid (gl < w9.drew.heap.size) := Lib.hid HL.out
        clear HL
        refine wpAnyH_take (i := 0) (oi := ⟨some 69, _, _, _, _, _⟩) (v := ?_) rfl (by as_aux_lemma => kernel_rfl) (by as_aux_lemma => kernel_rfl) (by as_aux_lemma => kernel_rfl) (fun _ _ _ h => h) (Or.inl ⟨by rfl, ?_⟩) (by assumption) ?_
        rotate_left
        · intro w hSw
          (try dsimp only at hSw)
          go_simp
          all_goals (with_reducible rfl)
        try simp only [Act.put, List.setIfInBounds_toArray, List.set_cons_zero, List.set_cons_succ]
        refine wpAnyH_take (i := 1) (oi := ⟨some 70, _, _, _, _, _⟩) (v := ?_) rfl (by as_aux_lemma => kernel_rfl) (by as_aux_lemma => kernel_rfl) (by as_aux_lemma => kernel_rfl) (fun _ _ _ h => h) (Or.inl ⟨by rfl, ?_⟩) (by assumption) ?_
        rotate_left
        · intro w hSw
          obtain ⟨l0, l1, l2, l3, l4, l5, l6⟩ := arr7 (w := w) (hSw.rows _ (.tail _ (.head _)))
          go_simp
          all_goals (with_reducible rfl)
        try simp only [Act.put, List.setIfInBounds_toArray, List.set_cons_zero, List.set_cons_succ]
        refine wpAnyH_take (i := 3) (oi := ⟨some 72, _, _, _, _, _⟩) (v := ?_) rfl (by as_aux_lemma => kernel_rfl) (by as_aux_lemma => kernel_rfl) (by as_aux_lemma => kernel_rfl) (fun _ _ _ h => h) (Or.inl ⟨by rfl, ?_⟩) (by assumption) ?_
        rotate_left
        · intro w hSw
          (try dsimp only at hSw)
          go_simp
          all_goals (with_reducible rfl)
        try simp only [Act.put, List.setIfInBounds_toArray, List.set_cons_zero, List.set_cons_succ]
        refine wpAnyH_take (i := 4) (oi := ⟨some 73, _, _, _, _, _⟩) (v := ?_) rfl (by as_aux_lemma => kernel_rfl) (by as_aux_lemma => kernel_rfl) (by as_aux_lemma => kernel_rfl) (fun _ _ _ h => h) (Or.inl ⟨by rfl, ?_⟩) (by assumption) ?_
        rotate_left
        · intro w hSw
          obtain ⟨l0, l1, l2, l3, l4, l5, l6⟩ := arr7 (w := w) (hSw.rows _ (.head _))
          go_simp
          all_goals (with_reducible rfl)
        try simp only [Act.put, List.setIfInBounds_toArray, List.set_cons_zero, List.set_cons_succ]
        refine wpAnyH_ready (rs := [2]) (by as_aux_lemma => kernel_rfl) (by simp) (AllReadyH.cons (o := ⟨some 71, _, _, _, _, _⟩) rfl (fun K hK => ?_) AllReadyH.nil)
        go_simp
        refine (copy_any A4 0 c4 [] _ (hHeld.reads _ (.tail _ (.head _))) (by omega)).mono ?_
        rintro e u1 ⟨Aw, cw, rfl, how, hb⟩
        have hS2 := hHeld.below hb (Nat.le_refl _)
        replace HBr := Lib.hid (HBr.out.trans (hb.mono HBr.out.size))
        refine hK.out _ _ hS2 (fun hHeld => ?_)
        clear hK K hS2
        try simp only [Act.put, List.setIfInBounds_toArray, List.set_cons_zero, List.set_cons_succ]
        replace HOr := Lib.hid (HOr.out.below hb (Nat.le_refl _))
        have hblw : ∀ j, Aw.map (·.block) = some j → gl < j := fun j hj => by have h1 := (how.block j hj).1; have h2 := HL0.out; omega
        have HL1 := Lib.hid (Nat.lt_of_lt_of_le HL0.out hb.size)
        clear hb HL0
        refine wpAnyH_ready (rs := [5]) (by as_aux_lemma => kernel_rfl) (by simp) (AllReadyH.cons (o := ⟨some 74, _, _, _, _, _⟩) rfl (fun K hK => ?_) AllReadyH.nil)
        go_simp
        refine (copy_any A6 0 c6 [] _ (hHeld.reads _ (.head _)) (by omega)).mono ?_
        rintro e u2 ⟨An, cn, rfl, hon, hb⟩
        have hS2 := hHeld.below hb (Nat.le_refl _)
        replace HBr := Lib.hid (HBr.out.trans (hb.mono HBr.out.size))
        refine hK.out _ _ hS2 (fun hHeld => ?_)
        clear hK K hS2
        try simp only [Act.put, List.setIfInBounds_toArray, List.set_cons_zero, List.set_cons_succ]
        have HOw := Lib.hid (how.rd.below hb (Nat.le_refl _))
        have HOn := Lib.hid hon.rd
        replace HOr := Lib.hid (HOr.out.below hb (Nat.le_refl _))
        have hbln : ∀ j, An.map (·.block) = some j → gl < j := fun j hj => by have h1 := (hon.block j hj).1; have h2 := HL1.out; omega
        clear how hon hb HL1
        refine wpAnyH_take (i := 6) (oi := ⟨some 12, _, _, _, _, _⟩) (v := ?_) rfl (by as_aux_lemma => kernel_rfl) (by as_aux_lemma => kernel_rfl) (by as_aux_lemma => kernel_rfl) (fun _ _ _ h => h) (Or.inl ⟨by rfl, ?_⟩) (by assumption) ?_
        rotate_left
        · intro w hSw
          (try dsimp only at hSw)
          go_simp
          all_goals (with_reducible rfl)
        try simp only [Act.put, List.setIfInBounds_toArray, List.set_cons_zero, List.set_cons_succ]
        refine wpAnyH_take (i := 7) (oi := ⟨some 13, _, _, _, _, _⟩) (v := ?_) rfl (by as_aux_lemma => kernel_rfl) (by as_aux_lemma => kernel_rfl) (by as_aux_lemma => kernel_rfl) (fun _ _ _ h => h) (Or.inl ⟨by rfl, ?_⟩) (by assumption) ?_
        rotate_left
        · intro w hSw
          (try dsimp only at hSw)
          go_simp
          all_goals (with_reducible rfl)
        try simp only [Act.put, List.setIfInBounds_toArray, List.set_cons_zero, List.set_cons_succ]
        refine wpAnyH_done (by kernel_rfl) ?_ _
        have HK := Lib.hid hHeld
        have HB := HBr
        clear HBr hHeld
        replace HK := Lib.hid (HK.out.read (HOw.out))
        replace HK := Lib.hid (HK.out.read (HOn.out))
        clear HOw HOn
        have HO := HOr
        clear HOr
        obtain ⟨cur, hcur⟩ := HO.out.typ (j := gl) rfl
        have hgx := ne_of_type (E := 34) (F := 5) (HK.out.rows _ (.head _)) hcur (by decide)
        have hga := ne_of_type (E := 25) (F := 5) (HK.out.rows _ (.tail _ (.head _))) hcur (by decide)
        have K4 := Lib.hid (show Keep u2 [(g_w7, #[.int .i64 0, .int .i64 0, .int .u8 0, .int .i64 0, .slice I6 0 mc6, .slice A6 0 c6, .int .i64 0], 34), (g_w5, #[.int .i64 0, .int .i64 0, .int .u8 0, .int .i64 0, .int .i64 0, .int .i64 0, .slice A4 0 c4], 25)] [(A4, 0, []), (A6, 0, []), (Aw, 0, []), (An, 0, [])] [] [] from ((((((Keep.start u2).read (HK.out.reads _ (.head _))).read (HK.out.reads _ (.tail _ (.head _)))).read (HK.out.reads _ (.tail _ (.tail _ (.head _))))).read (HK.out.reads _ (.tail _ (.tail _ (.tail _ (.head _)))))).row (HK.out.rows _ (.tail _ (.head _)))).row (HK.out.rows _ (.head _)))
        clear HK hcur
        have HK := K4
        clear K4
        go_wp2
        go_loopw [14, 77] (fun _ s77 wr => ∃ (j : Nat) (l' : List UInt8), j ≤ xn + 1 + 4 ∧ s77 = .int .i64 (j : Int) ∧ Own wr w2.heap.size 5 (some ⟨gl, 0, none⟩) (xn + 1 + 4) c3 l' ∧ Hid (But [gl] u2 wr)) (fun _ s77 _ => xn + 1 + 4 - (Go.RowKit.intOf s77).toNat)
        case atStart => exact ⟨0, _, by omega, rfl, HO.out, But.refl _ _⟩
        case round =>
          obtain ⟨j, l', hj, rfl, hown, HR⟩ := hrel
          by_cases hlt : j < xn + 1 + 4
          · obtain ⟨ad, cc, hade, hadl, hcc, hcell⟩ := hown.rd.at_ hlt
            injection hade with hade
            subst hade
            have hfz : wr.frozen? ⟨gl, j, none⟩ = false := by
              obtain ⟨g2, e2, _, _, h2⟩ := hown.addr (by omega)
              injection e2 with e2
              injection e2 with e2
              subst e2
              exact h2 j
            have hadd : (⟨gl, 0, none⟩ : Addr).add j = ⟨gl, j, none⟩ := by unfold Addr.add; split <;> simp_all
            rw [hadd] at hcell
            unfold BV at hcell
            have hx := cc.toNat_lt
            obtain ⟨xb, hxb⟩ : ∃ xb, cc.toNat = xb := ⟨_, rfl⟩
            rw [hxb] at hx hcell
            have hxx := xor255 hx
            have hi1 : (0 : Int) ≤ (j : Int) := by omega
            have hi2 : (j : Int) < (xn : Int) + 1 + 4 := by omega
            have hi3 : (j : Int) < ((xn + 1 + 4 : Nat) : Int) := by omega
            have hwk : IntKind.i64.wrap ((j : Int) + 1) = (j : Int) + 1 := IntWalk.i64_in _ (by omega)
            have HX := Lib.hid (And.intro hxb (And.intro hlt hown))
            clear hcc hxb hlt hown hadd hadl
            go_wp2
            go_roundw
            case rel =>
              refine ⟨j + 1, l'.set j (UInt8.ofNat (xb ^^^ 255)), by have := HX.out.2.1; omega, by go_num, ?_, ?_⟩
              · have hv : Value.int IntKind.u8 ((xb ^^^ 255 : Nat) : Int) = BV (UInt8.ofNat (xb ^^^ 255)) := by
                  unfold BV
                  rw [UInt8.toNat_ofNat', Nat.mod_eq_of_lt (Nat.xor_lt_two_pow (n := 8) hx (by omega))]
                rw [hv]
                exact HX.out.2.2.set rfl (k := j) _
              · exact HR.out.setCell (by simp) _
            case measure => have := HX.out.2.1; simp [Go.RowKit.intOf]; omega
          · obtain rfl : j = xn + 1 + 4 := by omega
            replace HK := Lib.hid (HK.out.but HR.out (by simp; omega) (by intro q hq k hk; simp only [List.mem_cons, List.not_mem_nil, or_false] at hq; rcases hq with rfl | rfl | rfl | rfl <;> (simp; first | (have := hbl4 k hk; omega) | (have := hbl6 k hk; omega) | (have := hblw k hk; omega) | (have := hbln k hk; omega))))
            replace HB := Lib.hid (HB.out.trans (HR.out.below HB.out.size (by simp; have := HGW.out; omega)))
            clear HR hown
            obtain ⟨a0, a1, a2, a3, a4, a5, a6⟩ := arr7 (w := wr) (by exact (HK.out.rows _ (.tail _ (.head _))))
            obtain ⟨b0, b1, b2, b3, b4, b5, b6⟩ := arr7 (w := wr) (HK.out.rows _ (.head _))
            go_wp2_with fail
            refine (sameB_is wr (HK.out.reads _ (.head _)) (HK.out.reads _ (.tail _ (.tail _ (.head _)))) (q := true) (by simp)).mono ?_
            rintro e _ ⟨rfl, rfl⟩
            go_wp2_with fail
            refine (sameB_is wr (HK.out.reads _ (.tail _ (.head _))) (HK.out.reads _ (.tail _ (.tail _ (.tail _ (.head _))))) (q := true) (by simp)).mono ?_
            rintro e _ ⟨rfl, rfl⟩
            go_wp2_with fail
            refine (awake_is _).mono ?_
            rintro e wz ⟨rfl, hb⟩
            have hW : Below wr.heap.size wr wz := hb
            replace HK := Lib.hid (HK.out.below hW (Nat.le_refl _))
            replace HB := Lib.hid (HB.out.trans (hW.mono HB.out.size))
            clear hW
            go_wp2
            go_ret
            exact told_mk (by simp) HB.out
      | some x =>
        obtain ⟨al, asq, ao, ae, aL, ab, ar⟩ := x
        have hsm : ab.length ≤ 65536 := (parseT_back hp0).1.2.2.2.2.2.1
        have HK := Lib.hid (Keep.start w)
        replace HK := Lib.hid (HK.out.read (hX))
        have hlen := hX.len
        clear hX
        have hgA : getA entry (sealed entry (2 :: bs)) = (zeroA, 110) := by rw [getA_sealed, parseA_two]; rfl
        have hgT : getT entry (sealed entry (2 :: bs)) = (⟨al, asq, ao, ae, aL, ab, ar⟩, 0) := by rw [getT_sealed, hp0]; rfl
        have HGA := Lib.hid hgA
        have HGT := Lib.hid hgT
        clear hgA hgT hp0
        obtain ⟨Z, hZs, hz⟩ := zero39
        have HZ := Lib.hid hZs
        clear hZs
        have hz25 := (zero_of_info zero25).1
        have hz34 := (zero_of_info zero34).1
        go_enter Try.func8, Try.ntmps8
        go_upto_region 7 with (first
          | (go_at_call 12; refine (table_any _).mono ?_; rintro e w1 ⟨rfl, hb1⟩; rw [show tarr ((List.range 256).map entry) = T0 from rfl])
          | ((with_reducible refine wpList_store_new (o := ⟨none, .store 39 (.tmp 5) (.tmp 19), _, _, _, _⟩) ?_ 39 (.tmp 5) (.tmp 19) ?_ T0 Z ?_ ?_ 39 size39' HZ.out T0_one ?_)
             case refine_1 => rfl
             case refine_2 => rfl
             case refine_3 => rfl
             case refine_4 => rfl))
        have hW : Below w.heap.size w w1 := hb1
        clear hb1 hz
        replace HK := Lib.hid (HK.out.below hW (Nat.le_refl _))
        have HB := Lib.hid hW
        clear hW
        obtain ⟨p, hp⟩ : ∃ p, w1.heap.size = p := ⟨_, rfl⟩
        obtain ⟨wT, e⟩ : ∃ x, w1.alloc (.cells T0 39) = x := ⟨_, rfl⟩
        obtain ⟨hW, hx⟩ := box_new e
        rw [hp] at hx
        have EwT := Lib.hid e
        have SwT := size_of_alloc e
        clear e
        replace hx := Lib.hid hx
        replace HK := Lib.hid (HK.out.below hW (Nat.le_refl _))
        replace HB := Lib.hid (HB.out.trans (hW.mono HB.out.size))
        clear hW
        clear hx
        have hTb : Tb wT p entry := by rw [← EwT.out, ← hp]; exact ⟨tab_new w1 (0, 0), by rw [size_alloc]; simp⟩
        replace HK := Lib.hid (HK.out.tab (hTb))
        clear hTb
        have sT : wT.heap.size = p + 1 := by rw [SwT, hp]
        clear SwT
        rw [EwT.out]
        clear EwT
        (try rw [hp])
        go_wp2_with (at_builtin; refine wpList_app1 rfl (.tmp 22) (.tmp 23) rfl wT (p + 1) sT 2 _ (by rfl) rfl rfl (HK.out.reads _ (.head _)) (by omega) ?_; intro A2 c2 w2 ho2 hb2)
        have hW : Below wT.heap.size wT w2 := by rw [sT]; exact hb2
        clear sT hb2
        replace HK := Lib.hid (HK.out.below hW (Nat.le_refl _))
        replace HB := Lib.hid (HB.out.trans (hW.mono HB.out.size))
        clear hW
        replace HK := Lib.hid (HK.out.read (ho2.rd))
        clear ho2
        have hs2 := HB.out.size
        refine (seal_any ⟨p, 0, none⟩ entry A2 (xn + 1) c2 _ w2 (HK.out.tabs _ (.head _)).1 (HK.out.reads _ (.head _)) (show xn + 1 ≤ 70368744177664 by omega)).mono ?_
        rintro e w3 ⟨A3, c3, rfl, ho3, hb⟩
        have hW : Below w2.heap.size w2 w3 := hb
        replace HK := Lib.hid (HK.out.below hW (Nat.le_refl _))
        replace HB := Lib.hid (HB.out.trans (hW.mono HB.out.size))
        clear hW
        have HO := Lib.hid ho3
        clear ho3 hb
        have hc3 := HO.out.cap
        obtain ⟨gl, rfl, hgl1, hgl2, hglf⟩ := HO.out.addr (by omega)
        clear hglf
        have HL := Lib.hid (show Lt w3 gl from hgl2)
        have HGW := Lib.hid (Nat.le_trans hs2 hgl1)
        clear hgl1 hgl2 hs2
        go_wp2_with fail
        refine (getA_is w3 (HK.out.tabs _ (.head _)).1 (HK.out.tabs _ (.head _)).2 HO.out.rd (show xn + 1 + 4 ≤ 1000000 by omega) hc3).mono ?_
        rintro e w4 ⟨A4, n4, c4, rfl, ho4, hb⟩
        rw [HGA.out] at ho4 ⊢
        simp only [zeroA] at ho4 ⊢
        obtain rfl : n4 = 0 := size_drop ho4 0 rfl
        have hbl4 : ∀ j, A4.map (·.block) = some j → gl < j := fun j hj => by have h1 := (ho4.block j hj).1; have h2 : gl < w3.heap.size := HL.out; omega
        have hW : Below w3.heap.size w3 w4 := hb
        replace HK := Lib.hid (HK.out.below hW (Nat.le_refl _))
        replace HO := Lib.hid (HO.out.below hW (Nat.le_refl _))
        replace HL := Lib.hid (HL.out.below hW (Nat.le_refl _))
        replace HB := Lib.hid (HB.out.trans (hW.mono HB.out.size))
        clear hW
        replace HK := Lib.hid (HK.out.read (ho4.rd))
        have hn4 : ([] : List UInt8).length = 0 := ho4.len
        clear ho4 hb
        obtain ⟨g_w5, h_w5⟩ : ∃ g, w4.heap.size = g := ⟨_, rfl⟩
        obtain ⟨w5, e⟩ : ∃ x, w4.alloc (.cells #[.int .i64 0, .int .i64 0, .int .u8 0, .int .i64 0, .int .i64 0, .int .i64 0, .slice A4 0 c4] 25) = x := ⟨_, rfl⟩
        obtain ⟨hW, hx⟩ := box_new e
        rw [h_w5] at hx
        have Ew5 := Lib.hid e
        clear e
        replace hx := Lib.hid hx
        replace HK := Lib.hid (HK.out.below hW (Nat.le_refl _))
        replace HO := Lib.hid (HO.out.below hW (Nat.le_refl _))
        replace HL := Lib.hid (HL.out.below hW (Nat.le_refl _))
        replace HB := Lib.hid (HB.out.trans (hW.mono HB.out.size))
        clear hW
        replace HK := Lib.hid (HK.out.row (show Row w5 (g_w5) #[.int .i64 0, .int .i64 0, .int .u8 0, .int .i64 0, .int .i64 0, .int .i64 0, .slice A4 0 c4] 25 from hx.out))
        clear hx
        go_wp2_with fail
        rw [Ew5.out]
        clear Ew5
        refine (getT_is w5 (HK.out.tabs _ (.head _)).1 (HK.out.tabs _ (.head _)).2 HO.out.rd (show xn + 1 + 4 ≤ 1000000 by omega) hc3).mono ?_
        rintro e w6 ⟨I6, m6, mc6, A6, n6, c6, rfl, hi6, hm6, ho6, hb⟩
        rw [HGT.out] at hi6 ho6 ⊢
        simp only at hi6 ho6 ⊢
        have hbl6 : ∀ j, A6.map (·.block) = some j → gl < j := fun j hj => by have h1 := (ho6.block j hj).1; have h2 : gl < w5.heap.size := HL.out; omega
        have hW : Below w5.heap.size w5 w6 := hb
        replace HK := Lib.hid (HK.out.below hW (Nat.le_refl _))
        replace HO := Lib.hid (HO.out.below hW (Nat.le_refl _))
        replace HL := Lib.hid (HL.out.below hW (Nat.le_refl _))
        replace HB := Lib.hid (HB.out.trans (hW.mono HB.out.size))
        clear hW
        replace HK := Lib.hid (HK.out.read (ho6.rd))
        replace HK := Lib.hid (HK.out.il (ownK_il hi6))
        have hn6 : (ab : List UInt8).length = n6 := ho6.len
        clear ho6 hi6 hb hm6
        obtain ⟨g_w7, h_w7⟩ : ∃ g, w6.heap.size = g := ⟨_, rfl⟩
        obtain ⟨w7, e⟩ : ∃ x, w6.alloc (.cells #[.int .i64 al, .int .i64 asq, .int .u8 ao, .int .i64 ae, .slice I6 m6 mc6, .slice A6 n6 c6, .int .i64 ar] 34) = x := ⟨_, rfl⟩
        obtain ⟨hW, hx⟩ := box_new e
        rw [h_w7] at hx
        have Ew7 := Lib.hid e
        clear e
        replace hx := Lib.hid hx
        replace HK := Lib.hid (HK.out.below hW (Nat.le_refl _))
        replace HO := Lib.hid (HO.out.below hW (Nat.le_refl _))
        replace HL := Lib.hid (HL.out.below hW (Nat.le_refl _))
        replace HB := Lib.hid (HB.out.trans (hW.mono HB.out.size))
        clear hW
        replace HK := Lib.hid (HK.out.row (show Row w7 (g_w7) #[.int .i64 al, .int .i64 asq, .int .u8 ao, .int .i64 ae, .slice I6 m6 mc6, .slice A6 n6 c6, .int .i64 ar] 34 from hx.out))
        clear hx
        obtain ⟨a0, a1, a2, a3, a4, a5, a6⟩ := arr7 (w := (World.alloc w6 (.cells #[.int .i64 al, .int .i64 asq, .int .u8 ao, .int .i64 ae, .slice I6 m6 mc6, .slice A6 n6 c6, .int .i64 ar] 34))) (by rw [Ew7.out]; exact (HK.out.rows _ (.tail _ (.head _))))
        go_wp2_with fail
        rw [Ew7.out]
        clear Ew7
        refine (sameA_is w7 0 0 0 0 0 0 0 0 0 0 0 0 [] [] (HK.out.reads _ (.tail _ (.head _))) (Rd.nil w7 none) (q := true) (by decide)).mono ?_
        rintro e w8 ⟨rfl, hb⟩
        have hW : Below w7.heap.size w7 w8 := hb
        replace HK := Lib.hid (HK.out.below hW (Nat.le_refl _))
        replace HO := Lib.hid (HO.out.below hW (Nat.le_refl _))
        replace HL := Lib.hid (HL.out.below hW (Nat.le_refl _))
        replace HB := Lib.hid (HB.out.trans (hW.mono HB.out.size))
        clear hW
        clear a0 a1 a2 a3 a4 a5 a6 hb
        go_wp2_with fail
        refine wp_region_held_drew (S := fun u => Keep u [(g_w7, #[.int .i64 al, .int .i64 asq, .int .u8 ao, .int .i64 ae, .slice I6 m6 mc6, .slice A6 n6 c6, .int .i64 ar], 34), (g_w5, #[.int .i64 0, .int .i64 0, .int .u8 0, .int .i64 0, .int .i64 0, .int .i64 0, .slice A4 0 c4], 25)] [(A6, n6, ab), (A4, 0, []), (A2, xn + 1, (2 :: bs)), (X, xn, bs)] [(I6, m6, aL)] [(p, entry)]) (by kernel_rfl) (HK.out.drew) (fun hHeld => ?_)
        have HBr := Lib.hid (HB.out.drew)
        clear HK HB
        have HOr := Lib.hid (HO.out.drew)
        clear HO
        have HL0 : Hid (gl < w8.drew.heap.size) := Lib.hid HL.out
        clear HL
        refine wpAnyH_take (i := 0) (oi := ⟨some 69, _, _, _, _, _⟩) (v := ?_) rfl (by as_aux_lemma => kernel_rfl) (by as_aux_lemma => kernel_rfl) (by as_aux_lemma => kernel_rfl) (fun _ _ _ h => h) (Or.inl ⟨by rfl, ?_⟩) (by assumption) ?_
        rotate_left
        · intro w hSw
          (try dsimp only at hSw)
          go_simp
          all_goals (with_reducible rfl)
        try simp only [Act.put, List.setIfInBounds_toArray, List.set_cons_zero, List.set_cons_succ]
        refine wpAnyH_take (i := 1) (oi := ⟨some 70, _, _, _, _, _⟩) (v := ?_) rfl (by as_aux_lemma => kernel_rfl) (by as_aux_lemma => kernel_rfl) (by as_aux_lemma => kernel_rfl) (fun _ _ _ h => h) (Or.inl ⟨by rfl, ?_⟩) (by assumption) ?_
        rotate_left
        · intro w hSw
          obtain ⟨l0, l1, l2, l3, l4, l5, l6⟩ := arr7 (w := w) (hSw.rows _ (.tail _ (.head _)))
          go_simp
          all_goals (with_reducible rfl)
        try simp only [Act.put, List.setIfInBounds_toArray, List.set_cons_zero, List.set_cons_succ]
        refine wpAnyH_take (i := 3) (oi := ⟨some 72, _, _, _, _, _⟩) (v := ?_) rfl (by as_aux_lemma => kernel_rfl) (by as_aux_lemma => kernel_rfl) (by as_aux_lemma => kernel_rfl) (fun _ _ _ h => h) (Or.inl ⟨by rfl, ?_⟩) (by assumption) ?_
        rotate_left
        · intro w hSw
          (try dsimp only at hSw)
          go_simp
          all_goals (with_reducible rfl)
        try simp only [Act.put, List.setIfInBounds_toArray, List.set_cons_zero, List.set_cons_succ]
        refine wpAnyH_take (i := 4) (oi := ⟨some 73, _, _, _, _, _⟩) (v := ?_) rfl (by as_aux_lemma => kernel_rfl) (by as_aux_lemma => kernel_rfl) (by as_aux_lemma => kernel_rfl) (fun _ _ _ h => h) (Or.inl ⟨by rfl, ?_⟩) (by assumption) ?_
        rotate_left
        · intro w hSw
          obtain ⟨l0, l1, l2, l3, l4, l5, l6⟩ := arr7 (w := w) (hSw.rows _ (.head _))
          go_simp
          all_goals (with_reducible rfl)
        try simp only [Act.put, List.setIfInBounds_toArray, List.set_cons_zero, List.set_cons_succ]
        refine wpAnyH_ready (rs := [2]) (by as_aux_lemma => kernel_rfl) (by simp) (AllReadyH.cons (o := ⟨some 71, _, _, _, _, _⟩) rfl (fun K hK => ?_) AllReadyH.nil)
        go_simp
        refine (copy_any A4 0 c4 [] _ (hHeld.reads _ (.tail _ (.head _))) (by omega)).mono ?_
        rintro e u1 ⟨Aw, cw, rfl, how, hb⟩
        have hS2 := hHeld.below hb (Nat.le_refl _)
        replace HBr := Lib.hid (HBr.out.trans (hb.mono HBr.out.size))
        refine hK.out _ _ hS2 (fun hHeld => ?_)
        clear hK K hS2
        try simp only [Act.put, List.setIfInBounds_toArray, List.set_cons_zero, List.set_cons_succ]
        replace HOr := Lib.hid (HOr.out.below hb (Nat.le_refl _))
        have hblw : ∀ j, Aw.map (·.block) = some j → gl < j := fun j hj => by have h1 := (how.block j hj).1; have h2 := HL0.out; omega
        have HL1 := Lib.hid (Nat.lt_of_lt_of_le HL0.out hb.size)
        clear hb HL0
        refine wpAnyH_ready (rs := [5]) (by as_aux_lemma => kernel_rfl) (by simp) (AllReadyH.cons (o := ⟨some 74, _, _, _, _, _⟩) rfl (fun K hK => ?_) AllReadyH.nil)
        go_simp
        refine (copy_any A6 n6 c6 ab _ (hHeld.reads _ (.head _)) (by omega)).mono ?_
        rintro e u2 ⟨An, cn, rfl, hon, hb⟩
        have hS2 := hHeld.below hb (Nat.le_refl _)
        replace HBr := Lib.hid (HBr.out.trans (hb.mono HBr.out.size))
        refine hK.out _ _ hS2 (fun hHeld => ?_)
        clear hK K hS2
        try simp only [Act.put, List.setIfInBounds_toArray, List.set_cons_zero, List.set_cons_succ]
        have HOw := Lib.hid (how.rd.below hb (Nat.le_refl _))
        have HOn := Lib.hid hon.rd
        replace HOr := Lib.hid (HOr.out.below hb (Nat.le_refl _))
        have hbln : ∀ j, An.map (·.block) = some j → gl < j := fun j hj => by have h1 := (hon.block j hj).1; have h2 := HL1.out; omega
        clear how hon hb HL1
        refine wpAnyH_take (i := 6) (oi := ⟨some 12, _, _, _, _, _⟩) (v := ?_) rfl (by as_aux_lemma => kernel_rfl) (by as_aux_lemma => kernel_rfl) (by as_aux_lemma => kernel_rfl) (fun _ _ _ h => h) (Or.inl ⟨by rfl, ?_⟩) (by assumption) ?_
        rotate_left
        · intro w hSw
          (try dsimp only at hSw)
          go_simp
          all_goals (with_reducible rfl)
        try simp only [Act.put, List.setIfInBounds_toArray, List.set_cons_zero, List.set_cons_succ]
        refine wpAnyH_take (i := 7) (oi := ⟨some 13, _, _, _, _, _⟩) (v := ?_) rfl (by as_aux_lemma => kernel_rfl) (by as_aux_lemma => kernel_rfl) (by as_aux_lemma => kernel_rfl) (fun _ _ _ h => h) (Or.inl ⟨by rfl, ?_⟩) (by assumption) ?_
        rotate_left
        · intro w hSw
          (try dsimp only at hSw)
          go_simp
          all_goals (with_reducible rfl)
        try simp only [Act.put, List.setIfInBounds_toArray, List.set_cons_zero, List.set_cons_succ]
        refine wpAnyH_done (by kernel_rfl) ?_ _
        have HK := Lib.hid hHeld
        have HB := HBr
        clear HBr hHeld
        replace HK := Lib.hid (HK.out.read (HOw.out))
        replace HK := Lib.hid (HK.out.read (HOn.out))
        clear HOw HOn
        have HO := HOr
        clear HOr
        obtain ⟨cur, hcur⟩ := HO.out.typ (j := gl) rfl
        have hgx := ne_of_type (E := 34) (F := 5) (HK.out.rows _ (.head _)) hcur (by decide)
        have hga := ne_of_type (E := 25) (F := 5) (HK.out.rows _ (.tail _ (.head _))) hcur (by decide)
        have K4 := Lib.hid (show Keep u2 [(g_w7, #[.int .i64 al, .int .i64 asq, .int .u8 ao, .int .i64 ae, .slice I6 m6 mc6, .slice A6 n6 c6, .int .i64 ar], 34), (g_w5, #[.int .i64 0, .int .i64 0, .int .u8 0, .int .i64 0, .int .i64 0, .int .i64 0, .slice A4 0 c4], 25)] [(A4, 0, []), (A6, n6, ab), (Aw, 0, []), (An, n6, ab)] [] [] from ((((((Keep.start u2).read (HK.out.reads _ (.head _))).read (HK.out.reads _ (.tail _ (.head _)))).read (HK.out.reads _ (.tail _ (.tail _ (.head _))))).read (HK.out.reads _ (.tail _ (.tail _ (.tail _ (.head _)))))).row (HK.out.rows _ (.tail _ (.head _)))).row (HK.out.rows _ (.head _)))
        clear HK hcur
        have HK := K4
        clear K4
        go_wp2
        go_loopw [14, 77] (fun _ s77 wr => ∃ (j : Nat) (l' : List UInt8), j ≤ xn + 1 + 4 ∧ s77 = .int .i64 (j : Int) ∧ Own wr w2.heap.size 5 (some ⟨gl, 0, none⟩) (xn + 1 + 4) c3 l' ∧ Hid (But [gl] u2 wr)) (fun _ s77 _ => xn + 1 + 4 - (Go.RowKit.intOf s77).toNat)
        case atStart => exact ⟨0, _, by omega, rfl, HO.out, But.refl _ _⟩
        case round =>
          obtain ⟨j, l', hj, rfl, hown, HR⟩ := hrel
          by_cases hlt : j < xn + 1 + 4
          · obtain ⟨ad, cc, hade, hadl, hcc, hcell⟩ := hown.rd.at_ hlt
            injection hade with hade
            subst hade
            have hfz : wr.frozen? ⟨gl, j, none⟩ = false := by
              obtain ⟨g2, e2, _, _, h2⟩ := hown.addr (by omega)
              injection e2 with e2
              injection e2 with e2
              subst e2
              exact h2 j
            have hadd : (⟨gl, 0, none⟩ : Addr).add j = ⟨gl, j, none⟩ := by unfold Addr.add; split <;> simp_all
            rw [hadd] at hcell
            unfold BV at hcell
            have hx := cc.toNat_lt
            obtain ⟨xb, hxb⟩ : ∃ xb, cc.toNat = xb := ⟨_, rfl⟩
            rw [hxb] at hx hcell
            have hxx := xor255 hx
            have hi1 : (0 : Int) ≤ (j : Int) := by omega
            have hi2 : (j : Int) < (xn : Int) + 1 + 4 := by omega
            have hi3 : (j : Int) < ((xn + 1 + 4 : Nat) : Int) := by omega
            have hwk : IntKind.i64.wrap ((j : Int) + 1) = (j : Int) + 1 := IntWalk.i64_in _ (by omega)
            have HX := Lib.hid (And.intro hxb (And.intro hlt hown))
            clear hcc hxb hlt hown hadd hadl
            go_wp2
            go_roundw
            case rel =>
              refine ⟨j + 1, l'.set j (UInt8.ofNat (xb ^^^ 255)), by have := HX.out.2.1; omega, by go_num, ?_, ?_⟩
              · have hv : Value.int IntKind.u8 ((xb ^^^ 255 : Nat) : Int) = BV (UInt8.ofNat (xb ^^^ 255)) := by
                  unfold BV
                  rw [UInt8.toNat_ofNat', Nat.mod_eq_of_lt (Nat.xor_lt_two_pow (n := 8) hx (by omega))]
                rw [hv]
                exact HX.out.2.2.set rfl (k := j) _
              · exact HR.out.setCell (by simp) _
            case measure => have := HX.out.2.1; simp [Go.RowKit.intOf]; omega
          · obtain rfl : j = xn + 1 + 4 := by omega
            replace HK := Lib.hid (HK.out.but HR.out (by simp; omega) (by intro q hq k hk; simp only [List.mem_cons, List.not_mem_nil, or_false] at hq; rcases hq with rfl | rfl | rfl | rfl <;> (simp; first | (have := hbl4 k hk; omega) | (have := hbl6 k hk; omega) | (have := hblw k hk; omega) | (have := hbln k hk; omega))))
            replace HB := Lib.hid (HB.out.trans (HR.out.below HB.out.size (by simp; have := HGW.out; omega)))
            clear HR hown
            obtain ⟨a0, a1, a2, a3, a4, a5, a6⟩ := arr7 (w := wr) (by exact (HK.out.rows _ (.tail _ (.head _))))
            obtain ⟨b0, b1, b2, b3, b4, b5, b6⟩ := arr7 (w := wr) (HK.out.rows _ (.head _))
            go_wp2_with fail
            refine (sameB_is wr (HK.out.reads _ (.head _)) (HK.out.reads _ (.tail _ (.tail _ (.head _)))) (q := true) (by simp)).mono ?_
            rintro e _ ⟨rfl, rfl⟩
            go_wp2_with fail
            refine (sameB_is wr (HK.out.reads _ (.tail _ (.head _))) (HK.out.reads _ (.tail _ (.tail _ (.tail _ (.head _))))) (q := true) (by simp)).mono ?_
            rintro e _ ⟨rfl, rfl⟩
            go_wp2_with fail
            refine (awake_is _).mono ?_
            rintro e wz ⟨rfl, hb⟩
            have hW : Below wr.heap.size wr wz := hb
            replace HK := Lib.hid (HK.out.below hW (Nat.le_refl _))
            replace HB := Lib.hid (HB.out.trans (hW.mono HB.out.size))
            clear hW
            go_wp2
            go_ret
            exact told_mk (by simp) HB.out
  · have hbg : (1000 : Int) < (xn : Int) := by omega
    clear hbig hX
    go_enter Try.func8, Try.ntmps8
    go_wp2_with fail
    refine (awake_is _).mono ?_
    rintro e wz ⟨rfl, hb⟩
    go_wp2
    go_ret
    exact told_mk (by simp) hb
end
end Go.Proofs.Ytmiapegecoaccaa
