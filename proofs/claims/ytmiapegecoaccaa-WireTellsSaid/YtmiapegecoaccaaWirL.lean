/- awake: the chapter's examples. -/
import Derived.Test.YtmiapegecoaccaaWirK
namespace Go.Proofs.Ytmiapegecoaccaa
open Go.RowKit Go.Coop
set_option maxRecDepth 100000
theorem unsl_sealed (t : Nat → Nat) (l : List UInt8) : unsl t (sealed t l) = (l, 0) := by
  have h1 : (sealed t l).length = l.length + 4 := sealed_length t l
  have h2 : (sealed t l).take l.length = l := by unfold sealed; exact List.take_left
  unfold unsl unsealed
  rw [h1, if_neg (by omega), Nat.add_sub_cancel, h2]
  exact if_pos rfl
theorem getA_put {t : Nat → Nat} {a : AskP} (h : RightA a) : getA t (sealed t (encA a)) = (a, 0) := by
  unfold getA
  rw [unsl_sealed, if_pos rfl]
  simp only
  rw [parseA_enc h]
  rfl
theorem getT_put {t : Nat → Nat} {x : TelP} (h : RightT x) : getT t (sealed t (encT x)) = (x, 0) := by
  unfold getT
  rw [unsl_sealed, if_pos rfl]
  simp only
  rw [parseT_enc h]
  rfl
theorem getT_putA {t : Nat → Nat} {a : AskP} : getT t (sealed t (encA a)) = (zeroT, 110) := by
  unfold getT
  rw [unsl_sealed, if_pos rfl]
  simp only
  rw [parseT_enA a]
  rfl
theorem getA_putT {t : Nat → Nat} {x : TelP} : getA t (sealed t (encT x)) = (zeroA, 110) := by
  unfold getA
  rw [unsl_sealed, if_pos rfl]
  simp only
  rw [parseA_enT x]
  rfl
abbrev aEx : AskP := ⟨1, 2, 2, 3, 0, 4, []⟩
abbrev xEx : TelP := ⟨1, 2, 2, 0, [], [], 5⟩
theorem aEx_right : RightA aEx := by decide
theorem xEx_right : RightT xEx := by decide
theorem aEx_enc : encA aEx = [1, 1, 2, 2, 3, 0, 4, 0] := by decide +kernel
theorem xEx_enc : encT xEx = [2, 1, 2, 2, 0, 5, 0, 0] := by decide +kernel
theorem aEx_put : putA entry aEx = (sealed entry [1, 1, 2, 2, 3, 0, 4, 0], 0) := by unfold putA; rw [if_pos aEx_right, aEx_enc]
theorem xEx_put : putT entry xEx = (sealed entry [2, 1, 2, 2, 0, 5, 0, 0], 0) := by unfold putT; rw [if_pos xEx_right, xEx_enc]
theorem aEx_get : getA entry (sealed entry [1, 1, 2, 2, 3, 0, 4, 0]) = (aEx, 0) := by rw [← aEx_enc]; exact getA_put aEx_right
theorem xEx_get : getT entry (sealed entry [2, 1, 2, 2, 0, 5, 0, 0]) = (xEx, 0) := by rw [← xEx_enc]; exact getT_put xEx_right
theorem aEx_getT : getT entry (sealed entry [1, 1, 2, 2, 3, 0, 4, 0]) = (zeroT, 110) := by rw [← aEx_enc]; exact getT_putA
theorem xEx_cut : getT entry ((sealed entry [2, 1, 2, 2, 0, 5, 0, 0]).take 11) = (zeroT, 12) := by decide +kernel
theorem rd_lit8 (w : World) (a0 a1 a2 a3 a4 a5 a6 a7 : UInt8) : Rd (w.alloc (.cells #[BV a0, BV a1, BV a2, BV a3, BV a4, BV a5, BV a6, BV a7] 5)) (some ⟨w.heap.size, 0, none⟩) 8 [a0, a1, a2, a3, a4, a5, a6, a7] :=
  Rd.new w [a0, a1, a2, a3, a4, a5, a6, a7] _ 5 (0, 0) fun j c hj => by
    match j, hj with
    | 0, hj => simp at hj; subst hj; rfl
    | 1, hj => simp at hj; subst hj; rfl
    | 2, hj => simp at hj; subst hj; rfl
    | 3, hj => simp at hj; subst hj; rfl
    | 4, hj => simp at hj; subst hj; rfl
    | 5, hj => simp at hj; subst hj; rfl
    | 6, hj => simp at hj; subst hj; rfl
    | 7, hj => simp at hj; subst hj; rfl
theorem size_drop {A : Option Addr} {n c : Nat} {l : List UInt8} {w : World} {B E : Nat} (h : Own w B E A n c l) (k : Nat) (hk : l.length = k) : n = k := by rw [← h.len, hk]
/-- a block holds that -/
def Row (w : World) (g : Nat) (cs : Array Value) (T : TypeId) : Prop := w.heap[g]? = some (.cells cs T (0, 0))
theorem Row.below {B : Nat} {w w' : World} {g : Nat} {cs : Array Value} {T : TypeId} (h : Row w g cs T) (hb : Below B w w') (hB : w.heap.size ≤ B) : Row w' g cs T := (hb.block g (by have := lt_of_block h; omega)).trans h
theorem Row.lt {w : World} {g : Nat} {cs : Array Value} {T : TypeId} (h : Row w g cs T) : g < w.heap.size := lt_of_block h
/-- a table lies there -/
def Tb (w : World) (p : Nat) (t : Nat → Nat) : Prop := TabAt w ⟨p, 0, none⟩ t ∧ p < w.heap.size
theorem Tb.below {B : Nat} {w w' : World} {p : Nat} {t : Nat → Nat} (h : Tb w p t) (hb : Below B w w') (hB : w.heap.size ≤ B) : Tb w' p t := ⟨h.1.below (B := B) (show p < B by have := h.2; omega) hb, Nat.lt_of_lt_of_le h.2 hb.size⟩
theorem slice_h (A : Option Addr) (n c y : Nat) (hy : y ≤ c) (w : World) : (Instr.slice 23 (.slice A n c) none (some (.int .i64 (y : Int))) none).run Try.prog w = .ok (.slice A y c) w := by
  obtain ⟨i, hi, hz, h1, h2⟩ := info_parts info5
  have he : Try.prog.elem 23 = 5 := by simp [Program.elem, Try.underlying23]
  have hb : (Instr.sliceBounds true n c none (some (.int .i64 (y : Int))) none).run Try.prog w = .ok (0, y, c) w := by
    simp [Instr.sliceBounds, run_sliceBound, *]
  rw [run_slice_any w 23 A n c (by rw [he]; exact Try.underlying23), hb, he]
  simp [sizeOf, typeInfo, hi, h1, sliced, Result.andThen]
  cases A <;> simp [Addr.add]
theorem size_of_alloc {w w1 : World} {o : Obj} (h : w.alloc o = w1) : w1.heap.size = w.heap.size + 1 := by rw [← h, size_alloc]
section
variable (w : World)
set_option maxHeartbeats 8000000 in
theorem awake_is : Calls Try.prog 17 #[] w (Told w true) := by
  obtain ⟨Z, hZs, hz⟩ := zero39
  have HZ := Lib.hid hZs
  clear hZs
  have hz25 := (zero_of_info zero25).1
  have hz34 := (zero_of_info zero34).1
  go_enter Try.func17, Try.ntmps17
  go_wp2_with (first
    | (go_at_call 12; refine (table_any _).mono ?_; rintro e w1 ⟨rfl, hb1⟩; rw [show tarr ((List.range 256).map entry) = T0 from rfl])
    | ((with_reducible refine wpList_store_new (o := ⟨none, .store 39 (.tmp 1) (.tmp 16), _, _, _, _⟩) ?_ 39 (.tmp 1) (.tmp 16) ?_ T0 Z ?_ ?_ 39 size39' HZ.out T0_one ?_)
       case refine_1 => rfl
       case refine_2 => rfl
       case refine_3 => rfl
       case refine_4 => rfl))
  have hW : Below w.heap.size w w1 := hb1
  clear hb1
  have HB := Lib.hid hW
  clear hW
  obtain ⟨p, hp⟩ : ∃ p, w1.heap.size = p := ⟨_, rfl⟩
  obtain ⟨wT, e⟩ : ∃ x, w1.alloc (.cells T0 39) = x := ⟨_, rfl⟩
  obtain ⟨hW, hx⟩ := box_new e
  rw [hp] at hx
  have EwT := Lib.hid e
  have SwT := size_of_alloc e
  clear e
  replace HB := Lib.hid (HB.out.trans (hW.mono HB.out.size))
  clear hW
  clear hx
  have hTb : Tb wT p entry := by rw [← EwT.out, ← hp]; exact ⟨tab_new w1 (0, 0), by rw [size_alloc]; simp⟩
  have HT := Lib.hid (hTb)
  clear hTb
  have sT : wT.heap.size = p + 1 := by rw [SwT, hp]
  obtain ⟨wa, e⟩ : ∃ x, wT.alloc (.cells #[.int .i64 1, .int .i64 2, .int .u8 2, .int .i64 3, .int .i64 0, .int .i64 4, .slice none 0 0] 25) = x := ⟨_, rfl⟩
  obtain ⟨hW, hx⟩ := box_new e
  rw [sT] at hx
  have Ewa := Lib.hid e
  have Swa := size_of_alloc e
  clear e
  replace hx := Lib.hid (show Row wa _ #[.int .i64 1, .int .i64 2, .int .u8 2, .int .i64 3, .int .i64 0, .int .i64 4, .slice none 0 0] 25 from hx)
  replace HT := Lib.hid (HT.out.below hW (Nat.le_refl _))
  replace HB := Lib.hid (HB.out.trans (hW.mono HB.out.size))
  clear hW
  have HA := hx
  clear hx
  clear SwT
  have sa : wa.heap.size = p + 1 + 1 := by rw [Swa, sT]
  obtain ⟨wx, e⟩ : ∃ x, wa.alloc (.cells #[.int .i64 1, .int .i64 2, .int .u8 2, .int .i64 0, .slice none 0 0, .slice none 0 0, .int .i64 5] 34) = x := ⟨_, rfl⟩
  obtain ⟨hW, hx⟩ := box_new e
  rw [sa] at hx
  have Ewx := Lib.hid e
  clear e
  replace hx := Lib.hid (show Row wx _ #[.int .i64 1, .int .i64 2, .int .u8 2, .int .i64 0, .slice none 0 0, .slice none 0 0, .int .i64 5] 34 from hx)
  replace HT := Lib.hid (HT.out.below hW (Nat.le_refl _))
  replace HA := Lib.hid (HA.out.below hW (Nat.le_refl _))
  replace HB := Lib.hid (HB.out.trans (hW.mono HB.out.size))
  clear hW
  have HX := hx
  clear hx
  clear Swa
  clear hz
  rw [EwT.out]
  rw [Ewa.out]
  rw [Ewx.out]
  clear EwT Ewa Ewx
  rw [hp]
  clear sa sT
  refine (putA_is wx HT.out.1 HT.out.2 1 2 2 3 0 4 [] (Rd.nil wx none) (by omega)).mono ?_
  rintro e w2 ⟨Ab, nb, cb, rfl, hob, hb⟩
  rw [aEx_put] at hob ⊢
  simp only at hob ⊢
  obtain rfl : nb = 12 := size_drop hob 12 rfl
  have hW : Below wx.heap.size wx w2 := hb
  replace HT := Lib.hid (HT.out.below hW (Nat.le_refl _))
  replace HA := Lib.hid (HA.out.below hW (Nat.le_refl _))
  replace HX := Lib.hid (HX.out.below hW (Nat.le_refl _))
  replace HB := Lib.hid (HB.out.trans (hW.mono HB.out.size))
  clear hW
  have Hb := Lib.hid (hob)
  clear hob hb
  obtain ⟨c0, c1, c2, c3, c4, c5, c6⟩ := arr7 HX.out
  go_wp2_with fail
  refine (putT_is w2 HT.out.1 HT.out.2 1 2 2 0 5 (IL.nil w2 none) (by omega) [] (Rd.nil w2 none) (by omega)).mono ?_
  rintro e w3 ⟨Ac, nc, cc, rfl, hoc, hb⟩
  rw [xEx_put] at hoc ⊢
  simp only at hoc ⊢
  obtain rfl : nc = 12 := size_drop hoc 12 rfl
  clear c0 c1 c2 c3 c4 c5 c6
  have hW : Below w2.heap.size w2 w3 := hb
  replace HT := Lib.hid (HT.out.below hW (Nat.le_refl _))
  replace HA := Lib.hid (HA.out.below hW (Nat.le_refl _))
  replace HX := Lib.hid (HX.out.below hW (Nat.le_refl _))
  replace Hb := Lib.hid (Hb.out.below hW (Nat.le_refl _))
  replace HB := Lib.hid (HB.out.trans (hW.mono HB.out.size))
  clear hW
  have Hc := Lib.hid (hoc)
  clear hoc hb
  have hcb := Hb.out.cap
  have hcc := Hc.out.cap
  have sl1 := fun W => slice_h Ab 12 cb 8 (by omega) W
  have sl2 := fun W => slice_h Ac 12 cc 8 (by omega) W
  have sl3 := fun W => slice_h Ac 12 cc 11 (by omega) W
  have hl8 : Rd (w3.alloc (.cells #[.int .u8 1, .int .u8 1, .int .u8 2, .int .u8 2, .int .u8 3, .int .u8 0, .int .u8 4, .int .u8 0] 5)) (some ⟨w3.heap.size, 0, none⟩) 8 [1, 1, 2, 2, 3, 0, 4, 0] := rd_lit8 w3 1 1 2 2 3 0 4 0
  obtain ⟨g_w4, h_w4⟩ : ∃ g, w3.heap.size = g := ⟨_, rfl⟩
  obtain ⟨w4, e⟩ : ∃ x, w3.alloc (.cells #[.int .u8 1, .int .u8 1, .int .u8 2, .int .u8 2, .int .u8 3, .int .u8 0, .int .u8 4, .int .u8 0] 5) = x := ⟨_, rfl⟩
  obtain ⟨hW, hx⟩ := box_new e
  rw [h_w4] at hx
  have Ew4 := Lib.hid e
  clear e
  replace HT := Lib.hid (HT.out.below hW (Nat.le_refl _))
  replace HA := Lib.hid (HA.out.below hW (Nat.le_refl _))
  replace HX := Lib.hid (HX.out.below hW (Nat.le_refl _))
  replace Hb := Lib.hid (Hb.out.below hW (Nat.le_refl _))
  replace Hc := Lib.hid (Hc.out.below hW (Nat.le_refl _))
  replace HB := Lib.hid (HB.out.trans (hW.mono HB.out.size))
  clear hW
  clear hx
  rw [Ew4.out, h_w4] at hl8
  have HL := Lib.hid (hl8)
  clear hl8
  go_wp2_with fail
  rw [Ew4.out]
  clear Ew4
  refine (sameB_is w4 (Hb.out.rd.take (k := 8) (by omega)) HL.out (q := true) (by decide +kernel)).mono ?_
  rintro e _ ⟨rfl, rfl⟩
  clear HL
  have hl8 : Rd (w4.alloc (.cells #[.int .u8 2, .int .u8 1, .int .u8 2, .int .u8 2, .int .u8 0, .int .u8 5, .int .u8 0, .int .u8 0] 5)) (some ⟨w4.heap.size, 0, none⟩) 8 [2, 1, 2, 2, 0, 5, 0, 0] := rd_lit8 w4 2 1 2 2 0 5 0 0
  obtain ⟨g_w5, h_w5⟩ : ∃ g, w4.heap.size = g := ⟨_, rfl⟩
  obtain ⟨w5, e⟩ : ∃ x, w4.alloc (.cells #[.int .u8 2, .int .u8 1, .int .u8 2, .int .u8 2, .int .u8 0, .int .u8 5, .int .u8 0, .int .u8 0] 5) = x := ⟨_, rfl⟩
  obtain ⟨hW, hx⟩ := box_new e
  rw [h_w5] at hx
  have Ew5 := Lib.hid e
  clear e
  replace HT := Lib.hid (HT.out.below hW (Nat.le_refl _))
  replace HA := Lib.hid (HA.out.below hW (Nat.le_refl _))
  replace HX := Lib.hid (HX.out.below hW (Nat.le_refl _))
  replace Hb := Lib.hid (Hb.out.below hW (Nat.le_refl _))
  replace Hc := Lib.hid (Hc.out.below hW (Nat.le_refl _))
  replace HB := Lib.hid (HB.out.trans (hW.mono HB.out.size))
  clear hW
  clear hx
  rw [Ew5.out, h_w5] at hl8
  have HL := Lib.hid (hl8)
  clear hl8
  go_wp2_with fail
  rw [Ew5.out]
  clear Ew5
  refine (sameB_is w5 (Hc.out.rd.take (k := 8) (by omega)) HL.out (q := true) (by decide +kernel)).mono ?_
  rintro e _ ⟨rfl, rfl⟩
  clear HL
  go_wp2_with fail
  refine (getA_is w5 HT.out.1 HT.out.2 Hb.out.rd (by omega) hcb).mono ?_
  rintro e w6 ⟨A6, n6, c6', rfl, ho6, hb⟩
  rw [aEx_get] at ho6 ⊢
  simp only at ho6 ⊢
  obtain rfl : n6 = 0 := size_drop ho6 0 rfl
  have hW : Below w5.heap.size w5 w6 := hb
  replace HT := Lib.hid (HT.out.below hW (Nat.le_refl _))
  replace HA := Lib.hid (HA.out.below hW (Nat.le_refl _))
  replace HX := Lib.hid (HX.out.below hW (Nat.le_refl _))
  replace Hb := Lib.hid (Hb.out.below hW (Nat.le_refl _))
  replace Hc := Lib.hid (Hc.out.below hW (Nat.le_refl _))
  replace HB := Lib.hid (HB.out.trans (hW.mono HB.out.size))
  clear hW
  have H6 := Lib.hid (ho6)
  clear ho6 hb
  obtain ⟨g_w7, h_w7⟩ : ∃ g, w6.heap.size = g := ⟨_, rfl⟩
  obtain ⟨w7, e⟩ : ∃ x, w6.alloc (.cells #[.int .i64 1, .int .i64 2, .int .u8 2, .int .i64 3, .int .i64 0, .int .i64 4, .slice A6 0 c6'] 25) = x := ⟨_, rfl⟩
  obtain ⟨hW, hx⟩ := box_new e
  rw [h_w7] at hx
  have Ew7 := Lib.hid e
  clear e
  replace hx := Lib.hid (show Row w7 _ #[.int .i64 1, .int .i64 2, .int .u8 2, .int .i64 3, .int .i64 0, .int .i64 4, .slice A6 0 c6'] 25 from hx)
  replace HT := Lib.hid (HT.out.below hW (Nat.le_refl _))
  replace HA := Lib.hid (HA.out.below hW (Nat.le_refl _))
  replace HX := Lib.hid (HX.out.below hW (Nat.le_refl _))
  replace Hb := Lib.hid (Hb.out.below hW (Nat.le_refl _))
  replace Hc := Lib.hid (Hc.out.below hW (Nat.le_refl _))
  replace H6 := Lib.hid (H6.out.below hW (Nat.le_refl _))
  replace HB := Lib.hid (HB.out.trans (hW.mono HB.out.size))
  clear hW
  have HA2 := hx
  clear hx
  go_wp2_with fail
  rw [Ew7.out]
  clear Ew7
  refine (getT_is w7 HT.out.1 HT.out.2 Hc.out.rd (by omega) hcc).mono ?_
  rintro e w8 ⟨I8, m8, mc8, A8, n8, c8, rfl, hi8, hm8, ho8, hb⟩
  rw [xEx_get] at hi8 ho8 ⊢
  simp only at hi8 ho8 ⊢
  obtain rfl : n8 = 0 := size_drop ho8 0 rfl
  obtain rfl : m8 = 0 := by have := hi8.len; simp [ics] at this; omega
  have hW : Below w7.heap.size w7 w8 := hb
  replace HT := Lib.hid (HT.out.below hW (Nat.le_refl _))
  replace HA := Lib.hid (HA.out.below hW (Nat.le_refl _))
  replace HX := Lib.hid (HX.out.below hW (Nat.le_refl _))
  replace Hb := Lib.hid (Hb.out.below hW (Nat.le_refl _))
  replace Hc := Lib.hid (Hc.out.below hW (Nat.le_refl _))
  replace H6 := Lib.hid (H6.out.below hW (Nat.le_refl _))
  replace HA2 := Lib.hid (HA2.out.below hW (Nat.le_refl _))
  replace HB := Lib.hid (HB.out.trans (hW.mono HB.out.size))
  clear hW
  have H8 := Lib.hid (ho8)
  have H8i := Lib.hid (hi8)
  clear ho8 hi8 hm8 hb
  obtain ⟨g_w9, h_w9⟩ : ∃ g, w8.heap.size = g := ⟨_, rfl⟩
  obtain ⟨w9, e⟩ : ∃ x, w8.alloc (.cells #[.int .i64 1, .int .i64 2, .int .u8 2, .int .i64 0, .slice I8 0 mc8, .slice A8 0 c8, .int .i64 5] 34) = x := ⟨_, rfl⟩
  obtain ⟨hW, hx⟩ := box_new e
  rw [h_w9] at hx
  have Ew9 := Lib.hid e
  clear e
  replace hx := Lib.hid (show Row w9 _ #[.int .i64 1, .int .i64 2, .int .u8 2, .int .i64 0, .slice I8 0 mc8, .slice A8 0 c8, .int .i64 5] 34 from hx)
  replace HT := Lib.hid (HT.out.below hW (Nat.le_refl _))
  replace HA := Lib.hid (HA.out.below hW (Nat.le_refl _))
  replace HX := Lib.hid (HX.out.below hW (Nat.le_refl _))
  replace Hb := Lib.hid (Hb.out.below hW (Nat.le_refl _))
  replace Hc := Lib.hid (Hc.out.below hW (Nat.le_refl _))
  replace H6 := Lib.hid (H6.out.below hW (Nat.le_refl _))
  replace HA2 := Lib.hid (HA2.out.below hW (Nat.le_refl _))
  replace H8 := Lib.hid (H8.out.below hW (Nat.le_refl _))
  replace H8i := Lib.hid (H8i.out.below hW (Nat.le_refl _))
  replace HB := Lib.hid (HB.out.trans (hW.mono HB.out.size))
  clear hW
  have HX2 := hx
  clear hx
  go_wp2_with fail
  rw [Ew9.out]
  clear Ew9
  refine (getT_is w9 HT.out.1 HT.out.2 Hb.out.rd (by omega) hcb).mono ?_
  rintro e w10 ⟨I10, m10, mc10, A10, n10, c10, rfl, hi10, hm10, ho10, hb⟩
  rw [aEx_getT] at hi10 ho10 ⊢
  simp only [zeroT] at hi10 ho10 ⊢
  have hW : Below w9.heap.size w9 w10 := hb
  replace HT := Lib.hid (HT.out.below hW (Nat.le_refl _))
  replace HA := Lib.hid (HA.out.below hW (Nat.le_refl _))
  replace HX := Lib.hid (HX.out.below hW (Nat.le_refl _))
  replace Hb := Lib.hid (Hb.out.below hW (Nat.le_refl _))
  replace Hc := Lib.hid (Hc.out.below hW (Nat.le_refl _))
  replace H6 := Lib.hid (H6.out.below hW (Nat.le_refl _))
  replace HA2 := Lib.hid (HA2.out.below hW (Nat.le_refl _))
  replace H8 := Lib.hid (H8.out.below hW (Nat.le_refl _))
  replace H8i := Lib.hid (H8i.out.below hW (Nat.le_refl _))
  replace HX2 := Lib.hid (HX2.out.below hW (Nat.le_refl _))
  replace HB := Lib.hid (HB.out.trans (hW.mono HB.out.size))
  clear hW
  clear ho10 hi10 hm10 hb
  obtain ⟨g_w11, h_w11⟩ : ∃ g, w10.heap.size = g := ⟨_, rfl⟩
  obtain ⟨w11, e⟩ : ∃ x, w10.alloc (.cells #[.int .i64 0, .int .i64 0, .int .u8 0, .int .i64 0, .slice I10 m10 mc10, .slice A10 n10 c10, .int .i64 0] 34) = x := ⟨_, rfl⟩
  obtain ⟨hW, hx⟩ := box_new e
  rw [h_w11] at hx
  have Ew11 := Lib.hid e
  clear e
  replace HT := Lib.hid (HT.out.below hW (Nat.le_refl _))
  replace HA := Lib.hid (HA.out.below hW (Nat.le_refl _))
  replace HX := Lib.hid (HX.out.below hW (Nat.le_refl _))
  replace Hb := Lib.hid (Hb.out.below hW (Nat.le_refl _))
  replace Hc := Lib.hid (Hc.out.below hW (Nat.le_refl _))
  replace H6 := Lib.hid (H6.out.below hW (Nat.le_refl _))
  replace HA2 := Lib.hid (HA2.out.below hW (Nat.le_refl _))
  replace H8 := Lib.hid (H8.out.below hW (Nat.le_refl _))
  replace H8i := Lib.hid (H8i.out.below hW (Nat.le_refl _))
  replace HX2 := Lib.hid (HX2.out.below hW (Nat.le_refl _))
  replace HB := Lib.hid (HB.out.trans (hW.mono HB.out.size))
  clear hW
  clear hx
  go_wp2_with fail
  rw [Ew11.out]
  clear Ew11
  refine (getT_is w11 HT.out.1 HT.out.2 (Hc.out.rd.take (k := 11) (by omega)) (by omega) (by omega)).mono ?_
  rintro e w12 ⟨I12, m12, mc12, A12, n12, c12, rfl, hi12, hm12, ho12, hb⟩
  rw [xEx_cut] at hi12 ho12 ⊢
  simp only [zeroT] at hi12 ho12 ⊢
  have hW : Below w11.heap.size w11 w12 := hb
  replace HT := Lib.hid (HT.out.below hW (Nat.le_refl _))
  replace HA := Lib.hid (HA.out.below hW (Nat.le_refl _))
  replace HX := Lib.hid (HX.out.below hW (Nat.le_refl _))
  replace Hb := Lib.hid (Hb.out.below hW (Nat.le_refl _))
  replace Hc := Lib.hid (Hc.out.below hW (Nat.le_refl _))
  replace H6 := Lib.hid (H6.out.below hW (Nat.le_refl _))
  replace HA2 := Lib.hid (HA2.out.below hW (Nat.le_refl _))
  replace H8 := Lib.hid (H8.out.below hW (Nat.le_refl _))
  replace H8i := Lib.hid (H8i.out.below hW (Nat.le_refl _))
  replace HX2 := Lib.hid (HX2.out.below hW (Nat.le_refl _))
  replace HB := Lib.hid (HB.out.trans (hW.mono HB.out.size))
  clear hW
  clear ho12 hi12 hm12 hb
  obtain ⟨g_w13, h_w13⟩ : ∃ g, w12.heap.size = g := ⟨_, rfl⟩
  obtain ⟨w13, e⟩ : ∃ x, w12.alloc (.cells #[.int .i64 0, .int .i64 0, .int .u8 0, .int .i64 0, .slice I12 m12 mc12, .slice A12 n12 c12, .int .i64 0] 34) = x := ⟨_, rfl⟩
  obtain ⟨hW, hx⟩ := box_new e
  rw [h_w13] at hx
  have Ew13 := Lib.hid e
  clear e
  replace HT := Lib.hid (HT.out.below hW (Nat.le_refl _))
  replace HA := Lib.hid (HA.out.below hW (Nat.le_refl _))
  replace HX := Lib.hid (HX.out.below hW (Nat.le_refl _))
  replace Hb := Lib.hid (Hb.out.below hW (Nat.le_refl _))
  replace Hc := Lib.hid (Hc.out.below hW (Nat.le_refl _))
  replace H6 := Lib.hid (H6.out.below hW (Nat.le_refl _))
  replace HA2 := Lib.hid (HA2.out.below hW (Nat.le_refl _))
  replace H8 := Lib.hid (H8.out.below hW (Nat.le_refl _))
  replace H8i := Lib.hid (H8i.out.below hW (Nat.le_refl _))
  replace HX2 := Lib.hid (HX2.out.below hW (Nat.le_refl _))
  replace HB := Lib.hid (HB.out.trans (hW.mono HB.out.size))
  clear hW
  clear hx
  obtain ⟨a0, a1, a2, a3, a4, a5, a6⟩ := arr7 (w := (World.alloc w12 (.cells #[.int .i64 0, .int .i64 0, .int .u8 0, .int .i64 0, .slice I12 m12 mc12, .slice A12 n12 c12, .int .i64 0] 34))) (by rw [Ew13.out]; exact HA.out)
  obtain ⟨b0, b1, b2, b3, b4, b5, b6⟩ := arr7 (w := (World.alloc w12 (.cells #[.int .i64 0, .int .i64 0, .int .u8 0, .int .i64 0, .slice I12 m12 mc12, .slice A12 n12 c12, .int .i64 0] 34))) (by rw [Ew13.out]; exact HA2.out)
  go_wp2_with fail
  rw [Ew13.out]
  clear Ew13
  refine (sameA_is w13 1 2 2 3 0 4 1 2 2 3 0 4 [] [] (Rd.nil w13 none) H6.out.rd (q := true) (by decide)).mono ?_
  rintro e w14 ⟨rfl, hb⟩
  clear a0 a1 a2 a3 a4 a5 a6 b0 b1 b2 b3 b4 b5 b6
  have hW : Below w13.heap.size w13 w14 := hb
  replace HT := Lib.hid (HT.out.below hW (Nat.le_refl _))
  replace HA := Lib.hid (HA.out.below hW (Nat.le_refl _))
  replace HX := Lib.hid (HX.out.below hW (Nat.le_refl _))
  replace Hb := Lib.hid (Hb.out.below hW (Nat.le_refl _))
  replace Hc := Lib.hid (Hc.out.below hW (Nat.le_refl _))
  replace H6 := Lib.hid (H6.out.below hW (Nat.le_refl _))
  replace HA2 := Lib.hid (HA2.out.below hW (Nat.le_refl _))
  replace H8 := Lib.hid (H8.out.below hW (Nat.le_refl _))
  replace H8i := Lib.hid (H8i.out.below hW (Nat.le_refl _))
  replace HX2 := Lib.hid (HX2.out.below hW (Nat.le_refl _))
  replace HB := Lib.hid (HB.out.trans (hW.mono HB.out.size))
  clear hW
  clear hb
  obtain ⟨a0, a1, a2, a3, a4, a5, a6⟩ := arr7 HX.out
  obtain ⟨b0, b1, b2, b3, b4, b5, b6⟩ := arr7 HX2.out
  go_wp2_with fail
  refine (sameT_is w14 1 2 2 0 5 1 2 2 0 5 [] [] [] [] (IL.nil w14 none) (ownK_il H8i.out) (by omega) (Rd.nil w14 none) H8.out.rd (q := true) (by decide)).mono ?_
  rintro e w15 ⟨rfl, hb⟩
  clear a0 a1 a2 a3 a4 a5 a6 b0 b1 b2 b3 b4 b5 b6
  have hW : Below w14.heap.size w14 w15 := hb
  replace HT := Lib.hid (HT.out.below hW (Nat.le_refl _))
  replace HA := Lib.hid (HA.out.below hW (Nat.le_refl _))
  replace HX := Lib.hid (HX.out.below hW (Nat.le_refl _))
  replace Hb := Lib.hid (Hb.out.below hW (Nat.le_refl _))
  replace Hc := Lib.hid (Hc.out.below hW (Nat.le_refl _))
  replace H6 := Lib.hid (H6.out.below hW (Nat.le_refl _))
  replace HA2 := Lib.hid (HA2.out.below hW (Nat.le_refl _))
  replace H8 := Lib.hid (H8.out.below hW (Nat.le_refl _))
  replace H8i := Lib.hid (H8i.out.below hW (Nat.le_refl _))
  replace HX2 := Lib.hid (HX2.out.below hW (Nat.le_refl _))
  replace HB := Lib.hid (HB.out.trans (hW.mono HB.out.size))
  clear hW
  clear hb
  go_wp2
  go_ret
  exact told_mk (by simp) HB.out
end
end Go.Proofs.Ytmiapegecoaccaa
