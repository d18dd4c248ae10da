/- The law NetNumbers. -/
import Derived.Test.YthhablokbnfpcaaAwk
import Derived.Test.YthhablokbnfpcaaNumP
namespace Go.Proofs.Ythhablokbnfpcaa
open Go.RowKit Go.Coop Go.Maps
set_option maxRecDepth 100000
theorem made_zeros (s : Nat) (hs : s ≤ 1048576) : ∃ (C : Array Value) (l : List UInt8), (∀ w : World, (Instr.makeSlice 29 (.int .i64 (s : Int)) (.int .i64 (s : Int))).run Try.prog w = .ok (.slice (some ⟨w.heap.size, 0, none⟩) s s) (w.alloc (.cells C 5))) ∧ l.length = s ∧ ∀ w : World, Rd (w.alloc (.cells C 5)) (some ⟨w.heap.size, 0, none⟩) s l := by
  obtain ⟨i, hi, hz, h1, h2⟩ := info_parts info5
  refine ⟨madeCells (Value.int .u8 0).cells (s * i.size), List.replicate s 0, fun w => ?_, List.length_replicate, fun w => ?_⟩
  · have hr := run_make (P := Try.prog) w 29 5 i (.int .u8 0) Try.underlying29 hi hz .i64 .i64 s s (by omega) (by omega) (by rw [h2]; omega) (by omega)
    simp only [Int.toNat_natCast] at hr
    exact hr
  · have := Rd.new w (List.replicate s 0) (madeCells (Value.int .u8 0).cells (s * i.size)) 5 (0, 0) fun j c hj => by
      rw [List.getElem?_replicate] at hj
      split at hj
      · injection hj with hj
        subst hj
        rw [h1]
        simp [madeCells, *, Value.cells, Nat.mod_one]
        rfl
      · cases hj
    rwa [List.length_replicate] at this
theorem long_no {l : List UInt8} (h : l.length = 131073) : (NS.new 300 10000).sendE 0 299 l = 3 ∧ (NS.new 300 10000).send 0 299 l = NS.new 300 10000 ∧ (NS.new 300 10000).sendE 0 (-1) l = 2 ∧ (NS.new 300 10000).send 0 (-1) l = NS.new 300 10000 := by
  have hn : ¬ l.length ≤ 131072 := by omega
  simp [NS.sendE, NS.send, NS.joins, NS.new, hn]
def onel (l : List UInt8) : NS := (NS.new 300 10000).laid ⟨299, 0, l⟩
theorem long_yes {l : List UInt8} (h : l.length = 131072) : (NS.new 300 10000).sendE 299 0 l = 0 ∧ (NS.new 300 10000).send 299 0 l = onel l ∧ ((onel l).look 0).isSome = true ∧ (onel l).drop 0 = many 0 := by
  have hn : l.length ≤ 131072 := by omega
  simp [NS.sendE, NS.send, NS.joins, NS.new, hn, NS.layE, NS.lay, NS.full, NS.wait, onel, NS.laid, NS.look, NS.drop, NS.without, many]
def five : Obj := .cells #[.int .i64 0, .int .i64 1, .int .i64 301, .int .i64 1, .int .i64 1, .int .i64 0, .int .i64 1, .int .i64 10001, .int .i64 (-1), .int .i64 (-1)] 22
theorem five_at (w : World) {b : Nat} (h : w.heap[b]? = some five) (k : Nat) : w.cell? ⟨b, k, none⟩ = #[Value.int .i64 0, .int .i64 1, .int .i64 301, .int .i64 1, .int .i64 1, .int .i64 0, .int .i64 1, .int .i64 10001, .int .i64 (-1), .int .i64 (-1)][k]? := cell_of_row w b k _ 22 (0, 0) h
theorem numbers_law (w : World) : Calls Try.prog 3 #[] w (Awake w) := by
  go_enter Try.func3, Try.ntmps3
  go_wp2
  obtain ⟨b, hb⟩ : ∃ b, w.heap.size = b := ⟨_, rfl⟩
  rw [hb]
  have H0 : Hid (Below w.heap.size w (w.alloc five) ∧ (w.alloc five).heap[b]? = some five) := Lib.hid ⟨(Below.refl _ _).alloc (Nat.le_refl _) _, hb ▸ heap_alloc_new w five⟩
  have HB := Lib.hid hb
  clear hb
  go_loopw [21] (fun i wr => ∃ j : Nat, j ≤ 5 ∧ i = .int .i64 j ∧ Hid (Below w.heap.size w wr ∧ wr.heap[b]? = some five)) (fun i _ => 5 - (Go.RowKit.intOf i).toNat)
  case atStart => exact ⟨0, by omega, rfl, H0.out⟩
  case round =>
    obtain ⟨j, hj, rfl, HR⟩ := hrel
    clear H0
    by_cases hlt : j < 5
    · have HX : ∀ v, Below wr.heap.size wr v → Hid (Below w.heap.size w v ∧ v.heap[b]? = some five) := fun v hv => Lib.hid ⟨HR.out.1.trans (hv.mono HR.out.1.size), (hv.block _ (Array.getElem?_eq_some_iff.1 HR.out.2).1).trans HR.out.2⟩
      have HX := Lib.hid HX
      have ha := five_at wr HR.out.2
      rcases (show j = 0 ∨ j = 1 ∨ j = 2 ∨ j = 3 ∨ j = 4 by omega) with rfl | rfl | rfl | rfl | rfl
      · have k0 := ha 0
        have k1 := ha 1
        simp at k0 k1
        clear ha hj hlt HR
        go_wp2_with fail
        refine (new_no _ (0) (1) (by decide)).mono ?_
        rintro e _ ⟨rfl, rfl⟩
        go_wp2
        go_roundw
        case rel => exact ⟨1, by omega, rfl, HX.out _ ((Below.refl _ _).alloc (Nat.le_refl _) _)⟩
        case measure => decide
      · have k0 := ha 2
        have k1 := ha 3
        simp at k0 k1
        clear ha hj hlt HR
        go_wp2_with fail
        refine (new_no _ (301) (1) (by decide)).mono ?_
        rintro e _ ⟨rfl, rfl⟩
        go_wp2
        go_roundw
        case rel => exact ⟨2, by omega, rfl, HX.out _ ((Below.refl _ _).alloc (Nat.le_refl _) _)⟩
        case measure => decide
      · have k0 := ha 4
        have k1 := ha 5
        simp at k0 k1
        clear ha hj hlt HR
        go_wp2_with fail
        refine (new_no _ (1) (0) (by decide)).mono ?_
        rintro e _ ⟨rfl, rfl⟩
        go_wp2
        go_roundw
        case rel => exact ⟨3, by omega, rfl, HX.out _ ((Below.refl _ _).alloc (Nat.le_refl _) _)⟩
        case measure => decide
      · have k0 := ha 6
        have k1 := ha 7
        simp at k0 k1
        clear ha hj hlt HR
        go_wp2_with fail
        refine (new_no _ (1) (10001) (by decide)).mono ?_
        rintro e _ ⟨rfl, rfl⟩
        go_wp2
        go_roundw
        case rel => exact ⟨4, by omega, rfl, HX.out _ ((Below.refl _ _).alloc (Nat.le_refl _) _)⟩
        case measure => decide
      · have k0 := ha 8
        have k1 := ha 9
        simp at k0 k1
        clear ha hj hlt HR
        go_wp2_with fail
        refine (new_no _ (-1) (-1) (by decide)).mono ?_
        rintro e _ ⟨rfl, rfl⟩
        go_wp2
        go_roundw
        case rel => exact ⟨5, by omega, rfl, HX.out _ ((Below.refl _ _).alloc (Nat.le_refl _) _)⟩
        case measure => decide
    · obtain rfl : j = 5 := by omega
      have HB0 : Hid (Below w.heap.size w wr) := Lib.hid HR.out.1
      clear HR hlt hj HB
      obtain ⟨wa, hwa⟩ : ∃ v, v = wr := ⟨_, rfl⟩
      subst hwa
      go_wp2_with fail
      refine (nt_new _ 300 10000 (by decide) (by decide) (by decide) (by decide)).mono ?_
      rintro e wa1 ⟨g, c, rfl, hN, hb⟩
      have HN1 := Lib.hid hN
      have HB1 := Lib.hid hb
      clear hN hb
      go_wp2_with fail
      refine (nt_send _ HN1.out (-1) 0 (Rd.nil _ none) _ (q := 2) (by rfl) (S' := (NS.new 300 10000)) (by rfl)).mono ?_
      rintro e wa2 ⟨rfl, hn, hb, hk⟩
      have hK : Kp c wa1 wa2 := hk
      have HN2 := Lib.hid (hn)
      have HB2 : Hid (Below wa.heap.size wa wa2) := Lib.hid (HB1.out.trans (hb))
      clear hK HN1 HB1 hn hb hk
      go_wp2_with fail
      refine (nt_send _ HN2.out 0 300 (Rd.nil _ none) _ (q := 2) (by rfl) (S' := (NS.new 300 10000)) (by rfl)).mono ?_
      rintro e wa3 ⟨rfl, hn, hb, hk⟩
      have hK : Kp c wa2 wa3 := hk
      have HN3 := Lib.hid (hn)
      have HB3 : Hid (Below wa.heap.size wa wa3) := Lib.hid (HB2.out.trans (hb))
      clear hK HN2 HB2 hn hb hk
      obtain ⟨Ca, la, hm, hl, hr⟩ := made_zeros 131073 (by omega)
      have hm : (Instr.makeSlice 29 (.int .i64 131073) (.int .i64 131073)).run Try.prog wa3 = .ok (.slice (some ⟨wa3.heap.size, 0, none⟩) 131073 131073) (wa3.alloc (.cells Ca 5)) := hm wa3
      have hr := hr wa3
      obtain ⟨wa4, hw⟩ : ∃ v, wa3.alloc (.cells Ca 5) = v := ⟨_, rfl⟩
      rw [hw] at hm hr
      have HL := Lib.hid (And.intro hl hr)
      clear hl hr
      go_wp2_with fail
      have hW : Below wa3.heap.size wa3 wa4 := hw ▸ (Below.refl _ _).alloc (Nat.le_refl _) _
      have hK : Kp c wa3 wa4 := Kp.of_below hW
      have HN4 := Lib.hid (HN3.out.below hW)
      have HB4 : Hid (Below wa.heap.size wa wa4) := Lib.hid (HB3.out.trans (hW.mono HB3.out.size))
      clear hK hW HN3 HB3 hw hm
      refine (nt_send _ HN4.out 0 (-1) HL.out.2 _ (q := 2) ((long_no HL.out.1).2.2.1) (S' := (NS.new 300 10000)) ((long_no HL.out.1).2.2.2)).mono ?_
      rintro e wa5 ⟨rfl, hn, hb, hk⟩
      have hK : Kp c wa4 wa5 := hk
      have HN5 := Lib.hid (hn)
      have HB5 : Hid (Below wa.heap.size wa wa5) := Lib.hid (HB4.out.trans (hb))
      clear hK HN4 HB4 hn hb hk
      clear HL
      obtain ⟨Cb, lb, hm, hl, hr⟩ := made_zeros 131073 (by omega)
      have hm : (Instr.makeSlice 29 (.int .i64 131073) (.int .i64 131073)).run Try.prog wa5 = .ok (.slice (some ⟨wa5.heap.size, 0, none⟩) 131073 131073) (wa5.alloc (.cells Cb 5)) := hm wa5
      have hr := hr wa5
      obtain ⟨wa6, hw⟩ : ∃ v, wa5.alloc (.cells Cb 5) = v := ⟨_, rfl⟩
      rw [hw] at hm hr
      have HL := Lib.hid (And.intro hl hr)
      clear hl hr
      go_wp2_with fail
      have hW : Below wa5.heap.size wa5 wa6 := hw ▸ (Below.refl _ _).alloc (Nat.le_refl _) _
      have hK : Kp c wa5 wa6 := Kp.of_below hW
      have HN6 := Lib.hid (HN5.out.below hW)
      have HB6 : Hid (Below wa.heap.size wa wa6) := Lib.hid (HB5.out.trans (hW.mono HB5.out.size))
      clear hK hW HN5 HB5 hw hm
      refine (nt_send _ HN6.out 0 299 HL.out.2 _ (q := 3) ((long_no HL.out.1).1) (S' := (NS.new 300 10000)) ((long_no HL.out.1).2.1)).mono ?_
      rintro e wa7 ⟨rfl, hn, hb, hk⟩
      have hK : Kp c wa6 wa7 := hk
      have HN7 := Lib.hid (hn)
      have HB7 : Hid (Below wa.heap.size wa wa7) := Lib.hid (HB6.out.trans (hb))
      clear hK HN6 HB6 hn hb hk
      clear HL
      obtain ⟨Cc, lc, hm, hl, hr⟩ := made_zeros 131072 (by omega)
      have hm : (Instr.makeSlice 29 (.int .i64 131072) (.int .i64 131072)).run Try.prog wa7 = .ok (.slice (some ⟨wa7.heap.size, 0, none⟩) 131072 131072) (wa7.alloc (.cells Cc 5)) := hm wa7
      have hr := hr wa7
      obtain ⟨wa8, hw⟩ : ∃ v, wa7.alloc (.cells Cc 5) = v := ⟨_, rfl⟩
      rw [hw] at hm hr
      have HL := Lib.hid (And.intro hl hr)
      clear hl hr
      go_wp2_with fail
      have hW : Below wa7.heap.size wa7 wa8 := hw ▸ (Below.refl _ _).alloc (Nat.le_refl _) _
      have hK : Kp c wa7 wa8 := Kp.of_below hW
      have HN8 := Lib.hid (HN7.out.below hW)
      have HB8 : Hid (Below wa.heap.size wa wa8) := Lib.hid (HB7.out.trans (hW.mono HB7.out.size))
      clear hK hW HN7 HB7 hw hm
      refine (nt_send _ HN8.out 299 0 HL.out.2 _ (q := 0) ((long_yes HL.out.1).1) (S' := onel lc) ((long_yes HL.out.1).2.1)).mono ?_
      rintro e wa9 ⟨rfl, hn, hb, hk⟩
      have hK : Kp c wa8 wa9 := hk
      have HN9 := Lib.hid (hn)
      have HB9 : Hid (Below wa.heap.size wa wa9) := Lib.hid (HB8.out.trans (hb))
      clear hK HN8 HB8 hn hb hk
      go_wp2_with fail
      refine (nt_drop _ HN9.out 0 (q := true) ((long_yes HL.out.1).2.2.1) (S' := many 0) ((long_yes HL.out.1).2.2.2)).mono ?_
      rintro e wa10 ⟨rfl, hn, hb, hk⟩
      have hK : Kp c wa9 wa10 := hk
      have HN10 := Lib.hid (hn)
      have HB10 : Hid (Below wa.heap.size wa wa10) := Lib.hid (HB9.out.trans (hb))
      clear hK HN9 HB9 hn hb hk
      clear HL
      go_wp2
      go_loopw [7] (fun i wq => ∃ j : Nat, j ≤ 10000 ∧ i = .int .i64 j ∧ Hid (Nt wq wa.heap.size g c (many j) ∧ Below wa.heap.size wa wq)) (fun i _ => 10000 - (Go.RowKit.intOf i).toNat)
      case atStart => exact ⟨0, by omega, rfl, HN10.out, HB10.out⟩
      case round =>
        obtain ⟨j, hj, rfl, HR⟩ := hrel
        clear HN10 HB10
        by_cases hlt : j < 10000
        · have hi1 : (0 : Int) ≤ (j : Int) := by omega
          have hi2 : (j : Int) < 10000 := by omega
          have hw1 : IntKind.i64.wrap ((j : Int) + 1) = (j : Int) + 1 := IntWalk.i64_in _ (by omega)
          have HL := Lib.hid hlt
          clear hlt
          go_wp2_with fail
          have hs := many_send j HL.out (a := (j : Int) % 300) (b := (j : Int) % 7) (by omega) (by omega)
          refine (nt_send _ HR.out.1 _ _ (Rd.nil _ none) 0 (q := 0) hs.1 hs.2).mono ?_
          rintro e wz ⟨rfl, hn, hb, hk⟩
          have HZ := Lib.hid (And.intro hn (HR.out.2.trans hb))
          clear hs hn hb hk HR
          go_wp2
          go_roundw
          case rel => exact ⟨j + 1, by have := HL.out; omega, by go_num, HZ.out⟩
          case measure => have := HL.out; simp [Go.RowKit.intOf]; omega
        · obtain rfl : j = 10000 := by omega
          have HN0 := Lib.hid HR.out.1
          have HB1 := Lib.hid HR.out.2
          clear HR hlt hj
          go_wp2_with fail
          refine (nt_flying _ HN0.out (q := 10000) (by rw [(many_e 10000).2.2]; rfl)).mono ?_
          rintro e _ ⟨rfl, rfl⟩
          go_wp2_with fail
          refine (nt_send _ HN0.out 0 8 (Rd.nil _ none) 0 (q := 5) many_full.1 many_full.2).mono ?_
          rintro e wr1 ⟨rfl, hn, hb, hk⟩
          have HN1 := Lib.hid hn
          have HB2 := Lib.hid (HB1.out.trans hb)
          clear hn hb hk HN0 HB1
          go_wp2_with fail
          refine (nt_copy _ HN1.out 3 (q := 5) many_copy.1 many_copy.2).mono ?_
          rintro e wr2 ⟨rfl, hn, hb, hk⟩
          have HN2 := Lib.hid hn
          have HB3 := Lib.hid (HB2.out.trans hb)
          clear hn hb hk HN1 HB2
          go_wp2_with fail
          refine (nt_copy _ HN2.out 10000 (q := 2) (many_nocopy 10000 (by omega)).1 (many_nocopy 10000 (by omega)).2).mono ?_
          rintro e wr3 ⟨rfl, hn, hb, hk⟩
          have HN3 := Lib.hid hn
          have HB4 := Lib.hid (HB3.out.trans hb)
          clear hn hb hk HN2 HB3
          go_wp2_with fail
          refine (nt_copy _ HN3.out (-1) (q := 2) (many_nocopy (-1) (by omega)).1 (many_nocopy (-1) (by omega)).2).mono ?_
          rintro e wr4 ⟨rfl, hn, hb, hk⟩
          have HN4 := Lib.hid hn
          have HB5 := Lib.hid (HB4.out.trans hb)
          clear hn hb hk HN3 HB4
          go_wp2_with fail
          refine (nt_drop _ HN4.out (-1) (q := false) (by rw [many_out (-1) (by omega)]; rfl) (many_nodrop (-1) (by omega))).mono ?_
          rintro e wr5 ⟨rfl, hn, hb, hk⟩
          have HN5 := Lib.hid hn
          have HB6 := Lib.hid (HB5.out.trans hb)
          clear hn hb hk HN4 HB5
          go_wp2_with fail
          refine (nt_drop _ HN5.out 10000 (q := false) (by rw [many_out 10000 (by omega)]; rfl) (many_nodrop 10000 (by omega))).mono ?_
          rintro e wr6 ⟨rfl, hn, hb, hk⟩
          have HN6 := Lib.hid hn
          have HB7 := Lib.hid (HB6.out.trans hb)
          clear hn hb hk HN5 HB6
          go_wp2_with fail
          refine (nt_take _ HN6.out 10000 (o := none) (many_out 10000 (by omega)) (many_nodrop 10000 (by omega))).mono ?_
          rintro e wr7 ⟨X, cx, rfl, ⟨rfl, rfl⟩, hn, hb, hk⟩
          have HN7 := Lib.hid hn
          have HB8 := Lib.hid (HB7.out.trans hb)
          clear hn hb hk HN6 HB7
          dsimp only [nod, Option.getD, Option.isSome, List.length]
          obtain ⟨wr8, hw⟩ : ∃ v, wr7.alloc (.cells #[.int .i64 0, .int .i64 0, .slice none 0 0] 34) = v := ⟨_, rfl⟩
          have hb : Below wr7.heap.size wr7 wr8 := hw ▸ (Below.refl _ _).alloc (Nat.le_refl _) _
          have HN8 := Lib.hid (HN7.out.below hb)
          have HB9 := Lib.hid (HB8.out.trans (hb.mono HB8.out.size))
          have HW := Lib.hid hw
          clear hw hb HN7 HB8
          go_wp2_with fail
          rw [HW.out]
          clear HW
          refine (nt_look _ HN8.out (-1) (o := none) (many_out (-1) (by omega))).mono ?_
          rintro e wr9 ⟨X2, cx2, rfl, ⟨rfl, rfl⟩, hb⟩
          have HN9 := Lib.hid (HN8.out.below hb)
          have HB10 := Lib.hid (HB9.out.trans (hb.mono HB9.out.size))
          clear hb HN8 HB9
          dsimp only [nod, Option.getD, Option.isSome, List.length]
          obtain ⟨wr10, hw⟩ : ∃ v, wr9.alloc (.cells #[.int .i64 0, .int .i64 0, .slice none 0 0] 34) = v := ⟨_, rfl⟩
          have hb : Below wr9.heap.size wr9 wr10 := hw ▸ (Below.refl _ _).alloc (Nat.le_refl _) _
          have HN10 := Lib.hid (HN9.out.below hb)
          have HB11 := Lib.hid (HB10.out.trans (hb.mono HB10.out.size))
          have HW := Lib.hid hw
          clear hw hb HN9 HB10
          go_wp2_with fail
          rw [HW.out]
          clear HW
          refine (nt_waiting _ HN10.out (k := 3) (by decide) (by decide) (q := 1429) (by rw [show (many 10000).wait 3 = (10000 + 6 - 3) / 7 from many_wait 3 (by omega) 10000]; rfl)).mono ?_
          rintro e _ ⟨rfl, rfl⟩
          go_wp2_with fail
          refine (nt_waiting _ HN10.out (k := 6) (by decide) (by decide) (q := 1428) (by rw [show (many 10000).wait 6 = (10000 + 6 - 6) / 7 from many_wait 6 (by omega) 10000]; rfl)).mono ?_
          rintro e _ ⟨rfl, rfl⟩
          go_wp2_with fail
          refine (nt_waiting _ HN10.out (k := 7) (by decide) (by decide) (q := 0) (by rw [many_none 7 (by omega) 10000]; rfl)).mono ?_
          rintro e _ ⟨rfl, rfl⟩
          go_wp2_with fail
          refine (nt_waiting _ HN10.out (k := (-5)) (by decide) (by decide) (q := 0) (by rw [many_none (-5) (by omega) 10000]; rfl)).mono ?_
          rintro e _ ⟨rfl, rfl⟩
          go_wp2_with fail
          refine (nt_forget _ HN10.out (k := 3) (by decide) (by decide) (q := 1429) (by rw [show (many 10000).wait 3 = (10000 + 6 - 3) / 7 from many_wait 3 (by omega) 10000]; rfl) (S' := less) rfl).mono ?_
          rintro e wr11 ⟨rfl, hn, hb, hk⟩
          have HN11 := Lib.hid hn
          have HB12 := Lib.hid (HB11.out.trans hb)
          clear hn hb hk HN10 HB11
          go_wp2_with fail
          refine (nt_forget _ HN11.out (k := 3) (by decide) (by decide) (q := 0) (by rw [less_three]; rfl) (S' := less) (NS.forget_zero _ less_three)).mono ?_
          rintro e wr12 ⟨rfl, hn, hb, hk⟩
          have HN12 := Lib.hid hn
          have HB13 := Lib.hid (HB12.out.trans hb)
          clear hn hb hk HN11 HB12
          go_wp2_with fail
          refine (nt_forget _ HN12.out (k := 900) (by decide) (by decide) (q := 0) (by rw [less_none 900 (by omega)]; rfl) (S' := less) (NS.forget_zero _ (less_none 900 (by omega)))).mono ?_
          rintro e wr13 ⟨rfl, hn, hb, hk⟩
          have HN13 := Lib.hid hn
          have HB14 := Lib.hid (HB13.out.trans hb)
          clear hn hb hk HN12 HB13
          go_wp2_with fail
          refine (nt_flying _ HN13.out (q := 8571) (by rw [less_len]; rfl)).mono ?_
          rintro e _ ⟨rfl, rfl⟩
          go_wp2_with fail
          refine (nt_send _ HN13.out 0 8 (Rd.nil _ none) 0 (q := 0) less_send rfl).mono ?_
          rintro e wr14 ⟨rfl, hn, hb, hk⟩
          have HN14 := Lib.hid hn
          have HB15 := Lib.hid (HB14.out.trans hb)
          clear hn hb hk HN13 HB14
          go_wp2_with fail
          refine (awake_is _).mono ?_
          rintro e wz ⟨rfl, hb⟩
          have HZ := Lib.hid hb
          clear hb
          go_wp2
          go_ret
          exact ⟨rfl, (HB0.out.trans (HB15.out.mono HB0.out.size)).trans (HZ.out.mono (Nat.le_trans HB0.out.size HB15.out.size))⟩
end Go.Proofs.Ythhablokbnfpcaa
