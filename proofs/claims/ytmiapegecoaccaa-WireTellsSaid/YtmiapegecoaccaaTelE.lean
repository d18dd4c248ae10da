/- The reference's PutAsk, PutTell, numbers. -/
import Derived.Test.YtmiapegecoaccaaTelD
namespace Go.Proofs.Ytmiapegecoaccaa
open Go.RowKit Go.Coop
set_option maxRecDepth 100000
/-- bytes that are read and an error -/
def RGives (w : World) (r : List UInt8 × Int) (e : Ending) (w' : World) : Prop := ∃ A n c, e = .returned (.tuple #[.slice A n c, .int .i64 r.2]) ∧ Rd w' A n r.1 ∧ n ≤ 1100000 ∧ Below w.heap.size w w'
theorem rgives_no {w w' : World} (x : Int) (h : Below w.heap.size w w') : RGives w ([], x) (.returned (.tuple #[.slice none 0 0, .int .i64 x])) w' := ⟨none, 0, 0, rfl, Rd.nil _ _, by omega, h⟩
section
variable (w : World)
set_option maxHeartbeats 2000000 in
theorem rputA_is {ad : Addr} {t : Nat → Nat} (hT : TabAt w ad t) (had : ad.block < w.heap.size) (l s o st i v : Int) (bs : List UInt8) {B : Option Addr} {n c : Nat} (hr : Rd w B n bs) (hn : n ≤ 1000000) :
    Calls Try.prog 19 #[.pointer (some ad), .agg #[.int .i64 l, .int .i64 s, .int .u8 o, .int .i64 st, .int .i64 i, .int .i64 v, .slice B n c]] w (RGives w (putA t ⟨l, s, o, st, i, v, bs⟩)) := by
  have hlen := hr.len
  by_cases hR : RightA ⟨l, s, o, st, i, v, bs⟩
  · have k1 := Lib.hid (decide_eq_true hR)
    have hp : putA t ⟨l, s, o, st, i, v, bs⟩ = (sealed t (encA ⟨l, s, o, st, i, v, bs⟩), 0) := by unfold putA; rw [if_pos hR]
    have hR' := hR
    obtain ⟨⟨r1, r2, r3⟩, ⟨r4, r5, r6⟩, r7⟩ := hR'
    simp only at r1 r2 r3 r4 r5 r6
    have hv : 0 ≤ v := by unfold leastV at r6; split at r6 <;> omega
    have hv2 := r6.2
    clear r6 r7
    obtain ⟨l, rfl⟩ := Int.eq_ofNat_of_zero_le (show 0 ≤ l by omega)
    obtain ⟨s, rfl⟩ := Int.eq_ofNat_of_zero_le (show 0 ≤ s by omega)
    obtain ⟨o, rfl⟩ := Int.eq_ofNat_of_zero_le (show 0 ≤ o by omega)
    obtain ⟨st, rfl⟩ := Int.eq_ofNat_of_zero_le (show 0 ≤ st by omega)
    obtain ⟨i, rfl⟩ := Int.eq_ofNat_of_zero_le (show 0 ≤ i by omega)
    obtain ⟨v, rfl⟩ := Int.eq_ofNat_of_zero_le (show 0 ≤ v by omega)
    obtain ⟨w1, hw1⟩ : ∃ x, w.alloc (.cells #[.int .i64 l, .int .i64 s, .int .u8 o, .int .i64 st, .int .i64 i, .int .i64 v, .slice B n c] 25) = x := ⟨_, rfl⟩
    obtain ⟨hb1, hx1⟩ := box_new hw1
    obtain ⟨g, hg⟩ : ∃ g, w.heap.size = g := ⟨_, rfl⟩
    rw [hg] at hx1
    have HT := Lib.hid (hT.below had hb1)
    have HP := Lib.hid hp
    have HB := Lib.hid (((((Bk.start w).add hr)).step hb1).row hx1)
    have hal1 : ad.block < w1.heap.size := Nat.lt_of_lt_of_le had hb1.size
    clear hb1 hp hT hr hR 
    obtain ⟨c0, c1, c2, c3, c4, c5, c6⟩ := arr7 hx1
    clear hx1
    go_enter Try.func19, Try.ntmps19
    go_wp2_with fail
    (try rw [hw1])
    refine (rrightA_is _ l s o st i v bs B n c hlen k1.out).mono ?_
    rintro e w2 ⟨rfl, hb2⟩
    replace HB := Lib.hid (HB.out.step hb2)
    replace HT := Lib.hid (HT.out.below hal1 hb2)
    have hal2 : ad.block < w2.heap.size := Nat.lt_of_lt_of_le hal1 hb2.size
    clear hb2 hw1 hal1 c0 c1 c2 c3 c4 c5 c6
    obtain ⟨c0, c1, c2, c3, c4, c5, c6⟩ := arr7 (HB.out.2.rows _ (.head _))
    go_wp2_with fail
    refine (askB_is _ l s o st i v (by omega) (by omega) (by omega) (by omega) (by omega) (by omega) bs (HB.out.2.reads _ (.head _)) hn).mono ?_
    rintro e w3 ⟨A3, n3, c3', rfl, hr3, hn3, hb3⟩
    replace HB := Lib.hid ((HB.out.step hb3).add hr3)
    replace HT := Lib.hid (HT.out.below hal2 hb3)
    clear hb3 hr3 c0 c1 c2 c3 c4 c5 c6
    go_wp2_with fail
    refine (rseal_any ad t A3 n3 c3' _ w3 HT.out (HB.out.2.reads _ (.head _)) (by omega)).mono ?_
    rintro e w4 ⟨A4, c4', rfl, hr4, hb4⟩
    go_wp2
    go_ret2
    rw [HP.out]
    exact ⟨A4, _, c4', rfl, hr4, by omega, (HB.out.step hb4).1⟩
  · have k1 := Lib.hid (decide_eq_false hR)
    have hp : putA t ⟨l, s, o, st, i, v, bs⟩ = ([], 110) := by unfold putA; rw [if_neg hR]
    obtain ⟨w1, hw1⟩ : ∃ x, w.alloc (.cells #[.int .i64 l, .int .i64 s, .int .u8 o, .int .i64 st, .int .i64 i, .int .i64 v, .slice B n c] 25) = x := ⟨_, rfl⟩
    obtain ⟨hb1, hx1⟩ := box_new hw1
    have HP := Lib.hid (And.intro hp hb1)
    obtain ⟨c0, c1, c2, c3, c4, c5, c6⟩ := arr7 hx1
    skip
    clear hb1 hx1 hp hT hr hR
    go_enter Try.func19, Try.ntmps19
    go_wp2_with fail
    (try rw [hw1])
    refine (rrightA_is _ l s o st i v bs B n c hlen k1.out).mono ?_
    rintro e w2 ⟨rfl, hb2⟩
    go_wp2
    go_ret2
    rw [HP.out.1]
    exact rgives_no _ (HP.out.2.trans (hb2.mono HP.out.2.size))
set_option maxHeartbeats 2000000 in
theorem rputT_is {ad : Addr} {t : Nat → Nat} (hT : TabAt w ad t) (had : ad.block < w.heap.size) (l s o er room : Int) {I : Option Addr} {m mc : Nat} {L : List InfP} (hI : IL w I m L) (hm : m ≤ 1000000) (bs : List UInt8) {B : Option Addr} {n c : Nat} (hr : Rd w B n bs) (hn : n ≤ 1000000) :
    Calls Try.prog 20 #[.pointer (some ad), .agg #[.int .i64 l, .int .i64 s, .int .u8 o, .int .i64 er, .slice I m mc, .slice B n c, .int .i64 room]] w (RGives w (putT t ⟨l, s, o, er, L, bs, room⟩)) := by
  have hlen := hr.len
  by_cases hR : RightT ⟨l, s, o, er, L, bs, room⟩
  · have k1 := Lib.hid (decide_eq_true hR)
    have hp : putT t ⟨l, s, o, er, L, bs, room⟩ = (sealed t (encT ⟨l, s, o, er, L, bs, room⟩), 0) := by unfold putT; rw [if_pos hR]
    have hR' := hR
    obtain ⟨⟨r1, r2, r3⟩, r4, r5, _, r6, r7, r8⟩ := hR'
    simp only at r1 r2 r3 r4 r5 r6 r7 r8
    have hlm := hI.len
    have hm50 : m ≤ 50 := by omega
    have HL := Lib.hid r8
    clear r8
    obtain ⟨l, rfl⟩ := Int.eq_ofNat_of_zero_le (show 0 ≤ l by omega)
    obtain ⟨s, rfl⟩ := Int.eq_ofNat_of_zero_le (show 0 ≤ s by omega)
    obtain ⟨o, rfl⟩ := Int.eq_ofNat_of_zero_le (show 0 ≤ o by omega)
    obtain ⟨er, rfl⟩ := Int.eq_ofNat_of_zero_le (show 0 ≤ er by omega)
    obtain ⟨room, rfl⟩ := Int.eq_ofNat_of_zero_le (show 0 ≤ room by omega)
    obtain ⟨w1, hw1⟩ : ∃ x, w.alloc (.cells #[.int .i64 l, .int .i64 s, .int .u8 o, .int .i64 er, .slice I m mc, .slice B n c, .int .i64 room] 34) = x := ⟨_, rfl⟩
    obtain ⟨hb1, hx1⟩ := box_new hw1
    obtain ⟨g, hg⟩ : ∃ g, w.heap.size = g := ⟨_, rfl⟩
    rw [hg] at hx1
    have HT := Lib.hid (hT.below had hb1)
    have HP := Lib.hid hp
    have HB := Lib.hid (((((Bk.start w).add hr).il hI).step hb1).row hx1)
    have hal1 : ad.block < w1.heap.size := Nat.lt_of_lt_of_le had hb1.size
    clear hb1 hp hT hr hR hI
    obtain ⟨c0, c1, c2, c3, c4, c5, c6⟩ := arr7 hx1
    clear hx1
    go_enter Try.func20, Try.ntmps20
    go_wp2_with fail
    (try rw [hw1])
    refine (rrightT_is _ l s o er room (HB.out.2.ils _ (.head _)) hm B n c bs hlen k1.out).mono ?_
    rintro e w2 ⟨rfl, hb2⟩
    replace HB := Lib.hid (HB.out.step hb2)
    replace HT := Lib.hid (HT.out.below hal1 hb2)
    have hal2 : ad.block < w2.heap.size := Nat.lt_of_lt_of_le hal1 hb2.size
    clear hb2 hw1 hal1 c0 c1 c2 c3 c4 c5 c6
    obtain ⟨c0, c1, c2, c3, c4, c5, c6⟩ := arr7 (HB.out.2.rows _ (.head _))
    go_wp2_with fail
    refine (tellB_is _ l s o er room (by omega) (by omega) (by omega) (by omega) (by omega) (HB.out.2.ils _ (.head _)) hm50 HL.out bs (HB.out.2.reads _ (.head _)) hn).mono ?_
    rintro e w3 ⟨A3, n3, c3', rfl, hr3, hn3, hb3⟩
    replace HB := Lib.hid ((HB.out.step hb3).add hr3)
    replace HT := Lib.hid (HT.out.below hal2 hb3)
    clear hb3 hr3 c0 c1 c2 c3 c4 c5 c6
    go_wp2_with fail
    refine (rseal_any ad t A3 n3 c3' _ w3 HT.out (HB.out.2.reads _ (.head _)) (by omega)).mono ?_
    rintro e w4 ⟨A4, c4', rfl, hr4, hb4⟩
    go_wp2
    go_ret2
    rw [HP.out]
    exact ⟨A4, _, c4', rfl, hr4, by omega, (HB.out.step hb4).1⟩
  · have k1 := Lib.hid (decide_eq_false hR)
    have hp : putT t ⟨l, s, o, er, L, bs, room⟩ = ([], 110) := by unfold putT; rw [if_neg hR]
    obtain ⟨w1, hw1⟩ : ∃ x, w.alloc (.cells #[.int .i64 l, .int .i64 s, .int .u8 o, .int .i64 er, .slice I m mc, .slice B n c, .int .i64 room] 34) = x := ⟨_, rfl⟩
    obtain ⟨hb1, hx1⟩ := box_new hw1
    have HP := Lib.hid (And.intro hp hb1)
    obtain ⟨c0, c1, c2, c3, c4, c5, c6⟩ := arr7 hx1
    have hil2 := hI.below hb1 (Nat.le_refl _)
    (try rw [hw1] at hil2)
    clear hb1 hx1 hp hT hr hR
    go_enter Try.func20, Try.ntmps20
    go_wp2_with fail
    (try rw [hw1])
    refine (rrightT_is _ l s o er room hil2 hm B n c bs hlen k1.out).mono ?_
    rintro e w2 ⟨rfl, hb2⟩
    go_wp2
    go_ret2
    rw [HP.out.1]
    exact rgives_no _ (HP.out.2.trans (hb2.mono HP.out.2.size))
end
end Go.Proofs.Ytmiapegecoaccaa
