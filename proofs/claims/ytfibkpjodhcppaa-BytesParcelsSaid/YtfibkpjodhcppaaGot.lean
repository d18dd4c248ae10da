import Derived.Test.YtfibkpjodhcppaaSent
import Derived.Test.YtfibkpjodhcppaaUnseal
namespace Go.Proofs.Ytfibkpjodhcppaa
open Go.RowKit Go.Coop

theorem unsealed_sealed' (t : Nat → Nat) (l : List UInt8) (n : Nat) (hn : n = l.length + 4) : unsealed (crc t ((sealed t l).take (n - 4))) (sealed t l) = (l, 0) := by
  have h1 : (sealed t l).length = l.length + 4 := sealed_length t l
  have h2 : (sealed t l).take l.length = l := by unfold sealed; exact List.take_left
  unfold unsealed
  rw [hn, h1, if_neg (by omega), Nat.add_sub_cancel, h2]
  exact if_pos rfl
theorem blob_sent (pre x post : List UInt8) (most : Nat) (hx : x.length ≤ 1048576) (hm : x.length ≤ most) (at_ : Nat) (ha : at_ = pre.length) (l : List UInt8) (hl : l = pre ++ (pb x ++ post)) :
    getB l (getU l (at_ : Int)) (most : Int) = (x, pre.length + (pb x).length, 0) := by
  subst ha hl
  have e : pre ++ (pb x ++ post) = pre ++ (dig x.length ++ (x ++ post)) := by simp [pb]
  rw [e, getU_dig pre (x ++ post) x.length (by omega)]
  unfold getB
  simp only
  rw [if_neg (by simp), if_neg (by omega), if_neg (by simp; omega)]
  have e2 : (pre ++ (dig x.length ++ (x ++ post))).drop (pre.length + (dig x.length).length) = x ++ post := by
    rw [← List.drop_drop, List.drop_left, List.drop_left]
  rw [e2, List.take_left]
  simp [pb, Nat.add_assoc]
theorem num_sent (pre post : List UInt8) (N : Nat) (hN : N ≤ 18446744073709551615) (at_ : Nat) (ha : at_ = pre.length) (l : List UInt8) (hl : l = pre ++ (dig N ++ post)) : getU l (at_ : Int) = (N, pre.length + (dig N).length, 0) := by
  subst ha hl
  exact getU_dig pre post N hN

def Got (w : World) (k : Nat) (e : Ending) (w' : World) : Prop := e = .returned (.tuple #[.int .i64 (k : Int), .bool true]) ∧ Below w.heap.size w w'

set_option maxHeartbeats 1000000 in
set_option maxRecDepth 100000 in
theorem got_plain (a : Addr) (A : Option Addr) (n c : Nat) (l : List UInt8) (at_ N : Nat) (B : Option Addr) (pn pc : Nat) (pl pre post : List UInt8) (w : World) (hr : Rd w A n l) (hc : n ≤ c) (hn : n ≤ 1048576) (hB : Rd w B pn pl) (hpn : pn ≤ 100) (hN : N ≤ 18446744073709551615)
    (hl : l = pre ++ ((dig N ++ pb pl) ++ post)) (ha : at_ = pre.length) :
    Calls Try.prog 32 #[.pointer (some a), .slice A n c, .int .i64 (at_ : Int), .agg #[.int .u64 (N : Int), .slice B pn pc, .bool false]] w (Got w (pre.length + (dig N ++ pb pl).length)) := by
  have hpl := hB.len
  have hU := num_sent pre (pb pl ++ post) N hN at_ ha l (by rw [hl]; simp)
  obtain ⟨fr, hfr⟩ : ∃ fr, fr = pre.length + (dig N).length := ⟨_, rfl⟩
  rw [← hfr] at hU
  have hBl := blob_sent (pre ++ dig N) pl post pn (by omega) (by omega) fr (by rw [hfr]; simp) l (by rw [hl]; simp)
  obtain ⟨nx, hnx⟩ : ∃ nx, nx = pre.length + (dig N ++ pb pl).length := ⟨_, rfl⟩
  have hnx2 : (pre ++ dig N).length + (pb pl).length = nx := by rw [hnx]; simp [Nat.add_assoc]
  rw [hnx2] at hBl
  rw [← hnx]
  have hfrn : fr ≤ n := by rw [hfr, ← hr.len, hl]; simp
  have HR := Lib.hid hr
  have HBr := Lib.hid hB
  have HU := Lib.hid hU
  have HBl := Lib.hid hBl
  clear hpl hU hBl hnx hnx2 hfr hl ha hr hB
  go_enter Try.func32, Try.ntmps32
  go_wp2_with fail
  have hg : w.heap.size < (w.alloc (.cells #[.int .u64 (N : Int), .slice B pn pc, .bool false] 51)).heap.size := by rw [size_alloc]; omega
  have hb1 : Below w.heap.size w (w.alloc (.cells #[.int .u64 (N : Int), .slice B pn pc, .bool false] 51)) := (Below.refl _ _).alloc (Nat.le_refl _) _
  have hc0 : (w.alloc (.cells #[.int .u64 (N : Int), .slice B pn pc, .bool false] 51)).cell? ⟨w.heap.size, 0, none⟩ = some (.int .u64 (N : Int)) := by rw [cell_of_row _ _ 0 _ 51 (0, 0) (heap_alloc_new w _)]; rfl
  have hc1 : (w.alloc (.cells #[.int .u64 (N : Int), .slice B pn pc, .bool false] 51)).cell? ⟨w.heap.size, 1, none⟩ = some (.slice B pn pc) := by rw [cell_of_row _ _ 1 _ 51 (0, 0) (heap_alloc_new w _)]; rfl
  have hc2 : (w.alloc (.cells #[.int .u64 (N : Int), .slice B pn pc, .bool false] 51)).cell? ⟨w.heap.size, 2, none⟩ = some (.bool false) := by rw [cell_of_row _ _ 2 _ 51 (0, 0) (heap_alloc_new w _)]; rfl
  generalize w.alloc (.cells #[.int .u64 (N : Int), .slice B pn pc, .bool false] 51) = w1 at *
  have hG := getUint_any A n c l at_ w1 (HR.out.below hb1 (Nat.le_refl _)) (by omega) hc
  rw [HU.out] at hG
  refine hG.mono ?_
  rintro e w' ⟨rfl, rfl⟩
  clear hG
  go_wp2_with fail
  have hG := getBlob_any A n c l fr pn w1 (HR.out.below hb1 (Nat.le_refl _)) hc (by omega) (by omega)
  rw [HBl.out] at hG
  refine hG.mono ?_
  rintro e w2 ⟨A2, n2, c2, rfl, hr2, hcc2, hb2⟩
  clear hG
  have HBF := Lib.hid hb2
  have hd0 := (HBF.out.cell (p := ⟨w.heap.size, 0, none⟩) hg).trans hc0
  have hd1 := (HBF.out.cell (p := ⟨w.heap.size, 1, none⟩) hg).trans hc1
  have hd2 := (HBF.out.cell (p := ⟨w.heap.size, 2, none⟩) hg).trans hc2
  have hn2 : n2 = pn := by rw [← hr2.len, ← HBr.out.len]
  subst hn2
  have k1 := conv_str (P := Try.prog) Try.underlying32 Try.underlying5 Try.underlying9 hr2 c2
  have k2 := conv_str (P := Try.prog) Try.underlying32 Try.underlying5 Try.underlying9 ((HBr.out.below hb1 (Nat.le_refl _)).below hb2 (Nat.le_refl _)) pc
  have HBB := Lib.hid (hb1.trans (hb2.mono hb1.size))
  clear hr2 hcc2 hb2 hb1 hc0 hc1 hc2
  go_wp2
  go_ret2
  exact ⟨rfl, HBB.out⟩

set_option maxHeartbeats 1000000 in
set_option maxRecDepth 100000 in
theorem got_sealed (a : Addr) (A : Option Addr) (n c : Nat) (l : List UInt8) (at_ N : Nat) (B : Option Addr) (pn pc : Nat) (pl pre post : List UInt8) (w : World) (ht : TabAt w a entry) (hal : a.block < w.heap.size) (hr : Rd w A n l) (hc : n ≤ c) (hn : n ≤ 1048576) (hB : Rd w B pn pl) (hpn : pn ≤ 100) (hN : N ≤ 18446744073709551615)
    (hl : l = pre ++ (pb (sealed entry (dig N ++ pb pl)) ++ post)) (ha : at_ = pre.length) :
    Calls Try.prog 32 #[.pointer (some a), .slice A n c, .int .i64 (at_ : Int), .agg #[.int .u64 (N : Int), .slice B pn pc, .bool true]] w (Got w (pre.length + (pb (sealed entry (dig N ++ pb pl))).length)) := by
  have hpl := hB.len
  have hdN := dig_length N
  have hdp := dig_length pl.length
  have hxl : (dig N ++ pb pl).length = (dig N).length + ((dig pl.length).length + pl.length) := by simp [pb]
  have hB1 := blob_sent pre (sealed entry (dig N ++ pb pl)) post 1048576 (by rw [sealed_length, hxl]; omega) (by rw [sealed_length, hxl]; omega) at_ ha l hl
  obtain ⟨nx, hnx⟩ : ∃ nx, pre.length + (pb (sealed entry (dig N ++ pb pl))).length = nx := ⟨_, rfl⟩
  rw [hnx] at hB1 ⊢
  have hU := num_sent [] (pb pl) N hN 0 rfl (dig N ++ pb pl) (by simp)
  obtain ⟨fr, hfr⟩ : ∃ fr, fr = (dig N).length := ⟨_, rfl⟩
  simp only [List.length_nil, Nat.zero_add, ← hfr] at hU
  have hBl := blob_sent (dig N) pl [] pn (by omega) (by omega) fr hfr (dig N ++ pb pl) (by simp)
  obtain ⟨m4, hm4⟩ : ∃ m4, (dig N).length + (pb pl).length = m4 := ⟨_, rfl⟩
  rw [hm4] at hBl
  have hxm : (dig N ++ pb pl).length = m4 := by rw [← hm4]; simp
  have hm4s : m4 ≤ 200 := by rw [← hxm, hxl]; omega
  have hsl : (sealed entry (dig N ++ pb pl)).length = m4 + 4 := by rw [sealed_length, hxm]
  have hfrn : fr ≤ 10 := by omega
  have HUn := Lib.hid (unsealed_sealed' entry (dig N ++ pb pl) (m4 + 4) (by rw [hxm]))
  have HR := Lib.hid hr
  have HBr := Lib.hid hB
  have HT := Lib.hid ht
  have HU := Lib.hid hU
  have e20 : ((1048576 : Nat) : Int) = 1048576 := rfl
  rw [e20] at hB1
  have HB1 := Lib.hid hB1
  clear e20
  have HBl := Lib.hid hBl
  have HXM := Lib.hid hxm
  have HSL := Lib.hid hsl
  clear hpl hU hBl hnx hfr hl ha hr hB hB1 hm4 hxm hsl hxl ht hdp
  generalize sealed entry (dig N ++ pb pl) = y at *
  generalize dig N ++ pb pl = x at *
  go_enter Try.func32, Try.ntmps32
  go_wp2_with fail
  have hg : w.heap.size < (w.alloc (.cells #[.int .u64 (N : Int), .slice B pn pc, .bool true] 51)).heap.size := by rw [size_alloc]; omega
  have hb1 : Below w.heap.size w (w.alloc (.cells #[.int .u64 (N : Int), .slice B pn pc, .bool true] 51)) := (Below.refl _ _).alloc (Nat.le_refl _) _
  have hc0 : (w.alloc (.cells #[.int .u64 (N : Int), .slice B pn pc, .bool true] 51)).cell? ⟨w.heap.size, 0, none⟩ = some (.int .u64 (N : Int)) := by rw [cell_of_row _ _ 0 _ 51 (0, 0) (heap_alloc_new w _)]; rfl
  have hc1 : (w.alloc (.cells #[.int .u64 (N : Int), .slice B pn pc, .bool true] 51)).cell? ⟨w.heap.size, 1, none⟩ = some (.slice B pn pc) := by rw [cell_of_row _ _ 1 _ 51 (0, 0) (heap_alloc_new w _)]; rfl
  have hc2 : (w.alloc (.cells #[.int .u64 (N : Int), .slice B pn pc, .bool true] 51)).cell? ⟨w.heap.size, 2, none⟩ = some (.bool true) := by rw [cell_of_row _ _ 2 _ 51 (0, 0) (heap_alloc_new w _)]; rfl
  generalize w.alloc (.cells #[.int .u64 (N : Int), .slice B pn pc, .bool true] 51) = w1 at *
  have hG := getBlob_any A n c l at_ 1048576 w1 (HR.out.below hb1 (Nat.le_refl _)) hc (by omega) (by omega)
  rw [HB1.out] at hG
  refine hG.mono ?_
  rintro e w2 ⟨A2, n2, c2, rfl, hr2, hcc2, hb2⟩
  clear hG
  have hn2 : n2 = m4 + 4 := by rw [← hr2.len, HSL.out]
  subst hn2
  have hs1 := hb1.size
  have hs2 := hb2.size
  go_wp2_with fail
  have hG := unseal_any a entry A2 (m4 + 4) c2 y w2 ((HT.out.below hal hb1).below (Nat.lt_of_lt_of_le hal hs1) hb2) hr2 (by omega) hcc2
  rw [HUn.out] at hG
  refine hG.mono ?_
  rintro e w3 ⟨A3, n3, c3, rfl, hr3, hcc3, hb3⟩
  clear hG
  have hn3 : n3 = m4 := by rw [← hr3.len, HXM.out]
  subst hn3
  go_wp2_with fail
  have hG := getUint_any A3 n3 c3 x 0 w3 hr3 (by omega) hcc3
  have hU0 := HU.out
  simp only [Int.natCast_zero] at hU0
  rw [hU0] at hG
  refine hG.mono ?_
  rintro e w' ⟨rfl, rfl⟩
  clear hG hU0
  have hb13 := hb2.trans (hb3.mono hs2)
  have HD1 := Lib.hid ((hb13.cell (p := ⟨w.heap.size, 0, none⟩) hg).trans hc0)
  have HD2 := Lib.hid ((hb13.cell (p := ⟨w.heap.size, 1, none⟩) hg).trans hc1)
  have hd0 := HD1.out
  have hd1 := HD2.out
  go_wp2_with fail
  have hG := getBlob_any A3 n3 c3 x fr pn w3 hr3 hcc3 (by omega) (by omega)
  rw [HBl.out] at hG
  refine hG.mono ?_
  rintro e w4 ⟨A4, n4, c4, rfl, hr4, hcc4, hb4⟩
  clear hG hd0 hd1
  have HBF := Lib.hid (hb13.trans (hb4.mono hb13.size))
  have hd0 := (HBF.out.cell (p := ⟨w.heap.size, 0, none⟩) hg).trans hc0
  have hd1 := (HBF.out.cell (p := ⟨w.heap.size, 1, none⟩) hg).trans hc1
  have hd2 := (HBF.out.cell (p := ⟨w.heap.size, 2, none⟩) hg).trans hc2
  have hn4 : n4 = pn := by rw [← hr4.len, ← HBr.out.len]
  subst hn4
  have k1 := conv_str (P := Try.prog) Try.underlying32 Try.underlying5 Try.underlying9 hr4 c4
  have k2 := conv_str (P := Try.prog) Try.underlying32 Try.underlying5 Try.underlying9 ((HBr.out.below hb1 (Nat.le_refl _)).below HBF.out (Nat.le_refl _)) pc
  have HBB := Lib.hid (hb1.trans (HBF.out.mono hs1))
  clear hr2 hcc2 hb2 hb1 hc0 hc1 hc2 hr3 hcc3 hb3 hb13 hr4 hcc4 hb4
  go_wp2
  go_ret2
  exact ⟨rfl, HBB.out⟩
end Go.Proofs.Ytfibkpjodhcppaa
