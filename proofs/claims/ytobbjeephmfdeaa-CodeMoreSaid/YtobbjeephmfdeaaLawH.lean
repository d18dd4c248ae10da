/- The laws' own helpers: made, picked, some. -/
import Derived.Test.YtobbjeephmfdeaaJoinB
import Derived.Test.YtobbjeephmfdeaaFitA
import Derived.Test.YtobbjeephmfdeaaMtxW
import Derived.Deep.LoopGhost
namespace Go.Proofs.Ytobbjeephmfdeaa
open Go.RowKit Go.Coop
set_option maxRecDepth 100000

theorem bhop' {w w1 w2 : World} (h : Below w.heap.size w w1) (k : Below w1.heap.size w1 w2) : Below w.heap.size w w2 := h.trans (k.mono h.size)
theorem make31u (k : Nat) (hk : k ≤ 255) (W : World) : (Instr.makeSlice 31 (.int .u8 (k : Int)) (.int .u8 (k : Int))).run Try.prog W = .ok (.slice (some ⟨W.heap.size, 0, none⟩) k k) (W.alloc (.cells (rowC k (fun _ => 0)) 5)) := by
  obtain ⟨i, hi, hz, hs, hb⟩ := info5b
  have := run_make (P := Try.prog) W 31 5 i (.int .u8 0) Try.underlying31 hi hz .u8 .u8 k k (by omega) (by omega) (by rw [hb]; omega) (by omega)
  rw [hs, Int.toNat_natCast, made_rowC] at this
  exact this
/-- what made answers -/
def MadeL (w : World) (n k s : Nat) (D : Fn2) (e : Ending) (w' : World) : Prop :=
  ∃ g gf A c S d, e = .returned (.tuple #[.pointer (some ⟨g, 0, none⟩), .slice S k d, .bool true]) ∧ CodeAt w' g n k gf A c ∧ MO w' w.heap.size w.heap.size S k d (tabM k s D) ∧ k ≤ d ∧ Below w.heap.size w w'
set_option maxHeartbeats 2000000 in
theorem lmade_any (kz mz sz : Nat) (B : Option Addr) (m d : Nat) (l : List UInt8) (w : World) (h : Rd w B m l) (hmd : m ≤ d) (h1 : kz < 256) (h2 : mz < 256) (h3 : sz < 256) :
    Calls Try.prog 36 #[.int .u8 (kz : Int), .int .u8 (mz : Int), .int .u8 (sz : Int), .slice B m d] w (MadeL w (1 + kz % 8 + mz % 9) (1 + kz % 8) (sz % 21) (cutF (sz % 21) l)) := by
  have HR := Lib.hid h
  have hll : Hid (l.length = m) := h.len
  obtain ⟨k, hk⟩ : ∃ k, k = 1 + kz % 8 := ⟨_, rfl⟩
  obtain ⟨n, hn⟩ : ∃ n, n = 1 + kz % 8 + mz % 9 := ⟨_, rfl⟩
  obtain ⟨s, hs⟩ : ∃ s, s = sz % 21 := ⟨_, rfl⟩
  have hk' : (1 : Int) + (kz : Int) % 8 = (k : Int) := by omega
  have hn' : (k : Int) + (mz : Int) % 9 = (n : Int) := by omega
  have hs' : (sz : Int) % 21 = (s : Int) := by omega
  have hk1 : 1 ≤ k := by omega
  have hk8 : k ≤ 8 := by omega
  have hkn : k ≤ n := by omega
  have hn16 : n ≤ 16 := by omega
  have hs20 : s ≤ 20 := by omega
  have hmk := make31u s (by omega)
  rw [← hn, ← hk, ← hs]
  clear h hk hn hs
  obtain ⟨C, hC⟩ : ∃ C, rowC s (fun _ => (0 : UInt8)) = C := ⟨_, rfl⟩
  have HC := Lib.hid hC
  rw [hC] at hmk
  clear hC
  go_enter Try.func36, Try.ntmps36
  go_wp2_with fail
  refine (new_any _).mono ?_
  rintro e w1 ⟨g0, rfl, hF, hg, hB⟩
  have HF := Lib.hid hF
  have HB1 := Lib.hid hB
  clear hF hg hB
  go_wp2_with fail
  refine (cnew_yes g0 n k w1 HF.out hk1 hkn (by omega)).mono ?_
  rintro e w2 ⟨g, gf, A, c, rfl, hCd, hB⟩
  have HCd := Lib.hid hCd
  have HB2 : Hid (Below w.heap.size w w2) := bhop' HB1.out hB
  clear hCd hB HB1 HF
  go_wp2_with fail
  go_loopw [14, 15] (fun v i wr => ∃ (q : Nat) (S : Option Addr) (e : Nat), q ≤ k ∧ i = .int .i64 q ∧ v = .slice S q e ∧ q ≤ e ∧ Hid (MO wr w2.heap.size w2.heap.size S q e (tabM q s (cutF s l))) ∧ Hid (Below w2.heap.size w2 wr)) (fun _ i _ => k - (intOf i).toNat)
  case atStart => exact ⟨0, none, 0, by omega, rfl, rfl, by omega, MO.nil _ _ _, Below.refl _ _⟩
  case round =>
    obtain ⟨q, S, e, hq, rfl, rfl, hqe, HM, HB⟩ := hrel
    have HBw : Hid (Below w.heap.size w wr) := bhop' HB2.out HB.out
    have hws := HB.out.size
    have HZ : Hid (Go.Coop.Own (wr.alloc (.cells C 5)) w2.heap.size 5 (some ⟨wr.heap.size, 0, none⟩) s s (rowL s fun _ => 0)) := by
      have := own_zero wr s (by omega)
      rw [HC.out] at this
      exact this.lower hws
    by_cases hlt : q < k
    · obtain ⟨at0, hat⟩ : ∃ at0, q * s = at0 := ⟨_, rfl⟩
      have hatm : (q : Int) * (s : Int) = (at0 : Int) := by rw [← Int.natCast_mul, hat]
      have hat9 : at0 ≤ 8 * 20 := by rw [← hat]; exact Nat.mul_le_mul (by omega) hs20
      have hwm : IntKind.i64.wrap ((q : Int) * (s : Int)) = (at0 : Int) := by rw [hatm, IntWalk.i64_in _ (by omega)]
      have HAT := Lib.hid hat
      by_cases hfm : at0 < m
      · have hsl := slice_l (P := Try.prog) 31 Try.underlying31 info5 B m d at0 (by omega)
        have HRd : Hid (Rd (wr.alloc (.cells C 5)) (cutA B d at0) (m - at0) (l.drop at0)) := ((HR.out.below HBw.out (Nat.le_refl _)).drop (by omega) hmd).alloc _
        have HN : Hid ((wr.alloc (.cells C 5)).heap[wr.heap.size]? = some (.cells (bvs (rowL s fun _ => 0)).toArray 5 (0, 0))) := by
          show _ = _
          rw [heap_alloc_new, ← HC.out]; rfl
        have hatl : (at0 : Int) < m := by omega
        clear hat hatm
        obtain ⟨N, hN⟩ : ∃ N, N = min (m - at0) s := ⟨_, rfl⟩
        have HNN := Lib.hid hN
        clear hN
        have hrow : (l.drop at0).take s ++ (rowL s fun _ => (0 : UInt8)).drop (m - at0) = rowL s (cutF s l q) := by rw [← cut_row, HAT.out, hll.out]
        have HROW := Lib.hid hrow
        clear hrow
        have key : ∀ w3 : World, Hid (w3.heap[wr.heap.size]? = some (.cells (bvs ((l.drop at0).take s ++ (rowL s fun _ => (0 : UInt8)).drop (m - at0))).toArray 5 (0, 0))) → Below wr.heap.size (wr.alloc (.cells C 5)) w3 →
            MO w3 w2.heap.size w2.heap.size S q e (tabM q s (cutF s l)) ∧ Go.Coop.Own w3 w2.heap.size 5 (some ⟨wr.heap.size, 0, none⟩) s s (rowL s (cutF s l q)) ∧ Below w2.heap.size w2 w3 := by
          intro w3 HG3 hB3
          have hg := HG3.out
          rw [HROW.out] at hg
          have hBx : Below wr.heap.size wr w3 := ((Below.refl wr.heap.size wr).alloc (Nat.le_refl _) (.cells C 5)).trans hB3
          refine ⟨HM.out.below hBx (Nat.le_refl _), ⟨rowL_len _ _, by simp [bvs, rowL], .inr ⟨wr.heap.size, s, _, rfl, hws, hg, Nat.le_refl _, by simp only [maxLen]; omega, by simp [bvs, rowL], ?_⟩⟩, HB.out.trans (hBx.mono hws)⟩
          have e : (bvs (rowL s (cutF s l q))).toArray.toList = bvs (rowL s (cutF s l q)) := rfl
          rw [e, Nat.mul_one, List.take_of_length_le (by rw [bvs_length, rowL_len]; omega)]
        have KEY := Lib.hid key
        clear key
        go_wp2_with (first
          | ((with_reducible refine wpList_copyB (o := ⟨some 56, _, _, _, _, _⟩) rfl (.tmp 52) (.tmp 55) 31 31 rfl Try.underlying31 wr.heap.size (cutA B d at0) s s (m - at0) (d - at0) ?_ ?_ (rowL s fun _ => 0) (l.drop at0) (rowL_len _ _) HN.out HRd.out N HNN.out ?_); exact rfl; exact rfl; intro w3 HG3 hB3 hs3; obtain ⟨hM3, hO3, hB3'⟩ := KEY.out w3 HG3 hB3; have HM3 := Lib.hid hM3; have HL3 := Lib.hid (lit_one hO3); have HB3 := Lib.hid hB3'; have hw32 := HB3.out.size; clear hM3 hO3 hB3 hB3' HG3 hs3)
          | (at_builtin; refine wpList_appMM _ rfl (.tmp 57) (.tmp 59) 32 Try.underlying32 rfl rfl (HM3.out.alloc _) rfl HL3.out (by omega) (by omega) (by simp; omega) (q + 1) rfl ?_; intro S' e' w4 hM4 hg4))
        have HBq : Hid (Below w2.heap.size w2 w4) := (HB3.out.alloc hw32 _).grown hg4 (by simp; omega) (fun j hj => (mo_block HM3.out j hj).1)
        go_roundw
        case rel => exact ⟨q + 1, S', e', by omega, by go_num, rfl, (by obtain ⟨vs, hv, _⟩ := hM4.out; exact hv.cap), by rw [tabM_snoc]; exact hM4, HBq.out⟩
        case measure => simp [intOf]; omega
      · have hrow : (rowL s fun _ => (0 : UInt8)) = rowL s (cutF s l q) := rowL_congr fun j _ => by
          unfold cutF
          rw [List.getD_eq_getElem?_getD, List.getElem?_eq_none (by rw [hll.out, hat]; omega)]
          rfl
        have HM3 := Lib.hid (HM.out.alloc (.cells C 5))
        have HO3 : Hid (Go.Coop.Own (wr.alloc (.cells C 5)) w2.heap.size 5 (some ⟨wr.heap.size, 0, none⟩) s s (rowL s (cutF s l q))) := by rw [← hrow]; exact HZ.out
        have HL3 := Lib.hid (lit_one HO3.out)
        rw [size_alloc] at HL3
        have HB3 : Hid (Below w2.heap.size w2 (wr.alloc (.cells C 5))) := HB.out.alloc hws _
        have hatl : ¬ (at0 : Int) < m := by omega
        clear hat hatm hrow
        go_wp2_with (at_builtin; refine wpList_appMM _ rfl (.tmp 57) (.tmp 59) 32 Try.underlying32 rfl rfl (HM3.out.alloc _) rfl HL3.out (by omega) (by omega) (by simp; omega) (q + 1) rfl ?_; intro S' e' w4 hM4 hg4)
        have HBq : Hid (Below w2.heap.size w2 w4) := (HB3.out.alloc (by simp; omega) _).grown hg4 (by simp; omega) (fun j hj => (mo_block HM3.out j hj).1)
        go_roundw
        case rel => exact ⟨q + 1, S', e', by omega, by go_num, rfl, (by obtain ⟨vs, hv, _⟩ := hM4.out; exact hv.cap), by rw [tabM_snoc]; exact hM4, HBq.out⟩
        case measure => simp [intOf]; omega
    · obtain rfl : q = k := by omega
      go_wp2
      refine bodyPost_ret (results_tmp3 rfl _ _ _) rfl ?_
      exact ⟨g, gf, A, c, S, e, rfl, HCd.out.below HB.out (Nat.le_refl _), HM.out.lower HB2.out.size HB2.out.size, hqe, HBw.out⟩
end Go.Proofs.Ytobbjeephmfdeaa
