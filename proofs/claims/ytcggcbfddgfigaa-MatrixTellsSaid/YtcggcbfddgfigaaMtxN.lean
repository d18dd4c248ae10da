/- The laws' own helpers: square, some, copies. -/
import Derived.Test.YtcggcbfddgfigaaMtxM
namespace Go.Proofs.Ytcggcbfddgfigaa
open Go.RowKit Go.Coop

/-- a square matrix of bytes -/
def sqF (n : Nat) (l : List UInt8) : Fn2 := fun i j => l.getD (i * n + j) 0
theorem sq_at {n i j : Nat} {l : List UInt8} {x : UInt8} (h : l[i * n + j]? = some x) : sqF n l i j = x := by
  unfold sqF; rw [List.getD_eq_getElem?_getD, h]; rfl
theorem sq_none {n i j : Nat} {l : List UInt8} (h : l.length ≤ i * n + j) : sqF n l i j = 0 := by
  unfold sqF; rw [List.getD_eq_getElem?_getD, List.getElem?_eq_none h]; rfl
theorem tabM_snoc (q k : Nat) (F : Fn2) : tabM (q + 1) k F = tabM q k F ++ [rowL k (F q)] := by simp [tabM, List.range_succ]

set_option maxHeartbeats 1000000 in
set_option maxRecDepth 100000 in
theorem square_any (n : Nat) (B : Option Addr) (m d : Nat) (l : List UInt8) (w : World) (h : Rd w B m l) (hn : n ≤ 12) (hm : m ≤ 9223372036854775807) :
    Calls Try.prog 31 #[.int .i64 (n : Int), .slice B m d] w fun e w' => ∃ A c, e = .returned (.slice A n c) ∧ MO w' w.heap.size w.heap.size A n c (tabM n n (sqF n l)) ∧ Below w.heap.size w w' := by
  have hm2 := make26 n (by omega)
  have HR := Lib.hid h
  have HL := Lib.hid h.len
  clear h
  go_enter Try.func31, Try.ntmps31
  go_wp2
  go_loopw [5, 6] (fun v i wr => ∃ (q : Nat) (A : Option Addr) (c : Nat), q ≤ n ∧ i = .int .i64 q ∧ v = .slice A q c ∧ Hid (MO wr w.heap.size w.heap.size A q c (tabM q n (sqF n l))) ∧ Hid (Below w.heap.size w wr)) (fun _ i _ => n - (intOf i).toNat)
  case atStart => exact ⟨0, none, 0, by omega, rfl, rfl, MO.nil _ _ _, Below.refl _ _⟩
  case round =>
    obtain ⟨q, A, c, hq, rfl, rfl, HM, HB⟩ := hrel
    by_cases hlt : q < n
    · obtain ⟨wo, rfl⟩ : ∃ wo : World, wo = wr := ⟨_, rfl⟩
      obtain ⟨P, hP⟩ : ∃ P, q * n = P := ⟨_, rfl⟩
      have hPb : P ≤ 144 := by rw [← hP]; exact Nat.le_trans (Nat.mul_le_mul (show q ≤ 12 by omega) hn) (by omega)
      have hmul : (q : Int) * (n : Int) = (P : Int) := by rw [← hP]; exact (Int.natCast_mul q n).symm
      have HP := Lib.hid hP
      obtain ⟨b, hb⟩ : ∃ b, wo.heap.size = b := ⟨_, rfl⟩
      clear hP
      go_wp2
      try rw [hb]
      go_loopw [8] (fun i wr => ∃ j : Nat, j ≤ n ∧ i = .int .i64 j ∧ Hid (wr.heap[b]? = some (.cells (rowC n (fun x => if x < j then sqF n l q x else 0)) 5 (0, 0))) ∧ Hid (Below b wo wr)) (fun i _ => n - (intOf i).toNat)
      case atStart =>
        refine ⟨0, by omega, rfl, ?_, ?_⟩
        · show (wo.alloc _).heap[b]? = _
          rw [← hb, heap_alloc_new]
          simp
        · exact ((Below.refl _ _).alloc (by omega) _)
      case round =>
        obtain ⟨j, hj, rfl, HC, HW⟩ := hrel
        clear hm2
        by_cases hjn : j < n
        · have hc := cell_of_row _ _ j _ 5 (0, 0) HC.out
          have hf := frozen_of_row _ _ j _ 5 HC.out
          rw [rowC_at _ hjn] at hc
          unfold BV at hc
          generalize ((if j < j then sqF n l q j else 0 : UInt8).toNat : Int) = X at *
          by_cases hin : P + j < m
          · obtain ⟨ad, y, rfl, _, hy, hcy⟩ := ((HR.out.below HB.out (Nat.le_refl _)).below HW.out (by omega)).at_ hin
            unfold BV at hcy
            obtain ⟨Y, hY⟩ : ∃ Y, y.toNat = Y := ⟨_, rfl⟩
            rw [hY] at hcy
            have HY := Lib.hid (And.intro hy hY)
            clear hy hY
            have hi0 : (0 : Int) ≤ (P : Int) + (j : Int) := by omega
            have hi1 : (P : Int) + (j : Int) < (m : Int) := by omega
            have hnat : ((P : Int) + (j : Int)).toNat = P + j := by omega
            go_wp2
            go_roundw
            case rel =>
              refine ⟨j + 1, by omega, by go_num, ?_, HW.out.setCell (Nat.le_refl _) _⟩
              have hs := heap_setCell_same wr b j _ 5 (BV (sqF n l q j)) HC.out
              rw [rowC_set] at hs
              have hbv : Value.int .u8 (Y : Int) = BV (sqF n l q j) := by
                have e : sqF n l q j = y := sq_at (by rw [HP.out]; exact HY.out.1)
                unfold BV; rw [e, HY.out.2]
              rw [hbv]
              refine hs.trans ?_
              congr 3
              funext i
              by_cases e : i = j
              · rw [if_pos e, if_pos (by omega), e]
              · rw [if_neg e]
                by_cases e2 : i < j
                · rw [if_pos e2, if_pos (by omega)]
                · rw [if_neg e2, if_neg (by omega)]
            case measure => simp [intOf]; omega
          · go_wp2
            go_roundw
            case rel =>
              refine ⟨j + 1, by omega, by go_num, ?_, HW.out⟩
              refine HC.out.trans ?_
              congr 3
              funext i
              by_cases e : i = j
              · subst e
                rw [if_neg (by omega), if_pos (by omega), sq_none (by rw [HP.out, HL.out]; omega)]
              · by_cases e2 : i < j
                · rw [if_pos e2, if_pos (by omega)]
                · rw [if_neg e2, if_neg (by omega)]
            case measure => simp [intOf]; omega
        · obtain rfl : j = n := by omega
          have hbs := HB.out.size
          have HM2 := Lib.hid (HM.out.below HW.out (by omega))
          have HO2 : Hid (Own wr w.heap.size 5 (some ⟨b, 0, none⟩) j j (rowL j (sqF j l q))) := by
            have e : rowC j (fun x => if x < j then sqF j l q x else 0) = rowC j (sqF j l q) := by unfold rowC; rw [rowL_congr fun x hx => if_pos hx]
            have h1 := HC.out
            rw [e] at h1
            refine ⟨rowL_len _ _, by simp [bvs, rowL], .inr ⟨b, j, _, rfl, by omega, h1, Nat.le_refl _, by simp [maxLen]; omega, by simp [rowC, bvs, rowL], ?_⟩⟩
            have e1 : (rowC j (sqF j l q)).toList = bvs (rowL j (sqF j l q)) := rfl
            rw [e1, Nat.mul_one, List.take_of_length_le (by rw [bvs_length, rowL_len]; omega)]
          have HB2 := Lib.hid (HB.out.trans (HW.out.mono (by omega)))
          go_wp2_with (at_builtin; refine wpList_appM _ rfl (.tmp 40) (.tmp 42) rfl rfl (HM2.out.alloc _) rfl (RdV.one _ _ _ _) (rowL_len _ _) (HO2.out.alloc _) (by omega) (by rw [size_alloc]; have := HB2.out.size; omega) (q + 1) rfl ?_; intro A2 c2 w2 hM2 hg2)
          have HM3 := Lib.hid hM2
          have HB3 : Hid (Below w.heap.size w w2) := (HB2.out.alloc HB2.out.size _).grown hg2 (by rw [size_alloc]; have := HB2.out.size; omega) (fun k hk => (mo_block HM2.out k hk).1)
          clear hM2 hg2
          go_roundw
          case rel => exact ⟨q + 1, A2, c2, by omega, by go_num, rfl, by rw [tabM_snoc]; exact HM3.out, HB3.out⟩
          case measure => simp [intOf]; omega
    · obtain rfl : q = n := by omega
      go_wp2
      go_ret
      exact ⟨A, c, rfl, HM.out, HB.out⟩
end Go.Proofs.Ytcggcbfddgfigaa
