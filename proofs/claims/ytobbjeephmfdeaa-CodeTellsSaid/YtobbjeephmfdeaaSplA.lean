/- A piece cut into shards, filled up with noughts. -/
import Derived.Test.YtobbjeephmfdeaaCodF
import Derived.Laws.CopyOwn
namespace Go.Proofs.Ytobbjeephmfdeaa
open Go.RowKit Go.Coop
set_option maxRecDepth 100000

theorem splice_zero {α : Type} (L cs : List α) : splice L 0 cs = cs ++ L.drop cs.length := by simp [splice]
/-- bytes copied onto the head of a row of bytes -/
theorem wpList_copyB {w : World} {ops : Array Oper} {rest : List Oper} {o : Oper} {a : Act} {Q : Exit → Act → World → Prop} (hgd : o.guard = none) (d s : Operand) (dT sT : TypeId)
    (ho : o.op = .call { callee := .builtin .copy, args := #[d, s], argTypes := #[dT, sT] }) (hu : Try.prog.underlying dT = some (.slice 5))
    (g : Nat) (sp : Option Addr) (dLen dCap sLen sCap : Nat) (hd : a.eval d = .slice (some ⟨g, 0, none⟩) dLen dCap) (hs : a.eval s = .slice sp sLen sCap)
    (cur l : List UInt8) (hcur : cur.length = dLen) (hg : w.heap[g]? = some (.cells (bvs cur).toArray 5 (0, 0))) (hr : Rd w sp sLen l) (N : Nat) (hN : N = min sLen dLen)
    (h : ∀ w', Hid (w'.heap[g]? = some (.cells (bvs (l.take dLen ++ cur.drop sLen)).toArray 5 (0, 0))) → Below g w w' → w'.heap.size = w.heap.size → wpList Try.prog ops Q rest (a.put o.dst (.int .i64 (N : Int))) w') :
    wpList Try.prog ops Q (o :: rest) a w := by
  have hsz : (Try.prog.info? 5).map (·.size) = some 1 := by kernel_rfl
  by_cases h0 : N = 0
  · have hmin : Nat.min sLen dLen = 0 := by have : min sLen dLen = 0 := by omega
                                            exact this
    refine wpList_copy_nothing hgd d s dT sT ho 5 hu hsz _ sp dLen dCap sLen sCap hd hs hmin ?_
    subst h0
    have e : l.take dLen ++ cur.drop sLen = cur := by
      have hl := hr.len
      rcases Nat.eq_zero_or_pos sLen with h1 | h1
      · have : l = [] := List.eq_nil_of_length_eq_zero (by omega)
        rw [this, h1]; simp
      · have h2 : dLen = 0 := by omega
        have : cur = [] := List.eq_nil_of_length_eq_zero (by omega)
        rw [this, h2]; simp
    exact h w (by show _ = _; rw [e]; exact hg) (Below.refl _ _) rfl
  · have hl := hr.len
    obtain ⟨ad, rfl, hlt, hc⟩ : ∃ ad, sp = some ad ∧ ad.block < w.heap.size ∧ ∀ (j : Nat) (c : UInt8), l[j]? = some c → w.cell? (ad.add j) = some (BV c) := hr.cells (by omega)
    have hlen : (bvs (l.take dLen)).length = Nat.min sLen dLen := by
      rw [bvs_length, List.length_take, hl]; exact Nat.min_comm _ _
    have hN2 : (bvs (l.take dLen)).length = N := by rw [hlen]; exact hN.symm
    refine wpList_copy_own hgd d s dT sT ho 5 hu hsz g 0 dLen dCap ad sLen sCap hd hs (bvs cur).toArray 5 hg (bvs (l.take dLen)) hlen (fun j v hj => ?_) (by simp [bvs_length]; omega) (bvs_one _) ?_
    · obtain ⟨c, hc1, rfl⟩ := bvs_at hj
      rw [List.getElem?_take] at hc1
      split at hc1
      · exact hc j c hc1
      · cases hc1
    · rw [hN2]
      have e : ((bvs cur).toArray.toList.take 0 ++ (bvs (l.take dLen) ++ (bvs cur).toArray.toList.drop (0 + N))).toArray = (bvs (l.take dLen ++ cur.drop sLen)).toArray := by
        rw [bvs_append]
        have e1 : (bvs cur).toArray.toList = bvs cur := rfl
        rw [e1, List.take_zero, List.nil_append, Nat.zero_add]
        have e2 : (bvs cur).drop N = bvs (cur.drop sLen) := by
          unfold bvs
          rw [← List.map_drop]
          congr 1
          by_cases h3 : sLen ≤ dLen
          · rw [show N = sLen by omega]
          · rw [List.drop_eq_nil_of_le (by omega), List.drop_eq_nil_of_le (by omega)]
        rw [e2]
      rw [e]
      refine h _ ?_ (below_setRow (Below.refl _ _) (Nat.le_refl _) _) (by simp [World.setRow])
      show _ = _
      exact setRow_heap w g _ _ 5 _ hg

/-- the shard of a piece -/
def cutF (size : Nat) (l : List UInt8) : Fn2 := fun i j => l.getD (i * size + j) 0
theorem cut_row (size q : Nat) (l : List UInt8) : (l.drop (q * size)).take size ++ (rowL size fun _ => (0 : UInt8)).drop (l.length - q * size) = rowL size (cutF size l q) := by
  apply List.ext_getElem?
  intro j
  by_cases hj : j < size
  · rw [rowL_at _ hj, List.getElem?_append]
    by_cases h : q * size + j < l.length
    · rw [if_pos (by rw [List.length_take, List.length_drop]; omega), List.getElem?_take, if_pos hj, List.getElem?_drop, List.getElem?_eq_getElem h]
      unfold cutF
      rw [List.getD_eq_getElem?_getD, List.getElem?_eq_getElem h]
      rfl
    · rw [if_neg (by rw [List.length_take, List.length_drop]; omega), List.length_take, List.length_drop, List.getElem?_drop, rowL_at _ (by omega)]
      unfold cutF
      rw [List.getD_eq_getElem?_getD, List.getElem?_eq_none (by omega)]
      rfl
  · rw [List.getElem?_eq_none (by rw [List.length_append, List.length_take, List.length_drop, List.length_drop, rowL_len]; omega), List.getElem?_eq_none (by rw [rowL_len]; omega)]

theorem make32 (n k : Nat) (hk : n ≤ 1099511627776) (W : World) : (Instr.makeSlice 32 (.int .i64 (n : Int)) (.int .i64 (n : Int))).run Try.prog W = .ok (.slice (some ⟨W.heap.size, 0, none⟩) n n) (W.alloc (.cells (outC W.heap.size n k 0) 31)) := by
  obtain ⟨i, hi, hz, hs, hb⟩ := info_parts info31
  have := run_make (P := Try.prog) W 32 31 i (.slice none 0 0) Try.underlying32 hi hz .i64 .i64 n n (by omega) (by omega) (by rw [hb]; omega) (by omega)
  rw [hs, Int.toNat_natCast, made_outC W.heap.size n k] at this
  exact this

/-- the rows so far -/
structure MidF (w : World) (g n k q : Nat) (F : Fn2) : Prop where
  out : w.heap[g]? = some (.cells (outC g n k q) 31 (0, 0))
  rows : ∀ i, i < q → w.heap[g + 1 + i]? = some (.cells (rowC k (F i)) 5 (0, 0))

set_option maxHeartbeats 1000000 in
theorem cut_any (B : Option Addr) (len cap many size : Nat) (l : List UInt8) (w : World) (h : Rd w B len l) (hlc : len ≤ cap) (hm : many ≤ 1000) (hs : size ≤ 65536) :
    Calls Try.prog 52 #[.slice B len cap, .int .i64 (many : Int), .int .i64 (size : Int)] w fun e w' => e = .returned (.slice (some ⟨w.heap.size, 0, none⟩) many many) ∧ MO w' w.heap.size w.heap.size (some ⟨w.heap.size, 0, none⟩) many many (tabM many size (cutF size l)) ∧ Below w.heap.size w w' := by
  have hm1 := make32 many size (by omega)
  have hm2 := make31 size (by omega)
  have H := Lib.hid h
  have hll : Hid (l.length = len) := h.len
  clear h
  go_enter Try.func52, Try.ntmps52
  go_wp2
  go_loopw [0, 13] (fun p i wr => ∃ (q : Nat) (X : Option Addr) (cx : Nat), q ≤ many ∧ i = .int .i64 q ∧ p = .slice X (len - q * size) cx ∧ len - q * size ≤ cx ∧ Hid (Rd w X (len - q * size) (l.drop (q * size))) ∧ Hid (MidF wr w.heap.size many size q (cutF size l)) ∧ Hid (Below w.heap.size w wr) ∧ Hid (wr.heap.size = w.heap.size + 1 + q)) (fun _ i _ => many - (intOf i).toNat)
  case atStart => exact ⟨0, B, cap, by omega, rfl, by simp, by simp; exact hlc, by rw [Nat.zero_mul, Nat.sub_zero, List.drop_zero]; exact H.out, ⟨heap_alloc_new w _, fun i hi => by omega⟩, (Below.refl _ _).alloc (Nat.le_refl _) _, by show _ = _; simp⟩
  case round =>
    obtain ⟨q, X, cx, hq, rfl, rfl, hcx, HR, HM, HB, HS⟩ := hrel
    clear hm1
    by_cases hlt : q < many
    · have hg : (wr.alloc (.cells (rowC size (fun _ => 0)) 5)).heap[w.heap.size]? = some (.cells (outC w.heap.size many size q) 31 (0, 0)) := (Below.heap_alloc _ _ _ (by have := HS.out; omega)).trans HM.out.out
      have hc := cell_of_row _ _ q _ 31 (0, 0) hg
      rw [outC_at hlt, if_neg (by omega)] at hc
      have hf := frozen_of_row _ _ q _ 31 hg
      obtain ⟨w1, hw1⟩ : ∃ w1, (wr.alloc (.cells (rowC size (fun _ => 0)) 5)).setCell ⟨w.heap.size, q, none⟩ (.slice (some ⟨wr.heap.size, 0, none⟩) size size) = w1 := ⟨_, rfl⟩
      have HG1 : Hid (w1.heap[w.heap.size]? = some (.cells (outC w.heap.size many size (q + 1)) 31 (0, 0))) := by
        show _ = _
        rw [← hw1, heap_setCell_same _ _ q _ 31 _ hg, HS.out, outC_set]
      have HN1 : Hid (w1.heap[wr.heap.size]? = some (.cells (bvs (rowL size fun _ => 0)).toArray 5 (0, 0))) := by
        show _ = _
        rw [← hw1, Below.heap_setCell _ _ _ _ (by have := HS.out; show wr.heap.size ≠ w.heap.size; omega)]
        exact heap_alloc_new wr _
      have HR1 : Hid (∀ i, i < q → w1.heap[w.heap.size + 1 + i]? = some (.cells (rowC size (cutF size l i)) 5 (0, 0))) := fun i hi => by
        rw [← hw1, Below.heap_setCell _ _ _ _ (by show w.heap.size + 1 + i ≠ w.heap.size; omega)]
        exact (Below.heap_alloc _ _ _ (by have := HS.out; omega)).trans (HM.out.rows i hi)
      have HB1 : Hid (Below w.heap.size w w1) := by
        show Below _ _ _
        rw [← hw1]
        exact (HB.out.alloc HB.out.size _).setCell (Nat.le_refl _) _
      have HS1 : Hid (w1.heap.size = w.heap.size + 1 + q + 1) := by
        show _ = _
        rw [← hw1]
        have := HS.out
        simp [World.setCell]
        omega
      have hc1 : w1.cell? ⟨w.heap.size, q, none⟩ = some (.slice (some ⟨wr.heap.size, 0, none⟩) size size) := by
        rw [← hw1]
        exact World.cell?_setCell_same _ _ _ hc
      have HW1 := Lib.hid hw1
      have hqm : (q : Int) < many := by omega
      clear hg
      generalize hR : rowC size (fun _ => (0 : UInt8)) = R at *
      have HRr := Lib.hid hR
      clear hR
      have hcs : ∃ cs, cs = min (len - q * size) size := ⟨_, rfl⟩
      obtain ⟨cs, hcs⟩ := hcs
      have hcs1 : cs ≤ len - q * size := by omega
      have HCS := Lib.hid hcs
      have hsl := slice_l (P := Try.prog) 31 Try.underlying31 info5 X (len - q * size) cx cs hcs1
      obtain ⟨rem, hrem⟩ : ∃ rem, len - q * size = rem := ⟨_, rfl⟩
      have HREM := Lib.hid hrem
      rw [hrem] at hsl hcs1 hcx
      rw [hrem]
      clear hcs hrem
      have HX : Hid (Rd w1 X rem (l.drop (q * size))) := by
        have h1 := HR.out
        rw [HREM.out] at h1
        exact h1.below HB1.out (Nat.le_refl _)
      go_wp2_with ((with_reducible refine wpList_copyB (o := ⟨some 27, _, _, _, _, _⟩) rfl (.tmp 25) (.tmp 26) 31 31 rfl Try.underlying31 wr.heap.size X size size rem cx ?_ ?_ (rowL size fun _ => 0) (l.drop (q * size)) (rowL_len _ _) HN1.out HX.out cs (by rw [← HREM.out]; exact HCS.out) ?_); exact rfl; exact rfl; intro w2 HG2 hB2 hs2; have HB2 := Lib.hid hB2; have HS2 := Lib.hid hs2; clear hB2 hs2)
      go_roundw
      case rel =>
        have hsz := HS.out
        have e1 : (q + 1) * size = q * size + size := by rw [Nat.succ_mul]
        have e2 : len - (q + 1) * size = rem - cs := by have := HREM.out; have := HCS.out; omega
        have e3 : l.drop ((q + 1) * size) = (l.drop (q * size)).drop cs := by
          rw [List.drop_drop]
          have := HCS.out
          have := hll.out
          by_cases h : size ≤ len - q * size
          · rw [e1, show cs = size by omega]
          · rw [List.drop_eq_nil_of_le (by omega), List.drop_eq_nil_of_le (by omega)]
        have hR0 : Rd w X rem (l.drop (q * size)) := by have h1 := HR.out; rwa [HREM.out] at h1
        have hR1 : Rd w (cutA X cx cs) (len - (q + 1) * size) (l.drop ((q + 1) * size)) := by rw [e2, e3]; exact hR0.drop hcs1 hcx
        refine ⟨q + 1, cutA X cx cs, cx - cs, by omega, by go_num, by rw [e2], by rw [e2]; omega, hR1, ⟨?_, ?_⟩, ?_, ?_⟩
        · rw [HB2.out.block _ (by omega)]
          exact HG1.out
        · intro i hi
          by_cases e : i < q
          · rw [HB2.out.block _ (by omega)]
            exact HR1.out i e
          · obtain rfl : i = q := by omega
            rw [← hsz, HG2.out]
            unfold rowC
            rw [← cut_row, hll.out, HREM.out]
        · exact HB1.out.trans (HB2.out.mono (by omega))
        · show _ = _
          rw [HS2.out]; exact HS1.out
      case measure => simp [intOf]; omega
    · obtain rfl : q = many := by omega
      go_wp2
      go_ret
      exact ⟨rfl, (Grid.mo ⟨HM.out.out, HM.out.rows⟩ (by simp only [maxLen]; omega) (by simp only [maxLen]; omega)), HB.out⟩
end Go.Proofs.Ytobbjeephmfdeaa
