/- RoundSafe's walk. -/
import Derived.Test.YtciihebaameccaaRndM
import Derived.Test.YtciihebaameccaaRndS
import Derived.Deep.CutRange
import Derived.Deep.CutBlock
namespace Go.Proofs.Ytciihebaameccaa
open Go.RowKit Go.Coop
set_option maxRecDepth 100000
theorem info4 : (Try.prog.info? 4).map (fun i => (i.zero, i.size, i.bytes)) = some (some (.bool false), 1, 1) := by kernel_rfl
def zrb (n : Nat) : List Value := (List.replicate n false).map Value.bool
theorem made4 (n : Nat) : madeCells (Value.bool false).cells (n * 1) = ((List.replicate n false).map Value.bool).toArray := by
  apply Array.ext_getElem?
  intro j
  by_cases h : j < n
  · simp [madeCells, h, Value.cells, Nat.mod_one]
  · rw [Array.getElem?_eq_none (by simp [madeCells]; omega), Array.getElem?_eq_none (by simp; omega)]
theorem make53 (n : Nat) (hk : n ≤ 1000000) (W : World) : (Instr.makeSlice 53 (.int .i64 (n : Int)) (.int .i64 (n : Int))).run Try.prog W = .ok (.slice (some ⟨W.heap.size, 0, none⟩) n n) (W.alloc (.cells (zrb n).toArray 4)) := by
  obtain ⟨i, hi, hz, hs, hb⟩ := info_parts info4
  have := run_make (P := Try.prog) W 53 4 i (.bool false) Try.underlying53 hi hz .i64 .i64 n n (by omega) (by omega) (by rw [hb]; omega) (by omega)
  rw [hs, Int.toNat_natCast, made4] at this
  exact this
/-- who has said so, in memory -/
structure SDat (wr : World) (b8 n : Nat) (sd : List Bool) : Prop where
  row : wr.heap[b8]? = some (.cells (sd.map Value.bool).toArray 4 (0, 0))
  len : sd.length = n
theorem SDat.below {wr wc : World} {b8 n : Nat} {sd : List Bool} (h : SDat wr b8 n sd) (hb : Below wr.heap.size wr wc) : SDat wc b8 n sd := ⟨(hb.block _ (lt_of_block h.row)).trans h.row, h.len⟩
theorem SDat.set {wr : World} {b8 n : Nat} {sd : List Bool} (h : SDat wr b8 n sd) (k : Nat) (v : Bool) : SDat (wr.setCell ⟨b8, k, none⟩ (.bool v)) b8 n (sd.set k v) := by
  refine ⟨?_, by rw [List.length_set]; exact h.len⟩
  rw [heap_setCell_same wr b8 k _ 4 (.bool v) h.row]
  simp [List.map_set]
theorem SDat.get {wr : World} {b8 n : Nat} {sd : List Bool} (h : SDat wr b8 n sd) {k : Nat} (hk : k < n) : ∃ y, sd[k]? = some y ∧ wr.cell? ⟨b8, k, none⟩ = some (.bool y) ∧ wr.frozen? ⟨b8, k, none⟩ = false := by
  have hl := h.len
  refine ⟨sd[k], List.getElem?_eq_getElem (by omega), ?_, frozen_of_row wr b8 k _ 4 h.row⟩
  rw [cell_of_row wr b8 k _ 4 (0, 0) h.row]
  simp [show k < sd.length by omega]
theorem LR.but8 {w wc wd : World} {b b8 : Nat} {r : Rn} {A : Option Addr} {n c : Nat} (h : LR w wc b r A n c) (hb : But [b8] wc wd) (h78 : b ≠ b8) (hA : ∀ j, A.map (·.block) = some j → j ≠ b8) (hle : w.heap.size ≤ b8) : LR w wd b r A n c :=
  ⟨hb.cells h.row (by simpa using h78), h.rd.but hb (fun j hj hm => hA j hj (by simpa using hm)), h.right, h.len, h.bel.trans (hb.below (B := w.heap.size) h.bel.size (by intro g hg; simp at hg; omega)), h.le⟩
/-- what the loop keeps beside the round -/
structure SInv (wr : World) (b7 b8 n : Nat) (r : Rn) (A : Option Addr) (sd : List Bool) (pb gb : Bool) : Prop where
  dat : SDat wr b8 n sd
  inv : SaidI r sd
  pub : pb = decide (r.ph = 3 ∨ r.ph = 4)
  giv : gb = decide (r.ph = 5 ∨ r.ph = 6)
  mks : ∀ j, A.map (·.block) = some j → j ≠ b8
section
variable (w : World)
set_option maxHeartbeats 16000000 in
theorem safe_law (n0 d0 : Int) (hn0 : 0 ≤ n0 ∧ n0 ≤ 255) (hd0 : 0 ≤ d0 ∧ d0 ≤ 255) {F : Option Addr} {m cF : Nat} {os : List OpR} (hF : OpsAt w F m os) : Calls Try.prog 5 #[.int .u8 n0, .int .u8 d0, .slice F m cF] w (Told w true) := by
  have HF := Lib.hid hF
  clear hF
  go_enter Try.func5, Try.ntmps5
  go_wp2_with fail
  refine (begun_is _ n0 d0 hn0 hd0).mono ?_
  rintro e w1 ⟨A1, c1, rfl, hr1, hb1⟩
  obtain ⟨r0, hr0⟩ : ∃ r, Bg n0 d0 = r := ⟨_, rfl⟩
  have HR0 := Lib.hid (hr0 ▸ bg_right n0 d0)
  have HLEN := Lib.hid (show r0.ms.length = manyOf n0 from hr0 ▸ bg_len n0 d0)
  rw [hr0] at hr1 ⊢
  obtain ⟨n, hn⟩ : ∃ n, manyOf n0 = n := ⟨_, rfl⟩
  rw [hn] at HLEN
  have HN : Hid (0 < n ∧ n ≤ 1000000) := by show _ ∧ _; have := (manyOf_b (n := n0)).2; omega
  simp only [RVal, HLEN.out] at hr1 ⊢
  have HR00 := Lib.hid hr0
  have HNN := Lib.hid hn
  clear hr0 hn
  obtain ⟨b7, hb7⟩ : ∃ b, w1.heap.size = b := ⟨_, rfl⟩
  obtain ⟨w2, hw2⟩ : ∃ z, w1.alloc (.cells #[.int .i64 r0.s, .int .i64 r0.v, .int .i64 r0.need, .int .i64 r0.ph, .slice A1 n c1] 26) = z := ⟨_, rfl⟩
  obtain ⟨hb2, hx2⟩ := box_new hw2
  rw [hb7] at hx2
  have HL0 : Hid (LR w w2 b7 r0 A1 n c1) := ⟨hx2, hr1.below hb2 (Nat.le_refl _), HR0.out, HLEN.out, hb1.trans (hb2.mono hb1.size), by have := hb1.size; omega⟩
  clear hx2 hr1 hb1 hb2
  have mk := make53 n (by have := HN.out; omega) w2
  obtain ⟨b8, hb8⟩ : ∃ b, w2.heap.size = b := ⟨_, rfl⟩
  obtain ⟨w2b, hw2b⟩ : ∃ z, w2.alloc (.cells (zrb n).toArray 4) = z := ⟨_, rfl⟩
  obtain ⟨hb2b, hx8⟩ := box_new hw2b
  rw [hb8] at hx8 mk
  rw [hw2b] at mk
  have HL1 := Lib.hid (HL0.out.below hb2b)
  have hb78 : b7 < b8 := by rw [← hb8]; exact lt_of_block HL0.out.row
  have H78 := Lib.hid hb78
  have HA1 : Hid (∀ j, A1.map (·.block) = some j → j ≠ b8) := fun jj hj => by
    obtain ⟨ad9, e9, h1, _⟩ := HL0.out.rd.cells HN.out.1
    rw [e9] at hj
    simp at hj
    omega
  have HS0 : Hid (SInv w2b b7 b8 n r0 A1 (List.replicate n false) false false) := ⟨⟨hx8, List.length_replicate⟩, said_start n r0 (fun mm hm => by
    rw [← HR00.out] at hm
    exact List.eq_of_mem_replicate hm) HLEN.out, by rw [← HR00.out]; rfl, by rw [← HR00.out]; rfl, HA1.out⟩
  have HB8 : Hid (w.heap.size ≤ b8) := by show _ ≤ _; have := HL0.out.bel.size; omega
  skip
  clear hx8 hb2b hb78 HA1
  go_wp2
  (try rw [hw2]); (try rw [hw2b]); (try rw [hb7]); (try rw [hb8])
  clear hw2 hb7 hw2b hb8 mk
  go_loopg [11, 12, 13, 14, 15, 16, 17, 18, 19] m (fun kx s11 s12 s13 _ _ _ _ _ _ wr => ∃ (j : Nat) (r : Rn) (A : Option Addr) (c : Nat) (pb gb : Bool) (sd : List Bool), j ≤ m ∧ m - j ≤ kx ∧ s13 = .int .i64 j ∧ s11 = .bool pb ∧ s12 = .bool gb ∧ Hid (LR w wr b7 r A n c) ∧ Hid (SInv wr b7 b8 n r A sd pb gb))
  case atStart => exact ⟨0, r0, A1, c1, false, false, List.replicate n false, Nat.zero_le _, by omega, rfl, rfl, rfl, HL1, HS0⟩
  case round =>
    clear HL0 HL1 HS0 HR0 HLEN HR00 HNN hn0 hd0
    obtain ⟨j, r, A, c, pb, gb, sd, hj, hk, rfl, rfl, rfl, HL, HS⟩ := hrel
    by_cases hlt : j < m
    · by_cases h60 : j < 80
      · have hj6 : (j : Int) < 80 := by omega
        have hw1 : IntKind.i64.wrap ((j : Int) + 1) = (j : Int) + 1 := IntWalk.i64_in _ (by omega)
        obtain ⟨o, ad, ho, hFa, hst⟩ := (HF.out.below HL.out.bel (Nat.le_refl _)).step hlt
        subst hFa
        have HST := Lib.hid hst
        obtain ⟨P, hP⟩ : ∃ P, r.does o = P := ⟨_, rfl⟩
        obtain ⟨Q, E⟩ := P
        have HQ := Lib.hid hP
        have HQL : Hid (Q.ms.length = n) := by show _ = _; have h1 := (does_len (r := r) o).1; rw [hP] at h1; exact h1.trans HL.out.len
        have HQR : Hid (RightR Q) := by show RightR _; have h1 := does_right HL.out.right o; rw [hP] at h1; exact h1
        have hi1 : (0 : Int) ≤ (j : Int) := by omega
        have hi2 : (j : Int) < (m : Int) := by omega
        clear ho hst hP
        obtain ⟨b14, hb14⟩ : ∃ b, wr.heap.size = b := ⟨_, rfl⟩
        obtain ⟨w3, hw3⟩ : ∃ z, wr.alloc (.cells #[.int .i64 o.kd, .int .i64 o.ix, .int .u8 o.op, .int .i64 o.e] 47) = z := ⟨_, rfl⟩
        obtain ⟨hb3, hx14⟩ := box_new hw3
        rw [hb14] at hx14
        have HL3 := Lib.hid (HL.out.below hb3)
        have HSD3 := Lib.hid (HS.out.dat.below hb3)
        have HX14 := Lib.hid hx14
        obtain ⟨⟨f0, f1, f2, f3, f4⟩, fbl⟩ := five26 HL3.out.row
        obtain ⟨i0, i1, i2, i3⟩ := HST.out wr (Below.refl _ _)
        obtain ⟨o0, o1, o2, o3⟩ := arr4 hx14
        have H14 : Hid (b8 < b14) := by show _ < _; rw [← hb14]; exact lt_of_block HS.out.dat.row
        clear hb3 hx14 HST
        go_wp2_with fail
        (try rw [hw3]); (try rw [hb14])
        clear hw3 hb14 i0 i1 i2 i3
        refine (does_is _ r.s r.v r.need r.ph HL3.out.rd HN.out.2 o.kd o.ix o.op o.e (P := (Q, E)) HQ.out).mono ?_
        rintro e' w4 ⟨A2, c2, he, hr9, hA9, hb9⟩
        subst he
        simp only [RVal, HQL.out] at hr9 ⊢
        clear f0 f1 f2 f3 f4 fbl o0 o1 o2 o3
        obtain ⟨b15, hb15⟩ : ∃ b, w4.heap.size = b := ⟨_, rfl⟩
        obtain ⟨w5, hw5⟩ : ∃ z, w4.alloc (.cells #[.int .i64 Q.s, .int .i64 Q.v, .int .i64 Q.need, .int .i64 Q.ph, .slice A2 n c2] 26) = z := ⟨_, rfl⟩
        obtain ⟨hb5, hx15⟩ := box_new hw5
        rw [hb15] at hx15
        have hb35 : Below w3.heap.size w3 w5 := hb9.trans (hb5.mono hb9.size)
        have HL5 := Lib.hid (HL3.out.below hb35)
        have HSD5 := Lib.hid (HSD3.out.below hb35)
        have HX145 := Lib.hid ((hb35.block _ (lt_of_block HX14.out)).trans HX14.out)
        have HLQ5 : Hid (LR w w5 b15 Q A2 n c2) := ⟨hx15, hr9.below hb5 (Nat.le_refl _), HQR.out, HQL.out, HL5.out.bel, by have := HL3.out.bel.size; have := hb9.size; omega⟩
        have H15 : Hid (b14 < b15) := by show _ < _; have := lt_of_block HX14.out; have := hb9.size; omega
        have HA2 : Hid (∀ jj, A2.map (·.block) = some jj → jj ≠ b8 ∧ jj ≠ b7) := fun jj hj => by
          have h1 := hA9 jj hj
          have h2 := lt_of_block HSD3.out.row
          have h3 := lt_of_block HL3.out.row
          omega
        clear hr9 hA9 hb9 hb5 hb35 hx15 HL3 HSD3 HX14
        obtain ⟨⟨q0, q1, q2, q3, q4⟩, qbl⟩ := five26 HLQ5.out.row
        obtain ⟨⟨f0, f1, f2, f3, f4⟩, fbl⟩ := five26 HL5.out.row
        go_upto_region 11 with (fail)
        (try rw [hw5]); (try rw [hb15])
        clear hw5 hb15
        go_cut [70] from 31 to 208 (fun v wc => v = .bool false ∧ Hid (Below w5.heap.size w5 wc))
        case first =>
          by_cases hE : E = 0
          · as_aux_lemma =>
              subst hE
              clear f0 f1 f2 f3 f4 fbl
              go_wp2_with fail
              refine (right_is _ Q.s Q.v Q.need Q.ph HLQ5.out.rd HN.out.2 (q := true) (decide_eq_true HQR.out)).mono ?_
              rintro e' w8 ⟨rfl, hb8⟩
              have HB8' := Lib.hid hb8
              have HLQ8 := Lib.hid (HLQ5.out.below hb8)
              clear hb8 q0 q1 q2 q3 q4 qbl
              obtain ⟨⟨q0, q1, q2, q3, q4⟩, qbl⟩ := five26 HLQ8.out.row
              go_wp2
              go_meet
              case rel => exact ⟨rfl, HB8'.out⟩
          · as_aux_lemma =>
              have u0 : (E == 0) = false := by simpa using hE
              have v0 : (E != 0) = true := by simpa using hE
              have hqr : Q = r := by have h1 := does_err (r := r) o; rw [HQ.out] at h1; exact h1 hE
              have HQr := Lib.hid hqr
              clear hE hqr
              go_wp2_with fail
              refine (sameR_is _ Q.s Q.v Q.need Q.ph r.s r.v r.need r.ph HLQ5.out.rd HL5.out.rd HN.out.2 (q := true) (decide_eq_true (by rw [HQr.out]; exact SameR.refl _))).mono ?_
              rintro e' w7 ⟨rfl, hb7'⟩
              have HB7 := Lib.hid hb7'
              have HLQ7 := Lib.hid (HLQ5.out.below hb7')
              clear hb7' q0 q1 q2 q3 q4 qbl f0 f1 f2 f3 f4 fbl
              obtain ⟨⟨q0, q1, q2, q3, q4⟩, qbl⟩ := five26 HLQ7.out.row
              go_wp2_with fail
              refine (right_is _ Q.s Q.v Q.need Q.ph HLQ7.out.rd HN.out.2 (q := true) (decide_eq_true HQR.out)).mono ?_
              rintro e' w8 ⟨rfl, hb8⟩
              have HB8' : Hid (Below w5.heap.size w5 w8) := HB7.out.trans (hb8.mono HB7.out.size)
              have HLQ8 := Lib.hid (HLQ7.out.below hb8)
              clear hb8 q0 q1 q2 q3 q4 qbl
              obtain ⟨⟨q0, q1, q2, q3, q4⟩, qbl⟩ := five26 HLQ8.out.row
              go_wp2
              go_meet
              case rel => exact ⟨rfl, HB8'.out⟩
        case rest =>
          obtain ⟨rfl, HC⟩ := hcut
          have HLc := Lib.hid (HL5.out.below HC.out)
          have HLQc := Lib.hid (HLQ5.out.below HC.out)
          have HSDc := Lib.hid (HSD5.out.below HC.out)
          have HX14c := Lib.hid ((HC.out.block _ (lt_of_block HX145.out)).trans HX145.out)
          clear q0 q1 q2 q3 q4 qbl f0 f1 f2 f3 f4 fbl HL5 HLQ5 HSD5 HX145 HC
          obtain ⟨k, hkk⟩ : ∃ k : Nat, o.ix % (n : Int) = (k : Int) := ⟨(o.ix % (n : Int)).toNat, by have := Int.emod_nonneg o.ix (show (n : Int) ≠ 0 by have := HN.out; omega); omega⟩
          have hkn : k < n := by have := Int.emod_lt_of_pos o.ix (show (0 : Int) < (n : Int) by have := HN.out; omega); omega
          have HKK := Lib.hid (And.intro hkk hkn)
          obtain ⟨o0, o1, o2, o3⟩ := arr4 HX14c.out
          clear hkk hkn
          go_wp2_with fail
          refine (pick_is _ (x := o.ix) (n := (n : Int)) (by have := HN.out; omega) (by have := HN.out; omega)).mono ?_
          rintro e' w' ⟨rfl, rfl⟩
          rw [HKK.out.1]
          obtain ⟨y8, hy8, c8, z8⟩ := HSDc.out.get HKK.out.2
          have hi3 : (0 : Int) ≤ (k : Int) := by omega
          have hi4 : (k : Int) < (n : Int) := by have := HKK.out.2; omega
          go_upto_block 2 with (fail)
          go_cut [] from 31 to 208 (fun wd => Hid (But [b8] wc wd ∧ SDat wd b8 n (saidR n sd o)))
          case first =>
            as_aux_lemma =>
              by_cases h9 : o.kd = 9
              · have HSR : Hid (saidR n sd o = sd.set k false) := by
                  show _ = _
                  unfold saidR
                  rw [if_pos h9, HKK.out.1, Int.toNat_natCast]
                rw [h9] at o0
                clear h9
                obtain ⟨wz, hwz⟩ : ∃ z, wc.setCell ⟨b8, k, none⟩ (.bool false) = z := ⟨_, rfl⟩
                have hsz : SDat wz b8 n (sd.set k false) := hwz ▸ HSDc.out.set k false
                have hbz : But [b8] wc wz := hwz ▸ (But.refl _ _).setCell (by simp) _
                rw [← show saidR n sd o = sd.set k false from HSR.out] at hsz
                have HZ := Lib.hid (And.intro hbz hsz)
                clear hsz hbz
                go_wp2
                (try rw [hwz])
                go_meet
                case rel => exact HZ.out
              · have u9 : (o.kd == 9) = false := by simpa using h9
                by_cases h7 : o.kd = 7
                · have HSR : Hid (saidR n sd o = sd) := by
                    show _ = _
                    unfold saidR
                    rw [if_neg h9, if_neg (by omega)]
                  rw [h7] at o0
                  clear h9 h7
                  have hsz := HSDc.out
                  rw [← show saidR n sd o = sd from HSR.out] at hsz
                  have HZ := Lib.hid hsz
                  clear hsz
                  go_wp2
                  go_meet
                  case rel => exact ⟨But.refl _ _, HZ.out⟩
                · by_cases h8 : o.kd = 8
                  · have HSR : Hid (saidR n sd o = sd) := by
                      show _ = _
                      unfold saidR
                      rw [if_neg h9, if_neg (by omega)]
                    rw [h8] at o0
                    clear h9 h7 h8
                    have hsz := HSDc.out
                    rw [← show saidR n sd o = sd from HSR.out] at hsz
                    have HZ := Lib.hid hsz
                    clear hsz
                    go_wp2
                    go_meet
                    case rel => exact ⟨But.refl _ _, HZ.out⟩
                  · by_cases hop : o.op = 1
                    · by_cases he2 : o.e = 0
                      · have HSR : Hid (saidR n sd o = sd.set k true) := by
                          show _ = _
                          unfold saidR
                          rw [if_neg h9, if_pos ⟨h7, h8, hop, he2⟩, HKK.out.1, Int.toNat_natCast]
                        have u7 : (o.kd == 7) = false := by simpa using h7
                        have v7 : (o.kd != 7) = true := by simpa using h7
                        have u8 : (o.kd == 8) = false := by simpa using h8
                        have v8 : (o.kd != 8) = true := by simpa using h8
                        rw [hop] at o2
                        rw [he2] at o3
                        clear h9 h7 h8 hop he2
                        obtain ⟨wz, hwz⟩ : ∃ z, wc.setCell ⟨b8, k, none⟩ (.bool true) = z := ⟨_, rfl⟩
                        have hsz : SDat wz b8 n (sd.set k true) := hwz ▸ HSDc.out.set k true
                        have hbz : But [b8] wc wz := hwz ▸ (But.refl _ _).setCell (by simp) _
                        rw [← show saidR n sd o = sd.set k true from HSR.out] at hsz
                        have HZ := Lib.hid (And.intro hbz hsz)
                        clear hsz hbz
                        go_wp2
                        (try rw [hwz])
                        go_meet
                        case rel => exact HZ.out
                      · have HSR : Hid (saidR n sd o = sd) := by
                          show _ = _
                          unfold saidR
                          rw [if_neg h9, if_neg (fun hh => he2 hh.2.2.2)]
                        have u7 : (o.kd == 7) = false := by simpa using h7
                        have v7 : (o.kd != 7) = true := by simpa using h7
                        have u8 : (o.kd == 8) = false := by simpa using h8
                        have v8 : (o.kd != 8) = true := by simpa using h8
                        have ue : (o.e == 0) = false := by simpa using he2
                        rw [hop] at o2
                        clear h9 h7 h8 hop he2
                        have hsz := HSDc.out
                        rw [← show saidR n sd o = sd from HSR.out] at hsz
                        have HZ := Lib.hid hsz
                        clear hsz
                        go_wp2
                        go_meet
                        case rel => exact ⟨But.refl _ _, HZ.out⟩
                    · have HSR : Hid (saidR n sd o = sd) := by
                        show _ = _
                        unfold saidR
                        rw [if_neg h9, if_neg (fun hh => hop hh.2.2.1)]
                      have u7 : (o.kd == 7) = false := by simpa using h7
                      have v7 : (o.kd != 7) = true := by simpa using h7
                      have u8 : (o.kd == 8) = false := by simpa using h8
                      have v8 : (o.kd != 8) = true := by simpa using h8
                      have uo : (o.op == 1) = false := by simpa using hop
                      clear h9 h7 h8 hop
                      have hsz := HSDc.out
                      rw [← show saidR n sd o = sd from HSR.out] at hsz
                      have HZ := Lib.hid hsz
                      clear hsz
                      go_wp2
                      go_meet
                      case rel => exact ⟨But.refl _ _, HZ.out⟩
          case rest =>
            have HLd := Lib.hid (HLc.out.but8 hcut.out.1 (by have := H78.out; omega) HS.out.mks HB8.out)
            have HLQd := Lib.hid (HLQc.out.but8 hcut.out.1 (by have := H14.out; have := H15.out; omega) (fun jj hj => (HA2.out jj hj).1) HB8.out)
            have HX14d := Lib.hid (hcut.out.1.cells HX14c.out (by have := H14.out; simp; omega))
            have HSDd := Lib.hid hcut.out.2
            have HSI : Hid (SaidI Q (saidR n sd o)) := by show SaidI _ _; have h1 := said_step HL.out.right HS.out.inv o; rw [HQ.out, HL.out.len] at h1; exact h1
            have hphx := does_phase HL.out.right o
            rw [HQ.out] at hphx
            simp only at hphx
            have HPH := Lib.hid hphx
            clear hphx
            clear hcut c8 z8 hy8 hi3 hi4 o0 o1 o2 o3 HLc HLQc HSDc HX14c
            obtain ⟨⟨q0, q1, q2, q3, q4⟩, qbl⟩ := five26 HLQd.out.row
            obtain ⟨⟨f0, f1, f2, f3, f4⟩, fbl⟩ := five26 HLd.out.row
            obtain ⟨o0, o1, o2, o3⟩ := arr4 HX14d.out
            obtain ⟨pb2, hpb2⟩ : ∃ z, decide (Q.ph = 3 ∨ Q.ph = 4) = z := ⟨_, rfl⟩
            have HPB2 := Lib.hid hpb2
            clear hpb2
            skip
            by_cases hcase : Q.ph = 3 ∧ ¬ r.ph = 3
            · as_aux_lemma =>
                have hp2 : r.ph = 2 ∧ o.kd = 7 := by
                  have h1 := HPH.out
                  have h2 := hcase.1
                  have h3 := hcase.2
                  omega
                have HP2 := Lib.hid hp2
                have hgb : gb = false := by rw [HS.out.giv]; rw [hp2.1]; rfl
                have hpb : pb = false := by rw [HS.out.pub]; rw [hp2.1]; rfl
                subst hgb
                subst hpb
                have hsd : saidR n sd o = sd := by unfold saidR; rw [if_neg (by omega), if_neg (by omega)]
                have HSDq := Lib.hid hsd
                have hcnt : r.need ≤ cntT sd := by
                  have h1 := cnt_le_cntT HS.out.inv.1 (HS.out.inv.2 (.inr hp2.1))
                  have h2 := HL.out.right.2.2
                  unfold PhOk at h2
                  omega
                have hmk : r.need ≤ cnt 1 r.ms := by
                  have h2 := HL.out.right.2.2
                  unfold PhOk at h2
                  omega
                have HCN := Lib.hid hcnt
                have HMK := Lib.hid hmk
                rw [hcase.1] at q3
                rw [hp2.1] at f3
                rw [hp2.2] at o0
                have hq3 : Q.ph = 3 := hcase.1
                have HQ3 := Lib.hid hq3
                clear hcase hp2 hsd hcnt hmk hq3
                rw [HSDq.out] at HSDd
                go_wp2_with fail
                go_loopg [18, 19, 114] n (fun kx s18 _ s114 wi => ∃ (i k2 : Nat), i ≤ n ∧ n - i ≤ kx ∧ s114 = .int .i64 i ∧ s18 = .int .i64 k2 ∧ k2 ≤ i ∧ wi = wc ∧ Hid (cntT (sd.take i) = k2))
                case atStart => exact ⟨0, 0, Nat.zero_le _, by omega, rfl, rfl, Nat.le_refl _, by first | trivial | rfl, (by simp [cntT] : cntT (sd.take 0) = (0 : Nat))⟩
                case round =>
                  obtain ⟨i, k2, hi, hk2, rfl, rfl, hki, rfl, HCi⟩ := hrel
                  by_cases hlt2 : i < n
                  · obtain ⟨y, hy, cy, _⟩ := HSDd.out.get hlt2
                    have HT2 := cntT_take hy
                    have hi5 : (0 : Int) ≤ (i : Int) := by omega
                    have hi6 : (i : Int) < (n : Int) := by omega
                    have hw2 : IntKind.i64.wrap ((i : Int) + 1) = (i : Int) + 1 := IntWalk.i64_in _ (by have := HN.out; omega)
                    have hw3 : IntKind.i64.wrap ((k2 : Int) + 1) = (k2 : Int) + 1 := IntWalk.i64_in _ (by have := HN.out; omega)
                    cases y with
                    | true =>
                      have HC2 : Hid (cntT (sd.take (i + 1)) = ((k2 + 1 : Nat) : Int)) := by show _ = _; rw [HT2, HCi.out]; simp
                      clear HT2 hy
                      go_wp2
                      go_roundg (n - (i + 1))
                      case measure => omega
                      case rel => exact ⟨i + 1, k2 + 1, by omega, by omega, by go_num, by go_num, by omega, by first | trivial | rfl, HC2⟩
                    | false =>
                      have HC2 : Hid (cntT (sd.take (i + 1)) = (k2 : Int)) := by show _ = _; rw [HT2, HCi.out]; simp
                      clear HT2 hy
                      go_wp2
                      go_roundg (n - (i + 1))
                      case measure => omega
                      case rel => exact ⟨i + 1, k2, by omega, by omega, by go_num, rfl, by omega, by first | trivial | rfl, HC2⟩
                  · have hin : i = n := by omega
                    have hi9 : ¬ (i : Int) < (n : Int) := by omega
                    have hk3 : ((k2 : Int) < r.need) = False := by
                      have h1 := HCi.out
                      rw [List.take_of_length_le (by rw [HSDd.out.len]; omega)] at h1
                      have h2 := HCN.out
                      simp
                      omega
                    have t1 : decide ((k2 : Int) < r.need) = false := by simpa using hk3
                    obtain ⟨mk1, hmk1⟩ : ∃ z, cnt 1 r.ms = z := ⟨_, rfl⟩
                    have HMK1 := Lib.hid hmk1
                    have t2 : decide (mk1 < r.need) = false := by have := HMK.out; rw [hmk1] at this; simpa using this
                    clear hk3 hmk1
                    go_wp2
                    skip
                    refine wp_region_held_drew (S := fun z => Below wr.heap.size wr z) (by as_aux_lemma => kernel_rfl) ((Below.refl wr.heap.size wr).drew) (fun hHeld => ?_)
                    refine wpAnyH_take (i := 0) (oi := ⟨some 124, _, _, _, _, _⟩) (v := ?_) rfl (by as_aux_lemma => kernel_rfl) (by as_aux_lemma => kernel_rfl) (by as_aux_lemma => kernel_rfl) (fun _ _ _ h => h) (Or.inl ⟨by rfl, ?_⟩) (by assumption) ?_
                    rotate_left
                    · intro w hSw
                      (try dsimp only at hSw)
                      go_simp
                      all_goals (with_reducible rfl)
                    try simp only [Act.put, List.setIfInBounds_toArray, List.set_cons_zero, List.set_cons_succ]
                    refine wpAnyH_take (i := 1) (oi := ⟨some 125, _, _, _, _, _⟩) (v := ?_) rfl (by as_aux_lemma => kernel_rfl) (by as_aux_lemma => kernel_rfl) (by as_aux_lemma => kernel_rfl) (fun _ _ _ h => h) (Or.inl ⟨by rfl, ?_⟩) (by assumption) ?_
                    rotate_left
                    · intro w hSw
                      (try dsimp only at hSw)
                      go_simp
                      all_goals (with_reducible rfl)
                    try simp only [Act.put, List.setIfInBounds_toArray, List.set_cons_zero, List.set_cons_succ]
                    refine wpAnyH_take (i := 2) (oi := ⟨some 126, _, _, _, _, _⟩) (v := ?_) rfl (by as_aux_lemma => kernel_rfl) (by as_aux_lemma => kernel_rfl) (by as_aux_lemma => kernel_rfl) (fun _ _ _ h => h) (Or.inl ⟨by rfl, ?_⟩) (by assumption) ?_
                    rotate_left
                    · intro w hSw
                      (try dsimp only at hSw)
                      go_simp
                      all_goals (with_reducible rfl)
                    try simp only [Act.put, List.setIfInBounds_toArray, List.set_cons_zero, List.set_cons_succ]
                    refine wpAnyH_take (i := 3) (oi := ⟨some 127, _, _, _, _, _⟩) (v := ?_) rfl (by as_aux_lemma => kernel_rfl) (by as_aux_lemma => kernel_rfl) (by as_aux_lemma => kernel_rfl) (fun _ _ _ h => h) (Or.inl ⟨by rfl, ?_⟩) (by assumption) ?_
                    rotate_left
                    · intro w hSw
                      obtain ⟨⟨kk0, kk1, kk2, kk3, kk4⟩, kkl⟩ := five26 ((hSw.block _ (lt_of_block HLd.out.row)).trans HLd.out.row)
                      rw [HP2.out.1] at kk3
                      go_simp
                      all_goals (with_reducible rfl)
                    try simp only [Act.put, List.setIfInBounds_toArray, List.set_cons_zero, List.set_cons_succ]
                    refine wpAnyH_take (i := 4) (oi := ⟨some 128, _, _, _, _, _⟩) (v := ?_) rfl (by as_aux_lemma => kernel_rfl) (by as_aux_lemma => kernel_rfl) (by as_aux_lemma => kernel_rfl) (fun _ _ _ h => h) (Or.inl ⟨by rfl, ?_⟩) (by assumption) ?_
                    rotate_left
                    · intro w hSw
                      (try dsimp only at hSw)
                      go_simp
                      all_goals (with_reducible rfl)
                    try simp only [Act.put, List.setIfInBounds_toArray, List.set_cons_zero, List.set_cons_succ]
                    refine wpAnyH_take (i := 5) (oi := ⟨some 129, _, _, _, _, _⟩) (v := ?_) rfl (by as_aux_lemma => kernel_rfl) (by as_aux_lemma => kernel_rfl) (by as_aux_lemma => kernel_rfl) (fun _ _ _ h => h) (Or.inl ⟨by rfl, ?_⟩) (by assumption) ?_
                    rotate_left
                    · intro w hSw
                      (try dsimp only at hSw)
                      go_simp
                      all_goals (with_reducible rfl)
                    try simp only [Act.put, List.setIfInBounds_toArray, List.set_cons_zero, List.set_cons_succ]
                    refine wpAnyH_take (i := 6) (oi := ⟨some 130, _, _, _, _, _⟩) (v := ?_) rfl (by as_aux_lemma => kernel_rfl) (by as_aux_lemma => kernel_rfl) (by as_aux_lemma => kernel_rfl) (fun _ _ _ h => h) (Or.inl ⟨by rfl, ?_⟩) (by assumption) ?_
                    rotate_left
                    · intro w hSw
                      (try dsimp only at hSw)
                      go_simp
                      all_goals (with_reducible rfl)
                    try simp only [Act.put, List.setIfInBounds_toArray, List.set_cons_zero, List.set_cons_succ]
                    refine wpAnyH_take (i := 7) (oi := ⟨some 131, _, _, _, _, _⟩) (v := ?_) rfl (by as_aux_lemma => kernel_rfl) (by as_aux_lemma => kernel_rfl) (by as_aux_lemma => kernel_rfl) (fun _ _ _ h => h) (Or.inl ⟨by rfl, ?_⟩) (by assumption) ?_
                    rotate_left
                    · intro w hSw
                      (try dsimp only at hSw)
                      go_simp
                      all_goals (with_reducible rfl)
                    try simp only [Act.put, List.setIfInBounds_toArray, List.set_cons_zero, List.set_cons_succ]
                    refine wpAnyH_take (i := 8) (oi := ⟨some 132, _, _, _, _, _⟩) (v := ?_) rfl (by as_aux_lemma => kernel_rfl) (by as_aux_lemma => kernel_rfl) (by as_aux_lemma => kernel_rfl) (fun _ _ _ h => h) (Or.inl ⟨by rfl, ?_⟩) (by assumption) ?_
                    rotate_left
                    · intro w hSw
                      (try dsimp only at hSw)
                      go_simp
                      all_goals (with_reducible rfl)
                    try simp only [Act.put, List.setIfInBounds_toArray, List.set_cons_zero, List.set_cons_succ]
                    refine wpAnyH_take (i := 9) (oi := ⟨some 133, _, _, _, _, _⟩) (v := ?_) rfl (by as_aux_lemma => kernel_rfl) (by as_aux_lemma => kernel_rfl) (by as_aux_lemma => kernel_rfl) (fun _ _ _ h => h) (Or.inl ⟨by rfl, ?_⟩) (by assumption) ?_
                    rotate_left
                    · intro w hSw
                      obtain ⟨⟨kk0, kk1, kk2, kk3, kk4⟩, kkl⟩ := five26 ((hSw.block _ (lt_of_block HLd.out.row)).trans HLd.out.row)
                      rw [HP2.out.1] at kk3
                      go_simp
                      all_goals (with_reducible rfl)
                    try simp only [Act.put, List.setIfInBounds_toArray, List.set_cons_zero, List.set_cons_succ]
                    refine wpAnyH_take (i := 10) (oi := ⟨some 134, _, _, _, _, _⟩) (v := ?_) rfl (by as_aux_lemma => kernel_rfl) (by as_aux_lemma => kernel_rfl) (by as_aux_lemma => kernel_rfl) (fun _ _ _ h => h) (Or.inl ⟨by rfl, ?_⟩) (by assumption) ?_
                    rotate_left
                    · intro w hSw
                      (try dsimp only at hSw)
                      go_simp
                      all_goals (with_reducible rfl)
                    try simp only [Act.put, List.setIfInBounds_toArray, List.set_cons_zero, List.set_cons_succ]
                    refine wpAnyH_take (i := 11) (oi := ⟨some 135, _, _, _, _, _⟩) (v := ?_) rfl (by as_aux_lemma => kernel_rfl) (by as_aux_lemma => kernel_rfl) (by as_aux_lemma => kernel_rfl) (fun _ _ _ h => h) (Or.inl ⟨by rfl, ?_⟩) (by assumption) ?_
                    rotate_left
                    · intro w hSw
                      (try dsimp only at hSw)
                      go_simp
                      all_goals (with_reducible rfl)
                    try simp only [Act.put, List.setIfInBounds_toArray, List.set_cons_zero, List.set_cons_succ]
                    refine wpAnyH_take (i := 12) (oi := ⟨some 136, _, _, _, _, _⟩) (v := ?_) rfl (by as_aux_lemma => kernel_rfl) (by as_aux_lemma => kernel_rfl) (by as_aux_lemma => kernel_rfl) (fun _ _ _ h => h) (Or.inl ⟨by rfl, ?_⟩) (by assumption) ?_
                    rotate_left
                    · intro w hSw
                      (try dsimp only at hSw)
                      go_simp
                      all_goals (with_reducible rfl)
                    try simp only [Act.put, List.setIfInBounds_toArray, List.set_cons_zero, List.set_cons_succ]
                    refine wpAnyH_take (i := 13) (oi := ⟨some 137, _, _, _, _, _⟩) (v := ?_) rfl (by as_aux_lemma => kernel_rfl) (by as_aux_lemma => kernel_rfl) (by as_aux_lemma => kernel_rfl) (fun _ _ _ h => h) (Or.inl ⟨by rfl, ?_⟩) (by assumption) ?_
                    rotate_left
                    · intro w hSw
                      obtain ⟨⟨kk0, kk1, kk2, kk3, kk4⟩, kkl⟩ := five26 ((hSw.block _ (lt_of_block HLd.out.row)).trans HLd.out.row)
                      rw [HP2.out.1] at kk3
                      go_simp
                      all_goals (with_reducible rfl)
                    try simp only [Act.put, List.setIfInBounds_toArray, List.set_cons_zero, List.set_cons_succ]
                    refine wpAnyH_take (i := 15) (oi := ⟨some 139, _, _, _, _, _⟩) (v := ?_) rfl (by as_aux_lemma => kernel_rfl) (by as_aux_lemma => kernel_rfl) (by as_aux_lemma => kernel_rfl) (fun _ _ _ h => h) (Or.inl ⟨by rfl, ?_⟩) (by assumption) ?_
                    rotate_left
                    · intro w hSw
                      (try dsimp only at hSw)
                      go_simp
                      all_goals (with_reducible rfl)
                    try simp only [Act.put, List.setIfInBounds_toArray, List.set_cons_zero, List.set_cons_succ]
                    refine wpAnyH_take (i := 16) (oi := ⟨some 140, _, _, _, _, _⟩) (v := ?_) rfl (by as_aux_lemma => kernel_rfl) (by as_aux_lemma => kernel_rfl) (by as_aux_lemma => kernel_rfl) (fun _ _ _ h => h) (Or.inl ⟨by rfl, ?_⟩) (by assumption) ?_
                    rotate_left
                    · intro w hSw
                      obtain ⟨⟨kk0, kk1, kk2, kk3, kk4⟩, kkl⟩ := five26 ((hSw.block _ (lt_of_block HLd.out.row)).trans HLd.out.row)
                      rw [HP2.out.1] at kk3
                      go_simp
                      all_goals (with_reducible rfl)
                    try simp only [Act.put, List.setIfInBounds_toArray, List.set_cons_zero, List.set_cons_succ]
                    refine wpAnyH_ready (rs := [14]) (by as_aux_lemma => kernel_rfl) (by simp) (AllReadyH.cons (o := ⟨some 138, _, _, _, _, _⟩) rfl (fun K hK => ?_) AllReadyH.nil)
                    go_simp
                    refine (marks_is _ r.s r.v r.need 2 1 (HLd.out.rd.drew) HN.out.2 HMK1.out).mono ?_
                    rintro e' we ⟨rfl, hbe⟩
                    have HBE : Hid (Below wr.heap.size wr we) := ((Below.refl wr.heap.size wr).drew).trans hbe
                    clear hbe
                    refine hK.out _ _ (HBE.out) (fun hHeld => ?_)
                    clear hK K
                    try simp only [Act.put, List.setIfInBounds_toArray, List.set_cons_zero, List.set_cons_succ]
                    refine wpAnyH_take (i := 17) (oi := ⟨some 141, _, _, _, _, _⟩) (v := ?_) rfl (by as_aux_lemma => kernel_rfl) (by as_aux_lemma => kernel_rfl) (by as_aux_lemma => kernel_rfl) (fun _ _ _ h => h) (Or.inl ⟨by rfl, ?_⟩) (by assumption) ?_
                    rotate_left
                    · intro w hSw
                      (try dsimp only at hSw)
                      go_simp
                      all_goals (with_reducible rfl)
                    try simp only [Act.put, List.setIfInBounds_toArray, List.set_cons_zero, List.set_cons_succ]
                    refine wpAnyH_take (i := 18) (oi := ⟨some 142, _, _, _, _, _⟩) (v := ?_) rfl (by as_aux_lemma => kernel_rfl) (by as_aux_lemma => kernel_rfl) (by as_aux_lemma => kernel_rfl) (fun _ _ _ h => h) (Or.inl ⟨by rfl, ?_⟩) (by assumption) ?_
                    rotate_left
                    · intro w hSw
                      (try dsimp only at hSw)
                      go_simp
                      all_goals (with_reducible rfl)
                    try simp only [Act.put, List.setIfInBounds_toArray, List.set_cons_zero, List.set_cons_succ]
                    refine wpAnyH_take (i := 19) (oi := ⟨some 143, _, _, _, _, _⟩) (v := ?_) rfl (by as_aux_lemma => kernel_rfl) (by as_aux_lemma => kernel_rfl) (by as_aux_lemma => kernel_rfl) (fun _ _ _ h => h) (Or.inl ⟨by rfl, ?_⟩) (by assumption) ?_
                    rotate_left
                    · intro w hSw
                      (try dsimp only at hSw)
                      go_simp
                      all_goals (with_reducible rfl)
                    try simp only [Act.put, List.setIfInBounds_toArray, List.set_cons_zero, List.set_cons_succ]
                    refine wpAnyH_take (i := 20) (oi := ⟨some 144, _, _, _, _, _⟩) (v := ?_) rfl (by as_aux_lemma => kernel_rfl) (by as_aux_lemma => kernel_rfl) (by as_aux_lemma => kernel_rfl) (fun _ _ _ h => h) (Or.inl ⟨by rfl, ?_⟩) (by assumption) ?_
                    rotate_left
                    · intro w hSw
                      (try dsimp only at hSw)
                      go_simp
                      all_goals (with_reducible rfl)
                    try simp only [Act.put, List.setIfInBounds_toArray, List.set_cons_zero, List.set_cons_succ]
                    refine wpAnyH_take (i := 21) (oi := ⟨some 145, _, _, _, _, _⟩) (v := ?_) rfl (by as_aux_lemma => kernel_rfl) (by as_aux_lemma => kernel_rfl) (by as_aux_lemma => kernel_rfl) (fun _ _ _ h => h) (Or.inl ⟨by rfl, ?_⟩) (by assumption) ?_
                    rotate_left
                    · intro w hSw
                      obtain ⟨cc0, cc1, cc2, cc3⟩ := arr4 ((hSw.block _ (lt_of_block HX14d.out)).trans HX14d.out)
                      rw [HP2.out.2] at cc0
                      go_simp
                      all_goals (with_reducible rfl)
                    try simp only [Act.put, List.setIfInBounds_toArray, List.set_cons_zero, List.set_cons_succ]
                    refine wpAnyH_take (i := 22) (oi := ⟨some 146, _, _, _, _, _⟩) (v := ?_) rfl (by as_aux_lemma => kernel_rfl) (by as_aux_lemma => kernel_rfl) (by as_aux_lemma => kernel_rfl) (fun _ _ _ h => h) (Or.inl ⟨by rfl, ?_⟩) (by assumption) ?_
                    rotate_left
                    · intro w hSw
                      (try dsimp only at hSw)
                      go_simp
                      all_goals (with_reducible rfl)
                    try simp only [Act.put, List.setIfInBounds_toArray, List.set_cons_zero, List.set_cons_succ]
                    refine wpAnyH_take (i := 23) (oi := ⟨some 147, _, _, _, _, _⟩) (v := ?_) rfl (by as_aux_lemma => kernel_rfl) (by as_aux_lemma => kernel_rfl) (by as_aux_lemma => kernel_rfl) (fun _ _ _ h => h) (Or.inl ⟨by rfl, ?_⟩) (by assumption) ?_
                    rotate_left
                    · intro w hSw
                      (try dsimp only at hSw)
                      go_simp
                      all_goals (with_reducible rfl)
                    try simp only [Act.put, List.setIfInBounds_toArray, List.set_cons_zero, List.set_cons_succ]
                    refine wpAnyH_done (by as_aux_lemma => kernel_rfl) ?_ _
                    have HLt := Lib.hid (HLd.out.below HBE.out)
                    have HLQt := Lib.hid (HLQd.out.below HBE.out)
                    have HSt : Hid (SDat we b8 n (saidR n sd o)) := by show SDat _ _ _ _; rw [HSDq.out]; exact HSDd.out.below HBE.out
                    have HQP := Lib.hid HQ3.out
                    have HRP := Lib.hid HP2.out.1
                    have HQF : Hid (Q.ph = 3) := HQ3.out
                    clear HLd HLQd HSDd q0 q1 q2 q3 q4 qbl f0 f1 f2 f3 f4 fbl t1 t2
                    have HM4 : Hid (cnt 4 Q.ms = 0) := (right_none HQR.out).2 (by have := HQF.out; omega) (by have := HQF.out; omega)
                    obtain ⟨⟨q0, q1, q2, q3, q4⟩, qbl⟩ := five26 HLQt.out.row
                    obtain ⟨⟨f0, f1, f2, f3, f4⟩, fbl⟩ := five26 HLt.out.row
                    rw [HQP.out] at q3
                    rw [HRP.out] at f3
                    go_wp2_with fail
                    refine (marks_is _ Q.s Q.v Q.need 3 4 HLQt.out.rd HN.out.2 (q := 0) HM4.out).mono ?_
                    rintro e' wm1 ⟨rfl, hm1⟩
                    have HLt := Lib.hid (HLt.out.below hm1)
                    have HLQt := Lib.hid (HLQt.out.below hm1)
                    have HSt := Lib.hid (HSt.out.below hm1)
                    clear q0 q1 q2 q3 q4 qbl f0 f1 f2 f3 f4 fbl
                    obtain ⟨⟨q0, q1, q2, q3, q4⟩, qbl⟩ := five26 HLQt.out.row
                    obtain ⟨⟨f0, f1, f2, f3, f4⟩, fbl⟩ := five26 HLt.out.row
                    rw [HQP.out] at q3
                    rw [HRP.out] at f3
                    clear hm1
                    obtain ⟨t0, t1', t2', t3, t4⟩ := thaw5 HLt.out.row
                    have hne : b15 ≠ b7 := by have := H78.out; have := H14.out; have := H15.out; omega
                    have hne' := hne.symm
                    obtain ⟨wz, hwz⟩ : ∃ z, ((((wm1.setCell ⟨b7, 0, none⟩ (.int .i64 Q.s)).setCell ⟨b7, 1, none⟩ (.int .i64 Q.v)).setCell ⟨b7, 2, none⟩ (.int .i64 Q.need)).setCell ⟨b7, 3, none⟩ (.int .i64 3)).setCell ⟨b7, 4, none⟩ (.slice A2 n c2) = z := ⟨_, rfl⟩
                    obtain ⟨hlz, hbz⟩ := LR.set (c2 := c2) HLt.out (Below.refl _ _) HLQt.out.rd (fun jj hj => (HA2.out jj hj).2) HQR.out HQL.out
                    rw [HQP.out, hwz] at hlz hbz
                    have HLz := Lib.hid hlz
                    have HSz : Hid (SInv wz b7 b8 n Q A2 (saidR n sd o) true false) := by
                      refine ⟨⟨hbz.cells HSt.out.row (by have := H78.out; simp; omega), HSt.out.len⟩, HSI.out, ?_, ?_, fun jj hj => (HA2.out jj hj).1⟩
                      · exact (decide_eq_true (by have := HQF.out; omega)).symm
                      · exact (decide_eq_false (by have := HQF.out; omega)).symm
                    clear hlz hbz
                    go_wp2
                    (try rw [hwz])
                    go_roundg (m - (j + 1))
                    case measure => omega
                    case rel => exact ⟨j + 1, Q, A2, c2, _, _, _, by omega, by omega, by go_num, rfl, rfl, HLz, HSz⟩
            · have hcombo : ((r.ph = 1 ∨ r.ph = 2) ∧ (Q.ph = 1 ∨ Q.ph = 2)) ∨ ((r.ph = 1 ∨ r.ph = 2) ∧ Q.ph = 5) ∨ (r.ph = 3 ∧ Q.ph = 3) ∨ (r.ph = 3 ∧ Q.ph = 4) ∨ (r.ph = 4 ∧ Q.ph = 4) ∨ (r.ph = 5 ∧ Q.ph = 5) ∨ (r.ph = 5 ∧ Q.ph = 6) ∨ (r.ph = 6 ∧ Q.ph = 6) := by
                have h1 := HPH.out
                have h2 := HL.out.right.ph6
                have h3 := HQR.out.ph6
                omega
              clear hcase q0 q1 q2 q3 q4 qbl f0 f1 f2 f3 f4 fbl
              have HLt := HLd
              have HLQt := HLQd
              have HSt := HSDd
              clear HLd HLQd HSDd
              rcases hcombo with hc | hc | hc | hc | hc | hc | hc | hc
              · as_aux_lemma =>
                  have hgb : gb = false := by rw [HS.out.giv]; exact decide_eq_false (by have := hc.1; omega)
                  have hpb : pb = false := by rw [HS.out.pub]; exact decide_eq_false (by have := hc.1; omega)
                  have HQF := Lib.hid hc.2
                  have nr3 : (r.ph == 3) = false := by simp; have := hc.1; omega
                  have nr4 : (r.ph == 4) = false := by simp; have := hc.1; omega
                  have nr6 : (r.ph == 6) = false := by simp; have := hc.1; omega
                  have nq3 : (Q.ph == 3) = false := by simp; have := hc.2; omega
                  have nq4 : (Q.ph == 4) = false := by simp; have := hc.2; omega
                  have nq5 : (Q.ph == 5) = false := by simp; have := hc.2; omega
                  have nq6 : (Q.ph == 6) = false := by simp; have := hc.2; omega
                  clear hc
                  subst hgb
                  subst hpb
                  have HM4 : Hid (cnt 4 Q.ms = 0) := (right_none HQR.out).2 (by have := HQF.out; omega) (by have := HQF.out; omega)
                  have HM2 : Hid (cnt 2 Q.ms = 0) := (right_none HQR.out).1 (by have := HQF.out; omega) (by have := HQF.out; omega)
                  obtain ⟨⟨q0, q1, q2, q3, q4⟩, qbl⟩ := five26 HLQt.out.row
                  obtain ⟨⟨f0, f1, f2, f3, f4⟩, fbl⟩ := five26 HLt.out.row
                  go_wp2_with fail
                  refine (marks_is _ Q.s Q.v Q.need Q.ph 2 HLQt.out.rd HN.out.2 (q := 0) HM2.out).mono ?_
                  rintro e' wm1 ⟨rfl, hm1⟩
                  have HLt := Lib.hid (HLt.out.below hm1)
                  have HLQt := Lib.hid (HLQt.out.below hm1)
                  have HSt := Lib.hid (HSt.out.below hm1)
                  clear q0 q1 q2 q3 q4 qbl f0 f1 f2 f3 f4 fbl
                  obtain ⟨⟨q0, q1, q2, q3, q4⟩, qbl⟩ := five26 HLQt.out.row
                  obtain ⟨⟨f0, f1, f2, f3, f4⟩, fbl⟩ := five26 HLt.out.row
                  clear hm1
                  go_wp2_with fail
                  refine (marks_is _ Q.s Q.v Q.need Q.ph 4 HLQt.out.rd HN.out.2 (q := 0) HM4.out).mono ?_
                  rintro e' wm2 ⟨rfl, hm2⟩
                  have HLt := Lib.hid (HLt.out.below hm2)
                  have HLQt := Lib.hid (HLQt.out.below hm2)
                  have HSt := Lib.hid (HSt.out.below hm2)
                  clear q0 q1 q2 q3 q4 qbl f0 f1 f2 f3 f4 fbl
                  obtain ⟨⟨q0, q1, q2, q3, q4⟩, qbl⟩ := five26 HLQt.out.row
                  obtain ⟨⟨f0, f1, f2, f3, f4⟩, fbl⟩ := five26 HLt.out.row
                  clear hm2
                  obtain ⟨t0, t1', t2', t3, t4⟩ := thaw5 HLt.out.row
                  have hne : b15 ≠ b7 := by have := H78.out; have := H14.out; have := H15.out; omega
                  have hne' := hne.symm
                  obtain ⟨wz, hwz⟩ : ∃ z, ((((wm2.setCell ⟨b7, 0, none⟩ (.int .i64 Q.s)).setCell ⟨b7, 1, none⟩ (.int .i64 Q.v)).setCell ⟨b7, 2, none⟩ (.int .i64 Q.need)).setCell ⟨b7, 3, none⟩ (.int .i64 Q.ph)).setCell ⟨b7, 4, none⟩ (.slice A2 n c2) = z := ⟨_, rfl⟩
                  obtain ⟨hlz, hbz⟩ := LR.set (c2 := c2) HLt.out (Below.refl _ _) HLQt.out.rd (fun jj hj => (HA2.out jj hj).2) HQR.out HQL.out
                  rw [hwz] at hlz hbz
                  have HLz := Lib.hid hlz
                  have HSz : Hid (SInv wz b7 b8 n Q A2 (saidR n sd o) false false) := by
                    refine ⟨⟨hbz.cells HSt.out.row (by have := H78.out; simp; omega), HSt.out.len⟩, HSI.out, ?_, ?_, fun jj hj => (HA2.out jj hj).1⟩
                    · exact (decide_eq_false (by have := HQF.out; omega)).symm
                    · exact (decide_eq_false (by have := HQF.out; omega)).symm
                  clear hlz hbz
                  go_wp2
                  (try rw [hwz])
                  go_roundg (m - (j + 1))
                  case measure => omega
                  case rel => exact ⟨j + 1, Q, A2, c2, _, _, _, by omega, by omega, by go_num, rfl, rfl, HLz, HSz⟩
              · as_aux_lemma =>
                  have hgb : gb = false := by rw [HS.out.giv]; exact decide_eq_false (by have := hc.1; omega)
                  have hpb : pb = false := by rw [HS.out.pub]; exact decide_eq_false (by have := hc.1; omega)
                  have HQF := Lib.hid hc.2
                  have nr3 : (r.ph == 3) = false := by simp; have := hc.1; omega
                  have nr4 : (r.ph == 4) = false := by simp; have := hc.1; omega
                  have nr6 : (r.ph == 6) = false := by simp; have := hc.1; omega
                  have HQP := Lib.hid hc.2
                  clear hc
                  subst hgb
                  subst hpb
                  have HM2 : Hid (cnt 2 Q.ms = 0) := (right_none HQR.out).1 (by have := HQF.out; omega) (by have := HQF.out; omega)
                  obtain ⟨⟨q0, q1, q2, q3, q4⟩, qbl⟩ := five26 HLQt.out.row
                  obtain ⟨⟨f0, f1, f2, f3, f4⟩, fbl⟩ := five26 HLt.out.row
                  rw [HQP.out] at q3
                  go_wp2_with fail
                  refine (marks_is _ Q.s Q.v Q.need 5 2 HLQt.out.rd HN.out.2 (q := 0) HM2.out).mono ?_
                  rintro e' wm1 ⟨rfl, hm1⟩
                  have HLt := Lib.hid (HLt.out.below hm1)
                  have HLQt := Lib.hid (HLQt.out.below hm1)
                  have HSt := Lib.hid (HSt.out.below hm1)
                  clear q0 q1 q2 q3 q4 qbl f0 f1 f2 f3 f4 fbl
                  obtain ⟨⟨q0, q1, q2, q3, q4⟩, qbl⟩ := five26 HLQt.out.row
                  obtain ⟨⟨f0, f1, f2, f3, f4⟩, fbl⟩ := five26 HLt.out.row
                  rw [HQP.out] at q3
                  clear hm1
                  obtain ⟨t0, t1', t2', t3, t4⟩ := thaw5 HLt.out.row
                  have hne : b15 ≠ b7 := by have := H78.out; have := H14.out; have := H15.out; omega
                  have hne' := hne.symm
                  obtain ⟨wz, hwz⟩ : ∃ z, ((((wm1.setCell ⟨b7, 0, none⟩ (.int .i64 Q.s)).setCell ⟨b7, 1, none⟩ (.int .i64 Q.v)).setCell ⟨b7, 2, none⟩ (.int .i64 Q.need)).setCell ⟨b7, 3, none⟩ (.int .i64 5)).setCell ⟨b7, 4, none⟩ (.slice A2 n c2) = z := ⟨_, rfl⟩
                  obtain ⟨hlz, hbz⟩ := LR.set (c2 := c2) HLt.out (Below.refl _ _) HLQt.out.rd (fun jj hj => (HA2.out jj hj).2) HQR.out HQL.out
                  rw [HQP.out, hwz] at hlz hbz
                  have HLz := Lib.hid hlz
                  have HSz : Hid (SInv wz b7 b8 n Q A2 (saidR n sd o) false true) := by
                    refine ⟨⟨hbz.cells HSt.out.row (by have := H78.out; simp; omega), HSt.out.len⟩, HSI.out, ?_, ?_, fun jj hj => (HA2.out jj hj).1⟩
                    · exact (decide_eq_false (by have := HQF.out; omega)).symm
                    · exact (decide_eq_true (by have := HQF.out; omega)).symm
                  clear hlz hbz
                  go_wp2
                  (try rw [hwz])
                  go_roundg (m - (j + 1))
                  case measure => omega
                  case rel => exact ⟨j + 1, Q, A2, c2, _, _, _, by omega, by omega, by go_num, rfl, rfl, HLz, HSz⟩
              · as_aux_lemma =>
                  have hgb : gb = false := by rw [HS.out.giv]; exact decide_eq_false (by have := hc.1; omega)
                  have hpb : pb = true := by rw [HS.out.pub]; exact decide_eq_true (by have := hc.1; omega)
                  have HQF := Lib.hid hc.2
                  have HRP := Lib.hid hc.1
                  have HQP := Lib.hid hc.2
                  clear hc
                  subst hgb
                  subst hpb
                  have HM4 : Hid (cnt 4 Q.ms = 0) := (right_none HQR.out).2 (by have := HQF.out; omega) (by have := HQF.out; omega)
                  obtain ⟨⟨q0, q1, q2, q3, q4⟩, qbl⟩ := five26 HLQt.out.row
                  obtain ⟨⟨f0, f1, f2, f3, f4⟩, fbl⟩ := five26 HLt.out.row
                  rw [HQP.out] at q3
                  rw [HRP.out] at f3
                  go_wp2_with fail
                  refine (marks_is _ Q.s Q.v Q.need 3 4 HLQt.out.rd HN.out.2 (q := 0) HM4.out).mono ?_
                  rintro e' wm1 ⟨rfl, hm1⟩
                  have HLt := Lib.hid (HLt.out.below hm1)
                  have HLQt := Lib.hid (HLQt.out.below hm1)
                  have HSt := Lib.hid (HSt.out.below hm1)
                  clear q0 q1 q2 q3 q4 qbl f0 f1 f2 f3 f4 fbl
                  obtain ⟨⟨q0, q1, q2, q3, q4⟩, qbl⟩ := five26 HLQt.out.row
                  obtain ⟨⟨f0, f1, f2, f3, f4⟩, fbl⟩ := five26 HLt.out.row
                  rw [HQP.out] at q3
                  rw [HRP.out] at f3
                  clear hm1
                  obtain ⟨t0, t1', t2', t3, t4⟩ := thaw5 HLt.out.row
                  have hne : b15 ≠ b7 := by have := H78.out; have := H14.out; have := H15.out; omega
                  have hne' := hne.symm
                  obtain ⟨wz, hwz⟩ : ∃ z, ((((wm1.setCell ⟨b7, 0, none⟩ (.int .i64 Q.s)).setCell ⟨b7, 1, none⟩ (.int .i64 Q.v)).setCell ⟨b7, 2, none⟩ (.int .i64 Q.need)).setCell ⟨b7, 3, none⟩ (.int .i64 3)).setCell ⟨b7, 4, none⟩ (.slice A2 n c2) = z := ⟨_, rfl⟩
                  obtain ⟨hlz, hbz⟩ := LR.set (c2 := c2) HLt.out (Below.refl _ _) HLQt.out.rd (fun jj hj => (HA2.out jj hj).2) HQR.out HQL.out
                  rw [HQP.out, hwz] at hlz hbz
                  have HLz := Lib.hid hlz
                  have HSz : Hid (SInv wz b7 b8 n Q A2 (saidR n sd o) true false) := by
                    refine ⟨⟨hbz.cells HSt.out.row (by have := H78.out; simp; omega), HSt.out.len⟩, HSI.out, ?_, ?_, fun jj hj => (HA2.out jj hj).1⟩
                    · exact (decide_eq_true (by have := HQF.out; omega)).symm
                    · exact (decide_eq_false (by have := HQF.out; omega)).symm
                  clear hlz hbz
                  go_wp2
                  (try rw [hwz])
                  go_roundg (m - (j + 1))
                  case measure => omega
                  case rel => exact ⟨j + 1, Q, A2, c2, _, _, _, by omega, by omega, by go_num, rfl, rfl, HLz, HSz⟩
              · as_aux_lemma =>
                  have hgb : gb = false := by rw [HS.out.giv]; exact decide_eq_false (by have := hc.1; omega)
                  have hpb : pb = true := by rw [HS.out.pub]; exact decide_eq_true (by have := hc.1; omega)
                  have HQF := Lib.hid hc.2
                  have HRP := Lib.hid hc.1
                  have HQP := Lib.hid hc.2
                  clear hc
                  subst hgb
                  subst hpb
                  have HM4 : Hid (cnt 4 Q.ms = 0) := (right_none HQR.out).2 (by have := HQF.out; omega) (by have := HQF.out; omega)
                  obtain ⟨⟨q0, q1, q2, q3, q4⟩, qbl⟩ := five26 HLQt.out.row
                  obtain ⟨⟨f0, f1, f2, f3, f4⟩, fbl⟩ := five26 HLt.out.row
                  rw [HQP.out] at q3
                  rw [HRP.out] at f3
                  go_wp2_with fail
                  refine (marks_is _ Q.s Q.v Q.need 4 4 HLQt.out.rd HN.out.2 (q := 0) HM4.out).mono ?_
                  rintro e' wm1 ⟨rfl, hm1⟩
                  have HLt := Lib.hid (HLt.out.below hm1)
                  have HLQt := Lib.hid (HLQt.out.below hm1)
                  have HSt := Lib.hid (HSt.out.below hm1)
                  clear q0 q1 q2 q3 q4 qbl f0 f1 f2 f3 f4 fbl
                  obtain ⟨⟨q0, q1, q2, q3, q4⟩, qbl⟩ := five26 HLQt.out.row
                  obtain ⟨⟨f0, f1, f2, f3, f4⟩, fbl⟩ := five26 HLt.out.row
                  rw [HQP.out] at q3
                  rw [HRP.out] at f3
                  clear hm1
                  obtain ⟨t0, t1', t2', t3, t4⟩ := thaw5 HLt.out.row
                  have hne : b15 ≠ b7 := by have := H78.out; have := H14.out; have := H15.out; omega
                  have hne' := hne.symm
                  obtain ⟨wz, hwz⟩ : ∃ z, ((((wm1.setCell ⟨b7, 0, none⟩ (.int .i64 Q.s)).setCell ⟨b7, 1, none⟩ (.int .i64 Q.v)).setCell ⟨b7, 2, none⟩ (.int .i64 Q.need)).setCell ⟨b7, 3, none⟩ (.int .i64 4)).setCell ⟨b7, 4, none⟩ (.slice A2 n c2) = z := ⟨_, rfl⟩
                  obtain ⟨hlz, hbz⟩ := LR.set (c2 := c2) HLt.out (Below.refl _ _) HLQt.out.rd (fun jj hj => (HA2.out jj hj).2) HQR.out HQL.out
                  rw [HQP.out, hwz] at hlz hbz
                  have HLz := Lib.hid hlz
                  have HSz : Hid (SInv wz b7 b8 n Q A2 (saidR n sd o) true false) := by
                    refine ⟨⟨hbz.cells HSt.out.row (by have := H78.out; simp; omega), HSt.out.len⟩, HSI.out, ?_, ?_, fun jj hj => (HA2.out jj hj).1⟩
                    · exact (decide_eq_true (by have := HQF.out; omega)).symm
                    · exact (decide_eq_false (by have := HQF.out; omega)).symm
                  clear hlz hbz
                  go_wp2
                  (try rw [hwz])
                  go_roundg (m - (j + 1))
                  case measure => omega
                  case rel => exact ⟨j + 1, Q, A2, c2, _, _, _, by omega, by omega, by go_num, rfl, rfl, HLz, HSz⟩
              · as_aux_lemma =>
                  have hgb : gb = false := by rw [HS.out.giv]; exact decide_eq_false (by have := hc.1; omega)
                  have hpb : pb = true := by rw [HS.out.pub]; exact decide_eq_true (by have := hc.1; omega)
                  have HQF := Lib.hid hc.2
                  have HRP := Lib.hid hc.1
                  have HQP := Lib.hid hc.2
                  clear hc
                  subst hgb
                  subst hpb
                  have HM4 : Hid (cnt 4 Q.ms = 0) := (right_none HQR.out).2 (by have := HQF.out; omega) (by have := HQF.out; omega)
                  obtain ⟨⟨q0, q1, q2, q3, q4⟩, qbl⟩ := five26 HLQt.out.row
                  obtain ⟨⟨f0, f1, f2, f3, f4⟩, fbl⟩ := five26 HLt.out.row
                  rw [HQP.out] at q3
                  rw [HRP.out] at f3
                  go_wp2_with fail
                  refine (marks_is _ Q.s Q.v Q.need 4 4 HLQt.out.rd HN.out.2 (q := 0) HM4.out).mono ?_
                  rintro e' wm1 ⟨rfl, hm1⟩
                  have HLt := Lib.hid (HLt.out.below hm1)
                  have HLQt := Lib.hid (HLQt.out.below hm1)
                  have HSt := Lib.hid (HSt.out.below hm1)
                  clear q0 q1 q2 q3 q4 qbl f0 f1 f2 f3 f4 fbl
                  obtain ⟨⟨q0, q1, q2, q3, q4⟩, qbl⟩ := five26 HLQt.out.row
                  obtain ⟨⟨f0, f1, f2, f3, f4⟩, fbl⟩ := five26 HLt.out.row
                  rw [HQP.out] at q3
                  rw [HRP.out] at f3
                  clear hm1
                  go_wp2_with fail
                  refine (sameR_is _ Q.s Q.v Q.need 4 r.s r.v r.need 4 HLQt.out.rd HLt.out.rd HN.out.2 (q := true) (decide_eq_true (by
                    have h1 := done_stays HL.out.right (by rw [HRP.out]; decide) o
                    rw [HQ.out] at h1
                    simp only at h1
                    rw [h1]
                    exact ⟨rfl, rfl, rfl, rfl, rfl⟩))).mono ?_
                  rintro e' wm2 ⟨rfl, hm2⟩
                  have HLt := Lib.hid (HLt.out.below hm2)
                  have HLQt := Lib.hid (HLQt.out.below hm2)
                  have HSt := Lib.hid (HSt.out.below hm2)
                  clear q0 q1 q2 q3 q4 qbl f0 f1 f2 f3 f4 fbl
                  obtain ⟨⟨q0, q1, q2, q3, q4⟩, qbl⟩ := five26 HLQt.out.row
                  obtain ⟨⟨f0, f1, f2, f3, f4⟩, fbl⟩ := five26 HLt.out.row
                  rw [HQP.out] at q3
                  rw [HRP.out] at f3
                  clear hm2
                  obtain ⟨t0, t1', t2', t3, t4⟩ := thaw5 HLt.out.row
                  have hne : b15 ≠ b7 := by have := H78.out; have := H14.out; have := H15.out; omega
                  have hne' := hne.symm
                  obtain ⟨wz, hwz⟩ : ∃ z, ((((wm2.setCell ⟨b7, 0, none⟩ (.int .i64 Q.s)).setCell ⟨b7, 1, none⟩ (.int .i64 Q.v)).setCell ⟨b7, 2, none⟩ (.int .i64 Q.need)).setCell ⟨b7, 3, none⟩ (.int .i64 4)).setCell ⟨b7, 4, none⟩ (.slice A2 n c2) = z := ⟨_, rfl⟩
                  obtain ⟨hlz, hbz⟩ := LR.set (c2 := c2) HLt.out (Below.refl _ _) HLQt.out.rd (fun jj hj => (HA2.out jj hj).2) HQR.out HQL.out
                  rw [HQP.out, hwz] at hlz hbz
                  have HLz := Lib.hid hlz
                  have HSz : Hid (SInv wz b7 b8 n Q A2 (saidR n sd o) true false) := by
                    refine ⟨⟨hbz.cells HSt.out.row (by have := H78.out; simp; omega), HSt.out.len⟩, HSI.out, ?_, ?_, fun jj hj => (HA2.out jj hj).1⟩
                    · exact (decide_eq_true (by have := HQF.out; omega)).symm
                    · exact (decide_eq_false (by have := HQF.out; omega)).symm
                  clear hlz hbz
                  go_wp2
                  (try rw [hwz])
                  go_roundg (m - (j + 1))
                  case measure => omega
                  case rel => exact ⟨j + 1, Q, A2, c2, _, _, _, by omega, by omega, by go_num, rfl, rfl, HLz, HSz⟩
              · as_aux_lemma =>
                  have hgb : gb = true := by rw [HS.out.giv]; exact decide_eq_true (by have := hc.1; omega)
                  have hpb : pb = false := by rw [HS.out.pub]; exact decide_eq_false (by have := hc.1; omega)
                  have HQF := Lib.hid hc.2
                  have HRP := Lib.hid hc.1
                  have HQP := Lib.hid hc.2
                  clear hc
                  subst hgb
                  subst hpb
                  have HM2 : Hid (cnt 2 Q.ms = 0) := (right_none HQR.out).1 (by have := HQF.out; omega) (by have := HQF.out; omega)
                  obtain ⟨⟨q0, q1, q2, q3, q4⟩, qbl⟩ := five26 HLQt.out.row
                  obtain ⟨⟨f0, f1, f2, f3, f4⟩, fbl⟩ := five26 HLt.out.row
                  rw [HQP.out] at q3
                  rw [HRP.out] at f3
                  go_wp2_with fail
                  refine (marks_is _ Q.s Q.v Q.need 5 2 HLQt.out.rd HN.out.2 (q := 0) HM2.out).mono ?_
                  rintro e' wm1 ⟨rfl, hm1⟩
                  have HLt := Lib.hid (HLt.out.below hm1)
                  have HLQt := Lib.hid (HLQt.out.below hm1)
                  have HSt := Lib.hid (HSt.out.below hm1)
                  clear q0 q1 q2 q3 q4 qbl f0 f1 f2 f3 f4 fbl
                  obtain ⟨⟨q0, q1, q2, q3, q4⟩, qbl⟩ := five26 HLQt.out.row
                  obtain ⟨⟨f0, f1, f2, f3, f4⟩, fbl⟩ := five26 HLt.out.row
                  rw [HQP.out] at q3
                  rw [HRP.out] at f3
                  clear hm1
                  obtain ⟨t0, t1', t2', t3, t4⟩ := thaw5 HLt.out.row
                  have hne : b15 ≠ b7 := by have := H78.out; have := H14.out; have := H15.out; omega
                  have hne' := hne.symm
                  obtain ⟨wz, hwz⟩ : ∃ z, ((((wm1.setCell ⟨b7, 0, none⟩ (.int .i64 Q.s)).setCell ⟨b7, 1, none⟩ (.int .i64 Q.v)).setCell ⟨b7, 2, none⟩ (.int .i64 Q.need)).setCell ⟨b7, 3, none⟩ (.int .i64 5)).setCell ⟨b7, 4, none⟩ (.slice A2 n c2) = z := ⟨_, rfl⟩
                  obtain ⟨hlz, hbz⟩ := LR.set (c2 := c2) HLt.out (Below.refl _ _) HLQt.out.rd (fun jj hj => (HA2.out jj hj).2) HQR.out HQL.out
                  rw [HQP.out, hwz] at hlz hbz
                  have HLz := Lib.hid hlz
                  have HSz : Hid (SInv wz b7 b8 n Q A2 (saidR n sd o) false true) := by
                    refine ⟨⟨hbz.cells HSt.out.row (by have := H78.out; simp; omega), HSt.out.len⟩, HSI.out, ?_, ?_, fun jj hj => (HA2.out jj hj).1⟩
                    · exact (decide_eq_false (by have := HQF.out; omega)).symm
                    · exact (decide_eq_true (by have := HQF.out; omega)).symm
                  clear hlz hbz
                  go_wp2
                  (try rw [hwz])
                  go_roundg (m - (j + 1))
                  case measure => omega
                  case rel => exact ⟨j + 1, Q, A2, c2, _, _, _, by omega, by omega, by go_num, rfl, rfl, HLz, HSz⟩
              · as_aux_lemma =>
                  have hgb : gb = true := by rw [HS.out.giv]; exact decide_eq_true (by have := hc.1; omega)
                  have hpb : pb = false := by rw [HS.out.pub]; exact decide_eq_false (by have := hc.1; omega)
                  have HQF := Lib.hid hc.2
                  have HRP := Lib.hid hc.1
                  have HQP := Lib.hid hc.2
                  clear hc
                  subst hgb
                  subst hpb
                  have HM2 : Hid (cnt 2 Q.ms = 0) := (right_none HQR.out).1 (by have := HQF.out; omega) (by have := HQF.out; omega)
                  obtain ⟨⟨q0, q1, q2, q3, q4⟩, qbl⟩ := five26 HLQt.out.row
                  obtain ⟨⟨f0, f1, f2, f3, f4⟩, fbl⟩ := five26 HLt.out.row
                  rw [HQP.out] at q3
                  rw [HRP.out] at f3
                  go_wp2_with fail
                  refine (marks_is _ Q.s Q.v Q.need 6 2 HLQt.out.rd HN.out.2 (q := 0) HM2.out).mono ?_
                  rintro e' wm1 ⟨rfl, hm1⟩
                  have HLt := Lib.hid (HLt.out.below hm1)
                  have HLQt := Lib.hid (HLQt.out.below hm1)
                  have HSt := Lib.hid (HSt.out.below hm1)
                  clear q0 q1 q2 q3 q4 qbl f0 f1 f2 f3 f4 fbl
                  obtain ⟨⟨q0, q1, q2, q3, q4⟩, qbl⟩ := five26 HLQt.out.row
                  obtain ⟨⟨f0, f1, f2, f3, f4⟩, fbl⟩ := five26 HLt.out.row
                  rw [HQP.out] at q3
                  rw [HRP.out] at f3
                  clear hm1
                  obtain ⟨t0, t1', t2', t3, t4⟩ := thaw5 HLt.out.row
                  have hne : b15 ≠ b7 := by have := H78.out; have := H14.out; have := H15.out; omega
                  have hne' := hne.symm
                  obtain ⟨wz, hwz⟩ : ∃ z, ((((wm1.setCell ⟨b7, 0, none⟩ (.int .i64 Q.s)).setCell ⟨b7, 1, none⟩ (.int .i64 Q.v)).setCell ⟨b7, 2, none⟩ (.int .i64 Q.need)).setCell ⟨b7, 3, none⟩ (.int .i64 6)).setCell ⟨b7, 4, none⟩ (.slice A2 n c2) = z := ⟨_, rfl⟩
                  obtain ⟨hlz, hbz⟩ := LR.set (c2 := c2) HLt.out (Below.refl _ _) HLQt.out.rd (fun jj hj => (HA2.out jj hj).2) HQR.out HQL.out
                  rw [HQP.out, hwz] at hlz hbz
                  have HLz := Lib.hid hlz
                  have HSz : Hid (SInv wz b7 b8 n Q A2 (saidR n sd o) false true) := by
                    refine ⟨⟨hbz.cells HSt.out.row (by have := H78.out; simp; omega), HSt.out.len⟩, HSI.out, ?_, ?_, fun jj hj => (HA2.out jj hj).1⟩
                    · exact (decide_eq_false (by have := HQF.out; omega)).symm
                    · exact (decide_eq_true (by have := HQF.out; omega)).symm
                  clear hlz hbz
                  go_wp2
                  (try rw [hwz])
                  go_roundg (m - (j + 1))
                  case measure => omega
                  case rel => exact ⟨j + 1, Q, A2, c2, _, _, _, by omega, by omega, by go_num, rfl, rfl, HLz, HSz⟩
              · as_aux_lemma =>
                  have hgb : gb = true := by rw [HS.out.giv]; exact decide_eq_true (by have := hc.1; omega)
                  have hpb : pb = false := by rw [HS.out.pub]; exact decide_eq_false (by have := hc.1; omega)
                  have HQF := Lib.hid hc.2
                  have HRP := Lib.hid hc.1
                  have HQP := Lib.hid hc.2
                  clear hc
                  subst hgb
                  subst hpb
                  have HM2 : Hid (cnt 2 Q.ms = 0) := (right_none HQR.out).1 (by have := HQF.out; omega) (by have := HQF.out; omega)
                  obtain ⟨⟨q0, q1, q2, q3, q4⟩, qbl⟩ := five26 HLQt.out.row
                  obtain ⟨⟨f0, f1, f2, f3, f4⟩, fbl⟩ := five26 HLt.out.row
                  rw [HQP.out] at q3
                  rw [HRP.out] at f3
                  go_wp2_with fail
                  refine (marks_is _ Q.s Q.v Q.need 6 2 HLQt.out.rd HN.out.2 (q := 0) HM2.out).mono ?_
                  rintro e' wm1 ⟨rfl, hm1⟩
                  have HLt := Lib.hid (HLt.out.below hm1)
                  have HLQt := Lib.hid (HLQt.out.below hm1)
                  have HSt := Lib.hid (HSt.out.below hm1)
                  clear q0 q1 q2 q3 q4 qbl f0 f1 f2 f3 f4 fbl
                  obtain ⟨⟨q0, q1, q2, q3, q4⟩, qbl⟩ := five26 HLQt.out.row
                  obtain ⟨⟨f0, f1, f2, f3, f4⟩, fbl⟩ := five26 HLt.out.row
                  rw [HQP.out] at q3
                  rw [HRP.out] at f3
                  clear hm1
                  go_wp2_with fail
                  refine (sameR_is _ Q.s Q.v Q.need 6 r.s r.v r.need 6 HLQt.out.rd HLt.out.rd HN.out.2 (q := true) (decide_eq_true (by
                    have h1 := done_stays HL.out.right (by rw [HRP.out]; decide) o
                    rw [HQ.out] at h1
                    simp only at h1
                    rw [h1]
                    exact ⟨rfl, rfl, rfl, rfl, rfl⟩))).mono ?_
                  rintro e' wm2 ⟨rfl, hm2⟩
                  have HLt := Lib.hid (HLt.out.below hm2)
                  have HLQt := Lib.hid (HLQt.out.below hm2)
                  have HSt := Lib.hid (HSt.out.below hm2)
                  clear q0 q1 q2 q3 q4 qbl f0 f1 f2 f3 f4 fbl
                  obtain ⟨⟨q0, q1, q2, q3, q4⟩, qbl⟩ := five26 HLQt.out.row
                  obtain ⟨⟨f0, f1, f2, f3, f4⟩, fbl⟩ := five26 HLt.out.row
                  rw [HQP.out] at q3
                  rw [HRP.out] at f3
                  clear hm2
                  obtain ⟨t0, t1', t2', t3, t4⟩ := thaw5 HLt.out.row
                  have hne : b15 ≠ b7 := by have := H78.out; have := H14.out; have := H15.out; omega
                  have hne' := hne.symm
                  obtain ⟨wz, hwz⟩ : ∃ z, ((((wm2.setCell ⟨b7, 0, none⟩ (.int .i64 Q.s)).setCell ⟨b7, 1, none⟩ (.int .i64 Q.v)).setCell ⟨b7, 2, none⟩ (.int .i64 Q.need)).setCell ⟨b7, 3, none⟩ (.int .i64 6)).setCell ⟨b7, 4, none⟩ (.slice A2 n c2) = z := ⟨_, rfl⟩
                  obtain ⟨hlz, hbz⟩ := LR.set (c2 := c2) HLt.out (Below.refl _ _) HLQt.out.rd (fun jj hj => (HA2.out jj hj).2) HQR.out HQL.out
                  rw [HQP.out, hwz] at hlz hbz
                  have HLz := Lib.hid hlz
                  have HSz : Hid (SInv wz b7 b8 n Q A2 (saidR n sd o) false true) := by
                    refine ⟨⟨hbz.cells HSt.out.row (by have := H78.out; simp; omega), HSt.out.len⟩, HSI.out, ?_, ?_, fun jj hj => (HA2.out jj hj).1⟩
                    · exact (decide_eq_false (by have := HQF.out; omega)).symm
                    · exact (decide_eq_true (by have := HQF.out; omega)).symm
                  clear hlz hbz
                  go_wp2
                  (try rw [hwz])
                  go_roundg (m - (j + 1))
                  case measure => omega
                  case rel => exact ⟨j + 1, Q, A2, c2, _, _, _, by omega, by omega, by go_num, rfl, rfl, HLz, HSz⟩
      · have hj6 : ¬ (j : Int) < 80 := by omega
        have hi2 : (j : Int) < (m : Int) := by omega
        go_wp2_with fail
        refine (awake_is _).mono ?_
        rintro e w9 ⟨rfl, hb9⟩
        have HB9 : Hid (Below w.heap.size w w9) := HL.out.bel.trans (hb9.mono HL.out.bel.size)
        clear hb9
        go_wp2
        go_ret
        exact told_mk rfl HB9.out
    · obtain rfl : j = m := by omega
      go_wp2_with fail
      refine (awake_is _).mono ?_
      rintro e w9 ⟨rfl, hb9⟩
      have HB9 : Hid (Below w.heap.size w w9) := HL.out.bel.trans (hb9.mono HL.out.bel.size)
      clear hb9
      go_wp2
      go_ret
      exact told_mk rfl HB9.out
end
end Go.Proofs.Ytciihebaameccaa
