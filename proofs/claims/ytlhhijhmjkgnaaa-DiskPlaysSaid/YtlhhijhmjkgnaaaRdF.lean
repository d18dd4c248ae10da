/- The reference's Crash. -/
import Derived.Test.YtlhhijhmjkgnaaaRdE
namespace Go.Proofs.Ytlhhijhmjkgnaaa
open Go.RowKit Go.Coop
set_option maxRecDepth 100000
def keptB (cache : Nat → Option (List UInt8)) (ks : List Bool) (i : Nat) : Bool := (cache i).isSome && (ks[(cachedTo cache i).length]?).getD false
def cmed (med : Nat → List UInt8) (cache : Nat → Option (List UInt8)) (ks : List Bool) (j : Nat) : Nat → List UInt8 := fun i => if i < j then (if keptB cache ks i then (cache i).getD (med i) else med i) else med i
theorem cmed_at (med : Nat → List UInt8) (cache : Nat → Option (List UInt8)) (ks : List Bool) (j : Nat) : cmed med cache ks j j = med j := by simp [cmed]
theorem cmed_upd (med : Nat → List UInt8) (cache : Nat → Option (List UInt8)) (ks : List Bool) (j : Nat) : upd (cmed med cache ks j) j (if keptB cache ks j then (cache j).getD (med j) else med j) = cmed med cache ks (j + 1) := by
  funext i
  unfold upd cmed
  by_cases e : i = j
  · subst e
    rw [if_pos rfl]
    exact (if_pos (show i < i + 1 by omega)).symm
  · rw [if_neg e]
    by_cases h : i < j
    · rw [if_pos h]
      exact (if_pos (show i < j + 1 by omega)).symm
    · rw [if_neg h]
      exact (if_neg (show ¬ i < j + 1 by omega)).symm
theorem cmed_yes {med : Nat → List UInt8} {cache : Nat → Option (List UInt8)} {ks : List Bool} {j : Nat} {l : List UInt8} (h : cache j = some l) (hk : (ks[(cachedTo cache j).length]?).getD false = true) : upd (cmed med cache ks j) j l = cmed med cache ks (j + 1) := by
  rw [← cmed_upd]
  have : keptB cache ks j = true := by simp [keptB, h, hk]
  rw [if_pos this, h]
  rfl
theorem cmed_no {med : Nat → List UInt8} {cache : Nat → Option (List UInt8)} {ks : List Bool} {j : Nat} (hk : keptB cache ks j = false) : cmed med cache ks (j + 1) = cmed med cache ks j := by
  rw [← cmed_upd, hk]
  have := upd_id (cmed med cache ks j) j
  rwa [cmed_at] at this
theorem kept_none {cache : Nat → Option (List UInt8)} {ks : List Bool} {j : Nat} (h : cache j = none) : keptB cache ks j = false := by simp [keptB, h]
theorem kept_false {cache : Nat → Option (List UInt8)} {ks : List Bool} {j : Nat} (hk : (ks[(cachedTo cache j).length]?).getD false = false) : keptB cache ks j = false := by simp [keptB, hk]
/-- a disk alone, anew -/
def RNew1 (n : Nat) (med : Nat → List UInt8) (cache : Nat → Option (List UInt8)) (lf : Int) (dn : Bool) (w : World) (e : Ending) (w' : World) : Prop := ∃ A c, e = .returned (.agg #[.slice A n c, .int .i64 lf, .bool dn]) ∧ RDk w' A n med cache ∧ Below w.heap.size w w'
set_option maxHeartbeats 2000000 in
theorem rcrash_any (w : World) {A : Option Addr} {n c : Nat} {med : Nat → List UInt8} {cache : Nat → Option (List UInt8)} {lf : Int} {dn : Bool} (h : RDk w A n med cache) (hn : n ≤ 1000000) (hn0 : 0 < n) {B : Option Addr} {m d : Nat} {ks : List Bool} (hr : RdV w B m (bools ks)) (hm : m ≤ 9223372036854775807) :
    Calls Try.prog 28 #[.agg #[.slice A n c, .int .i64 lf, .bool dn], .slice B m d] w (RNew1 n (cmed med cache ks n) (fun _ => none) (-1) false w) := by
  have HX := Lib.hid h
  have HK := Lib.hid hr
  clear h hr
  go_enter Try.func28, Try.ntmps28
  go_wp2_with fail
  obtain ⟨w3, hw3⟩ : ∃ w3, ((w.alloc (.cells #[.slice A n c, .int .i64 lf, .bool dn] 42)).alloc (.cells #[.slice none 0 0, .int .i64 0, .bool false] 42)) = w3 := ⟨_, rfl⟩
  obtain ⟨h3, h6, hw⟩ := boxes (w := w) (X := #[.slice A n c, .int .i64 lf, .bool dn]) (T := 42) (Y := #[.slice none 0 0, .int .i64 0, .bool false]) (U := 42) (Below.refl _ _)
  rw [hw3] at h3 h6 hw ⊢
  obtain ⟨b1, hb1⟩ : ∃ b1, w.heap.size = b1 := ⟨_, rfl⟩
  obtain ⟨b2, hb2⟩ : ∃ b2, b1 + 1 = b2 := ⟨_, rfl⟩
  have H0 : Hid (BRel w w.heap.size (w.heap.size + 1) n lf dn (cmed med cache ks 0) (fcache cache 0) w3) :=
    ⟨A, c, h3, ⟨_, _, _, _, _, h6⟩, RDk.congr (RDk.below HX.out hw) (fun i _ => by simp [cmed]) (fun i _ => by simp [fcache]), hw⟩
  rw [hb1] at H0 ⊢
  rw [hb2] at H0 ⊢
  have HE12 : Hid (w.heap.size = b1 ∧ b1 + 1 = b2) := ⟨hb1, hb2⟩
  clear hw3 h3 h6 hw hb1 hb2 HX
  go_loopw [5, 6] (fun kk i wr => ∃ j : Nat, j ≤ n ∧ i = .int .i64 j ∧ kk = .int .i64 ((cachedTo cache j).length : Nat) ∧ BRel w b1 b2 n lf dn (cmed med cache ks j) (fcache cache j) wr) (fun _ i _ => n - (Go.RowKit.intOf i).toNat)
  case atStart => exact ⟨0, by omega, rfl, rfl, H0.out⟩
  case round =>
    obtain ⟨j, hj, rfl, rfl, A, c, h1, h2, hD, hB⟩ := hrel
    clear H0
    have HR := Lib.hid (And.intro h1 (And.intro h2 (And.intro hD hB)))
    have c30 := cell_of_row wr b1 0 _ 42 (0, 0) h1
    have c31 := cell_of_row wr b1 1 _ 42 (0, 0) h1
    have c32 := cell_of_row wr b1 2 _ 42 (0, 0) h1
    simp at c30 c31 c32
    by_cases hlt : j < n
    · obtain ⟨ad, k, rfl, hlt', hk1, hk2, hk3, hk4⟩ := hD.get hlt
      rw [addr_succ] at hk2
      rw [fcache_at] at hk4
      rw [cmed_at] at hk3
      cases ho : cache j with
      | none =>
        rw [ho] at hk4
        change k.lc = 0 at hk4
        rw [hk4] at hk2
        have HO := Lib.hid ho
        clear ho hk4 h1 h2 hD hB hk3 hk1 c31 c32 hlt'
        go_wp2
        go_roundw
        case rel => exact ⟨j + 1, by omega, by go_num, by rw [cachedTo_no HO.out], _, _, HR.out.1, HR.out.2.1, by rw [cmed_no (kept_none HO.out), fcache_no HO.out]; exact HR.out.2.2.1, HR.out.2.2.2⟩
        case measure => simp [Go.RowKit.intOf]; omega
      | some l =>
        rw [ho] at hk4
        rw [hk4.1] at hk2
        have HO := Lib.hid ho
        have HL := Lib.hid (And.intro hk4.2 hk3)
        have hle := cachedTo_le cache j
        have hsu : (cachedTo cache (j + 1)).length = (cachedTo cache j).length + 1 := by rw [cachedTo_yes ho]; simp
        obtain ⟨r, hr⟩ : ∃ r, (cachedTo cache j).length = r := ⟨_, rfl⟩
        rw [hr] at hsu hle ⊢
        have HS := Lib.hid (And.intro hsu hr)
        have hKw : RdV wr B m (bools ks) := HK.out.below hB (Nat.le_refl _)
        clear ho hk4 h1 h2 hD hk3 hlt' hsu
        by_cases hkm : r < m
        · obtain ⟨bd, v, rfl, hbl, hv, hcell⟩ := hKw.at_ hkm
          obtain ⟨kb, hkb, rfl⟩ : ∃ kb, ks[r]? = some kb ∧ v = .bool kb := by
            unfold bools at hv
            rw [List.getElem?_map] at hv
            cases hq : ks[r]? with
            | none => rw [hq] at hv; cases hv
            | some kb => rw [hq] at hv; injection hv with hv; exact ⟨kb, rfl, hv.symm⟩
          have hkd : (ks[(cachedTo cache j).length]?).getD false = kb := by rw [hr, hkb]; rfl
          have HKD := Lib.hid hkd
          clear hkd hkb hv hbl hKw hB hr
          cases kb
          · go_wp2_with fail
            refine wp_region_still_tail 9 (by kernel_rfl) (by kernel_rfl) ?_
            simp only [List.take_succ_cons, List.take_zero, List.drop_succ_cons, List.drop_zero]
            iterate 9 still_step
            refine wpStill_nil ?_
            have HWD := Lib.hid (RDk.below HR.out.2.2.1 (w' := wr.drew) (Below.refl _ _).drew)
            clear c30 c31 c32 hk2 hk1
            go_wp2_with fail
            refine (with_any _ HWD.out hn hlt ⟨k.am, k.cm, none, 0, 0⟩ (lm := med j) (oc := none) HL.out.2.drew rfl lf dn).mono ?_
            rintro e w5 ⟨A', c', rfl, hD5, hB5⟩
            have e1 := upd_id (cmed med cache ks j) j
            rw [cmed_at] at e1
            rw [e1, ← cmed_no (kept_false HKD.out), fcache_yes] at hD5
            clear e1
            have HB5 : Hid (Below wr.heap.size wr w5) := (Below.refl _ _).drew.trans hB5
            have h1 := (HB5.out.block _ (Array.getElem?_eq_some_iff.1 HR.out.1).1).trans HR.out.1
            have h2 : Box w5 b2 := by obtain ⟨X, p, q, z, t, hh⟩ := HR.out.2.1; exact ⟨X, p, q, z, t, (HB5.out.block _ (Array.getElem?_eq_some_iff.1 hh).1).trans hh⟩
            have c30 := cell_of_row w5 b1 0 _ 42 (0, 0) h1
            have c31 := cell_of_row w5 b1 1 _ 42 (0, 0) h1
            have c32 := cell_of_row w5 b1 2 _ 42 (0, 0) h1
            have r30 := frozen_of_row w5 b1 0 _ 42 h1
            have r31 := frozen_of_row w5 b1 1 _ 42 h1
            have r32 := frozen_of_row w5 b1 2 _ 42 h1
            simp at c30 c31 c32
            have HQ := Lib.hid (And.intro h1 (And.intro h2 hD5))
            clear h1 h2 hD5 hB5 HWD
            go_wp2
            have hbt : But [b1] w5 (((w5.setCell ⟨b1, 0, none⟩ (.slice A' n c')).setCell ⟨b1, 1, none⟩ (.int .i64 lf)).setCell ⟨b1, 2, none⟩ (.bool dn)) := (((But.refl [b1] w5).setCell (by simp) _).setCell (by simp) _).setCell (by simp) _
            have hne : b2 ∉ [b1] := by have := HE12.out; simp; omega
            have HE : Hid (_ ∧ _ ∧ _ ∧ _) := And.intro (row3 (v0 := .slice A' n c') (v1 := .int .i64 lf) (v2 := .bool dn) HQ.out.1) (And.intro (show Box _ b2 from by obtain ⟨X, p, q, z, t, hh⟩ := HQ.out.2.1; exact ⟨X, p, q, z, t, hbt.cells hh hne⟩) (And.intro (RDk.box ⟨_, _, _, _, _, HQ.out.1⟩ hbt HQ.out.2.2 (by omega)) ((HR.out.2.2.2.trans (HB5.out.mono HR.out.2.2.2.size)).trans (hbt.below (HR.out.2.2.2.trans (HB5.out.mono HR.out.2.2.2.size)).size (by have := HE12.out; simp; omega)))))
            clear hbt hne
            go_roundw
            case rel => exact ⟨j + 1, by omega, by go_num, by rw [HS.out.1]; go_num, A', c', HE.out.1, HE.out.2.1, HE.out.2.2.1, HE.out.2.2.2⟩
            case measure => simp [Go.RowKit.intOf]; omega
          · go_wp2_with fail
            refine wp_region_still_tail 9 (by kernel_rfl) (by kernel_rfl) ?_
            simp only [List.take_succ_cons, List.take_zero, List.drop_succ_cons, List.drop_zero]
            iterate 9 still_step
            refine wpStill_nil ?_
            have HWD := Lib.hid (RDk.below HR.out.2.2.1 (w' := wr.drew) (Below.refl _ _).drew)
            clear c30 c31 c32 hk2 hk1
            go_wp2_with fail
            refine (with_any _ HWD.out hn hlt ⟨k.ac, k.cc, none, 0, 0⟩ (lm := l) (oc := none) HL.out.1.drew rfl lf dn).mono ?_
            rintro e w5 ⟨A', c', rfl, hD5, hB5⟩
            rw [cmed_yes HO.out HKD.out, fcache_yes] at hD5
            have HB5 : Hid (Below wr.heap.size wr w5) := (Below.refl _ _).drew.trans hB5
            have h1 := (HB5.out.block _ (Array.getElem?_eq_some_iff.1 HR.out.1).1).trans HR.out.1
            have h2 : Box w5 b2 := by obtain ⟨X, p, q, z, t, hh⟩ := HR.out.2.1; exact ⟨X, p, q, z, t, (HB5.out.block _ (Array.getElem?_eq_some_iff.1 hh).1).trans hh⟩
            have c30 := cell_of_row w5 b1 0 _ 42 (0, 0) h1
            have c31 := cell_of_row w5 b1 1 _ 42 (0, 0) h1
            have c32 := cell_of_row w5 b1 2 _ 42 (0, 0) h1
            have r30 := frozen_of_row w5 b1 0 _ 42 h1
            have r31 := frozen_of_row w5 b1 1 _ 42 h1
            have r32 := frozen_of_row w5 b1 2 _ 42 h1
            simp at c30 c31 c32
            have HQ := Lib.hid (And.intro h1 (And.intro h2 hD5))
            clear h1 h2 hD5 hB5 HWD
            go_wp2
            have hbt : But [b1] w5 (((w5.setCell ⟨b1, 0, none⟩ (.slice A' n c')).setCell ⟨b1, 1, none⟩ (.int .i64 lf)).setCell ⟨b1, 2, none⟩ (.bool dn)) := (((But.refl [b1] w5).setCell (by simp) _).setCell (by simp) _).setCell (by simp) _
            have hne : b2 ∉ [b1] := by have := HE12.out; simp; omega
            have HE : Hid (_ ∧ _ ∧ _ ∧ _) := And.intro (row3 (v0 := .slice A' n c') (v1 := .int .i64 lf) (v2 := .bool dn) HQ.out.1) (And.intro (show Box _ b2 from by obtain ⟨X, p, q, z, t, hh⟩ := HQ.out.2.1; exact ⟨X, p, q, z, t, hbt.cells hh hne⟩) (And.intro (RDk.box ⟨_, _, _, _, _, HQ.out.1⟩ hbt HQ.out.2.2 (by omega)) ((HR.out.2.2.2.trans (HB5.out.mono HR.out.2.2.2.size)).trans (hbt.below (HR.out.2.2.2.trans (HB5.out.mono HR.out.2.2.2.size)).size (by have := HE12.out; simp; omega)))))
            clear hbt hne
            go_roundw
            case rel => exact ⟨j + 1, by omega, by go_num, by rw [HS.out.1]; go_num, A', c', HE.out.1, HE.out.2.1, HE.out.2.2.1, HE.out.2.2.2⟩
            case measure => simp [Go.RowKit.intOf]; omega
        · have hkd : (ks[(cachedTo cache j).length]?).getD false = false := by
            have := HK.out.len
            unfold bools at this
            rw [List.length_map] at this
            rw [hr, List.getElem?_eq_none (by omega)]
            rfl
          have HKD := Lib.hid hkd
          clear hkd hKw hB hr
          go_wp2_with fail
          refine wp_region_still_tail 9 (by kernel_rfl) (by kernel_rfl) ?_
          simp only [List.take_succ_cons, List.take_zero, List.drop_succ_cons, List.drop_zero]
          iterate 9 still_step
          refine wpStill_nil ?_
          have HWD := Lib.hid (RDk.below HR.out.2.2.1 (w' := wr.drew) (Below.refl _ _).drew)
          clear c30 c31 c32 hk2 hk1
          go_wp2_with fail
          refine (with_any _ HWD.out hn hlt ⟨k.am, k.cm, none, 0, 0⟩ (lm := med j) (oc := none) HL.out.2.drew rfl lf dn).mono ?_
          rintro e w5 ⟨A', c', rfl, hD5, hB5⟩
          have e1 := upd_id (cmed med cache ks j) j
          rw [cmed_at] at e1
          rw [e1, ← cmed_no (kept_false HKD.out), fcache_yes] at hD5
          clear e1
          have HB5 : Hid (Below wr.heap.size wr w5) := (Below.refl _ _).drew.trans hB5
          have h1 := (HB5.out.block _ (Array.getElem?_eq_some_iff.1 HR.out.1).1).trans HR.out.1
          have h2 : Box w5 b2 := by obtain ⟨X, p, q, z, t, hh⟩ := HR.out.2.1; exact ⟨X, p, q, z, t, (HB5.out.block _ (Array.getElem?_eq_some_iff.1 hh).1).trans hh⟩
          have c30 := cell_of_row w5 b1 0 _ 42 (0, 0) h1
          have c31 := cell_of_row w5 b1 1 _ 42 (0, 0) h1
          have c32 := cell_of_row w5 b1 2 _ 42 (0, 0) h1
          have r30 := frozen_of_row w5 b1 0 _ 42 h1
          have r31 := frozen_of_row w5 b1 1 _ 42 h1
          have r32 := frozen_of_row w5 b1 2 _ 42 h1
          simp at c30 c31 c32
          have HQ := Lib.hid (And.intro h1 (And.intro h2 hD5))
          clear h1 h2 hD5 hB5 HWD
          go_wp2
          have hbt : But [b1] w5 (((w5.setCell ⟨b1, 0, none⟩ (.slice A' n c')).setCell ⟨b1, 1, none⟩ (.int .i64 lf)).setCell ⟨b1, 2, none⟩ (.bool dn)) := (((But.refl [b1] w5).setCell (by simp) _).setCell (by simp) _).setCell (by simp) _
          have hne : b2 ∉ [b1] := by have := HE12.out; simp; omega
          have HE : Hid (_ ∧ _ ∧ _ ∧ _) := And.intro (row3 (v0 := .slice A' n c') (v1 := .int .i64 lf) (v2 := .bool dn) HQ.out.1) (And.intro (show Box _ b2 from by obtain ⟨X, p, q, z, t, hh⟩ := HQ.out.2.1; exact ⟨X, p, q, z, t, hbt.cells hh hne⟩) (And.intro (RDk.box ⟨_, _, _, _, _, HQ.out.1⟩ hbt HQ.out.2.2 (by omega)) ((HR.out.2.2.2.trans (HB5.out.mono HR.out.2.2.2.size)).trans (hbt.below (HR.out.2.2.2.trans (HB5.out.mono HR.out.2.2.2.size)).size (by have := HE12.out; simp; omega)))))
          clear hbt hne
          go_roundw
          case rel => exact ⟨j + 1, by omega, by go_num, by rw [HS.out.1]; go_num, A', c', HE.out.1, HE.out.2.1, HE.out.2.2.1, HE.out.2.2.2⟩
          case measure => simp [Go.RowKit.intOf]; omega
    · obtain rfl : j = n := by omega
      obtain ⟨X, p, q, z, t, hh⟩ := h2
      have c60 := cell_of_row wr b2 0 _ 42 (0, 0) hh
      have c61 := cell_of_row wr b2 1 _ 42 (0, 0) hh
      have c62 := cell_of_row wr b2 2 _ 42 (0, 0) hh
      have r60 := frozen_of_row wr b2 0 _ 42 hh
      have r61 := frozen_of_row wr b2 1 _ 42 hh
      have r62 := frozen_of_row wr b2 2 _ 42 hh
      have r30 := frozen_of_row wr b1 0 _ 42 h1
      have r31 := frozen_of_row wr b1 1 _ 42 h1
      have r32 := frozen_of_row wr b1 2 _ 42 h1
      simp at c60 c61 c62
      have HQ := Lib.hid (And.intro hh h1)
      clear hh h1 hD hB
      have h12 : b1 ≠ b2 := by have := HE12.out; omega
      have h21 : b2 ≠ b1 := by have := HE12.out; omega
      go_wp2
      have hb1 : But [b1] wr ((wr.setCell ⟨b1, 2, none⟩ (.bool false)).setCell ⟨b1, 1, none⟩ (.int .i64 (-1))) := ((But.refl _ _).setCell (by simp) _).setCell (by simp) _
      obtain ⟨wz, hwz⟩ : ∃ wz, ((wr.setCell ⟨b1, 2, none⟩ (.bool false)).setCell ⟨b1, 1, none⟩ (.int .i64 (-1))) = wz := ⟨_, rfl⟩
      rw [hwz] at hb1 ⊢
      have hQ := hb1.cells HQ.out.1 (by have := HE12.out; simp; omega)
      have hD := RDk.box ⟨_, _, _, _, _, HQ.out.2⟩ hb1 HR.out.2.2.1 (by omega)
      have hBz : Below w.heap.size w wz := HR.out.2.2.2.trans (hb1.below HR.out.2.2.2.size (by have := HE12.out; simp; omega))
      have hbt : But [b2] wz (((wz.setCell ⟨b2, 0, none⟩ (.slice A j c)).setCell ⟨b2, 1, none⟩ (.int .i64 (-1))).setCell ⟨b2, 2, none⟩ (.bool false)) := (((But.refl [b2] wz).setCell (by simp) _).setCell (by simp) _).setCell (by simp) _
      have hE6 := row3 (v0 := .slice A j c) (v1 := .int .i64 (-1)) (v2 := .bool false) hQ
      refine bodyPost_ret (v := .agg #[.slice A j c, .int .i64 (-1), .bool false]) (results_cell_row rfl _ _ b2 42 _ (0, 0) _ rfl hE6 Try.underlying42 rfl (by kernel_rfl)) rfl ?_
      exact ⟨A, c, rfl, RDk.congr (RDk.box ⟨_, _, _, _, _, hQ⟩ hbt hD (by omega)) (fun _ _ => rfl) (fun i hi => by unfold fcache; rw [if_pos hi]), hBz.trans (hbt.below hBz.size (by have := HE12.out; simp; omega))⟩
end Go.Proofs.Ytlhhijhmjkgnaaa
