/- WireTells' walk. -/
import Derived.Test.YtmiapegecoaccaaTelG
namespace Go.Proofs.Ytmiapegecoaccaa
open Go.RowKit Go.Coop
set_option maxRecDepth 100000
set_option linter.unusedVariables false
theorem Z0_size : Z0.size = T0.size := by rw [T0_size]; simp [Z0]
theorem Z0_one : Z0.all (·.oneCell') = true := by decide +kernel
theorem size39z : (Try.prog.info? 39).map (·.size) = some Z0.size := by rw [Z0_size]; exact size39'
theorem putA_len (t : Nat → Nat) (a : AskP) : (putA t a).1.length ≤ 84 + a.bytes.length := by
  unfold putA
  split
  · have := encA_len a
    simp only [sealed_length]
    omega
  · simp
theorem putT_len (t : Nat → Nat) (x : TelP) : (putT t x).1.length ≤ 3000 + x.bytes.length := by
  unfold putT
  split
  · rename_i h
    have := encT_len x
    have := h.2.2.2.2.1
    simp only [sealed_length]
    omega
  · simp
section
variable (w : World)
set_option maxHeartbeats 16000000 in
theorem tells_law {lx sx ox stx ix vex tlz tsz toz tez trz : Int} {Ax Iz Bz X : Option Addr} {nx cx imz mcz kz dz xn xc : Nat} {bsx tbz xbs : List UInt8} {Lz : List InfP}
    (hrx : Rd w Ax nx bsx) (hIz : IL w Iz imz Lz) (hBz : Rd w Bz kz tbz) (hX : Rd w X xn xbs) (hc : xn ≤ xc) (other : Bool) :
    Calls Try.prog 4 #[.agg #[.int .i64 lx, .int .i64 sx, .int .u8 ox, .int .i64 stx, .int .i64 ix, .int .i64 vex, .slice Ax nx cx], .agg #[.int .i64 tlz, .int .i64 tsz, .int .u8 toz, .int .i64 tez, .slice Iz imz mcz, .slice Bz kz dz, .int .i64 trz], .slice X xn xc, .bool other] w (Told w true) := by
  have HK := Lib.hid (Keep.start w)
  replace HK := Lib.hid (HK.out.read (hrx))
  replace HK := Lib.hid (HK.out.read (hBz))
  replace HK := Lib.hid (HK.out.read (hX))
  replace HK := Lib.hid (HK.out.il (hIz))
  have lenx := hrx.len
  have lenb := hBz.len
  have leni := hIz.len
  have lenX := hX.len
  clear hrx hIz hBz hX
  obtain ⟨g, hg⟩ : ∃ g, w.heap.size = g := ⟨_, rfl⟩
  obtain ⟨w1, e⟩ : ∃ x, w.alloc (.cells #[.int .i64 lx, .int .i64 sx, .int .u8 ox, .int .i64 stx, .int .i64 ix, .int .i64 vex, .slice Ax nx cx] 25) = x := ⟨_, rfl⟩
  obtain ⟨hW, hx⟩ := box_new e
  rw [hg] at hx
  have Ew1 := Lib.hid e
  have Sw1 := size_of_alloc e
  clear e
  replace hx := Lib.hid hx
  replace HK := Lib.hid (HK.out.below hW (Nat.le_refl _))
  have HB := Lib.hid hW
  clear hW
  replace HK := Lib.hid (HK.out.row (show Row w1 (g) #[.int .i64 lx, .int .i64 sx, .int .u8 ox, .int .i64 stx, .int .i64 ix, .int .i64 vex, .slice Ax nx cx] 25 from hx.out))
  clear hx
  have z1 : w1.heap.size = g + 1 := by rw [Sw1, hg]
  clear Sw1
  obtain ⟨w2, e⟩ : ∃ x, w1.alloc (.cells #[.int .i64 tlz, .int .i64 tsz, .int .u8 toz, .int .i64 tez, .slice Iz imz mcz, .slice Bz kz dz, .int .i64 trz] 34) = x := ⟨_, rfl⟩
  obtain ⟨hW, hx⟩ := box_new e
  rw [z1] at hx
  have Ew2 := Lib.hid e
  clear e
  replace hx := Lib.hid hx
  replace HK := Lib.hid (HK.out.below hW (Nat.le_refl _))
  replace HB := Lib.hid (HB.out.trans (hW.mono HB.out.size))
  clear hW
  replace HK := Lib.hid (HK.out.row (show Row w2 (g + 1) #[.int .i64 tlz, .int .i64 tsz, .int .u8 toz, .int .i64 tez, .slice Iz imz mcz, .slice Bz kz dz, .int .i64 trz] 34 from hx.out))
  clear hx
  clear z1
  by_cases q1 : nx ≤ 500 ∧ kz ≤ 500 ∧ imz ≤ 60 ∧ xn ≤ 1000
  · have hs1 := q1
    have q1 := Lib.hid (decide_eq_true q1)
    cases other with
    | false =>
      have HZ := Lib.hid Z0_size
      have hz39 := zeroT39
      go_enter Try.func4, Try.ntmps4
      obtain ⟨a0, a1, a2, a3, a4, a5, a6⟩ := arr7 (w := (World.alloc (World.alloc w (.cells #[.int .i64 lx, .int .i64 sx, .int .u8 ox, .int .i64 stx, .int .i64 ix, .int .i64 vex, .slice Ax nx cx] 25)) (.cells #[.int .i64 tlz, .int .i64 tsz, .int .u8 toz, .int .i64 tez, .slice Iz imz mcz, .slice Bz kz dz, .int .i64 trz] 34))) (by rw [Ew1.out, Ew2.out]; exact (HK.out.rows _ (.tail _ (.head _))))
      obtain ⟨b0, b1, b2, b3, b4, b5, b6⟩ := arr7 (w := (World.alloc (World.alloc w (.cells #[.int .i64 lx, .int .i64 sx, .int .u8 ox, .int .i64 stx, .int .i64 ix, .int .i64 vex, .slice Ax nx cx] 25)) (.cells #[.int .i64 tlz, .int .i64 tsz, .int .u8 toz, .int .i64 tez, .slice Iz imz mcz, .slice Bz kz dz, .int .i64 trz] 34))) (by rw [Ew1.out, Ew2.out]; exact (HK.out.rows _ (.head _)))
      go_wp2_with fail
      rw [Ew1.out]
      rw [Ew2.out]
      clear Ew1 Ew2
      refine (small_is w2 lx sx ox stx ix vex tlz tsz toz tez trz q1.out).mono ?_
      rintro e w3 ⟨rfl, hb⟩
      have hW : Below w2.heap.size w2 w3 := hb
      replace HK := Lib.hid (HK.out.below hW (Nat.le_refl _))
      replace HB := Lib.hid (HB.out.trans (hW.mono HB.out.size))
      clear hW
      clear a0 a1 a2 a3 a4 a5 a6 b0 b1 b2 b3 b4 b5 b6 hb
      go_upto_region 4 with (first
        | (go_at_call 12; refine (table_any _).mono ?_; rintro e wq ⟨rfl, hbq⟩; rw [show tarr ((List.range 256).map entry) = T0 from rfl])
        | ((with_reducible refine wpList_store_new (o := ⟨none, .store 39 (.tmp 9) (.tmp 34), _, _, _, _⟩) ?_ 39 (.tmp 9) (.tmp 34) ?_ T0 Z0 ?_ ?_ 39 size39' HZ.out T0_one ?_)
           case refine_1 => rfl
           case refine_2 => rfl
           case refine_3 => rfl
           case refine_4 => rfl))
      have hW : Below w3.heap.size w3 wq := hbq
      clear hbq
      replace HK := Lib.hid (HK.out.below hW (Nat.le_refl _))
      replace HB := Lib.hid (HB.out.trans (hW.mono HB.out.size))
      clear hW
      obtain ⟨p, hp⟩ : ∃ p, wq.heap.size = p := ⟨_, rfl⟩
      have HP := Lib.hid hp
      go_upto_region 6 with (fail)
      clear HP hz39 HZ
      obtain ⟨wT, e⟩ : ∃ x, wq.alloc (.cells T0 39) = x := ⟨_, rfl⟩
      obtain ⟨hW, hx⟩ := box_new e
      rw [hp] at hx
      have EwT := Lib.hid e
      clear e
      replace hx := Lib.hid hx
      replace HK := Lib.hid (HK.out.below hW (Nat.le_refl _))
      replace HB := Lib.hid (HB.out.trans (hW.mono HB.out.size))
      clear hW
      clear hx
      have hTb : Tb wT p entry := by rw [← EwT.out, ← hp]; exact ⟨tab_new wq (0, 0), by rw [size_alloc]; simp⟩
      replace HK := Lib.hid (HK.out.tab (hTb))
      clear hTb
      rw [EwT.out]
      clear EwT
      (try rw [hp])
      obtain ⟨px, hpx⟩ : ∃ x, putA entry ⟨lx, sx, ox, stx, ix, vex, bsx⟩ = x := ⟨_, rfl⟩
      have hlC := putA_len entry ⟨lx, sx, ox, stx, ix, vex, bsx⟩
      rw [hpx] at hlC
      obtain ⟨bC, eC⟩ := px
      have HPx := Lib.hid hpx
      clear hpx
      obtain ⟨a0, a1, a2, a3, a4, a5, a6⟩ := arr7 (w := wT) (by exact (HK.out.rows _ (.tail _ (.head _))))
      go_wp2_with fail
      refine (putA_is wT (HK.out.tabs _ (.head _)).1 (HK.out.tabs _ (.head _)).2 lx sx ox stx ix vex bsx (HK.out.reads _ (.tail _ (.tail _ (.head _)))) (show nx ≤ 1000000 by omega)).mono ?_
      rintro e w4 ⟨C, cn, cc, rfl, hoc, hb⟩
      rw [HPx.out] at hoc ⊢
      simp only at hoc ⊢
      clear a0 a1 a2 a3 a4 a5 a6
      have hW : Below wT.heap.size wT w4 := hb
      replace HK := Lib.hid (HK.out.below hW (Nat.le_refl _))
      replace HB := Lib.hid (HB.out.trans (hW.mono HB.out.size))
      clear hW
      have hcc := hoc.cap
      have lenC := hoc.len
      replace HK := Lib.hid (HK.out.read (hoc.rd))
      clear hoc hb
      obtain ⟨a0, a1, a2, a3, a4, a5, a6⟩ := arr7 (w := w4) (by exact (HK.out.rows _ (.tail _ (.head _))))
      go_wp2_with fail
      refine (rputA_is w4 (HK.out.tabs _ (.head _)).1 (HK.out.tabs _ (.head _)).2 lx sx ox stx ix vex bsx (HK.out.reads _ (.tail _ (.tail _ (.tail _ (.head _))))) (show nx ≤ 1000000 by omega)).mono ?_
      rintro e w5 ⟨D, dn, dc, rfl, hod, hdn, hb⟩
      rw [HPx.out] at hod ⊢
      simp only at hod ⊢
      clear a0 a1 a2 a3 a4 a5 a6
      have hW : Below w4.heap.size w4 w5 := hb
      replace HK := Lib.hid (HK.out.below hW (Nat.le_refl _))
      replace HB := Lib.hid (HB.out.trans (hW.mono HB.out.size))
      clear hW
      replace HK := Lib.hid (HK.out.read (hod))
      clear hod hb hdn
      obtain ⟨px, hpx⟩ : ∃ x, putT entry ⟨tlz, tsz, toz, tez, Lz, tbz, trz⟩ = x := ⟨_, rfl⟩
      have hlG := putT_len entry ⟨tlz, tsz, toz, tez, Lz, tbz, trz⟩
      rw [hpx] at hlG
      obtain ⟨bG, eG⟩ := px
      have HPz := Lib.hid hpx
      clear hpx
      obtain ⟨a0, a1, a2, a3, a4, a5, a6⟩ := arr7 (w := w5) (by exact (HK.out.rows _ (.head _)))
      go_wp2_with fail
      refine (putT_is w5 (HK.out.tabs _ (.head _)).1 (HK.out.tabs _ (.head _)).2 tlz tsz toz tez trz (HK.out.ils _ (.head _)) (show imz ≤ 1000000 by omega) tbz (HK.out.reads _ (.tail _ (.tail _ (.tail _ (.head _))))) (show kz ≤ 1000000 by omega)).mono ?_
      rintro e w6 ⟨G, gn, gc, rfl, hog, hb⟩
      rw [HPz.out] at hog ⊢
      simp only at hog ⊢
      clear a0 a1 a2 a3 a4 a5 a6
      have hW : Below w5.heap.size w5 w6 := hb
      replace HK := Lib.hid (HK.out.below hW (Nat.le_refl _))
      replace HB := Lib.hid (HB.out.trans (hW.mono HB.out.size))
      clear hW
      have hgc := hog.cap
      have lenG := hog.len
      replace HK := Lib.hid (HK.out.read (hog.rd))
      clear hog hb
      obtain ⟨a0, a1, a2, a3, a4, a5, a6⟩ := arr7 (w := w6) (by exact (HK.out.rows _ (.head _)))
      go_wp2_with fail
      refine (rputT_is w6 (HK.out.tabs _ (.head _)).1 (HK.out.tabs _ (.head _)).2 tlz tsz toz tez trz (HK.out.ils _ (.head _)) (show imz ≤ 1000000 by omega) tbz (HK.out.reads _ (.tail _ (.tail _ (.tail _ (.tail _ (.head _)))))) (show kz ≤ 1000000 by omega)).mono ?_
      rintro e w7 ⟨H, hn, hc', rfl, hoh, hhn, hb⟩
      rw [HPz.out] at hoh ⊢
      simp only at hoh ⊢
      clear a0 a1 a2 a3 a4 a5 a6
      have hW : Below w6.heap.size w6 w7 := hb
      replace HK := Lib.hid (HK.out.below hW (Nat.le_refl _))
      replace HB := Lib.hid (HB.out.trans (hW.mono HB.out.size))
      clear hW
      replace HK := Lib.hid (HK.out.read (hoh))
      clear hoh hb hhn
      obtain ⟨qa, hqa⟩ : ∃ q, decide (RightA ⟨lx, sx, ox, stx, ix, vex, bsx⟩) = q := ⟨_, rfl⟩
      obtain ⟨qt, hqt⟩ : ∃ q, decide (RightT ⟨tlz, tsz, toz, tez, Lz, tbz, trz⟩) = q := ⟨_, rfl⟩
      have QA := Lib.hid hqa
      have QT := Lib.hid hqt
      clear hqa hqt
      go_wp2_with fail
      refine wp_region_held_drew (S := fun u => Keep u [(g + 1, #[.int .i64 tlz, .int .i64 tsz, .int .u8 toz, .int .i64 tez, .slice Iz imz mcz, .slice Bz kz dz, .int .i64 trz], 34), (g, #[.int .i64 lx, .int .i64 sx, .int .u8 ox, .int .i64 stx, .int .i64 ix, .int .i64 vex, .slice Ax nx cx], 25)] [(H, hn, bG), (G, gn, bG), (D, dn, bC), (C, cn, bC), (X, xn, xbs), (Bz, kz, tbz), (Ax, nx, bsx)] [(Iz, imz, Lz)] [(p, entry)]) (by kernel_rfl) (HK.out.drew) (fun hHeld => ?_)
      have HBr := Lib.hid (HB.out.drew)
      clear HK HB
      refine wpAnyH_take (i := 0) (oi := ⟨some 57, _, _, _, _, _⟩) (v := ?_) rfl (by as_aux_lemma => kernel_rfl) (by as_aux_lemma => kernel_rfl) (by as_aux_lemma => kernel_rfl) (fun _ _ _ h => h) (Or.inl ⟨by rfl, ?_⟩) (by assumption) ?_
      rotate_left
      · intro w hSw
        (try dsimp only at hSw)
        go_simp
        all_goals (with_reducible rfl)
      try simp only [Act.put, List.setIfInBounds_toArray, List.set_cons_zero, List.set_cons_succ]
      refine wpAnyH_take (i := 1) (oi := ⟨some 58, _, _, _, _, _⟩) (v := ?_) rfl (by as_aux_lemma => kernel_rfl) (by as_aux_lemma => kernel_rfl) (by as_aux_lemma => kernel_rfl) (fun _ _ _ h => h) (Or.inl ⟨by rfl, ?_⟩) (by assumption) ?_
      rotate_left
      · intro w hSw
        (try dsimp only at hSw)
        go_simp
        all_goals (with_reducible rfl)
      try simp only [Act.put, List.setIfInBounds_toArray, List.set_cons_zero, List.set_cons_succ]
      refine wpAnyH_ready (rs := [2]) (by as_aux_lemma => kernel_rfl) (by simp) (AllReadyH.cons (o := ⟨some 59, _, _, _, _, _⟩) rfl (fun K hK => ?_) AllReadyH.nil)
      go_simp
      refine (sameB_is _ (hHeld.reads _ (.tail _ (.tail _ (.tail _ (.head _))))) (hHeld.reads _ (.tail _ (.tail _ (.head _)))) (q := true) (by simp)).mono ?_
      rintro e _ ⟨rfl, rfl⟩
      have hS2 := hHeld.below (Below.refl _ _) (Nat.le_refl _)
      replace HBr := Lib.hid (HBr.out.trans ((Below.refl _ _).mono HBr.out.size))
      refine hK.out _ _ hS2 (fun hHeld => ?_)
      clear hK K hS2
      try simp only [Act.put, List.setIfInBounds_toArray, List.set_cons_zero, List.set_cons_succ]
      refine wpAnyH_take (i := 3) (oi := ⟨some 60, _, _, _, _, _⟩) (v := ?_) rfl (by as_aux_lemma => kernel_rfl) (by as_aux_lemma => kernel_rfl) (by as_aux_lemma => kernel_rfl) (fun _ _ _ h => h) (Or.inl ⟨by rfl, ?_⟩) (by assumption) ?_
      rotate_left
      · intro w hSw
        (try dsimp only at hSw)
        go_simp
        all_goals (with_reducible rfl)
      try simp only [Act.put, List.setIfInBounds_toArray, List.set_cons_zero, List.set_cons_succ]
      refine wpAnyH_take (i := 4) (oi := ⟨some 61, _, _, _, _, _⟩) (v := ?_) rfl (by as_aux_lemma => kernel_rfl) (by as_aux_lemma => kernel_rfl) (by as_aux_lemma => kernel_rfl) (fun _ _ _ h => h) (Or.inl ⟨by rfl, ?_⟩) (by assumption) ?_
      rotate_left
      · intro w hSw
        (try dsimp only at hSw)
        go_simp
        all_goals (with_reducible rfl)
      try simp only [Act.put, List.setIfInBounds_toArray, List.set_cons_zero, List.set_cons_succ]
      refine wpAnyH_take (i := 5) (oi := ⟨some 62, _, _, _, _, _⟩) (v := ?_) rfl (by as_aux_lemma => kernel_rfl) (by as_aux_lemma => kernel_rfl) (by as_aux_lemma => kernel_rfl) (fun _ _ _ h => h) (Or.inl ⟨by rfl, ?_⟩) (by assumption) ?_
      rotate_left
      · intro w hSw
        (try dsimp only at hSw)
        go_simp
        all_goals (with_reducible rfl)
      try simp only [Act.put, List.setIfInBounds_toArray, List.set_cons_zero, List.set_cons_succ]
      refine wpAnyH_take (i := 6) (oi := ⟨some 63, _, _, _, _, _⟩) (v := ?_) rfl (by as_aux_lemma => kernel_rfl) (by as_aux_lemma => kernel_rfl) (by as_aux_lemma => kernel_rfl) (fun _ _ _ h => h) (Or.inl ⟨by rfl, ?_⟩) (by assumption) ?_
      rotate_left
      · intro w hSw
        (try dsimp only at hSw)
        go_simp
        all_goals (with_reducible rfl)
      try simp only [Act.put, List.setIfInBounds_toArray, List.set_cons_zero, List.set_cons_succ]
      refine wpAnyH_take (i := 7) (oi := ⟨some 64, _, _, _, _, _⟩) (v := ?_) rfl (by as_aux_lemma => kernel_rfl) (by as_aux_lemma => kernel_rfl) (by as_aux_lemma => kernel_rfl) (fun _ _ _ h => h) (Or.inl ⟨by rfl, ?_⟩) (by assumption) ?_
      rotate_left
      · intro w hSw
        (try dsimp only at hSw)
        go_simp
        all_goals (with_reducible rfl)
      try simp only [Act.put, List.setIfInBounds_toArray, List.set_cons_zero, List.set_cons_succ]
      refine wpAnyH_take (i := 8) (oi := ⟨some 65, _, _, _, _, _⟩) (v := ?_) rfl (by as_aux_lemma => kernel_rfl) (by as_aux_lemma => kernel_rfl) (by as_aux_lemma => kernel_rfl) (fun _ _ _ h => h) (Or.inl ⟨by rfl, ?_⟩) (by assumption) ?_
      rotate_left
      · intro w hSw
        (try dsimp only at hSw)
        go_simp
        all_goals (with_reducible rfl)
      try simp only [Act.put, List.setIfInBounds_toArray, List.set_cons_zero, List.set_cons_succ]
      refine wpAnyH_take (i := 9) (oi := ⟨some 66, _, _, _, _, _⟩) (v := ?_) rfl (by as_aux_lemma => kernel_rfl) (by as_aux_lemma => kernel_rfl) (by as_aux_lemma => kernel_rfl) (fun _ _ _ h => h) (Or.inl ⟨by rfl, ?_⟩) (by assumption) ?_
      rotate_left
      · intro w hSw
        (try dsimp only at hSw)
        go_simp
        all_goals (with_reducible rfl)
      try simp only [Act.put, List.setIfInBounds_toArray, List.set_cons_zero, List.set_cons_succ]
      refine wpAnyH_take (i := 10) (oi := ⟨some 67, _, _, _, _, _⟩) (v := ?_) rfl (by as_aux_lemma => kernel_rfl) (by as_aux_lemma => kernel_rfl) (by as_aux_lemma => kernel_rfl) (fun _ _ _ h => h) (Or.inl ⟨by rfl, ?_⟩) (by assumption) ?_
      rotate_left
      · intro w hSw
        (try dsimp only at hSw)
        go_simp
        all_goals (with_reducible rfl)
      try simp only [Act.put, List.setIfInBounds_toArray, List.set_cons_zero, List.set_cons_succ]
      refine wpAnyH_take (i := 11) (oi := ⟨some 68, _, _, _, _, _⟩) (v := ?_) rfl (by as_aux_lemma => kernel_rfl) (by as_aux_lemma => kernel_rfl) (by as_aux_lemma => kernel_rfl) (fun _ _ _ h => h) (Or.inl ⟨by rfl, ?_⟩) (by assumption) ?_
      rotate_left
      · intro w hSw
        (try dsimp only at hSw)
        go_simp
        all_goals (with_reducible rfl)
      try simp only [Act.put, List.setIfInBounds_toArray, List.set_cons_zero, List.set_cons_succ]
      refine wpAnyH_ready (rs := [12]) (by as_aux_lemma => kernel_rfl) (by simp) (AllReadyH.cons (o := ⟨some 69, _, _, _, _, _⟩) rfl (fun K hK => ?_) AllReadyH.nil)
      go_simp
      refine (sameB_is _ (hHeld.reads _ (.tail _ (.head _))) (hHeld.reads _ (.head _)) (q := true) (by simp)).mono ?_
      rintro e _ ⟨rfl, rfl⟩
      have hS2 := hHeld.below (Below.refl _ _) (Nat.le_refl _)
      replace HBr := Lib.hid (HBr.out.trans ((Below.refl _ _).mono HBr.out.size))
      refine hK.out _ _ hS2 (fun hHeld => ?_)
      clear hK K hS2
      try simp only [Act.put, List.setIfInBounds_toArray, List.set_cons_zero, List.set_cons_succ]
      refine wpAnyH_take (i := 13) (oi := ⟨some 70, _, _, _, _, _⟩) (v := ?_) rfl (by as_aux_lemma => kernel_rfl) (by as_aux_lemma => kernel_rfl) (by as_aux_lemma => kernel_rfl) (fun _ _ _ h => h) (Or.inl ⟨by rfl, ?_⟩) (by assumption) ?_
      rotate_left
      · intro w hSw
        (try dsimp only at hSw)
        go_simp
        all_goals (with_reducible rfl)
      try simp only [Act.put, List.setIfInBounds_toArray, List.set_cons_zero, List.set_cons_succ]
      refine wpAnyH_take (i := 14) (oi := ⟨some 71, _, _, _, _, _⟩) (v := ?_) rfl (by as_aux_lemma => kernel_rfl) (by as_aux_lemma => kernel_rfl) (by as_aux_lemma => kernel_rfl) (fun _ _ _ h => h) (Or.inl ⟨by rfl, ?_⟩) (by assumption) ?_
      rotate_left
      · intro w hSw
        (try dsimp only at hSw)
        go_simp
        all_goals (with_reducible rfl)
      try simp only [Act.put, List.setIfInBounds_toArray, List.set_cons_zero, List.set_cons_succ]
      refine wpAnyH_take (i := 15) (oi := ⟨some 72, _, _, _, _, _⟩) (v := ?_) rfl (by as_aux_lemma => kernel_rfl) (by as_aux_lemma => kernel_rfl) (by as_aux_lemma => kernel_rfl) (fun _ _ _ h => h) (Or.inl ⟨by rfl, ?_⟩) (by assumption) ?_
      rotate_left
      · intro w hSw
        (try dsimp only at hSw)
        go_simp
        all_goals (with_reducible rfl)
      try simp only [Act.put, List.setIfInBounds_toArray, List.set_cons_zero, List.set_cons_succ]
      refine wpAnyH_take (i := 16) (oi := ⟨some 73, _, _, _, _, _⟩) (v := ?_) rfl (by as_aux_lemma => kernel_rfl) (by as_aux_lemma => kernel_rfl) (by as_aux_lemma => kernel_rfl) (fun _ _ _ h => h) (Or.inl ⟨by rfl, ?_⟩) (by assumption) ?_
      rotate_left
      · intro w hSw
        (try dsimp only at hSw)
        go_simp
        all_goals (with_reducible rfl)
      try simp only [Act.put, List.setIfInBounds_toArray, List.set_cons_zero, List.set_cons_succ]
      refine wpAnyH_take (i := 17) (oi := ⟨some 74, _, _, _, _, _⟩) (v := ?_) rfl (by as_aux_lemma => kernel_rfl) (by as_aux_lemma => kernel_rfl) (by as_aux_lemma => kernel_rfl) (fun _ _ _ h => h) (Or.inl ⟨by rfl, ?_⟩) (by assumption) ?_
      rotate_left
      · intro w hSw
        (try dsimp only at hSw)
        go_simp
        all_goals (with_reducible rfl)
      try simp only [Act.put, List.setIfInBounds_toArray, List.set_cons_zero, List.set_cons_succ]
      refine wpAnyH_take (i := 18) (oi := ⟨some 75, _, _, _, _, _⟩) (v := ?_) rfl (by as_aux_lemma => kernel_rfl) (by as_aux_lemma => kernel_rfl) (by as_aux_lemma => kernel_rfl) (fun _ _ _ h => h) (Or.inl ⟨by rfl, ?_⟩) (by assumption) ?_
      rotate_left
      · intro w hSw
        (try dsimp only at hSw)
        go_simp
        all_goals (with_reducible rfl)
      try simp only [Act.put, List.setIfInBounds_toArray, List.set_cons_zero, List.set_cons_succ]
      refine wpAnyH_take (i := 19) (oi := ⟨some 76, _, _, _, _, _⟩) (v := ?_) rfl (by as_aux_lemma => kernel_rfl) (by as_aux_lemma => kernel_rfl) (by as_aux_lemma => kernel_rfl) (fun _ _ _ h => h) (Or.inl ⟨by rfl, ?_⟩) (by assumption) ?_
      rotate_left
      · intro w hSw
        (try dsimp only at hSw)
        go_simp
        all_goals (with_reducible rfl)
      try simp only [Act.put, List.setIfInBounds_toArray, List.set_cons_zero, List.set_cons_succ]
      refine wpAnyH_take (i := 20) (oi := ⟨some 77, _, _, _, _, _⟩) (v := ?_) rfl (by as_aux_lemma => kernel_rfl) (by as_aux_lemma => kernel_rfl) (by as_aux_lemma => kernel_rfl) (fun _ _ _ h => h) (Or.inl ⟨by rfl, ?_⟩) (by assumption) ?_
      rotate_left
      · intro w hSw
        (try dsimp only at hSw)
        go_simp
        all_goals (with_reducible rfl)
      try simp only [Act.put, List.setIfInBounds_toArray, List.set_cons_zero, List.set_cons_succ]
      refine wpAnyH_take (i := 21) (oi := ⟨some 78, _, _, _, _, _⟩) (v := ?_) rfl (by as_aux_lemma => kernel_rfl) (by as_aux_lemma => kernel_rfl) (by as_aux_lemma => kernel_rfl) (fun _ _ _ h => h) (Or.inl ⟨by rfl, ?_⟩) (by assumption) ?_
      rotate_left
      · intro w hSw
        obtain ⟨l0, l1, l2, l3, l4, l5, l6⟩ := arr7 (w := w) (hSw.rows _ (.tail _ (.head _)))
        go_simp
        all_goals (with_reducible rfl)
      try simp only [Act.put, List.setIfInBounds_toArray, List.set_cons_zero, List.set_cons_succ]
      refine wpAnyH_take (i := 23) (oi := ⟨some 80, _, _, _, _, _⟩) (v := ?_) rfl (by as_aux_lemma => kernel_rfl) (by as_aux_lemma => kernel_rfl) (by as_aux_lemma => kernel_rfl) (fun _ _ _ h => h) (Or.inl ⟨by rfl, ?_⟩) (by assumption) ?_
      rotate_left
      · intro w hSw
        obtain ⟨l0, l1, l2, l3, l4, l5, l6⟩ := arr7 (w := w) (hSw.rows _ (.tail _ (.head _)))
        go_simp
        all_goals (with_reducible rfl)
      try simp only [Act.put, List.setIfInBounds_toArray, List.set_cons_zero, List.set_cons_succ]
      refine wpAnyH_ready (rs := [22]) (by as_aux_lemma => kernel_rfl) (by simp) (AllReadyH.cons (o := ⟨some 79, _, _, _, _, _⟩) rfl (fun K hK => ?_) AllReadyH.nil)
      go_simp
      refine (rightA_is _ lx sx ox stx ix vex bsx Ax nx cx lenx QA.out).mono ?_
      rintro e u1 ⟨rfl, hb⟩
      have hS2 := hHeld.below hb (Nat.le_refl _)
      replace HBr := Lib.hid (HBr.out.trans (hb.mono HBr.out.size))
      refine hK.out _ _ hS2 (fun hHeld => ?_)
      clear hK K hS2
      try simp only [Act.put, List.setIfInBounds_toArray, List.set_cons_zero, List.set_cons_succ]
      clear hb
      refine wpAnyH_ready (rs := [24]) (by as_aux_lemma => kernel_rfl) (by simp) (AllReadyH.cons (o := ⟨some 81, _, _, _, _, _⟩) rfl (fun K hK => ?_) AllReadyH.nil)
      go_simp
      refine (rrightA_is _ lx sx ox stx ix vex bsx Ax nx cx lenx QA.out).mono ?_
      rintro e u2 ⟨rfl, hb⟩
      have hS2 := hHeld.below hb (Nat.le_refl _)
      replace HBr := Lib.hid (HBr.out.trans (hb.mono HBr.out.size))
      refine hK.out _ _ hS2 (fun hHeld => ?_)
      clear hK K hS2
      try simp only [Act.put, List.setIfInBounds_toArray, List.set_cons_zero, List.set_cons_succ]
      clear hb
      refine wpAnyH_take (i := 25) (oi := ⟨some 82, _, _, _, _, _⟩) (v := ?_) rfl (by as_aux_lemma => kernel_rfl) (by as_aux_lemma => kernel_rfl) (by as_aux_lemma => kernel_rfl) (fun _ _ _ h => h) (Or.inl ⟨by rfl, ?_⟩) (by assumption) ?_
      rotate_left
      · intro w hSw
        (try dsimp only at hSw)
        go_simp
        all_goals (with_reducible rfl)
      try simp only [Act.put, List.setIfInBounds_toArray, List.set_cons_zero, List.set_cons_succ]
      refine wpAnyH_take (i := 26) (oi := ⟨some 83, _, _, _, _, _⟩) (v := ?_) rfl (by as_aux_lemma => kernel_rfl) (by as_aux_lemma => kernel_rfl) (by as_aux_lemma => kernel_rfl) (fun _ _ _ h => h) (Or.inl ⟨by rfl, ?_⟩) (by assumption) ?_
      rotate_left
      · intro w hSw
        (try dsimp only at hSw)
        go_simp
        all_goals (with_reducible rfl)
      try simp only [Act.put, List.setIfInBounds_toArray, List.set_cons_zero, List.set_cons_succ]
      refine wpAnyH_take (i := 27) (oi := ⟨some 84, _, _, _, _, _⟩) (v := ?_) rfl (by as_aux_lemma => kernel_rfl) (by as_aux_lemma => kernel_rfl) (by as_aux_lemma => kernel_rfl) (fun _ _ _ h => h) (Or.inl ⟨by rfl, ?_⟩) (by assumption) ?_
      rotate_left
      · intro w hSw
        (try dsimp only at hSw)
        go_simp
        all_goals (with_reducible rfl)
      try simp only [Act.put, List.setIfInBounds_toArray, List.set_cons_zero, List.set_cons_succ]
      refine wpAnyH_take (i := 28) (oi := ⟨some 85, _, _, _, _, _⟩) (v := ?_) rfl (by as_aux_lemma => kernel_rfl) (by as_aux_lemma => kernel_rfl) (by as_aux_lemma => kernel_rfl) (fun _ _ _ h => h) (Or.inl ⟨by rfl, ?_⟩) (by assumption) ?_
      rotate_left
      · intro w hSw
        obtain ⟨l0, l1, l2, l3, l4, l5, l6⟩ := arr7 (w := w) (hSw.rows _ (.head _))
        go_simp
        all_goals (with_reducible rfl)
      try simp only [Act.put, List.setIfInBounds_toArray, List.set_cons_zero, List.set_cons_succ]
      refine wpAnyH_take (i := 30) (oi := ⟨some 87, _, _, _, _, _⟩) (v := ?_) rfl (by as_aux_lemma => kernel_rfl) (by as_aux_lemma => kernel_rfl) (by as_aux_lemma => kernel_rfl) (fun _ _ _ h => h) (Or.inl ⟨by rfl, ?_⟩) (by assumption) ?_
      rotate_left
      · intro w hSw
        obtain ⟨l0, l1, l2, l3, l4, l5, l6⟩ := arr7 (w := w) (hSw.rows _ (.head _))
        go_simp
        all_goals (with_reducible rfl)
      try simp only [Act.put, List.setIfInBounds_toArray, List.set_cons_zero, List.set_cons_succ]
      refine wpAnyH_ready (rs := [29]) (by as_aux_lemma => kernel_rfl) (by simp) (AllReadyH.cons (o := ⟨some 86, _, _, _, _, _⟩) rfl (fun K hK => ?_) AllReadyH.nil)
      go_simp
      refine (rightT_is _ tlz tsz toz tez trz (hHeld.ils _ (.head _)) (show imz ≤ 1000000 by omega) Bz kz dz tbz lenb QT.out).mono ?_
      rintro e u3 ⟨rfl, hb⟩
      have hS2 := hHeld.below hb (Nat.le_refl _)
      replace HBr := Lib.hid (HBr.out.trans (hb.mono HBr.out.size))
      refine hK.out _ _ hS2 (fun hHeld => ?_)
      clear hK K hS2
      try simp only [Act.put, List.setIfInBounds_toArray, List.set_cons_zero, List.set_cons_succ]
      clear hb
      refine wpAnyH_ready (rs := [31]) (by as_aux_lemma => kernel_rfl) (by simp) (AllReadyH.cons (o := ⟨some 88, _, _, _, _, _⟩) rfl (fun K hK => ?_) AllReadyH.nil)
      go_simp
      refine (rrightT_is _ tlz tsz toz tez trz (hHeld.ils _ (.head _)) (show imz ≤ 1000000 by omega) Bz kz dz tbz lenb QT.out).mono ?_
      rintro e u4 ⟨rfl, hb⟩
      have hS2 := hHeld.below hb (Nat.le_refl _)
      replace HBr := Lib.hid (HBr.out.trans (hb.mono HBr.out.size))
      refine hK.out _ _ hS2 (fun hHeld => ?_)
      clear hK K hS2
      try simp only [Act.put, List.setIfInBounds_toArray, List.set_cons_zero, List.set_cons_succ]
      clear hb
      refine wpAnyH_take (i := 32) (oi := ⟨some 89, _, _, _, _, _⟩) (v := ?_) rfl (by as_aux_lemma => kernel_rfl) (by as_aux_lemma => kernel_rfl) (by as_aux_lemma => kernel_rfl) (fun _ _ _ h => h) (Or.inl ⟨by rfl, ?_⟩) (by assumption) ?_
      rotate_left
      · intro w hSw
        (try dsimp only at hSw)
        go_simp
        all_goals (with_reducible rfl)
      try simp only [Act.put, List.setIfInBounds_toArray, List.set_cons_zero, List.set_cons_succ]
      refine wpAnyH_take (i := 33) (oi := ⟨some 90, _, _, _, _, _⟩) (v := ?_) rfl (by as_aux_lemma => kernel_rfl) (by as_aux_lemma => kernel_rfl) (by as_aux_lemma => kernel_rfl) (fun _ _ _ h => h) (Or.inl ⟨by rfl, ?_⟩) (by assumption) ?_
      rotate_left
      · intro w hSw
        (try dsimp only at hSw)
        go_simp
        all_goals (with_reducible rfl)
      try simp only [Act.put, List.setIfInBounds_toArray, List.set_cons_zero, List.set_cons_succ]
      refine wpAnyH_done (by kernel_rfl) ?_ _
      have HK := Lib.hid hHeld
      have HB := HBr
      clear HBr hHeld
      go_wp2_with fail
      refine (seal_any ⟨p, 0, none⟩ entry X xn xc xbs u4 (HK.out.tabs _ (.head _)).1 (HK.out.reads _ (.tail _ (.tail _ (.tail _ (.tail _ (.head _)))))) (show xn ≤ 70368744177664 by omega)).mono ?_
      rintro e w8 ⟨S, sc, rfl, hos, hb⟩
      have hW : Below u4.heap.size u4 w8 := hb
      replace HK := Lib.hid (HK.out.below hW (Nat.le_refl _))
      replace HB := Lib.hid (HB.out.trans (hW.mono HB.out.size))
      clear hW
      have hsc := hos.cap
      replace HK := Lib.hid (HK.out.read (hos.rd))
      clear hos hb
      obtain ⟨g_w9, h_w9⟩ : ∃ g, w8.heap.size = g := ⟨_, rfl⟩
      obtain ⟨w9, e⟩ : ∃ x, w8.alloc (.cells #[.slice X xn xc, .slice S (xn + 4) sc, .slice C cn cc, .slice G gn gc] 23) = x := ⟨_, rfl⟩
      obtain ⟨hW, hx⟩ := box_new e
      rw [h_w9] at hx
      have Ew9 := Lib.hid e
      clear e
      replace hx := Lib.hid hx
      replace HK := Lib.hid (HK.out.below hW (Nat.le_refl _))
      replace HB := Lib.hid (HB.out.trans (hW.mono HB.out.size))
      clear hW
      replace HK := Lib.hid (HK.out.row (show Row w9 (g_w9) #[.slice X xn xc, .slice S (xn + 4) sc, .slice C cn cc, .slice G gn gc] 23 from hx.out))
      clear hx
      go_wp2
      rw [Ew9.out]
      clear Ew9
      (try rw [h_w9])
      go_loopw [19, 20, 21, 22, 23, 24, 25, 26, 27, 98] (fun _ _ _ _ _ _ _ _ _ s98 wr => ∃ i : Nat, i ≤ 4 ∧ s98 = .int .i64 i ∧ Hid (Below w.heap.size w wr ∧ Keep wr [(g_w9, #[.slice X xn xc, .slice S (xn + 4) sc, .slice C cn cc, .slice G gn gc], 23), (g + 1, #[.int .i64 tlz, .int .i64 tsz, .int .u8 toz, .int .i64 tez, .slice Iz imz mcz, .slice Bz kz dz, .int .i64 trz], 34), (g, #[.int .i64 lx, .int .i64 sx, .int .u8 ox, .int .i64 stx, .int .i64 ix, .int .i64 vex, .slice Ax nx cx], 25)] [(S, xn + 4, sealed entry xbs), (H, hn, bG), (G, gn, bG), (D, dn, bC), (C, cn, bC), (X, xn, xbs), (Bz, kz, tbz), (Ax, nx, bsx)] [(Iz, imz, Lz)] [(p, entry)])) (fun _ _ _ _ _ _ _ _ _ s98 _ => 4 - (Go.RowKit.intOf s98).toNat)
      case atStart => exact ⟨0, by omega, rfl, (⟨HB.out, HK.out⟩ : _ ∧ _)⟩
      case round =>
        clear HB HK
        obtain ⟨i, hi, rfl, HR⟩ := hrel
        by_cases hlt : i < 4
        · have HB := Lib.hid HR.out.1
          have HK := Lib.hid HR.out.2
          have HBase := HK
          obtain ⟨k0, k1, k2, k3⟩ := four30 (w := wr) (HK.out.rows _ (.head _))
          obtain ⟨Y, yn, yc, yb, hcell, hrdY, hy1, hy2⟩ : ∃ (Y : Option Addr) (yn yc : Nat) (yb : List UInt8), wr.cell? ⟨g_w9, i, none⟩ = some (.slice Y yn yc) ∧ Rd wr Y yn yb ∧ yn ≤ 1000000 ∧ yn ≤ yc := by
            rcases (by omega : i = 0 ∨ i = 1 ∨ i = 2 ∨ i = 3) with rfl | rfl | rfl | rfl
            · exact ⟨_, _, _, _, k0, (HK.out.reads _ (.tail _ (.tail _ (.tail _ (.tail _ (.tail _ (.head _))))))), by omega, hc⟩
            · exact ⟨_, _, _, _, k1, (HK.out.reads _ (.head _)), by omega, hsc⟩
            · exact ⟨_, _, _, _, k2, (HK.out.reads _ (.tail _ (.tail _ (.tail _ (.tail _ (.head _)))))), by first | omega | (simp only at hlC; omega), hcc⟩
            · exact ⟨_, _, _, _, k3, (HK.out.reads _ (.tail _ (.tail _ (.head _)))), by first | omega | (simp only at hlG; omega), hgc⟩
          have hi1 : (0 : Int) ≤ (i : Int) := by omega
          have hi2 : (i : Int) < 4 := by omega
          have hwk : IntKind.i64.wrap ((i : Int) + 1) = (i : Int) + 1 := IntWalk.i64_in _ (by omega)
          have HX := Lib.hid hlt
          clear k0 k1 k2 k3 hlt HR
          have HY := Lib.hid (hrdY)
          clear hrdY
          obtain ⟨pa, hpa⟩ : ∃ x, getA entry yb = x := ⟨_, rfl⟩
          obtain ⟨⟨q1, q2, q3, q4, q5, q6, qb⟩, ea⟩ := pa
          have HPa := Lib.hid hpa
          clear hpa
          obtain ⟨pt, hpt⟩ : ∃ x, getT entry yb = x := ⟨_, rfl⟩
          obtain ⟨⟨r1, r2, r3, r4, rL, rb, r5⟩, et⟩ := pt
          have HPt := Lib.hid hpt
          clear hpt
          go_wp2_with fail
          refine (getA_is wr (HK.out.tabs _ (.head _)).1 (HK.out.tabs _ (.head _)).2 HY.out hy1 hy2).mono ?_
          rintro e v1 ⟨Q1, m1, d1, rfl, ho, hb⟩
          rw [HPa.out] at ho ⊢
          simp only at ho ⊢
          have hW : Below wr.heap.size wr v1 := hb
          replace HK := Lib.hid (HK.out.below hW (Nat.le_refl _))
          replace HY := Lib.hid (HY.out.below hW (Nat.le_refl _))
          replace HBase := Lib.hid (HBase.out.below hW (Nat.le_refl _))
          replace HB := Lib.hid (HB.out.trans (hW.mono HB.out.size))
          clear hW
          have R1 := Lib.hid (ho.rd)
          clear ho hb hcell
          obtain ⟨g_v2, h_v2⟩ : ∃ g, v1.heap.size = g := ⟨_, rfl⟩
          obtain ⟨v2, e⟩ : ∃ x, v1.alloc (.cells #[.int .i64 q1, .int .i64 q2, .int .u8 q3, .int .i64 q4, .int .i64 q5, .int .i64 q6, .slice Q1 m1 d1] 25) = x := ⟨_, rfl⟩
          obtain ⟨hW, hx⟩ := box_new e
          rw [h_v2] at hx
          have Ev2 := Lib.hid e
          clear e
          replace hx := Lib.hid (show Row v2 g_v2 #[.int .i64 q1, .int .i64 q2, .int .u8 q3, .int .i64 q4, .int .i64 q5, .int .i64 q6, .slice Q1 m1 d1] 25 from hx)
          replace HK := Lib.hid (HK.out.below hW (Nat.le_refl _))
          replace HY := Lib.hid (HY.out.below hW (Nat.le_refl _))
          replace HBase := Lib.hid (HBase.out.below hW (Nat.le_refl _))
          replace R1 := Lib.hid (R1.out.below hW (Nat.le_refl _))
          replace HB := Lib.hid (HB.out.trans (hW.mono HB.out.size))
          clear hW
          have W1 := hx
          clear hx
          go_wp2_with fail
          rw [Ev2.out]
          clear Ev2
          refine (rgetA_is v2 (HK.out.tabs _ (.head _)).1 (HK.out.tabs _ (.head _)).2 HY.out hy1 hy2).mono ?_
          rintro e v3 ⟨Q2, m2, d2, rfl, ho, hm2, hb⟩
          rw [HPa.out] at ho ⊢
          simp only at ho ⊢
          have hW : Below v2.heap.size v2 v3 := hb
          replace HK := Lib.hid (HK.out.below hW (Nat.le_refl _))
          replace HY := Lib.hid (HY.out.below hW (Nat.le_refl _))
          replace HBase := Lib.hid (HBase.out.below hW (Nat.le_refl _))
          replace R1 := Lib.hid (R1.out.below hW (Nat.le_refl _))
          replace W1 := Lib.hid (W1.out.below hW (Nat.le_refl _))
          replace HB := Lib.hid (HB.out.trans (hW.mono HB.out.size))
          clear hW
          have R2 := Lib.hid (ho)
          clear ho hb
          obtain ⟨g_v4, h_v4⟩ : ∃ g, v3.heap.size = g := ⟨_, rfl⟩
          obtain ⟨v4, e⟩ : ∃ x, v3.alloc (.cells #[.int .i64 q1, .int .i64 q2, .int .u8 q3, .int .i64 q4, .int .i64 q5, .int .i64 q6, .slice Q2 m2 d2] 25) = x := ⟨_, rfl⟩
          obtain ⟨hW, hx⟩ := box_new e
          rw [h_v4] at hx
          have Ev4 := Lib.hid e
          clear e
          replace hx := Lib.hid (show Row v4 g_v4 #[.int .i64 q1, .int .i64 q2, .int .u8 q3, .int .i64 q4, .int .i64 q5, .int .i64 q6, .slice Q2 m2 d2] 25 from hx)
          replace HK := Lib.hid (HK.out.below hW (Nat.le_refl _))
          replace HY := Lib.hid (HY.out.below hW (Nat.le_refl _))
          replace HBase := Lib.hid (HBase.out.below hW (Nat.le_refl _))
          replace R1 := Lib.hid (R1.out.below hW (Nat.le_refl _))
          replace W1 := Lib.hid (W1.out.below hW (Nat.le_refl _))
          replace R2 := Lib.hid (R2.out.below hW (Nat.le_refl _))
          replace HB := Lib.hid (HB.out.trans (hW.mono HB.out.size))
          clear hW
          have W2 := hx
          clear hx
          go_wp2_with fail
          rw [Ev4.out]
          clear Ev4
          refine (getT_is v4 (HK.out.tabs _ (.head _)).1 (HK.out.tabs _ (.head _)).2 HY.out hy1 hy2).mono ?_
          rintro e v5 ⟨J3, j3, e3, Q3, m3, d3, rfl, hi3, hj3, ho, hb⟩
          rw [HPt.out] at hi3 ho ⊢
          simp only at hi3 ho ⊢
          have hW : Below v4.heap.size v4 v5 := hb
          replace HK := Lib.hid (HK.out.below hW (Nat.le_refl _))
          replace HY := Lib.hid (HY.out.below hW (Nat.le_refl _))
          replace HBase := Lib.hid (HBase.out.below hW (Nat.le_refl _))
          replace R1 := Lib.hid (R1.out.below hW (Nat.le_refl _))
          replace W1 := Lib.hid (W1.out.below hW (Nat.le_refl _))
          replace R2 := Lib.hid (R2.out.below hW (Nat.le_refl _))
          replace W2 := Lib.hid (W2.out.below hW (Nat.le_refl _))
          replace HB := Lib.hid (HB.out.trans (hW.mono HB.out.size))
          clear hW
          have R3 := Lib.hid (ho.rd)
          have L3 := Lib.hid (ownK_il hi3)
          clear ho hi3 hb
          obtain ⟨g_v6, h_v6⟩ : ∃ g, v5.heap.size = g := ⟨_, rfl⟩
          obtain ⟨v6, e⟩ : ∃ x, v5.alloc (.cells #[.int .i64 r1, .int .i64 r2, .int .u8 r3, .int .i64 r4, .slice J3 j3 e3, .slice Q3 m3 d3, .int .i64 r5] 34) = x := ⟨_, rfl⟩
          obtain ⟨hW, hx⟩ := box_new e
          rw [h_v6] at hx
          have Ev6 := Lib.hid e
          clear e
          replace hx := Lib.hid (show Row v6 g_v6 #[.int .i64 r1, .int .i64 r2, .int .u8 r3, .int .i64 r4, .slice J3 j3 e3, .slice Q3 m3 d3, .int .i64 r5] 34 from hx)
          replace HK := Lib.hid (HK.out.below hW (Nat.le_refl _))
          replace HY := Lib.hid (HY.out.below hW (Nat.le_refl _))
          replace HBase := Lib.hid (HBase.out.below hW (Nat.le_refl _))
          replace R1 := Lib.hid (R1.out.below hW (Nat.le_refl _))
          replace W1 := Lib.hid (W1.out.below hW (Nat.le_refl _))
          replace R2 := Lib.hid (R2.out.below hW (Nat.le_refl _))
          replace W2 := Lib.hid (W2.out.below hW (Nat.le_refl _))
          replace R3 := Lib.hid (R3.out.below hW (Nat.le_refl _))
          replace L3 := Lib.hid (L3.out.below hW (Nat.le_refl _))
          replace HB := Lib.hid (HB.out.trans (hW.mono HB.out.size))
          clear hW
          have W3 := hx
          clear hx
          go_wp2_with fail
          rw [Ev6.out]
          clear Ev6
          refine (rgetT_is v6 (HK.out.tabs _ (.head _)).1 (HK.out.tabs _ (.head _)).2 HY.out hy1 hy2).mono ?_
          rintro e v7 ⟨J4, j4, e4, Q4, m4, d4, rfl, hi4, hj4, ho, hm4, hb⟩
          rw [HPt.out] at hi4 ho ⊢
          simp only at hi4 ho ⊢
          have hW : Below v6.heap.size v6 v7 := hb
          replace HK := Lib.hid (HK.out.below hW (Nat.le_refl _))
          replace HY := Lib.hid (HY.out.below hW (Nat.le_refl _))
          replace HBase := Lib.hid (HBase.out.below hW (Nat.le_refl _))
          replace R1 := Lib.hid (R1.out.below hW (Nat.le_refl _))
          replace W1 := Lib.hid (W1.out.below hW (Nat.le_refl _))
          replace R2 := Lib.hid (R2.out.below hW (Nat.le_refl _))
          replace W2 := Lib.hid (W2.out.below hW (Nat.le_refl _))
          replace R3 := Lib.hid (R3.out.below hW (Nat.le_refl _))
          replace L3 := Lib.hid (L3.out.below hW (Nat.le_refl _))
          replace W3 := Lib.hid (W3.out.below hW (Nat.le_refl _))
          replace HB := Lib.hid (HB.out.trans (hW.mono HB.out.size))
          clear hW
          have R4 := Lib.hid (ho)
          have L4 := Lib.hid (hi4)
          clear ho hi4 hb
          obtain ⟨g_v8, h_v8⟩ : ∃ g, v7.heap.size = g := ⟨_, rfl⟩
          obtain ⟨v8, e⟩ : ∃ x, v7.alloc (.cells #[.int .i64 r1, .int .i64 r2, .int .u8 r3, .int .i64 r4, .slice J4 j4 e4, .slice Q4 m4 d4, .int .i64 r5] 34) = x := ⟨_, rfl⟩
          obtain ⟨hW, hx⟩ := box_new e
          rw [h_v8] at hx
          have Ev8 := Lib.hid e
          clear e
          replace hx := Lib.hid (show Row v8 g_v8 #[.int .i64 r1, .int .i64 r2, .int .u8 r3, .int .i64 r4, .slice J4 j4 e4, .slice Q4 m4 d4, .int .i64 r5] 34 from hx)
          replace HK := Lib.hid (HK.out.below hW (Nat.le_refl _))
          replace HY := Lib.hid (HY.out.below hW (Nat.le_refl _))
          replace HBase := Lib.hid (HBase.out.below hW (Nat.le_refl _))
          replace R1 := Lib.hid (R1.out.below hW (Nat.le_refl _))
          replace W1 := Lib.hid (W1.out.below hW (Nat.le_refl _))
          replace R2 := Lib.hid (R2.out.below hW (Nat.le_refl _))
          replace W2 := Lib.hid (W2.out.below hW (Nat.le_refl _))
          replace R3 := Lib.hid (R3.out.below hW (Nat.le_refl _))
          replace L3 := Lib.hid (L3.out.below hW (Nat.le_refl _))
          replace W3 := Lib.hid (W3.out.below hW (Nat.le_refl _))
          replace R4 := Lib.hid (R4.out.below hW (Nat.le_refl _))
          replace L4 := Lib.hid (L4.out.below hW (Nat.le_refl _))
          replace HB := Lib.hid (HB.out.trans (hW.mono HB.out.size))
          clear hW
          have W4 := hx
          clear hx
          obtain ⟨a0, a1, a2, a3, a4, a5, a6⟩ := arr7 (w := (World.alloc v7 (.cells #[.int .i64 r1, .int .i64 r2, .int .u8 r3, .int .i64 r4, .slice J4 j4 e4, .slice Q4 m4 d4, .int .i64 r5] 34))) (by rw [Ev8.out]; exact W1.out)
          obtain ⟨b0, b1, b2, b3, b4, b5, b6⟩ := arr7 (w := (World.alloc v7 (.cells #[.int .i64 r1, .int .i64 r2, .int .u8 r3, .int .i64 r4, .slice J4 j4 e4, .slice Q4 m4 d4, .int .i64 r5] 34))) (by rw [Ev8.out]; exact W2.out)
          go_wp2_with fail
          rw [Ev8.out]
          clear Ev8
          refine (sameA_is v8 q1 q2 q3 q4 q5 q6 q1 q2 q3 q4 q5 q6 qb qb R1.out R2.out (q := true) (by simp)).mono ?_
          rintro e v9 ⟨rfl, hb⟩
          clear a0 a1 a2 a3 a4 a5 a6 b0 b1 b2 b3 b4 b5 b6
          have hW : Below v8.heap.size v8 v9 := hb
          replace HK := Lib.hid (HK.out.below hW (Nat.le_refl _))
          replace HY := Lib.hid (HY.out.below hW (Nat.le_refl _))
          replace HBase := Lib.hid (HBase.out.below hW (Nat.le_refl _))
          replace R1 := Lib.hid (R1.out.below hW (Nat.le_refl _))
          replace W1 := Lib.hid (W1.out.below hW (Nat.le_refl _))
          replace R2 := Lib.hid (R2.out.below hW (Nat.le_refl _))
          replace W2 := Lib.hid (W2.out.below hW (Nat.le_refl _))
          replace R3 := Lib.hid (R3.out.below hW (Nat.le_refl _))
          replace L3 := Lib.hid (L3.out.below hW (Nat.le_refl _))
          replace W3 := Lib.hid (W3.out.below hW (Nat.le_refl _))
          replace R4 := Lib.hid (R4.out.below hW (Nat.le_refl _))
          replace L4 := Lib.hid (L4.out.below hW (Nat.le_refl _))
          replace W4 := Lib.hid (W4.out.below hW (Nat.le_refl _))
          replace HB := Lib.hid (HB.out.trans (hW.mono HB.out.size))
          clear hW
          clear hb
          obtain ⟨a0, a1, a2, a3, a4, a5, a6⟩ := arr7 (w := v9) (by exact W3.out)
          obtain ⟨b0, b1, b2, b3, b4, b5, b6⟩ := arr7 (w := v9) (by exact W4.out)
          go_wp2_with fail
          refine (sameT_is v9 r1 r2 r3 r4 r5 r1 r2 r3 r4 r5 rL rL rb rb L3.out L4.out (by omega) R3.out R4.out (q := true) (by simp)).mono ?_
          rintro e v10 ⟨rfl, hb⟩
          clear a0 a1 a2 a3 a4 a5 a6 b0 b1 b2 b3 b4 b5 b6
          have hW : Below v9.heap.size v9 v10 := hb
          replace HK := Lib.hid (HK.out.below hW (Nat.le_refl _))
          replace HY := Lib.hid (HY.out.below hW (Nat.le_refl _))
          replace HBase := Lib.hid (HBase.out.below hW (Nat.le_refl _))
          replace R1 := Lib.hid (R1.out.below hW (Nat.le_refl _))
          replace W1 := Lib.hid (W1.out.below hW (Nat.le_refl _))
          replace R2 := Lib.hid (R2.out.below hW (Nat.le_refl _))
          replace W2 := Lib.hid (W2.out.below hW (Nat.le_refl _))
          replace R3 := Lib.hid (R3.out.below hW (Nat.le_refl _))
          replace L3 := Lib.hid (L3.out.below hW (Nat.le_refl _))
          replace W3 := Lib.hid (W3.out.below hW (Nat.le_refl _))
          replace R4 := Lib.hid (R4.out.below hW (Nat.le_refl _))
          replace L4 := Lib.hid (L4.out.below hW (Nat.le_refl _))
          replace W4 := Lib.hid (W4.out.below hW (Nat.le_refl _))
          replace HB := Lib.hid (HB.out.trans (hW.mono HB.out.size))
          clear hW
          clear hb
          go_wp2
          go_roundw
          case rel => exact ⟨i + 1, by have := HX.out; omega, by go_num, (⟨HB.out, HBase.out⟩ : _ ∧ _)⟩
          case measure => have := HX.out; simp [Go.RowKit.intOf]; omega
        · obtain rfl : i = 4 := by omega
          have HB := Lib.hid HR.out.1
          have HK := Lib.hid HR.out.2
          have hcast : ((4 : Nat) : Int) = 4 := rfl
          rw [hcast]
          clear hcast
          go_wp2_with fail
          refine (awake_is _).mono ?_
          rintro e wz ⟨rfl, hb⟩
          have hW : Below wr.heap.size wr wz := hb
          replace HK := Lib.hid (HK.out.below hW (Nat.le_refl _))
          replace HB := Lib.hid (HB.out.trans (hW.mono HB.out.size))
          clear hW
          go_wp2
          go_ret
          exact told_mk (by simp) HB.out
    | true =>
      have HZ := Lib.hid Z0_size
      have hz39 := zeroT39
      go_enter Try.func4, Try.ntmps4
      obtain ⟨a0, a1, a2, a3, a4, a5, a6⟩ := arr7 (w := (World.alloc (World.alloc w (.cells #[.int .i64 lx, .int .i64 sx, .int .u8 ox, .int .i64 stx, .int .i64 ix, .int .i64 vex, .slice Ax nx cx] 25)) (.cells #[.int .i64 tlz, .int .i64 tsz, .int .u8 toz, .int .i64 tez, .slice Iz imz mcz, .slice Bz kz dz, .int .i64 trz] 34))) (by rw [Ew1.out, Ew2.out]; exact (HK.out.rows _ (.tail _ (.head _))))
      obtain ⟨b0, b1, b2, b3, b4, b5, b6⟩ := arr7 (w := (World.alloc (World.alloc w (.cells #[.int .i64 lx, .int .i64 sx, .int .u8 ox, .int .i64 stx, .int .i64 ix, .int .i64 vex, .slice Ax nx cx] 25)) (.cells #[.int .i64 tlz, .int .i64 tsz, .int .u8 toz, .int .i64 tez, .slice Iz imz mcz, .slice Bz kz dz, .int .i64 trz] 34))) (by rw [Ew1.out, Ew2.out]; exact (HK.out.rows _ (.head _)))
      go_wp2_with fail
      rw [Ew1.out]
      rw [Ew2.out]
      clear Ew1 Ew2
      refine (small_is w2 lx sx ox stx ix vex tlz tsz toz tez trz q1.out).mono ?_
      rintro e w3 ⟨rfl, hb⟩
      have hW : Below w2.heap.size w2 w3 := hb
      replace HK := Lib.hid (HK.out.below hW (Nat.le_refl _))
      replace HB := Lib.hid (HB.out.trans (hW.mono HB.out.size))
      clear hW
      clear a0 a1 a2 a3 a4 a5 a6 b0 b1 b2 b3 b4 b5 b6 hb
      go_upto_region 4 with (first
        | (go_at_call 12; refine (table_any _).mono ?_; rintro e wq ⟨rfl, hbq⟩; rw [show tarr ((List.range 256).map entry) = T0 from rfl])
        | ((with_reducible refine wpList_store_new (o := ⟨none, .store 39 (.tmp 9) (.tmp 34), _, _, _, _⟩) ?_ 39 (.tmp 9) (.tmp 34) ?_ T0 Z0 ?_ ?_ 39 size39' HZ.out T0_one ?_)
           case refine_1 => rfl
           case refine_2 => rfl
           case refine_3 => rfl
           case refine_4 => rfl))
      have hW : Below w3.heap.size w3 wq := hbq
      clear hbq
      replace HK := Lib.hid (HK.out.below hW (Nat.le_refl _))
      replace HB := Lib.hid (HB.out.trans (hW.mono HB.out.size))
      clear hW
      obtain ⟨p, hp⟩ : ∃ p, wq.heap.size = p := ⟨_, rfl⟩
      have HP := Lib.hid hp
      clear hp
      go_upto_region 6 with (
        ((with_reducible refine wpList_store_new (o := ⟨none, .store 39 (.tmp 9) (.tmp 36), _, _, _, _⟩) ?_ 39 (.tmp 9) (.tmp 36) ?_ Z0 T0 ?_ ?_ 39 size39z HZ.out.symm Z0_one ?_)
         case refine_1 => rfl
         case refine_2 => (first | rfl | (rw [HP.out]; rfl))
         case refine_3 => rfl
         case refine_4 => rfl))
      have hp := HP.out
      clear HP hz39 HZ
      obtain ⟨wT, e⟩ : ∃ x, wq.alloc (.cells Z0 39) = x := ⟨_, rfl⟩
      obtain ⟨hW, hx⟩ := box_new e
      rw [hp] at hx
      have EwT := Lib.hid e
      clear e
      replace hx := Lib.hid hx
      replace HK := Lib.hid (HK.out.below hW (Nat.le_refl _))
      replace HB := Lib.hid (HB.out.trans (hW.mono HB.out.size))
      clear hW
      clear hx
      have hTb : Tb wT p (fun _ => 0) := by rw [← EwT.out]; exact tab_nought wq hp
      replace HK := Lib.hid (HK.out.tab (hTb))
      clear hTb
      rw [EwT.out]
      clear EwT
      (try rw [hp])
      obtain ⟨px, hpx⟩ : ∃ x, putA (fun _ => 0) ⟨lx, sx, ox, stx, ix, vex, bsx⟩ = x := ⟨_, rfl⟩
      have hlC := putA_len (fun _ => 0) ⟨lx, sx, ox, stx, ix, vex, bsx⟩
      rw [hpx] at hlC
      obtain ⟨bC, eC⟩ := px
      have HPx := Lib.hid hpx
      clear hpx
      obtain ⟨a0, a1, a2, a3, a4, a5, a6⟩ := arr7 (w := wT) (by exact (HK.out.rows _ (.tail _ (.head _))))
      go_wp2_with fail
      refine (putA_is wT (HK.out.tabs _ (.head _)).1 (HK.out.tabs _ (.head _)).2 lx sx ox stx ix vex bsx (HK.out.reads _ (.tail _ (.tail _ (.head _)))) (show nx ≤ 1000000 by omega)).mono ?_
      rintro e w4 ⟨C, cn, cc, rfl, hoc, hb⟩
      rw [HPx.out] at hoc ⊢
      simp only at hoc ⊢
      clear a0 a1 a2 a3 a4 a5 a6
      have hW : Below wT.heap.size wT w4 := hb
      replace HK := Lib.hid (HK.out.below hW (Nat.le_refl _))
      replace HB := Lib.hid (HB.out.trans (hW.mono HB.out.size))
      clear hW
      have hcc := hoc.cap
      have lenC := hoc.len
      replace HK := Lib.hid (HK.out.read (hoc.rd))
      clear hoc hb
      obtain ⟨a0, a1, a2, a3, a4, a5, a6⟩ := arr7 (w := w4) (by exact (HK.out.rows _ (.tail _ (.head _))))
      go_wp2_with fail
      refine (rputA_is w4 (HK.out.tabs _ (.head _)).1 (HK.out.tabs _ (.head _)).2 lx sx ox stx ix vex bsx (HK.out.reads _ (.tail _ (.tail _ (.tail _ (.head _))))) (show nx ≤ 1000000 by omega)).mono ?_
      rintro e w5 ⟨D, dn, dc, rfl, hod, hdn, hb⟩
      rw [HPx.out] at hod ⊢
      simp only at hod ⊢
      clear a0 a1 a2 a3 a4 a5 a6
      have hW : Below w4.heap.size w4 w5 := hb
      replace HK := Lib.hid (HK.out.below hW (Nat.le_refl _))
      replace HB := Lib.hid (HB.out.trans (hW.mono HB.out.size))
      clear hW
      replace HK := Lib.hid (HK.out.read (hod))
      clear hod hb hdn
      obtain ⟨px, hpx⟩ : ∃ x, putT (fun _ => 0) ⟨tlz, tsz, toz, tez, Lz, tbz, trz⟩ = x := ⟨_, rfl⟩
      have hlG := putT_len (fun _ => 0) ⟨tlz, tsz, toz, tez, Lz, tbz, trz⟩
      rw [hpx] at hlG
      obtain ⟨bG, eG⟩ := px
      have HPz := Lib.hid hpx
      clear hpx
      obtain ⟨a0, a1, a2, a3, a4, a5, a6⟩ := arr7 (w := w5) (by exact (HK.out.rows _ (.head _)))
      go_wp2_with fail
      refine (putT_is w5 (HK.out.tabs _ (.head _)).1 (HK.out.tabs _ (.head _)).2 tlz tsz toz tez trz (HK.out.ils _ (.head _)) (show imz ≤ 1000000 by omega) tbz (HK.out.reads _ (.tail _ (.tail _ (.tail _ (.head _))))) (show kz ≤ 1000000 by omega)).mono ?_
      rintro e w6 ⟨G, gn, gc, rfl, hog, hb⟩
      rw [HPz.out] at hog ⊢
      simp only at hog ⊢
      clear a0 a1 a2 a3 a4 a5 a6
      have hW : Below w5.heap.size w5 w6 := hb
      replace HK := Lib.hid (HK.out.below hW (Nat.le_refl _))
      replace HB := Lib.hid (HB.out.trans (hW.mono HB.out.size))
      clear hW
      have hgc := hog.cap
      have lenG := hog.len
      replace HK := Lib.hid (HK.out.read (hog.rd))
      clear hog hb
      obtain ⟨a0, a1, a2, a3, a4, a5, a6⟩ := arr7 (w := w6) (by exact (HK.out.rows _ (.head _)))
      go_wp2_with fail
      refine (rputT_is w6 (HK.out.tabs _ (.head _)).1 (HK.out.tabs _ (.head _)).2 tlz tsz toz tez trz (HK.out.ils _ (.head _)) (show imz ≤ 1000000 by omega) tbz (HK.out.reads _ (.tail _ (.tail _ (.tail _ (.tail _ (.head _)))))) (show kz ≤ 1000000 by omega)).mono ?_
      rintro e w7 ⟨H, hn, hc', rfl, hoh, hhn, hb⟩
      rw [HPz.out] at hoh ⊢
      simp only at hoh ⊢
      clear a0 a1 a2 a3 a4 a5 a6
      have hW : Below w6.heap.size w6 w7 := hb
      replace HK := Lib.hid (HK.out.below hW (Nat.le_refl _))
      replace HB := Lib.hid (HB.out.trans (hW.mono HB.out.size))
      clear hW
      replace HK := Lib.hid (HK.out.read (hoh))
      clear hoh hb hhn
      obtain ⟨qa, hqa⟩ : ∃ q, decide (RightA ⟨lx, sx, ox, stx, ix, vex, bsx⟩) = q := ⟨_, rfl⟩
      obtain ⟨qt, hqt⟩ : ∃ q, decide (RightT ⟨tlz, tsz, toz, tez, Lz, tbz, trz⟩) = q := ⟨_, rfl⟩
      have QA := Lib.hid hqa
      have QT := Lib.hid hqt
      clear hqa hqt
      go_wp2_with fail
      refine wp_region_held_drew (S := fun u => Keep u [(g + 1, #[.int .i64 tlz, .int .i64 tsz, .int .u8 toz, .int .i64 tez, .slice Iz imz mcz, .slice Bz kz dz, .int .i64 trz], 34), (g, #[.int .i64 lx, .int .i64 sx, .int .u8 ox, .int .i64 stx, .int .i64 ix, .int .i64 vex, .slice Ax nx cx], 25)] [(H, hn, bG), (G, gn, bG), (D, dn, bC), (C, cn, bC), (X, xn, xbs), (Bz, kz, tbz), (Ax, nx, bsx)] [(Iz, imz, Lz)] [(p, (fun _ => 0))]) (by kernel_rfl) (HK.out.drew) (fun hHeld => ?_)
      have HBr := Lib.hid (HB.out.drew)
      clear HK HB
      refine wpAnyH_take (i := 0) (oi := ⟨some 57, _, _, _, _, _⟩) (v := ?_) rfl (by as_aux_lemma => kernel_rfl) (by as_aux_lemma => kernel_rfl) (by as_aux_lemma => kernel_rfl) (fun _ _ _ h => h) (Or.inl ⟨by rfl, ?_⟩) (by assumption) ?_
      rotate_left
      · intro w hSw
        (try dsimp only at hSw)
        go_simp
        all_goals (with_reducible rfl)
      try simp only [Act.put, List.setIfInBounds_toArray, List.set_cons_zero, List.set_cons_succ]
      refine wpAnyH_take (i := 1) (oi := ⟨some 58, _, _, _, _, _⟩) (v := ?_) rfl (by as_aux_lemma => kernel_rfl) (by as_aux_lemma => kernel_rfl) (by as_aux_lemma => kernel_rfl) (fun _ _ _ h => h) (Or.inl ⟨by rfl, ?_⟩) (by assumption) ?_
      rotate_left
      · intro w hSw
        (try dsimp only at hSw)
        go_simp
        all_goals (with_reducible rfl)
      try simp only [Act.put, List.setIfInBounds_toArray, List.set_cons_zero, List.set_cons_succ]
      refine wpAnyH_ready (rs := [2]) (by as_aux_lemma => kernel_rfl) (by simp) (AllReadyH.cons (o := ⟨some 59, _, _, _, _, _⟩) rfl (fun K hK => ?_) AllReadyH.nil)
      go_simp
      refine (sameB_is _ (hHeld.reads _ (.tail _ (.tail _ (.tail _ (.head _))))) (hHeld.reads _ (.tail _ (.tail _ (.head _)))) (q := true) (by simp)).mono ?_
      rintro e _ ⟨rfl, rfl⟩
      have hS2 := hHeld.below (Below.refl _ _) (Nat.le_refl _)
      replace HBr := Lib.hid (HBr.out.trans ((Below.refl _ _).mono HBr.out.size))
      refine hK.out _ _ hS2 (fun hHeld => ?_)
      clear hK K hS2
      try simp only [Act.put, List.setIfInBounds_toArray, List.set_cons_zero, List.set_cons_succ]
      refine wpAnyH_take (i := 3) (oi := ⟨some 60, _, _, _, _, _⟩) (v := ?_) rfl (by as_aux_lemma => kernel_rfl) (by as_aux_lemma => kernel_rfl) (by as_aux_lemma => kernel_rfl) (fun _ _ _ h => h) (Or.inl ⟨by rfl, ?_⟩) (by assumption) ?_
      rotate_left
      · intro w hSw
        (try dsimp only at hSw)
        go_simp
        all_goals (with_reducible rfl)
      try simp only [Act.put, List.setIfInBounds_toArray, List.set_cons_zero, List.set_cons_succ]
      refine wpAnyH_take (i := 4) (oi := ⟨some 61, _, _, _, _, _⟩) (v := ?_) rfl (by as_aux_lemma => kernel_rfl) (by as_aux_lemma => kernel_rfl) (by as_aux_lemma => kernel_rfl) (fun _ _ _ h => h) (Or.inl ⟨by rfl, ?_⟩) (by assumption) ?_
      rotate_left
      · intro w hSw
        (try dsimp only at hSw)
        go_simp
        all_goals (with_reducible rfl)
      try simp only [Act.put, List.setIfInBounds_toArray, List.set_cons_zero, List.set_cons_succ]
      refine wpAnyH_take (i := 5) (oi := ⟨some 62, _, _, _, _, _⟩) (v := ?_) rfl (by as_aux_lemma => kernel_rfl) (by as_aux_lemma => kernel_rfl) (by as_aux_lemma => kernel_rfl) (fun _ _ _ h => h) (Or.inl ⟨by rfl, ?_⟩) (by assumption) ?_
      rotate_left
      · intro w hSw
        (try dsimp only at hSw)
        go_simp
        all_goals (with_reducible rfl)
      try simp only [Act.put, List.setIfInBounds_toArray, List.set_cons_zero, List.set_cons_succ]
      refine wpAnyH_take (i := 6) (oi := ⟨some 63, _, _, _, _, _⟩) (v := ?_) rfl (by as_aux_lemma => kernel_rfl) (by as_aux_lemma => kernel_rfl) (by as_aux_lemma => kernel_rfl) (fun _ _ _ h => h) (Or.inl ⟨by rfl, ?_⟩) (by assumption) ?_
      rotate_left
      · intro w hSw
        (try dsimp only at hSw)
        go_simp
        all_goals (with_reducible rfl)
      try simp only [Act.put, List.setIfInBounds_toArray, List.set_cons_zero, List.set_cons_succ]
      refine wpAnyH_take (i := 7) (oi := ⟨some 64, _, _, _, _, _⟩) (v := ?_) rfl (by as_aux_lemma => kernel_rfl) (by as_aux_lemma => kernel_rfl) (by as_aux_lemma => kernel_rfl) (fun _ _ _ h => h) (Or.inl ⟨by rfl, ?_⟩) (by assumption) ?_
      rotate_left
      · intro w hSw
        (try dsimp only at hSw)
        go_simp
        all_goals (with_reducible rfl)
      try simp only [Act.put, List.setIfInBounds_toArray, List.set_cons_zero, List.set_cons_succ]
      refine wpAnyH_take (i := 8) (oi := ⟨some 65, _, _, _, _, _⟩) (v := ?_) rfl (by as_aux_lemma => kernel_rfl) (by as_aux_lemma => kernel_rfl) (by as_aux_lemma => kernel_rfl) (fun _ _ _ h => h) (Or.inl ⟨by rfl, ?_⟩) (by assumption) ?_
      rotate_left
      · intro w hSw
        (try dsimp only at hSw)
        go_simp
        all_goals (with_reducible rfl)
      try simp only [Act.put, List.setIfInBounds_toArray, List.set_cons_zero, List.set_cons_succ]
      refine wpAnyH_take (i := 9) (oi := ⟨some 66, _, _, _, _, _⟩) (v := ?_) rfl (by as_aux_lemma => kernel_rfl) (by as_aux_lemma => kernel_rfl) (by as_aux_lemma => kernel_rfl) (fun _ _ _ h => h) (Or.inl ⟨by rfl, ?_⟩) (by assumption) ?_
      rotate_left
      · intro w hSw
        (try dsimp only at hSw)
        go_simp
        all_goals (with_reducible rfl)
      try simp only [Act.put, List.setIfInBounds_toArray, List.set_cons_zero, List.set_cons_succ]
      refine wpAnyH_take (i := 10) (oi := ⟨some 67, _, _, _, _, _⟩) (v := ?_) rfl (by as_aux_lemma => kernel_rfl) (by as_aux_lemma => kernel_rfl) (by as_aux_lemma => kernel_rfl) (fun _ _ _ h => h) (Or.inl ⟨by rfl, ?_⟩) (by assumption) ?_
      rotate_left
      · intro w hSw
        (try dsimp only at hSw)
        go_simp
        all_goals (with_reducible rfl)
      try simp only [Act.put, List.setIfInBounds_toArray, List.set_cons_zero, List.set_cons_succ]
      refine wpAnyH_take (i := 11) (oi := ⟨some 68, _, _, _, _, _⟩) (v := ?_) rfl (by as_aux_lemma => kernel_rfl) (by as_aux_lemma => kernel_rfl) (by as_aux_lemma => kernel_rfl) (fun _ _ _ h => h) (Or.inl ⟨by rfl, ?_⟩) (by assumption) ?_
      rotate_left
      · intro w hSw
        (try dsimp only at hSw)
        go_simp
        all_goals (with_reducible rfl)
      try simp only [Act.put, List.setIfInBounds_toArray, List.set_cons_zero, List.set_cons_succ]
      refine wpAnyH_ready (rs := [12]) (by as_aux_lemma => kernel_rfl) (by simp) (AllReadyH.cons (o := ⟨some 69, _, _, _, _, _⟩) rfl (fun K hK => ?_) AllReadyH.nil)
      go_simp
      refine (sameB_is _ (hHeld.reads _ (.tail _ (.head _))) (hHeld.reads _ (.head _)) (q := true) (by simp)).mono ?_
      rintro e _ ⟨rfl, rfl⟩
      have hS2 := hHeld.below (Below.refl _ _) (Nat.le_refl _)
      replace HBr := Lib.hid (HBr.out.trans ((Below.refl _ _).mono HBr.out.size))
      refine hK.out _ _ hS2 (fun hHeld => ?_)
      clear hK K hS2
      try simp only [Act.put, List.setIfInBounds_toArray, List.set_cons_zero, List.set_cons_succ]
      refine wpAnyH_take (i := 13) (oi := ⟨some 70, _, _, _, _, _⟩) (v := ?_) rfl (by as_aux_lemma => kernel_rfl) (by as_aux_lemma => kernel_rfl) (by as_aux_lemma => kernel_rfl) (fun _ _ _ h => h) (Or.inl ⟨by rfl, ?_⟩) (by assumption) ?_
      rotate_left
      · intro w hSw
        (try dsimp only at hSw)
        go_simp
        all_goals (with_reducible rfl)
      try simp only [Act.put, List.setIfInBounds_toArray, List.set_cons_zero, List.set_cons_succ]
      refine wpAnyH_take (i := 14) (oi := ⟨some 71, _, _, _, _, _⟩) (v := ?_) rfl (by as_aux_lemma => kernel_rfl) (by as_aux_lemma => kernel_rfl) (by as_aux_lemma => kernel_rfl) (fun _ _ _ h => h) (Or.inl ⟨by rfl, ?_⟩) (by assumption) ?_
      rotate_left
      · intro w hSw
        (try dsimp only at hSw)
        go_simp
        all_goals (with_reducible rfl)
      try simp only [Act.put, List.setIfInBounds_toArray, List.set_cons_zero, List.set_cons_succ]
      refine wpAnyH_take (i := 15) (oi := ⟨some 72, _, _, _, _, _⟩) (v := ?_) rfl (by as_aux_lemma => kernel_rfl) (by as_aux_lemma => kernel_rfl) (by as_aux_lemma => kernel_rfl) (fun _ _ _ h => h) (Or.inl ⟨by rfl, ?_⟩) (by assumption) ?_
      rotate_left
      · intro w hSw
        (try dsimp only at hSw)
        go_simp
        all_goals (with_reducible rfl)
      try simp only [Act.put, List.setIfInBounds_toArray, List.set_cons_zero, List.set_cons_succ]
      refine wpAnyH_take (i := 16) (oi := ⟨some 73, _, _, _, _, _⟩) (v := ?_) rfl (by as_aux_lemma => kernel_rfl) (by as_aux_lemma => kernel_rfl) (by as_aux_lemma => kernel_rfl) (fun _ _ _ h => h) (Or.inl ⟨by rfl, ?_⟩) (by assumption) ?_
      rotate_left
      · intro w hSw
        (try dsimp only at hSw)
        go_simp
        all_goals (with_reducible rfl)
      try simp only [Act.put, List.setIfInBounds_toArray, List.set_cons_zero, List.set_cons_succ]
      refine wpAnyH_take (i := 17) (oi := ⟨some 74, _, _, _, _, _⟩) (v := ?_) rfl (by as_aux_lemma => kernel_rfl) (by as_aux_lemma => kernel_rfl) (by as_aux_lemma => kernel_rfl) (fun _ _ _ h => h) (Or.inl ⟨by rfl, ?_⟩) (by assumption) ?_
      rotate_left
      · intro w hSw
        (try dsimp only at hSw)
        go_simp
        all_goals (with_reducible rfl)
      try simp only [Act.put, List.setIfInBounds_toArray, List.set_cons_zero, List.set_cons_succ]
      refine wpAnyH_take (i := 18) (oi := ⟨some 75, _, _, _, _, _⟩) (v := ?_) rfl (by as_aux_lemma => kernel_rfl) (by as_aux_lemma => kernel_rfl) (by as_aux_lemma => kernel_rfl) (fun _ _ _ h => h) (Or.inl ⟨by rfl, ?_⟩) (by assumption) ?_
      rotate_left
      · intro w hSw
        (try dsimp only at hSw)
        go_simp
        all_goals (with_reducible rfl)
      try simp only [Act.put, List.setIfInBounds_toArray, List.set_cons_zero, List.set_cons_succ]
      refine wpAnyH_take (i := 19) (oi := ⟨some 76, _, _, _, _, _⟩) (v := ?_) rfl (by as_aux_lemma => kernel_rfl) (by as_aux_lemma => kernel_rfl) (by as_aux_lemma => kernel_rfl) (fun _ _ _ h => h) (Or.inl ⟨by rfl, ?_⟩) (by assumption) ?_
      rotate_left
      · intro w hSw
        (try dsimp only at hSw)
        go_simp
        all_goals (with_reducible rfl)
      try simp only [Act.put, List.setIfInBounds_toArray, List.set_cons_zero, List.set_cons_succ]
      refine wpAnyH_take (i := 20) (oi := ⟨some 77, _, _, _, _, _⟩) (v := ?_) rfl (by as_aux_lemma => kernel_rfl) (by as_aux_lemma => kernel_rfl) (by as_aux_lemma => kernel_rfl) (fun _ _ _ h => h) (Or.inl ⟨by rfl, ?_⟩) (by assumption) ?_
      rotate_left
      · intro w hSw
        (try dsimp only at hSw)
        go_simp
        all_goals (with_reducible rfl)
      try simp only [Act.put, List.setIfInBounds_toArray, List.set_cons_zero, List.set_cons_succ]
      refine wpAnyH_take (i := 21) (oi := ⟨some 78, _, _, _, _, _⟩) (v := ?_) rfl (by as_aux_lemma => kernel_rfl) (by as_aux_lemma => kernel_rfl) (by as_aux_lemma => kernel_rfl) (fun _ _ _ h => h) (Or.inl ⟨by rfl, ?_⟩) (by assumption) ?_
      rotate_left
      · intro w hSw
        obtain ⟨l0, l1, l2, l3, l4, l5, l6⟩ := arr7 (w := w) (hSw.rows _ (.tail _ (.head _)))
        go_simp
        all_goals (with_reducible rfl)
      try simp only [Act.put, List.setIfInBounds_toArray, List.set_cons_zero, List.set_cons_succ]
      refine wpAnyH_take (i := 23) (oi := ⟨some 80, _, _, _, _, _⟩) (v := ?_) rfl (by as_aux_lemma => kernel_rfl) (by as_aux_lemma => kernel_rfl) (by as_aux_lemma => kernel_rfl) (fun _ _ _ h => h) (Or.inl ⟨by rfl, ?_⟩) (by assumption) ?_
      rotate_left
      · intro w hSw
        obtain ⟨l0, l1, l2, l3, l4, l5, l6⟩ := arr7 (w := w) (hSw.rows _ (.tail _ (.head _)))
        go_simp
        all_goals (with_reducible rfl)
      try simp only [Act.put, List.setIfInBounds_toArray, List.set_cons_zero, List.set_cons_succ]
      refine wpAnyH_ready (rs := [22]) (by as_aux_lemma => kernel_rfl) (by simp) (AllReadyH.cons (o := ⟨some 79, _, _, _, _, _⟩) rfl (fun K hK => ?_) AllReadyH.nil)
      go_simp
      refine (rightA_is _ lx sx ox stx ix vex bsx Ax nx cx lenx QA.out).mono ?_
      rintro e u1 ⟨rfl, hb⟩
      have hS2 := hHeld.below hb (Nat.le_refl _)
      replace HBr := Lib.hid (HBr.out.trans (hb.mono HBr.out.size))
      refine hK.out _ _ hS2 (fun hHeld => ?_)
      clear hK K hS2
      try simp only [Act.put, List.setIfInBounds_toArray, List.set_cons_zero, List.set_cons_succ]
      clear hb
      refine wpAnyH_ready (rs := [24]) (by as_aux_lemma => kernel_rfl) (by simp) (AllReadyH.cons (o := ⟨some 81, _, _, _, _, _⟩) rfl (fun K hK => ?_) AllReadyH.nil)
      go_simp
      refine (rrightA_is _ lx sx ox stx ix vex bsx Ax nx cx lenx QA.out).mono ?_
      rintro e u2 ⟨rfl, hb⟩
      have hS2 := hHeld.below hb (Nat.le_refl _)
      replace HBr := Lib.hid (HBr.out.trans (hb.mono HBr.out.size))
      refine hK.out _ _ hS2 (fun hHeld => ?_)
      clear hK K hS2
      try simp only [Act.put, List.setIfInBounds_toArray, List.set_cons_zero, List.set_cons_succ]
      clear hb
      refine wpAnyH_take (i := 25) (oi := ⟨some 82, _, _, _, _, _⟩) (v := ?_) rfl (by as_aux_lemma => kernel_rfl) (by as_aux_lemma => kernel_rfl) (by as_aux_lemma => kernel_rfl) (fun _ _ _ h => h) (Or.inl ⟨by rfl, ?_⟩) (by assumption) ?_
      rotate_left
      · intro w hSw
        (try dsimp only at hSw)
        go_simp
        all_goals (with_reducible rfl)
      try simp only [Act.put, List.setIfInBounds_toArray, List.set_cons_zero, List.set_cons_succ]
      refine wpAnyH_take (i := 26) (oi := ⟨some 83, _, _, _, _, _⟩) (v := ?_) rfl (by as_aux_lemma => kernel_rfl) (by as_aux_lemma => kernel_rfl) (by as_aux_lemma => kernel_rfl) (fun _ _ _ h => h) (Or.inl ⟨by rfl, ?_⟩) (by assumption) ?_
      rotate_left
      · intro w hSw
        (try dsimp only at hSw)
        go_simp
        all_goals (with_reducible rfl)
      try simp only [Act.put, List.setIfInBounds_toArray, List.set_cons_zero, List.set_cons_succ]
      refine wpAnyH_take (i := 27) (oi := ⟨some 84, _, _, _, _, _⟩) (v := ?_) rfl (by as_aux_lemma => kernel_rfl) (by as_aux_lemma => kernel_rfl) (by as_aux_lemma => kernel_rfl) (fun _ _ _ h => h) (Or.inl ⟨by rfl, ?_⟩) (by assumption) ?_
      rotate_left
      · intro w hSw
        (try dsimp only at hSw)
        go_simp
        all_goals (with_reducible rfl)
      try simp only [Act.put, List.setIfInBounds_toArray, List.set_cons_zero, List.set_cons_succ]
      refine wpAnyH_take (i := 28) (oi := ⟨some 85, _, _, _, _, _⟩) (v := ?_) rfl (by as_aux_lemma => kernel_rfl) (by as_aux_lemma => kernel_rfl) (by as_aux_lemma => kernel_rfl) (fun _ _ _ h => h) (Or.inl ⟨by rfl, ?_⟩) (by assumption) ?_
      rotate_left
      · intro w hSw
        obtain ⟨l0, l1, l2, l3, l4, l5, l6⟩ := arr7 (w := w) (hSw.rows _ (.head _))
        go_simp
        all_goals (with_reducible rfl)
      try simp only [Act.put, List.setIfInBounds_toArray, List.set_cons_zero, List.set_cons_succ]
      refine wpAnyH_take (i := 30) (oi := ⟨some 87, _, _, _, _, _⟩) (v := ?_) rfl (by as_aux_lemma => kernel_rfl) (by as_aux_lemma => kernel_rfl) (by as_aux_lemma => kernel_rfl) (fun _ _ _ h => h) (Or.inl ⟨by rfl, ?_⟩) (by assumption) ?_
      rotate_left
      · intro w hSw
        obtain ⟨l0, l1, l2, l3, l4, l5, l6⟩ := arr7 (w := w) (hSw.rows _ (.head _))
        go_simp
        all_goals (with_reducible rfl)
      try simp only [Act.put, List.setIfInBounds_toArray, List.set_cons_zero, List.set_cons_succ]
      refine wpAnyH_ready (rs := [29]) (by as_aux_lemma => kernel_rfl) (by simp) (AllReadyH.cons (o := ⟨some 86, _, _, _, _, _⟩) rfl (fun K hK => ?_) AllReadyH.nil)
      go_simp
      refine (rightT_is _ tlz tsz toz tez trz (hHeld.ils _ (.head _)) (show imz ≤ 1000000 by omega) Bz kz dz tbz lenb QT.out).mono ?_
      rintro e u3 ⟨rfl, hb⟩
      have hS2 := hHeld.below hb (Nat.le_refl _)
      replace HBr := Lib.hid (HBr.out.trans (hb.mono HBr.out.size))
      refine hK.out _ _ hS2 (fun hHeld => ?_)
      clear hK K hS2
      try simp only [Act.put, List.setIfInBounds_toArray, List.set_cons_zero, List.set_cons_succ]
      clear hb
      refine wpAnyH_ready (rs := [31]) (by as_aux_lemma => kernel_rfl) (by simp) (AllReadyH.cons (o := ⟨some 88, _, _, _, _, _⟩) rfl (fun K hK => ?_) AllReadyH.nil)
      go_simp
      refine (rrightT_is _ tlz tsz toz tez trz (hHeld.ils _ (.head _)) (show imz ≤ 1000000 by omega) Bz kz dz tbz lenb QT.out).mono ?_
      rintro e u4 ⟨rfl, hb⟩
      have hS2 := hHeld.below hb (Nat.le_refl _)
      replace HBr := Lib.hid (HBr.out.trans (hb.mono HBr.out.size))
      refine hK.out _ _ hS2 (fun hHeld => ?_)
      clear hK K hS2
      try simp only [Act.put, List.setIfInBounds_toArray, List.set_cons_zero, List.set_cons_succ]
      clear hb
      refine wpAnyH_take (i := 32) (oi := ⟨some 89, _, _, _, _, _⟩) (v := ?_) rfl (by as_aux_lemma => kernel_rfl) (by as_aux_lemma => kernel_rfl) (by as_aux_lemma => kernel_rfl) (fun _ _ _ h => h) (Or.inl ⟨by rfl, ?_⟩) (by assumption) ?_
      rotate_left
      · intro w hSw
        (try dsimp only at hSw)
        go_simp
        all_goals (with_reducible rfl)
      try simp only [Act.put, List.setIfInBounds_toArray, List.set_cons_zero, List.set_cons_succ]
      refine wpAnyH_take (i := 33) (oi := ⟨some 90, _, _, _, _, _⟩) (v := ?_) rfl (by as_aux_lemma => kernel_rfl) (by as_aux_lemma => kernel_rfl) (by as_aux_lemma => kernel_rfl) (fun _ _ _ h => h) (Or.inl ⟨by rfl, ?_⟩) (by assumption) ?_
      rotate_left
      · intro w hSw
        (try dsimp only at hSw)
        go_simp
        all_goals (with_reducible rfl)
      try simp only [Act.put, List.setIfInBounds_toArray, List.set_cons_zero, List.set_cons_succ]
      refine wpAnyH_done (by kernel_rfl) ?_ _
      have HK := Lib.hid hHeld
      have HB := HBr
      clear HBr hHeld
      go_wp2_with fail
      refine (seal_any ⟨p, 0, none⟩ (fun _ => 0) X xn xc xbs u4 (HK.out.tabs _ (.head _)).1 (HK.out.reads _ (.tail _ (.tail _ (.tail _ (.tail _ (.head _)))))) (show xn ≤ 70368744177664 by omega)).mono ?_
      rintro e w8 ⟨S, sc, rfl, hos, hb⟩
      have hW : Below u4.heap.size u4 w8 := hb
      replace HK := Lib.hid (HK.out.below hW (Nat.le_refl _))
      replace HB := Lib.hid (HB.out.trans (hW.mono HB.out.size))
      clear hW
      have hsc := hos.cap
      replace HK := Lib.hid (HK.out.read (hos.rd))
      clear hos hb
      obtain ⟨g_w9, h_w9⟩ : ∃ g, w8.heap.size = g := ⟨_, rfl⟩
      obtain ⟨w9, e⟩ : ∃ x, w8.alloc (.cells #[.slice X xn xc, .slice S (xn + 4) sc, .slice C cn cc, .slice G gn gc] 23) = x := ⟨_, rfl⟩
      obtain ⟨hW, hx⟩ := box_new e
      rw [h_w9] at hx
      have Ew9 := Lib.hid e
      clear e
      replace hx := Lib.hid hx
      replace HK := Lib.hid (HK.out.below hW (Nat.le_refl _))
      replace HB := Lib.hid (HB.out.trans (hW.mono HB.out.size))
      clear hW
      replace HK := Lib.hid (HK.out.row (show Row w9 (g_w9) #[.slice X xn xc, .slice S (xn + 4) sc, .slice C cn cc, .slice G gn gc] 23 from hx.out))
      clear hx
      go_wp2
      rw [Ew9.out]
      clear Ew9
      (try rw [h_w9])
      go_loopw [19, 20, 21, 22, 23, 24, 25, 26, 27, 98] (fun _ _ _ _ _ _ _ _ _ s98 wr => ∃ i : Nat, i ≤ 4 ∧ s98 = .int .i64 i ∧ Hid (Below w.heap.size w wr ∧ Keep wr [(g_w9, #[.slice X xn xc, .slice S (xn + 4) sc, .slice C cn cc, .slice G gn gc], 23), (g + 1, #[.int .i64 tlz, .int .i64 tsz, .int .u8 toz, .int .i64 tez, .slice Iz imz mcz, .slice Bz kz dz, .int .i64 trz], 34), (g, #[.int .i64 lx, .int .i64 sx, .int .u8 ox, .int .i64 stx, .int .i64 ix, .int .i64 vex, .slice Ax nx cx], 25)] [(S, xn + 4, sealed (fun _ => 0) xbs), (H, hn, bG), (G, gn, bG), (D, dn, bC), (C, cn, bC), (X, xn, xbs), (Bz, kz, tbz), (Ax, nx, bsx)] [(Iz, imz, Lz)] [(p, (fun _ => 0))])) (fun _ _ _ _ _ _ _ _ _ s98 _ => 4 - (Go.RowKit.intOf s98).toNat)
      case atStart => exact ⟨0, by omega, rfl, (⟨HB.out, HK.out⟩ : _ ∧ _)⟩
      case round =>
        clear HB HK
        obtain ⟨i, hi, rfl, HR⟩ := hrel
        by_cases hlt : i < 4
        · have HB := Lib.hid HR.out.1
          have HK := Lib.hid HR.out.2
          have HBase := HK
          obtain ⟨k0, k1, k2, k3⟩ := four30 (w := wr) (HK.out.rows _ (.head _))
          obtain ⟨Y, yn, yc, yb, hcell, hrdY, hy1, hy2⟩ : ∃ (Y : Option Addr) (yn yc : Nat) (yb : List UInt8), wr.cell? ⟨g_w9, i, none⟩ = some (.slice Y yn yc) ∧ Rd wr Y yn yb ∧ yn ≤ 1000000 ∧ yn ≤ yc := by
            rcases (by omega : i = 0 ∨ i = 1 ∨ i = 2 ∨ i = 3) with rfl | rfl | rfl | rfl
            · exact ⟨_, _, _, _, k0, (HK.out.reads _ (.tail _ (.tail _ (.tail _ (.tail _ (.tail _ (.head _))))))), by omega, hc⟩
            · exact ⟨_, _, _, _, k1, (HK.out.reads _ (.head _)), by omega, hsc⟩
            · exact ⟨_, _, _, _, k2, (HK.out.reads _ (.tail _ (.tail _ (.tail _ (.tail _ (.head _)))))), by first | omega | (simp only at hlC; omega), hcc⟩
            · exact ⟨_, _, _, _, k3, (HK.out.reads _ (.tail _ (.tail _ (.head _)))), by first | omega | (simp only at hlG; omega), hgc⟩
          have hi1 : (0 : Int) ≤ (i : Int) := by omega
          have hi2 : (i : Int) < 4 := by omega
          have hwk : IntKind.i64.wrap ((i : Int) + 1) = (i : Int) + 1 := IntWalk.i64_in _ (by omega)
          have HX := Lib.hid hlt
          clear k0 k1 k2 k3 hlt HR
          have HY := Lib.hid (hrdY)
          clear hrdY
          obtain ⟨pa, hpa⟩ : ∃ x, getA (fun _ => 0) yb = x := ⟨_, rfl⟩
          obtain ⟨⟨q1, q2, q3, q4, q5, q6, qb⟩, ea⟩ := pa
          have HPa := Lib.hid hpa
          clear hpa
          obtain ⟨pt, hpt⟩ : ∃ x, getT (fun _ => 0) yb = x := ⟨_, rfl⟩
          obtain ⟨⟨r1, r2, r3, r4, rL, rb, r5⟩, et⟩ := pt
          have HPt := Lib.hid hpt
          clear hpt
          go_wp2_with fail
          refine (getA_is wr (HK.out.tabs _ (.head _)).1 (HK.out.tabs _ (.head _)).2 HY.out hy1 hy2).mono ?_
          rintro e v1 ⟨Q1, m1, d1, rfl, ho, hb⟩
          rw [HPa.out] at ho ⊢
          simp only at ho ⊢
          have hW : Below wr.heap.size wr v1 := hb
          replace HK := Lib.hid (HK.out.below hW (Nat.le_refl _))
          replace HY := Lib.hid (HY.out.below hW (Nat.le_refl _))
          replace HBase := Lib.hid (HBase.out.below hW (Nat.le_refl _))
          replace HB := Lib.hid (HB.out.trans (hW.mono HB.out.size))
          clear hW
          have R1 := Lib.hid (ho.rd)
          clear ho hb hcell
          obtain ⟨g_v2, h_v2⟩ : ∃ g, v1.heap.size = g := ⟨_, rfl⟩
          obtain ⟨v2, e⟩ : ∃ x, v1.alloc (.cells #[.int .i64 q1, .int .i64 q2, .int .u8 q3, .int .i64 q4, .int .i64 q5, .int .i64 q6, .slice Q1 m1 d1] 25) = x := ⟨_, rfl⟩
          obtain ⟨hW, hx⟩ := box_new e
          rw [h_v2] at hx
          have Ev2 := Lib.hid e
          clear e
          replace hx := Lib.hid (show Row v2 g_v2 #[.int .i64 q1, .int .i64 q2, .int .u8 q3, .int .i64 q4, .int .i64 q5, .int .i64 q6, .slice Q1 m1 d1] 25 from hx)
          replace HK := Lib.hid (HK.out.below hW (Nat.le_refl _))
          replace HY := Lib.hid (HY.out.below hW (Nat.le_refl _))
          replace HBase := Lib.hid (HBase.out.below hW (Nat.le_refl _))
          replace R1 := Lib.hid (R1.out.below hW (Nat.le_refl _))
          replace HB := Lib.hid (HB.out.trans (hW.mono HB.out.size))
          clear hW
          have W1 := hx
          clear hx
          go_wp2_with fail
          rw [Ev2.out]
          clear Ev2
          refine (rgetA_is v2 (HK.out.tabs _ (.head _)).1 (HK.out.tabs _ (.head _)).2 HY.out hy1 hy2).mono ?_
          rintro e v3 ⟨Q2, m2, d2, rfl, ho, hm2, hb⟩
          rw [HPa.out] at ho ⊢
          simp only at ho ⊢
          have hW : Below v2.heap.size v2 v3 := hb
          replace HK := Lib.hid (HK.out.below hW (Nat.le_refl _))
          replace HY := Lib.hid (HY.out.below hW (Nat.le_refl _))
          replace HBase := Lib.hid (HBase.out.below hW (Nat.le_refl _))
          replace R1 := Lib.hid (R1.out.below hW (Nat.le_refl _))
          replace W1 := Lib.hid (W1.out.below hW (Nat.le_refl _))
          replace HB := Lib.hid (HB.out.trans (hW.mono HB.out.size))
          clear hW
          have R2 := Lib.hid (ho)
          clear ho hb
          obtain ⟨g_v4, h_v4⟩ : ∃ g, v3.heap.size = g := ⟨_, rfl⟩
          obtain ⟨v4, e⟩ : ∃ x, v3.alloc (.cells #[.int .i64 q1, .int .i64 q2, .int .u8 q3, .int .i64 q4, .int .i64 q5, .int .i64 q6, .slice Q2 m2 d2] 25) = x := ⟨_, rfl⟩
          obtain ⟨hW, hx⟩ := box_new e
          rw [h_v4] at hx
          have Ev4 := Lib.hid e
          clear e
          replace hx := Lib.hid (show Row v4 g_v4 #[.int .i64 q1, .int .i64 q2, .int .u8 q3, .int .i64 q4, .int .i64 q5, .int .i64 q6, .slice Q2 m2 d2] 25 from hx)
          replace HK := Lib.hid (HK.out.below hW (Nat.le_refl _))
          replace HY := Lib.hid (HY.out.below hW (Nat.le_refl _))
          replace HBase := Lib.hid (HBase.out.below hW (Nat.le_refl _))
          replace R1 := Lib.hid (R1.out.below hW (Nat.le_refl _))
          replace W1 := Lib.hid (W1.out.below hW (Nat.le_refl _))
          replace R2 := Lib.hid (R2.out.below hW (Nat.le_refl _))
          replace HB := Lib.hid (HB.out.trans (hW.mono HB.out.size))
          clear hW
          have W2 := hx
          clear hx
          go_wp2_with fail
          rw [Ev4.out]
          clear Ev4
          refine (getT_is v4 (HK.out.tabs _ (.head _)).1 (HK.out.tabs _ (.head _)).2 HY.out hy1 hy2).mono ?_
          rintro e v5 ⟨J3, j3, e3, Q3, m3, d3, rfl, hi3, hj3, ho, hb⟩
          rw [HPt.out] at hi3 ho ⊢
          simp only at hi3 ho ⊢
          have hW : Below v4.heap.size v4 v5 := hb
          replace HK := Lib.hid (HK.out.below hW (Nat.le_refl _))
          replace HY := Lib.hid (HY.out.below hW (Nat.le_refl _))
          replace HBase := Lib.hid (HBase.out.below hW (Nat.le_refl _))
          replace R1 := Lib.hid (R1.out.below hW (Nat.le_refl _))
          replace W1 := Lib.hid (W1.out.below hW (Nat.le_refl _))
          replace R2 := Lib.hid (R2.out.below hW (Nat.le_refl _))
          replace W2 := Lib.hid (W2.out.below hW (Nat.le_refl _))
          replace HB := Lib.hid (HB.out.trans (hW.mono HB.out.size))
          clear hW
          have R3 := Lib.hid (ho.rd)
          have L3 := Lib.hid (ownK_il hi3)
          clear ho hi3 hb
          obtain ⟨g_v6, h_v6⟩ : ∃ g, v5.heap.size = g := ⟨_, rfl⟩
          obtain ⟨v6, e⟩ : ∃ x, v5.alloc (.cells #[.int .i64 r1, .int .i64 r2, .int .u8 r3, .int .i64 r4, .slice J3 j3 e3, .slice Q3 m3 d3, .int .i64 r5] 34) = x := ⟨_, rfl⟩
          obtain ⟨hW, hx⟩ := box_new e
          rw [h_v6] at hx
          have Ev6 := Lib.hid e
          clear e
          replace hx := Lib.hid (show Row v6 g_v6 #[.int .i64 r1, .int .i64 r2, .int .u8 r3, .int .i64 r4, .slice J3 j3 e3, .slice Q3 m3 d3, .int .i64 r5] 34 from hx)
          replace HK := Lib.hid (HK.out.below hW (Nat.le_refl _))
          replace HY := Lib.hid (HY.out.below hW (Nat.le_refl _))
          replace HBase := Lib.hid (HBase.out.below hW (Nat.le_refl _))
          replace R1 := Lib.hid (R1.out.below hW (Nat.le_refl _))
          replace W1 := Lib.hid (W1.out.below hW (Nat.le_refl _))
          replace R2 := Lib.hid (R2.out.below hW (Nat.le_refl _))
          replace W2 := Lib.hid (W2.out.below hW (Nat.le_refl _))
          replace R3 := Lib.hid (R3.out.below hW (Nat.le_refl _))
          replace L3 := Lib.hid (L3.out.below hW (Nat.le_refl _))
          replace HB := Lib.hid (HB.out.trans (hW.mono HB.out.size))
          clear hW
          have W3 := hx
          clear hx
          go_wp2_with fail
          rw [Ev6.out]
          clear Ev6
          refine (rgetT_is v6 (HK.out.tabs _ (.head _)).1 (HK.out.tabs _ (.head _)).2 HY.out hy1 hy2).mono ?_
          rintro e v7 ⟨J4, j4, e4, Q4, m4, d4, rfl, hi4, hj4, ho, hm4, hb⟩
          rw [HPt.out] at hi4 ho ⊢
          simp only at hi4 ho ⊢
          have hW : Below v6.heap.size v6 v7 := hb
          replace HK := Lib.hid (HK.out.below hW (Nat.le_refl _))
          replace HY := Lib.hid (HY.out.below hW (Nat.le_refl _))
          replace HBase := Lib.hid (HBase.out.below hW (Nat.le_refl _))
          replace R1 := Lib.hid (R1.out.below hW (Nat.le_refl _))
          replace W1 := Lib.hid (W1.out.below hW (Nat.le_refl _))
          replace R2 := Lib.hid (R2.out.below hW (Nat.le_refl _))
          replace W2 := Lib.hid (W2.out.below hW (Nat.le_refl _))
          replace R3 := Lib.hid (R3.out.below hW (Nat.le_refl _))
          replace L3 := Lib.hid (L3.out.below hW (Nat.le_refl _))
          replace W3 := Lib.hid (W3.out.below hW (Nat.le_refl _))
          replace HB := Lib.hid (HB.out.trans (hW.mono HB.out.size))
          clear hW
          have R4 := Lib.hid (ho)
          have L4 := Lib.hid (hi4)
          clear ho hi4 hb
          obtain ⟨g_v8, h_v8⟩ : ∃ g, v7.heap.size = g := ⟨_, rfl⟩
          obtain ⟨v8, e⟩ : ∃ x, v7.alloc (.cells #[.int .i64 r1, .int .i64 r2, .int .u8 r3, .int .i64 r4, .slice J4 j4 e4, .slice Q4 m4 d4, .int .i64 r5] 34) = x := ⟨_, rfl⟩
          obtain ⟨hW, hx⟩ := box_new e
          rw [h_v8] at hx
          have Ev8 := Lib.hid e
          clear e
          replace hx := Lib.hid (show Row v8 g_v8 #[.int .i64 r1, .int .i64 r2, .int .u8 r3, .int .i64 r4, .slice J4 j4 e4, .slice Q4 m4 d4, .int .i64 r5] 34 from hx)
          replace HK := Lib.hid (HK.out.below hW (Nat.le_refl _))
          replace HY := Lib.hid (HY.out.below hW (Nat.le_refl _))
          replace HBase := Lib.hid (HBase.out.below hW (Nat.le_refl _))
          replace R1 := Lib.hid (R1.out.below hW (Nat.le_refl _))
          replace W1 := Lib.hid (W1.out.below hW (Nat.le_refl _))
          replace R2 := Lib.hid (R2.out.below hW (Nat.le_refl _))
          replace W2 := Lib.hid (W2.out.below hW (Nat.le_refl _))
          replace R3 := Lib.hid (R3.out.below hW (Nat.le_refl _))
          replace L3 := Lib.hid (L3.out.below hW (Nat.le_refl _))
          replace W3 := Lib.hid (W3.out.below hW (Nat.le_refl _))
          replace R4 := Lib.hid (R4.out.below hW (Nat.le_refl _))
          replace L4 := Lib.hid (L4.out.below hW (Nat.le_refl _))
          replace HB := Lib.hid (HB.out.trans (hW.mono HB.out.size))
          clear hW
          have W4 := hx
          clear hx
          obtain ⟨a0, a1, a2, a3, a4, a5, a6⟩ := arr7 (w := (World.alloc v7 (.cells #[.int .i64 r1, .int .i64 r2, .int .u8 r3, .int .i64 r4, .slice J4 j4 e4, .slice Q4 m4 d4, .int .i64 r5] 34))) (by rw [Ev8.out]; exact W1.out)
          obtain ⟨b0, b1, b2, b3, b4, b5, b6⟩ := arr7 (w := (World.alloc v7 (.cells #[.int .i64 r1, .int .i64 r2, .int .u8 r3, .int .i64 r4, .slice J4 j4 e4, .slice Q4 m4 d4, .int .i64 r5] 34))) (by rw [Ev8.out]; exact W2.out)
          go_wp2_with fail
          rw [Ev8.out]
          clear Ev8
          refine (sameA_is v8 q1 q2 q3 q4 q5 q6 q1 q2 q3 q4 q5 q6 qb qb R1.out R2.out (q := true) (by simp)).mono ?_
          rintro e v9 ⟨rfl, hb⟩
          clear a0 a1 a2 a3 a4 a5 a6 b0 b1 b2 b3 b4 b5 b6
          have hW : Below v8.heap.size v8 v9 := hb
          replace HK := Lib.hid (HK.out.below hW (Nat.le_refl _))
          replace HY := Lib.hid (HY.out.below hW (Nat.le_refl _))
          replace HBase := Lib.hid (HBase.out.below hW (Nat.le_refl _))
          replace R1 := Lib.hid (R1.out.below hW (Nat.le_refl _))
          replace W1 := Lib.hid (W1.out.below hW (Nat.le_refl _))
          replace R2 := Lib.hid (R2.out.below hW (Nat.le_refl _))
          replace W2 := Lib.hid (W2.out.below hW (Nat.le_refl _))
          replace R3 := Lib.hid (R3.out.below hW (Nat.le_refl _))
          replace L3 := Lib.hid (L3.out.below hW (Nat.le_refl _))
          replace W3 := Lib.hid (W3.out.below hW (Nat.le_refl _))
          replace R4 := Lib.hid (R4.out.below hW (Nat.le_refl _))
          replace L4 := Lib.hid (L4.out.below hW (Nat.le_refl _))
          replace W4 := Lib.hid (W4.out.below hW (Nat.le_refl _))
          replace HB := Lib.hid (HB.out.trans (hW.mono HB.out.size))
          clear hW
          clear hb
          obtain ⟨a0, a1, a2, a3, a4, a5, a6⟩ := arr7 (w := v9) (by exact W3.out)
          obtain ⟨b0, b1, b2, b3, b4, b5, b6⟩ := arr7 (w := v9) (by exact W4.out)
          go_wp2_with fail
          refine (sameT_is v9 r1 r2 r3 r4 r5 r1 r2 r3 r4 r5 rL rL rb rb L3.out L4.out (by omega) R3.out R4.out (q := true) (by simp)).mono ?_
          rintro e v10 ⟨rfl, hb⟩
          clear a0 a1 a2 a3 a4 a5 a6 b0 b1 b2 b3 b4 b5 b6
          have hW : Below v9.heap.size v9 v10 := hb
          replace HK := Lib.hid (HK.out.below hW (Nat.le_refl _))
          replace HY := Lib.hid (HY.out.below hW (Nat.le_refl _))
          replace HBase := Lib.hid (HBase.out.below hW (Nat.le_refl _))
          replace R1 := Lib.hid (R1.out.below hW (Nat.le_refl _))
          replace W1 := Lib.hid (W1.out.below hW (Nat.le_refl _))
          replace R2 := Lib.hid (R2.out.below hW (Nat.le_refl _))
          replace W2 := Lib.hid (W2.out.below hW (Nat.le_refl _))
          replace R3 := Lib.hid (R3.out.below hW (Nat.le_refl _))
          replace L3 := Lib.hid (L3.out.below hW (Nat.le_refl _))
          replace W3 := Lib.hid (W3.out.below hW (Nat.le_refl _))
          replace R4 := Lib.hid (R4.out.below hW (Nat.le_refl _))
          replace L4 := Lib.hid (L4.out.below hW (Nat.le_refl _))
          replace W4 := Lib.hid (W4.out.below hW (Nat.le_refl _))
          replace HB := Lib.hid (HB.out.trans (hW.mono HB.out.size))
          clear hW
          clear hb
          go_wp2
          go_roundw
          case rel => exact ⟨i + 1, by have := HX.out; omega, by go_num, (⟨HB.out, HBase.out⟩ : _ ∧ _)⟩
          case measure => have := HX.out; simp [Go.RowKit.intOf]; omega
        · obtain rfl : i = 4 := by omega
          have HB := Lib.hid HR.out.1
          have HK := Lib.hid HR.out.2
          have hcast : ((4 : Nat) : Int) = 4 := rfl
          rw [hcast]
          clear hcast
          go_wp2_with fail
          refine (awake_is _).mono ?_
          rintro e wz ⟨rfl, hb⟩
          have hW : Below wr.heap.size wr wz := hb
          replace HK := Lib.hid (HK.out.below hW (Nat.le_refl _))
          replace HB := Lib.hid (HB.out.trans (hW.mono HB.out.size))
          clear hW
          go_wp2
          go_ret
          exact told_mk (by simp) HB.out
  · have q1 := Lib.hid (decide_eq_false q1)
    go_enter Try.func4, Try.ntmps4
    obtain ⟨a0, a1, a2, a3, a4, a5, a6⟩ := arr7 (w := (World.alloc (World.alloc w (.cells #[.int .i64 lx, .int .i64 sx, .int .u8 ox, .int .i64 stx, .int .i64 ix, .int .i64 vex, .slice Ax nx cx] 25)) (.cells #[.int .i64 tlz, .int .i64 tsz, .int .u8 toz, .int .i64 tez, .slice Iz imz mcz, .slice Bz kz dz, .int .i64 trz] 34))) (by rw [Ew1.out, Ew2.out]; exact (HK.out.rows _ (.tail _ (.head _))))
    obtain ⟨b0, b1, b2, b3, b4, b5, b6⟩ := arr7 (w := (World.alloc (World.alloc w (.cells #[.int .i64 lx, .int .i64 sx, .int .u8 ox, .int .i64 stx, .int .i64 ix, .int .i64 vex, .slice Ax nx cx] 25)) (.cells #[.int .i64 tlz, .int .i64 tsz, .int .u8 toz, .int .i64 tez, .slice Iz imz mcz, .slice Bz kz dz, .int .i64 trz] 34))) (by rw [Ew1.out, Ew2.out]; exact (HK.out.rows _ (.head _)))
    go_wp2_with fail
    rw [Ew1.out]
    rw [Ew2.out]
    clear Ew1 Ew2
    refine (small_is w2 lx sx ox stx ix vex tlz tsz toz tez trz q1.out).mono ?_
    rintro e w3 ⟨rfl, hb⟩
    have hW : Below w2.heap.size w2 w3 := hb
    replace HK := Lib.hid (HK.out.below hW (Nat.le_refl _))
    replace HB := Lib.hid (HB.out.trans (hW.mono HB.out.size))
    clear hW
    clear a0 a1 a2 a3 a4 a5 a6 b0 b1 b2 b3 b4 b5 b6 hb
    go_wp2_with fail
    refine (awake_is _).mono ?_
    rintro e wz ⟨rfl, hb⟩
    have hW : Below w3.heap.size w3 wz := hb
    replace HK := Lib.hid (HK.out.below hW (Nat.le_refl _))
    replace HB := Lib.hid (HB.out.trans (hW.mono HB.out.size))
    clear hW
    go_wp2
    go_ret
    exact told_mk (by simp) HB.out
end
end Go.Proofs.Ytmiapegecoaccaa
