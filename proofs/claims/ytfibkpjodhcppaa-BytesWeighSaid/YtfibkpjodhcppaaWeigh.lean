import Derived.Test.YtfibkpjodhcppaaAwake
import Derived.Test.YtfibkpjodhcppaaNums
import Derived.Deep.RegionHeld3
import Derived.Deep.DeepCutAuto
namespace Go.Proofs.Ytfibkpjodhcppaa
open Go.RowKit Go.Coop

theorem weigh_out (A : Option Addr) (n c : Nat) (w : World) (h : 60 < n) :
    Calls Try.prog 9 #[.slice A n c] w fun e w' => e = .returned (.bool true) ∧ Below w.heap.size w w' := by
  go_enter Try.func9, Try.ntmps9
  go_wp2_with (go_at_call 18; refine (awake_any _).mono ?_; rintro e w1 ⟨rfl, hb1⟩)
  go_ret
  exact ⟨rfl, hb1⟩

/-- what the walk of a round needs of a number that came: its last byte stands at y -/
structure WRel (l : List UInt8) (x y N : Nat) (seg : List UInt8) : Prop where
  xy : x ≤ y
  ten : y < x + 10
  fits : y < l.length
  num : N = val seg
  len : seg.length = y + 1 - x
  seg_ : seg = (l.drop x).take (y + 1 - x)
  ok : canon true seg
  back : dig N = seg
theorem wrel_of {l : List UInt8} {x : Nat} (hx : x ≤ l.length) (he : (getU l (x : Int)).2.2 = 0) : ∃ y N seg, getU l (x : Int) = (N, y + 1, 0) ∧ WRel l x y N seg ∧ N ≤ 18446744073709551615 := by
  obtain ⟨m, h1, h2, h3, h4, h5, h6, h7⟩ := getU_came hx he
  have hok := (getU_ok l (x : Int)).num
  have e : x + m = (x + m - 1) + 1 := by omega
  refine ⟨x + m - 1, (getU l (x : Int)).1, (l.drop x).take m, Prod.ext rfl (Prod.ext (by rw [h1]; exact e) he), ⟨by omega, by omega, by omega, h5, by simp; omega, by congr 1; omega, h6, h7⟩, hok⟩
theorem WRel.at_ {l : List UInt8} {x y N : Nat} {seg : List UInt8} (h : WRel l x y N seg) {k : Nat} (hk : k < seg.length) : ∃ c, seg[k]? = some c ∧ l[x + k]? = some c := by
  obtain ⟨c, hc⟩ : ∃ c, seg[k]? = some c := ⟨_, List.getElem?_eq_getElem hk⟩
  refine ⟨c, hc, ?_⟩
  rw [h.seg_, List.getElem?_take, if_pos (by have := h.len; omega), List.getElem?_drop] at hc
  exact hc
theorem val_step {seg : List UInt8} {k : Nat} {c : UInt8} (h : seg[k]? = some c) : val (seg.drop k) = c.toNat % 128 + 128 * val (seg.drop (k + 1)) := by
  rw [drop_at h]; rfl

set_option maxHeartbeats 2000000 in
set_option maxRecDepth 100000 in
theorem weigh_in (A : Option Addr) (n c : Nat) (l : List UInt8) (w : World) (h : n ≤ 60) (hr : Rd w A n l) (hc : n ≤ c) :
    Calls Try.prog 9 #[.slice A n c] w fun e w' => e = .returned (.bool true) ∧ Below w.heap.size w w' := by
  have hd1 : decide (60 < (n : Int)) = false := by simp; omega
  have HR := Lib.hid hr
  have hln : l.length = n := hr.len
  have HLN := Lib.hid hln
  clear hr hln
  go_enter Try.func9, Try.ntmps9
  go_wp2
  clear hd1
  go_loopw [3] (fun v wr => ∃ x : Nat, x ≤ n ∧ v = .int .i64 x ∧ Below w.heap.size w wr) (fun v _ => n - (intOf v).toNat)
  case atStart => exact ⟨0, by omega, rfl, Below.refl _ _⟩
  case round =>
    obtain ⟨x, hx, rfl, hbel⟩ := hrel
    have HBW := Lib.hid hbel
    have HRW := Lib.hid (HR.out.below hbel (Nat.le_refl _))
    have hsz := hbel.size
    clear hbel
    by_cases hlt : x < n
    · by_cases he : (getU l (x : Int)).2.2 = 0
      · obtain ⟨y, N, seg, hg, hW, hN⟩ := wrel_of (by rw [HLN.out]; omega) he
        clear he
        have hxy := hW.xy
        have hten := hW.ten
        have hyn : y < n := by have := hW.fits; rwa [HLN.out] at this
        have hG := getUint_any A n c l x wr HRW.out (by omega) hc
        rw [hg] at hG
        have HG := Lib.hid hG
        have HW := Lib.hid hW
        clear hG hW hg
        go_wp2_with fail
        refine HG.out.mono ?_
        rintro e w' ⟨rfl, rfl⟩
        -- the last byte
        obtain ⟨cy, hcy1, hcy2⟩ := HW.out.at_ (k := y - x) (by rw [HW.out.len]; omega)
        rw [show x + (y - x) = y by omega] at hcy2
        obtain ⟨ad, cy', rfl, _, hcy3, hcell⟩ := HRW.out.at_ hyn
        rw [hcy2] at hcy3
        injection hcy3 with hcy3
        subst hcy3
        obtain ⟨_, hlast⟩ := canon_at seg true (y - x) cy HW.out.ok hcy1
        have hlast := hlast (by rw [HW.out.len]; omega)
        have h127 : cy.toNat < 128 := hlast.1
        have hnz : x < y → ((cy.toNat : Int) == 0) = false := fun h => beq_eq_false_iff_ne.2 (by have := hlast.2 (by rw [HW.out.len]; omega); omega)
        unfold BV at hcell
        generalize cy.toNat = dy at *
        clear hcy1 hcy2 hlast
        have b1 : decide ((y : Int) + 1 ≤ (x : Int)) = false := by simp; omega
        have b2 : decide ((n : Int) < (y : Int) + 1) = false := by simp; omega
        have b3 : decide ((x : Int) + 10 < (y : Int) + 1) = false := by simp; omega
        have b4 : decide (127 < (dy : Int)) = false := by simp; omega
        have hcut : ∀ w, (Instr.slice 32 (.slice (some ad) n c) (some (.int .i64 (x : Int))) (some (.int .i64 ((y : Int) + 1))) none).run Try.prog w = .ok (.slice (cutA (some ad) c x) (y + 1 - x) (c - x)) w := by
          intro w
          have := slice_lh (P := Try.prog) 32 Try.underlying32 info5 (some ad) n c x (y + 1) (by omega) (by omega) w
          simpa using this
        have hrd : Rd wr (cutA (some ad) c x) (y + 1 - x) seg := by
          have h1 := (HRW.out.drop (cap := c) (k := x) (by omega) hc).take (k := y + 1 - x) (by omega)
          rwa [← HW.out.seg_] at h1
        have HRD := Lib.hid hrd
        have HCUT := Lib.hid hcut
        clear hrd hcut
        generalize cutA (some ad) c x = A' at *
        rcases Nat.lt_or_ge x y with hxy' | hxy'
        all_goals
          go_wp2
          clear b1 b2 b3 b4 hnz
          go_loop [7, 8] (fun s i => ∃ (k : Nat) (z : Int) (S : Nat), k ≤ y + 1 - x ∧ z ≤ x + k - 1 ∧ (x : Int) + k - 1 ≤ z ∧ i = .int .i64 z ∧ s = .int .u64 S ∧ Hid (S = val (seg.drop k))) (fun _ i => (intOf i + 1 - x).toNat)
          case atStart => exact ⟨y + 1 - x, y, 0, by omega, by omega, by omega, rfl, rfl, by show 0 = _; rw [List.drop_eq_nil_of_le (by rw [HW.out.len]; omega)]; rfl⟩
          case round =>
            obtain ⟨k, z, S, hk, hz1, hz2, rfl, rfl, HS⟩ := hrel
            by_cases hk0 : 0 < k
            · obtain ⟨k', rfl⟩ : ∃ k', k = k' + 1 := ⟨k - 1, by omega⟩
              obtain rfl : z = (x : Int) + (k' : Int) := by omega
              obtain ⟨ck, hck1, hck2⟩ := HW.out.at_ (k := k') (by rw [HW.out.len]; omega)
              obtain ⟨ad', ck', e1, _, hck3, hcell2⟩ := HRW.out.at_ (k := x + k') (by omega)
              rw [hck2] at hck3
              injection hck3 with hck3
              injection e1 with e1
              subst hck3 e1
              unfold BV at hcell2
              have hmore := (canon_at seg true k' ck HW.out.ok hck1).1
              rw [HW.out.len] at hmore
              have hvs := val_step hck1
              have hvle := val_drop_le seg k'
              have hSN : ck.toNat % 128 + 128 * S ≤ N := by rw [HS.out, ← hvs, HW.out.num]; exact hvle
              have HVS : Hid (ck.toNat % 128 + 128 * S = val (seg.drop k')) := by rw [hvs, ← HS.out]; rfl
              have h256 := ck.toNat_lt
              clear hvs hvle hck1 hck2
              generalize ck.toNat = dk at *
              go_wp2
              all_goals
                go_round
                case rel => exact ⟨k', (x : Int) + k' - 1, dk % 128 + 128 * S, by omega, by omega, by omega, by go_num, by go_num, HVS.out⟩
                case measure => simp [intOf]; omega
            · obtain rfl : k = 0 := by omega
              obtain rfl : S = N := by rw [HS.out, HW.out.num]; rfl
              clear hk0 hk
              go_wp2
              go_cut [112] (fun s wx => s = .bool false ∧ Below wr.heap.size wr wx)
              case first =>
                rename_i k2 a4 h0 k1 a3 kk a2 hw J K' a1 a0
                have hU : ∀ W, Calls Try.prog 13 #[.slice none 0 0, .int .u64 (S : Int)] W (Fresh W seg.length seg) := fun W => by rw [← HW.out.back]; exact uint_nil S W hN
                have HU := Lib.hid hU
                have hcut := HCUT.out
                have kcS : ∀ w', Rd w' A' (y + 1 - x) seg → (convert 32 9 (.slice A' (y + 1 - x) (c - x))).run Try.prog w' = .ok (.string ⟨seg.toArray⟩) w' := fun w' h => conv_str (P := Try.prog) Try.underlying32 Try.underlying5 Try.underlying9 h (c - x)
                clear hU a4 a3 a2 h0 hw HG HW HS hz1 hz2 hcell h127 hlast hxy' hxy hten hx hlt hsz h HBW HR HRW HLN HCUT
                refine wp_region_held_drew (S := fun w' => Rd w' A' (y + 1 - x) seg) (by kernel_rfl) (HRD.out.drew) (fun hHeld => ?_)
                refine wpAnyH_take (i := 0) (oi := ⟨some 99, _, _, _, _, _⟩) (v := ?_) rfl (by kernel_rfl) (by kernel_rfl) (by kernel_rfl) (fun _ _ _ h => h) (Or.inl ⟨by rfl, ?_⟩) (by assumption) ?_
                rotate_left
                · intro w hSw
                  (try dsimp only at hSw)
                  go_simp
                  all_goals (with_reducible rfl)
                try simp only [Act.put, List.setIfInBounds_toArray, List.set_cons_zero, List.set_cons_succ]
                refine wpAnyH_take (i := 1) (oi := ⟨some 100, _, _, _, _, _⟩) (v := ?_) rfl (by kernel_rfl) (by kernel_rfl) (by kernel_rfl) (fun _ _ _ h => h) (Or.inl ⟨by rfl, ?_⟩) (by assumption) ?_
                rotate_left
                · intro w hSw
                  (try dsimp only at hSw)
                  go_simp
                  all_goals (with_reducible rfl)
                try simp only [Act.put, List.setIfInBounds_toArray, List.set_cons_zero, List.set_cons_succ]
                refine wpAnyH_take (i := 2) (oi := ⟨some 101, _, _, _, _, _⟩) (v := ?_) rfl (by kernel_rfl) (by kernel_rfl) (by kernel_rfl) (fun _ _ _ h => h) (Or.inl ⟨by rfl, ?_⟩) (by assumption) ?_
                rotate_left
                · intro w hSw
                  (try dsimp only at hSw)
                  go_simp
                  all_goals (with_reducible rfl)
                try simp only [Act.put, List.setIfInBounds_toArray, List.set_cons_zero, List.set_cons_succ]
                refine wpAnyH_take (i := 3) (oi := ⟨some 102, _, _, _, _, _⟩) (v := ?_) rfl (by kernel_rfl) (by kernel_rfl) (by kernel_rfl) (fun _ _ _ h => h) (Or.inl ⟨by rfl, ?_⟩) (by assumption) ?_
                rotate_left
                · intro w hSw
                  (try dsimp only at hSw)
                  go_simp
                  all_goals (with_reducible rfl)
                try simp only [Act.put, List.setIfInBounds_toArray, List.set_cons_zero, List.set_cons_succ]
                refine wpAnyH_take (i := 4) (oi := ⟨some 103, _, _, _, _, _⟩) (v := ?_) rfl (by kernel_rfl) (by kernel_rfl) (by kernel_rfl) (fun _ _ _ h => h) (Or.inl ⟨by rfl, ?_⟩) (by assumption) ?_
                rotate_left
                · intro w hSw
                  (try dsimp only at hSw)
                  go_simp
                  all_goals (with_reducible rfl)
                try simp only [Act.put, List.setIfInBounds_toArray, List.set_cons_zero, List.set_cons_succ]
                refine wpAnyH_take (i := 7) (oi := ⟨some 106, _, _, _, _, _⟩) (v := ?_) rfl (by kernel_rfl) (by kernel_rfl) (by kernel_rfl) (fun _ _ _ h => h) (Or.inl ⟨by rfl, ?_⟩) (by assumption) ?_
                rotate_left
                · intro w hSw
                  (try dsimp only at hSw)
                  go_simp
                  all_goals (with_reducible rfl)
                try simp only [Act.put, List.setIfInBounds_toArray, List.set_cons_zero, List.set_cons_succ]
                refine wpAnyH_take (i := 8) (oi := ⟨some 107, _, _, _, _, _⟩) (v := ?_) rfl (by kernel_rfl) (by kernel_rfl) (by kernel_rfl) (fun _ _ _ h => h) (Or.inl ⟨by rfl, ?_⟩) (by assumption) ?_
                rotate_left
                · intro w hSw
                  (try dsimp only at hSw)
                  go_simp
                  all_goals (with_reducible rfl)
                try simp only [Act.put, List.setIfInBounds_toArray, List.set_cons_zero, List.set_cons_succ]
                refine wpAnyH_take (i := 9) (oi := ⟨some 108, _, _, _, _, _⟩) (v := ?_) rfl (by kernel_rfl) (by kernel_rfl) (by kernel_rfl) (fun _ _ _ h => h) (Or.inl ⟨by rfl, ?_⟩) (by assumption) ?_
                rotate_left
                · intro w hSw
                  (try dsimp only at hSw)
                  go_simp
                  all_goals (with_reducible rfl)
                try simp only [Act.put, List.setIfInBounds_toArray, List.set_cons_zero, List.set_cons_succ]
                refine wpAnyH_take (i := 10) (oi := ⟨some 109, _, _, _, _, _⟩) (v := ?_) rfl (by kernel_rfl) (by kernel_rfl) (by kernel_rfl) (fun _ _ _ h => h) (Or.inl ⟨by rfl, ?_⟩) (by assumption) ?_
                rotate_left
                · intro w hSw
                  (try dsimp only at hSw)
                  go_simp
                  all_goals (with_reducible rfl)
                try simp only [Act.put, List.setIfInBounds_toArray, List.set_cons_zero, List.set_cons_succ]
                refine wpAnyH_take (i := 11) (oi := ⟨some 110, _, _, _, _, _⟩) (v := ?_) rfl (by kernel_rfl) (by kernel_rfl) (by kernel_rfl) (fun _ _ _ h => h) (Or.inl ⟨by rfl, ?_⟩) (by assumption) ?_
                rotate_left
                · intro w hSw
                  (try dsimp only at hSw)
                  go_simp
                  all_goals (with_reducible rfl)
                try simp only [Act.put, List.setIfInBounds_toArray, List.set_cons_zero, List.set_cons_succ]
                refine wpAnyH_ready (rs := [5]) (by kernel_rfl) (by simp) (AllReadyH.cons (o := ⟨some 104, _, _, _, _, _⟩) rfl (fun K hK => ?_) AllReadyH.nil)
                go_simp
                refine (HU.out _).mono ?_
                rintro e w3 ⟨A3, c3, rfl, ho3, hb3⟩
                have kc1 := conv_str (P := Try.prog) Try.underlying32 Try.underlying5 Try.underlying9 ho3.rd c3
                show K _ _
                refine hK.out _ _ (HRD.out.drew.below hb3 (Nat.le_refl _)) (fun hHeld => ?_)
                clear hK K
                try simp only [Act.put, List.setIfInBounds_toArray, List.set_cons_zero, List.set_cons_succ]
                refine wpAnyH_ready (rs := [6]) (by kernel_rfl) (by simp) (AllReadyH.cons (o := ⟨some 105, _, _, _, _, _⟩) rfl (fun K hK => ?_) AllReadyH.nil)
                go_simp
                refine hK.out _ _ (HRD.out.drew.below hb3 (Nat.le_refl _)) (fun hHeld => ?_)
                clear hK K
                try simp only [Act.put, List.setIfInBounds_toArray, List.set_cons_zero, List.set_cons_succ]
                refine wpAnyH_take (i := 12) (oi := ⟨some 111, _, _, _, _, _⟩) (v := ?_) rfl (by kernel_rfl) (by kernel_rfl) (by kernel_rfl) (fun _ _ _ h => h) (Or.inl ⟨by rfl, ?_⟩) (by assumption) ?_
                rotate_left
                · intro w hSw
                  (try dsimp only at hSw)
                  go_simp
                  all_goals (with_reducible rfl)
                try simp only [Act.put, List.setIfInBounds_toArray, List.set_cons_zero, List.set_cons_succ]
                refine wpAnyH_take (i := 13) (oi := ⟨some 112, _, _, _, _, _⟩) (v := ?_) rfl (by kernel_rfl) (by kernel_rfl) (by kernel_rfl) (fun _ _ _ h => h) (Or.inl ⟨by rfl, ?_⟩) (by assumption) ?_
                rotate_left
                · intro w hSw
                  (try dsimp only at hSw)
                  go_simp
                  all_goals (with_reducible rfl)
                try simp only [Act.put, List.setIfInBounds_toArray, List.set_cons_zero, List.set_cons_succ]
                refine wpAnyH_done (by kernel_rfl) ?_ _
                go_wp2_with fail
                go_meet
                case rel => exact ⟨rfl, (Below.refl _ _).drew.trans hb3⟩
              case rest =>
                obtain ⟨rfl, hb⟩ := hcut
                go_wp2
                go_roundw
                case rel => exact ⟨y + 1, by omega, by go_num, HBW.out.trans (hb.mono hsz)⟩
                case measure => simp [intOf]; omega
      · have hbad := getU_bad (x := x) (by rw [HLN.out]; omega) he
        have hok := getU_ok l (x : Int)
        have hz := hok.none he
        have hG := getUint_any A n c l x wr HRW.out (by omega) hc
        obtain ⟨e, hee⟩ : ∃ e, getU l (x : Int) = (0, 0, e) := ⟨_, Prod.ext hz.1 (Prod.ext hz.2 rfl)⟩
        rw [hee] at hG hbad
        have HG := Lib.hid hG
        simp only at hbad
        clear hz hok hG he hee
        rcases hbad with rfl | rfl
        all_goals
          go_wp2_with fail
          refine HG.out.mono ?_
          rintro e w' ⟨rfl, rfl⟩
          go_wp2_with fail
          refine (awake_any _).mono ?_
          rintro e w2 ⟨rfl, hb2⟩
          go_wp2
          go_ret
          exact ⟨rfl, HBW.out.trans (hb2.mono hsz)⟩
    · go_wp2_with fail
      refine (awake_any _).mono ?_
      rintro e w2 ⟨rfl, hb2⟩
      go_wp2
      go_ret
      exact ⟨rfl, HBW.out.trans (hb2.mono hsz)⟩
end Go.Proofs.Ytfibkpjodhcppaa
