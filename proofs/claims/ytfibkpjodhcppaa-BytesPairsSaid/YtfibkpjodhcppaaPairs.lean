import Derived.Test.YtfibkpjodhcppaaEcho
import Derived.Test.YtfibkpjodhcppaaOrder
import Derived.Deep.RegionHeld3
import Derived.Deep.DeepCutAuto
namespace Go.Proofs.Ytfibkpjodhcppaa
open Go.RowKit Go.Coop

theorem four_inj {s t : Nat} (hs : s < 4294967296) (ht : t < 4294967296) (h : four s = four t) : s = t := by
  unfold four at h
  simp only [List.cons.injEq, and_true] at h
  obtain ⟨h1, h2, h3, h4⟩ := h
  have g : ∀ a b : Nat, UInt8.ofNat a = UInt8.ofNat b → a % 256 = b % 256 := by
    intro a b h
    have := congrArg UInt8.toNat h
    simpa [UInt8.toNat_ofNat'] using this
  have := g _ _ h1
  have := g _ _ h2
  have := g _ _ h3
  have := g _ _ h4
  omega
theorem unsealed_other {x b : List UInt8} {n : Nat} (hl : x.length = n) (hne : x ≠ b) (hs : crc entry x = crc entry b → x = b) : unsealed (crc entry ((x ++ four (crc entry b)).take (n + 4 - 4))) (x ++ four (crc entry b)) = ([], 12) := by
  have h4 : (four (crc entry b)).length = 4 := rfl
  have ht : (x ++ four (crc entry b)).take n = x := by rw [← hl]; exact List.take_left
  unfold unsealed
  rw [Nat.add_sub_cancel, ht, List.length_append, hl, h4, if_neg (by omega), Nat.add_sub_cancel, ht, if_neg]
  intro he
  have := List.append_cancel_left he
  exact hne (hs (four_inj (crc_lt _ _) (crc_lt _ _) this))

theorem pick_any (x : Int) (n : Nat) (w : World) (hn : 0 < n) (hn2 : n ≤ 1048576) :
    Calls Try.prog 34 #[.int .i64 x, .int .i64 (n : Int)] w fun e w' => (∃ k : Nat, k < n ∧ e = .returned (.int .i64 (k : Int))) ∧ w = w' := by
  go_enter Try.func34, Try.ntmps34
  go_wp2
  · have hlo := Int.lt_tmod_of_pos x (show (0 : Int) < n by omega)
    have hhi := Int.tmod_lt_of_pos x (show (0 : Int) < n by omega)
    have hneg : x.tmod n < 0 := by assumption
    go_ret
    refine ⟨⟨(x.tmod n + n).toNat, by omega, ?_⟩, rfl⟩
    refine ret_int ?_
    unfold wrap64
    omega
  · have hhi := Int.tmod_lt_of_pos x (show (0 : Int) < n by omega)
    have hpos : 0 ≤ x.tmod n := by assumption
    go_ret
    exact ⟨⟨(x.tmod n).toNat, by omega, ret_int (by omega)⟩, rfl⟩

set_option maxRecDepth 100000 in
theorem pairs_out (A : Option Addr) (n c : Nat) (x1 x2 x3 x4 : Int) (w : World) (h : n = 0 ∨ 400 < n) :
    Calls Try.prog 7 #[.slice A n c, .int .u16 x1, .int .u16 x2, .int .i64 x3, .int .u32 x4] w (Holds w) := by
  by_cases h1 : n = 0
  · have b1 : ((n : Int) == 0) = true := beq_iff_eq.2 (by omega)
    have H := Lib.hid h1
    clear h1 h
    go_enter Try.func7, Try.ntmps7
    go_wp2_with (go_at_call 18; refine (awake_any _).mono ?_; rintro e w1 ⟨rfl, hb1⟩)
    go_ret
    exact ⟨rfl, hb1⟩
  · have b1 : ((n : Int) == 0) = false := beq_eq_false_iff_ne.2 (by omega)
    have h2 : 400 < n := by omega
    clear h h1
    go_enter Try.func7, Try.ntmps7
    go_wp2_with (go_at_call 18; refine (awake_any _).mono ?_; rintro e w1 ⟨rfl, hb1⟩)
    go_ret
    exact ⟨rfl, hb1⟩

theorem xor_byte {a b : Int} (h1 : 0 ≤ a) (h2 : a < 256) (h3 : 0 ≤ b) (h4 : b < 256) : ∃ y : UInt8, Value.int IntKind.u8 (bits BinOp.xor IntKind.u8 a b) = BV y := by
  refine ⟨UInt8.ofNat (a.toNat ^^^ b.toNat), ?_⟩
  rw [u8_xor a b h1 h2 h3 h4]
  unfold BV
  rw [UInt8.toNat_ofNat', Nat.mod_eq_of_lt (Nat.xor_lt_two_pow (n := 8) (by omega) (by omega))]

set_option maxHeartbeats 4000000 in
set_option maxRecDepth 100000 in
theorem pairs_in (A : Option Addr) (n c : Nat) (b : List UInt8) (k1 k2 : Nat) (x3 : Int) (f4 : Nat) (w : World) (h1 : 0 < n) (h2 : n ≤ 400) (hr : Rd w A n b) (hk1 : k1 < 65536) (hk2 : k2 < 65536) :
    Calls Try.prog 7 #[.slice A n c, .int .u16 (k1 : Int), .int .u16 (k2 : Int), .int .i64 x3, .int .u32 (f4 : Int)] w (Holds w) := by
  obtain ⟨Z, hZs, hz⟩ := zero24
  have HZ := Lib.hid hZs
  have hbl : b.length = n := hr.len
  have HBL := Lib.hid hbl
  have HR := Lib.hid hr
  clear hZs hbl hr
  have b1 : ((n : Int) == 0) = false := beq_eq_false_iff_ne.2 (by omega)
  have b2 : decide (400 < (n : Int)) = false := by simp; omega
  go_enter Try.func7, Try.ntmps7
  go_wp2_with (first
    | (go_at_call 10; refine (table_any _).mono ?_; rintro e w1 ⟨rfl, hb1⟩; rw [show tarr ((List.range 256).map entry) = T0 from rfl])
    | ((with_reducible refine wpList_store_new (o := ⟨none, .store 24 (.tmp 11) (.tmp 30), _, _, _, _⟩) ?_ 24 (.tmp 11) (.tmp 30) ?_ T0 Z ?_ ?_ 24 size24' HZ.out T0_one ?_)
       case refine_1 => rfl
       case refine_2 => rfl
       case refine_3 => rfl
       case refine_4 => rfl))
  have HB2 : Hid (Below w.heap.size w (w1.alloc (.cells T0 24))) := hb1.alloc hb1.size _
  have HT := Lib.hid (tab_new w1 (0, 0))
  have hltw : w1.heap.size < (w1.alloc (.cells T0 24)).heap.size := by rw [size_alloc]; omega
  clear b1 b2 hz hb1
  generalize w1.alloc (.cells T0 24) = w2 at *
  refine (seal_any _ _ A n c b _ HT.out (HR.out.below HB2.out (Nat.le_refl _)) (by omega)).mono ?_
  rintro e w3 ⟨A3, c3, rfl, ho3, hb3⟩
  have hc3 := ho3.cap
  have HO3 := Lib.hid ho3
  have HB3 := Lib.hid hb3
  have hs3 := hb3.size
  clear ho3 hb3
  go_wp2_with fail
  refine (pick_any x3 n _ h1 (by omega)).mono ?_
  rintro e w' ⟨⟨k, hk, rfl⟩, rfl⟩
  go_wp2_with fail
  refine (copy_any A n c b _ ((HR.out.below HB2.out (Nat.le_refl _)).below HB3.out (Nat.le_refl _)) (by omega)).mono ?_
  rintro e w4 ⟨A4, c4, rfl, ho4, hb4⟩
  obtain ⟨g, rfl, hg1, hg2, _⟩ := ho4.addr h1
  have hs4 := hb4.size
  go_wp2
  go_loopw [15] (fun v wr => ∃ (i : Nat) (x : List UInt8), i ≤ 4 ∧ v = .int .i64 i ∧ Own wr w3.heap.size 5 (some ⟨g, 0, none⟩) n c4 x ∧ Below w3.heap.size w3 wr ∧ Hid (∀ j, j < k ∨ k + 4 ≤ j → x[j]? = b[j]?)) (fun v _ => 4 - (intOf v).toNat)
  case atStart => exact ⟨0, b, by omega, rfl, ho4, hb4, fun _ _ => rfl⟩
  case round =>
    obtain ⟨i, x, hi, rfl, hown, hbel, HX⟩ := hrel
    by_cases hlt : i < 4 ∧ k + i < n
    · obtain ⟨hi4, hkn⟩ := hlt
      obtain ⟨g', cy, e', _, hcy, hcell⟩ := hown.rd.at_ hkn
      injection e' with e'
      subst e'
      have hcell3 : wr.cell? ⟨g, k + i, none⟩ = some (.int .u8 (cy.toNat : Int)) := by
        have hadd : (⟨g, 0, none⟩ : Addr).add (k + i) = ⟨g, k + i, none⟩ := by unfold Addr.add; split <;> simp_all
        rw [hadd] at hcell; exact hcell
      have hfz : wr.frozen? ⟨g, k + i, none⟩ = false := by
        obtain ⟨g2, e2, _, _, h2⟩ := hown.addr h1
        injection e2 with e2
        injection e2 with e2
        subst e2
        exact h2 _
      have hx := cy.toNat_lt
      generalize cy.toNat = xb at *
      have e1 : IntKind.i64.wrap ((k : Int) + (i : Int)) = (k : Int) + (i : Int) := by rw [IntKind.wrap_i64]; omega
      have hpp : (0 : Int) ≤ (k : Int) + i := by omega
      have hpn' : (k : Int) + (i : Int) < n := by omega
      have htn : ((k : Int) + (i : Int)).toNat = k + i := by omega
      have HO := Lib.hid hown
      have HB := Lib.hid hbel
      clear hcell hcy hown hbel ho4 hb4
      go_wp2
      go_region
      go_wp2
      go_roundw
      case rel =>
        obtain ⟨y, hy⟩ := xor_byte (a := (xb : Int)) (b := (f4 : Int) / 2 ^ (8 * i) % 256) (by omega) (by omega) (by omega) (by omega)
        rw [hy]
        refine ⟨i + 1, x.set (k + i) y, by omega, by go_num, (HO.out.set rfl y).drew, (HB.out.setCell (by exact hg1) _).drew, ?_⟩
        intro j hj
        rw [List.getElem?_set_ne (by omega)]
        exact HX.out j hj
      case measure => simp [intOf]; omega
    · have hseen := fun hc => burst_seen (b := b) (x := x) (k := k) (by rw [hown.len, HBL.out]) (by rw [HBL.out]; omega) HX.out hc
      have HS3 := Lib.hid hseen
      have HO4 := Lib.hid hown
      have HB4 := Lib.hid hbel
      have hsr := hbel.size
      have hd : ¬ i < 4 ∨ (i < 4 ∧ ¬ k + i < n) := by omega
      clear hlt hseen hown hbel HX ho4 hb4
      have HRr := Lib.hid (((HR.out.below HB2.out (Nat.le_refl _)).below HB3.out (Nat.le_refl _)).below HB4.out (Nat.le_refl _))
      rcases hd with hd | ⟨hd1, hd2⟩
      all_goals
        go_wp2_with fail
        refine (turned_any A n c b _ 1 1 [k1] _ (HRr.out.alloc _) (RdV.one wr (V16 k1) 57 _) (by simpa using hk1) h1 (by omega) (by omega)).mono ?_
        rintro e w5 ⟨A5, c5, rfl, ho5, hb5⟩
        have HB5 : Hid (Below wr.heap.size wr w5) := ((Below.refl _ _).alloc (Nat.le_refl _) _).trans (hb5.mono (by simp))
        have HO5 := Lib.hid ho5
        have hs5 : wr.heap.size ≤ w5.heap.size := HB5.out.size
        clear ho5 hb5
        go_wp2_with fail
        refine (turned_any A n c b _ 2 2 [k1, k2] _ ((HRr.out.below HB5.out (Nat.le_refl _)).alloc _) (RdV.new w5 [V16 k1, V16 k2] 57 _) (by intro k hk; simp at hk; omega) h1 (by omega) (by omega)).mono ?_
        rintro e w6 ⟨A6, c6, rfl, ho6, hb6⟩
        have HB6 : Hid (Below w5.heap.size w5 w6) := ((Below.refl _ _).alloc (Nat.le_refl _) _).trans (hb6.mono (by simp))
        have HO6 := Lib.hid ho6
        have hs6 : w5.heap.size ≤ w6.heap.size := HB6.out.size
        clear ho6 hb6
        -- all that was there is there in w6
        have HBr : Hid (Below wr.heap.size wr w6) := HB5.out.trans (HB6.out.mono hs5)
        have HX1 := Lib.hid (HO5.out.rd.below HB6.out (Nat.le_refl _))
        have HX2 := Lib.hid HO6.out.rd
        have HX3 := Lib.hid (HO4.out.rd.below HBr.out (Nat.le_refl _))
        have HB3r : Hid (Below w3.heap.size w3 w6) := HB4.out.trans (HBr.out.mono hsr)
        have HRb := Lib.hid (HRr.out.below HBr.out (Nat.le_refl _))
        have HSe := Lib.hid (HO3.out.rd.below HB3r.out (Nat.le_refl _))
        have HTt := Lib.hid ((HT.out.below hltw HB3.out).below (Nat.lt_of_lt_of_le hltw hs3) HB3r.out)
        have hlt6 : w1.heap.size < w6.heap.size := Nat.lt_of_lt_of_le (Nat.lt_of_lt_of_le hltw hs3) HB3r.out.size
        have HBw : Hid (Below w.heap.size w w6) := (HB2.out.trans (HB3.out.mono HB2.out.size)).trans (HB3r.out.mono (Nat.le_trans HB2.out.size hs3))
        have H1s := Lib.hid (one_seen (b := b) (by rw [HBL.out]; exact h1) (by rw [HBL.out]; exact h2) k1)
        have H2s := Lib.hid (two_seen (b := b) (by rw [HBL.out]; exact h1) (by rw [HBL.out]; exact h2) k1 k2)
        have hl1 : (turnF b [k1]).length = n := by rw [turnF_length, HBL.out]
        have hl2 : (turnF b [k1, k2]).length = n := by rw [turnF_length, HBL.out]
        have hl3 : x.length = n := HO4.out.len
        have HL := Lib.hid (And.intro hl1 (And.intro hl2 hl3))
        have i0 : ∀ (w : World) (a0 a1 a2 : Value), (Instr.index 61 (.agg #[a0, a1, a2]) (.int .i64 0)).run Try.prog w = .ok a0 w := fun _ _ _ _ => by kernel_rfl
        have i1 : ∀ (w : World) (a0 a1 a2 : Value), (Instr.index 61 (.agg #[a0, a1, a2]) (.int .i64 1)).run Try.prog w = .ok a1 w := fun _ _ _ _ => by kernel_rfl
        have i2 : ∀ (w : World) (a0 a1 a2 : Value), (Instr.index 61 (.agg #[a0, a1, a2]) (.int .i64 2)).run Try.prog w = .ok a2 w := fun _ _ _ _ => by kernel_rfl
        have HI := Lib.hid (And.intro i0 (And.intro i1 i2))
        clear hl1 hl2 hl3 i0 i1 i2 HB5 HB6 HO5 HO6 HBr HO4 HB4 HRr HO3 HB3r HT HB2 HB3 HR hs5 hs6 hsr
        generalize turnF b [k1] = x1 at *
        generalize turnF b [k1, k2] = x2 at *
        go_wp2
        go_loopw [81] (fun v wr => ∃ (j : Nat) (z : Int), j ≤ 3 ∧ z ≤ j ∧ (j : Int) ≤ z ∧ v = .int .i64 z ∧ Below w6.heap.size w6 wr) (fun v _ => (3 - intOf v).toNat)
        case atStart => exact ⟨0, 0, by omega, by omega, by omega, rfl, Below.refl _ _⟩
        case round =>
          obtain ⟨j, z, hj3, hz1, hz2, rfl, hbel⟩ := hrel
          have hbs := hbel.size
          have HRw := Lib.hid (HRb.out.below hbel (Nat.le_refl _))
          have HTw := Lib.hid (HTt.out.below hlt6 hbel)
          have HBx := Lib.hid hbel
          obtain ⟨B4, hB4⟩ : ∃ B, cutA A3 c3 n = B := ⟨_, rfl⟩
          have HR4 : Hid (Rd wr B4 4 (four (crc entry b))) := by
            have h := (HSe.out.below hbel (Nat.le_refl _)).drop (cap := c3) (k := n) (by omega) hc3
            rw [hB4, show n + 4 - n = 4 by omega] at h
            have e : (sealed entry b).drop n = four (crc entry b) := by unfold sealed; rw [← HBL.out]; exact List.drop_left
            rwa [e] at h
          have hsl : ∀ w, (Instr.slice 32 (.slice A3 (n + 4) c3) (some (.int .i64 (n : Int))) none none).run Try.prog w = .ok (.slice B4 4 (c3 - n)) w := by
            intro w
            have h := slice_l (P := Try.prog) 32 Try.underlying32 info5 A3 (n + 4) c3 n (by omega) w
            rwa [hB4, show n + 4 - n = 4 by omega] at h
          clear hB4
          obtain rfl | rfl | rfl | rfl : j = 0 ∨ j = 1 ∨ j = 2 ∨ j = 3 := by omega
          · obtain rfl : z = 0 := by omega
            have ij := HI.out.1
            have HXw := Lib.hid (HX1.out.below hbel (Nat.le_refl _))
            by_cases hq : x1 = b
            · rw [hq] at HXw
              have HQ := Lib.hid hq
              clear hq
              have kx := conv_str (P := Try.prog) Try.underlying32 Try.underlying5 Try.underlying9 HXw.out c5
              have kb := conv_str (P := Try.prog) Try.underlying32 Try.underlying5 Try.underlying9 HRw.out c
              clear hbel
              go_wp2
              clear kx kb ij
              refine wp_region_held_drew (S := fun _ => True) (by kernel_rfl) (trivial) (fun hHeld => ?_)
              refine wpAnyH_take (i := 0) (oi := ⟨some 90, _, _, _, _, _⟩) (v := ?_) rfl (by kernel_rfl) (by kernel_rfl) (by kernel_rfl) (fun _ _ _ h => h) (Or.inl ⟨by rfl, ?_⟩) (by assumption) ?_
              rotate_left
              · intro w hSw
                (try dsimp only at hSw)
                go_simp
                all_goals (with_reducible rfl)
              try simp only [Act.put, List.setIfInBounds_toArray, List.set_cons_zero, List.set_cons_succ]
              refine wpAnyH_take (i := 2) (oi := ⟨some 92, _, _, _, _, _⟩) (v := ?_) rfl (by kernel_rfl) (by kernel_rfl) (by kernel_rfl) (fun _ _ _ h => h) (Or.inl ⟨by rfl, ?_⟩) (by assumption) ?_
              rotate_left
              · intro w hSw
                (try dsimp only at hSw)
                go_simp
                all_goals (with_reducible rfl)
              try simp only [Act.put, List.setIfInBounds_toArray, List.set_cons_zero, List.set_cons_succ]
              refine wpAnyH_take (i := 3) (oi := ⟨some 93, _, _, _, _, _⟩) (v := ?_) rfl (by kernel_rfl) (by kernel_rfl) (by kernel_rfl) (fun _ _ _ h => h) (Or.inl ⟨by rfl, ?_⟩) (by assumption) ?_
              rotate_left
              · intro w hSw
                (try dsimp only at hSw)
                go_simp
                all_goals (with_reducible rfl)
              try simp only [Act.put, List.setIfInBounds_toArray, List.set_cons_zero, List.set_cons_succ]
              refine wpAnyH_take (i := 4) (oi := ⟨some 94, _, _, _, _, _⟩) (v := ?_) rfl (by kernel_rfl) (by kernel_rfl) (by kernel_rfl) (fun _ _ _ h => h) (Or.inl ⟨by rfl, ?_⟩) (by assumption) ?_
              rotate_left
              · intro w hSw
                (try dsimp only at hSw)
                go_simp
                all_goals (with_reducible rfl)
              try simp only [Act.put, List.setIfInBounds_toArray, List.set_cons_zero, List.set_cons_succ]
              refine wpAnyH_take (i := 5) (oi := ⟨some 95, _, _, _, _, _⟩) (v := ?_) rfl (by kernel_rfl) (by kernel_rfl) (by kernel_rfl) (fun _ _ _ h => h) (Or.inl ⟨by rfl, ?_⟩) (by assumption) ?_
              rotate_left
              · intro w hSw
                (try dsimp only at hSw)
                go_simp
                all_goals (with_reducible rfl)
              try simp only [Act.put, List.setIfInBounds_toArray, List.set_cons_zero, List.set_cons_succ]
              refine wpAnyH_ready (rs := [1]) (by kernel_rfl) (by simp) (AllReadyH.cons (o := ⟨some 91, _, _, _, _, _⟩) rfl (fun K hK => ?_) AllReadyH.nil)
              go_simp
              refine (copy_any A5 n c5 b _ HXw.out.drew (by omega)).mono ?_
              rintro e w7 ⟨A7, c7, rfl, ho7, hb7⟩
              show K _ _
              refine hK.out _ _ (trivial) (fun hHeld => ?_)
              clear hK K
              try simp only [Act.put, List.setIfInBounds_toArray, List.set_cons_zero, List.set_cons_succ]
              refine wpAnyH_ready (rs := [6]) (by kernel_rfl) (by simp) (AllReadyH.cons (o := ⟨some 96, _, _, _, _, _⟩) rfl (fun K hK => ?_) AllReadyH.nil)
              refine step_app _ rfl (.tmp 91) (.tmp 95) 32 rfl wr.heap.size 5 Try.underlying32 info5 (A := A7) (n := n) (c := c7) (by simp [Act.eval]) ho7 (B := B4) (m := 4) (d := c3 - n) (by simp [Act.eval]) (HR4.out.drew.below hb7 (Nat.le_refl _)) (by omega) hb7.size (n + 4) rfl ?_
              intro A8 c8 w8 ho8 hg8 hat8
              have hb8 : Below wr.heap.size wr w8 := ((Below.refl _ wr).drew.trans hb7).grown hg8 hb7.size (fun k hk => (ho7.block k hk).1)
              have ht8 := HTw.out.below (Nat.lt_of_lt_of_le hlt6 hbs) hb8
              refine hK.out _ _ (trivial) (fun hHeld => ?_)
              clear hK K
              try simp only [Act.put, List.setIfInBounds_toArray, List.set_cons_zero, List.set_cons_succ]
              refine wpAnyH_ready (rs := [7]) (by kernel_rfl) (by simp) (AllReadyH.cons (o := ⟨some 97, _, _, _, _, _⟩) rfl (fun K hK => ?_) AllReadyH.nil)
              go_simp
              have hU := unseal_any _ _ A8 (n + 4) c8 _ w8 ht8 ho8.rd (by omega) ho8.cap
              rw [show b ++ four (crc entry b) = sealed entry b from rfl, unsealed_sealed entry b _ (by rw [HBL.out])] at hU
              refine hU.mono ?_
              rintro e w9 ⟨A9, n9, c9, rfl, hr9, hc9, hb9⟩
              clear hU
              show K _ _
              refine hK.out _ _ (trivial) (fun hHeld => ?_)
              clear hK K
              refine wpAnyH_take (i := 8) (oi := ⟨some 89, _, _, _, _, _⟩) (v := ?_) rfl (by kernel_rfl) (by kernel_rfl) (by kernel_rfl) (fun _ _ _ h => h) (Or.inl ⟨by rfl, ?_⟩) (by assumption) ?_
              rotate_left
              · intro w hSw
                (try dsimp only at hSw)
                go_simp
                all_goals (with_reducible rfl)
              try simp only [Act.put, List.setIfInBounds_toArray, List.set_cons_zero, List.set_cons_succ]
              refine wpAnyH_take (i := 9) (oi := ⟨some 98, _, _, _, _, _⟩) (v := ?_) rfl (by kernel_rfl) (by kernel_rfl) (by kernel_rfl) (fun _ _ _ h => h) (Or.inl ⟨by rfl, ?_⟩) (by assumption) ?_
              rotate_left
              · intro w hSw
                (try dsimp only at hSw)
                go_simp
                all_goals (with_reducible rfl)
              try simp only [Act.put, List.setIfInBounds_toArray, List.set_cons_zero, List.set_cons_succ]
              refine wpAnyH_take (i := 10) (oi := ⟨some 99, _, _, _, _, _⟩) (v := ?_) rfl (by kernel_rfl) (by kernel_rfl) (by kernel_rfl) (fun _ _ _ h => h) (Or.inl ⟨by rfl, ?_⟩) (by assumption) ?_
              rotate_left
              · intro w hSw
                (try dsimp only at hSw)
                go_simp
                all_goals (with_reducible rfl)
              try simp only [Act.put, List.setIfInBounds_toArray, List.set_cons_zero, List.set_cons_succ]
              refine wpAnyH_take (i := 11) (oi := ⟨some 19, _, _, _, _, _⟩) (v := ?_) rfl (by kernel_rfl) (by kernel_rfl) (by kernel_rfl) (fun _ _ _ h => h) (Or.inl ⟨by rfl, ?_⟩) (by assumption) ?_
              rotate_left
              · intro w hSw
                (try dsimp only at hSw)
                go_simp
                all_goals (with_reducible rfl)
              try simp only [Act.put, List.setIfInBounds_toArray, List.set_cons_zero, List.set_cons_succ]
              refine wpAnyH_take (i := 12) (oi := ⟨some 20, _, _, _, _, _⟩) (v := ?_) rfl (by kernel_rfl) (by kernel_rfl) (by kernel_rfl) (fun _ _ _ h => h) (Or.inl ⟨by rfl, ?_⟩) (by assumption) ?_
              rotate_left
              · intro w hSw
                (try dsimp only at hSw)
                go_simp
                all_goals (with_reducible rfl)
              try simp only [Act.put, List.setIfInBounds_toArray, List.set_cons_zero, List.set_cons_succ]
              refine wpAnyH_done (by kernel_rfl) ?_ _
              have HB9 : Hid (Below wr.heap.size wr w9) := hb8.trans (hb9.mono hb8.size)
              have ht9 := HTw.out.below (Nat.lt_of_lt_of_le hlt6 hbs) HB9.out
              have kx := conv_str (P := Try.prog) Try.underlying32 Try.underlying5 Try.underlying9 hr9 c9
              have kb := conv_str (P := Try.prog) Try.underlying32 Try.underlying5 Try.underlying9 (HRw.out.below HB9.out (Nat.le_refl _)) c
              have q1 := Lib.hid (sum_any _ _ A5 n c5 b w9 ht9 (HXw.out.below HB9.out (Nat.le_refl _)) (by omega))
              have q2 := Lib.hid (sum_any _ _ A n c b w9 ht9 (HRw.out.below HB9.out (Nat.le_refl _)) (by omega))
              clear ht9 ho7 hb7 ho8 hg8 hat8 hb8 ht8 hr9 hc9 hb9
              go_wp2_with (go_at_call 17; first | ((with_reducible refine q1.out.mono ?_); rintro e w' ⟨rfl, rfl⟩) | ((with_reducible refine q2.out.mono ?_); rintro e w' ⟨rfl, rfl⟩))
              go_roundw
              case rel => exact ⟨1, 1, by omega, by omega, by omega, by go_num, HBx.out.trans (HB9.out.mono hbs)⟩
              case measure => simp [intOf]
            · have hb1 : (x1 == b) = false := by simpa using hq
              have kx := conv_str (P := Try.prog) Try.underlying32 Try.underlying5 Try.underlying9 HXw.out c5
              have kb := conv_str (P := Try.prog) Try.underlying32 Try.underlying5 Try.underlying9 HRw.out c
              have HQ := Lib.hid hq
              clear hq hbel
              go_wp2
              clear kx kb ij hb1
              refine wp_region_held_drew (S := fun _ => True) (by kernel_rfl) (trivial) (fun hHeld => ?_)
              refine wpAnyH_take (i := 0) (oi := ⟨some 90, _, _, _, _, _⟩) (v := ?_) rfl (by kernel_rfl) (by kernel_rfl) (by kernel_rfl) (fun _ _ _ h => h) (Or.inl ⟨by rfl, ?_⟩) (by assumption) ?_
              rotate_left
              · intro w hSw
                (try dsimp only at hSw)
                go_simp
                all_goals (with_reducible rfl)
              try simp only [Act.put, List.setIfInBounds_toArray, List.set_cons_zero, List.set_cons_succ]
              refine wpAnyH_take (i := 2) (oi := ⟨some 92, _, _, _, _, _⟩) (v := ?_) rfl (by kernel_rfl) (by kernel_rfl) (by kernel_rfl) (fun _ _ _ h => h) (Or.inl ⟨by rfl, ?_⟩) (by assumption) ?_
              rotate_left
              · intro w hSw
                (try dsimp only at hSw)
                go_simp
                all_goals (with_reducible rfl)
              try simp only [Act.put, List.setIfInBounds_toArray, List.set_cons_zero, List.set_cons_succ]
              refine wpAnyH_take (i := 3) (oi := ⟨some 93, _, _, _, _, _⟩) (v := ?_) rfl (by kernel_rfl) (by kernel_rfl) (by kernel_rfl) (fun _ _ _ h => h) (Or.inl ⟨by rfl, ?_⟩) (by assumption) ?_
              rotate_left
              · intro w hSw
                (try dsimp only at hSw)
                go_simp
                all_goals (with_reducible rfl)
              try simp only [Act.put, List.setIfInBounds_toArray, List.set_cons_zero, List.set_cons_succ]
              refine wpAnyH_take (i := 4) (oi := ⟨some 94, _, _, _, _, _⟩) (v := ?_) rfl (by kernel_rfl) (by kernel_rfl) (by kernel_rfl) (fun _ _ _ h => h) (Or.inl ⟨by rfl, ?_⟩) (by assumption) ?_
              rotate_left
              · intro w hSw
                (try dsimp only at hSw)
                go_simp
                all_goals (with_reducible rfl)
              try simp only [Act.put, List.setIfInBounds_toArray, List.set_cons_zero, List.set_cons_succ]
              refine wpAnyH_take (i := 5) (oi := ⟨some 95, _, _, _, _, _⟩) (v := ?_) rfl (by kernel_rfl) (by kernel_rfl) (by kernel_rfl) (fun _ _ _ h => h) (Or.inl ⟨by rfl, ?_⟩) (by assumption) ?_
              rotate_left
              · intro w hSw
                (try dsimp only at hSw)
                go_simp
                all_goals (with_reducible rfl)
              try simp only [Act.put, List.setIfInBounds_toArray, List.set_cons_zero, List.set_cons_succ]
              refine wpAnyH_ready (rs := [1]) (by kernel_rfl) (by simp) (AllReadyH.cons (o := ⟨some 91, _, _, _, _, _⟩) rfl (fun K hK => ?_) AllReadyH.nil)
              go_simp
              refine (copy_any A5 n c5 x1 _ HXw.out.drew (by omega)).mono ?_
              rintro e w7 ⟨A7, c7, rfl, ho7, hb7⟩
              show K _ _
              refine hK.out _ _ (trivial) (fun hHeld => ?_)
              clear hK K
              try simp only [Act.put, List.setIfInBounds_toArray, List.set_cons_zero, List.set_cons_succ]
              refine wpAnyH_ready (rs := [6]) (by kernel_rfl) (by simp) (AllReadyH.cons (o := ⟨some 96, _, _, _, _, _⟩) rfl (fun K hK => ?_) AllReadyH.nil)
              refine step_app _ rfl (.tmp 91) (.tmp 95) 32 rfl wr.heap.size 5 Try.underlying32 info5 (A := A7) (n := n) (c := c7) (by simp [Act.eval]) ho7 (B := B4) (m := 4) (d := c3 - n) (by simp [Act.eval]) (HR4.out.drew.below hb7 (Nat.le_refl _)) (by omega) hb7.size (n + 4) rfl ?_
              intro A8 c8 w8 ho8 hg8 hat8
              have hb8 : Below wr.heap.size wr w8 := ((Below.refl _ wr).drew.trans hb7).grown hg8 hb7.size (fun k hk => (ho7.block k hk).1)
              have ht8 := HTw.out.below (Nat.lt_of_lt_of_le hlt6 hbs) hb8
              refine hK.out _ _ (trivial) (fun hHeld => ?_)
              clear hK K
              try simp only [Act.put, List.setIfInBounds_toArray, List.set_cons_zero, List.set_cons_succ]
              refine wpAnyH_ready (rs := [7]) (by kernel_rfl) (by simp) (AllReadyH.cons (o := ⟨some 97, _, _, _, _, _⟩) rfl (fun K hK => ?_) AllReadyH.nil)
              go_simp
              have hU := unseal_any _ _ A8 (n + 4) c8 _ w8 ht8 ho8.rd (by omega) ho8.cap
              rw [unsealed_other HL.out.1 HQ.out (fun hc => (H1s.out hc).elim)] at hU
              refine hU.mono ?_
              rintro e w9 ⟨A9, n9, c9, rfl, hr9, hc9, hb9⟩
              clear hU
              show K _ _
              refine hK.out _ _ (trivial) (fun hHeld => ?_)
              clear hK K
              refine wpAnyH_take (i := 8) (oi := ⟨some 89, _, _, _, _, _⟩) (v := ?_) rfl (by kernel_rfl) (by kernel_rfl) (by kernel_rfl) (fun _ _ _ h => h) (Or.inl ⟨by rfl, ?_⟩) (by assumption) ?_
              rotate_left
              · intro w hSw
                (try dsimp only at hSw)
                go_simp
                all_goals (with_reducible rfl)
              try simp only [Act.put, List.setIfInBounds_toArray, List.set_cons_zero, List.set_cons_succ]
              refine wpAnyH_take (i := 9) (oi := ⟨some 98, _, _, _, _, _⟩) (v := ?_) rfl (by kernel_rfl) (by kernel_rfl) (by kernel_rfl) (fun _ _ _ h => h) (Or.inl ⟨by rfl, ?_⟩) (by assumption) ?_
              rotate_left
              · intro w hSw
                (try dsimp only at hSw)
                go_simp
                all_goals (with_reducible rfl)
              try simp only [Act.put, List.setIfInBounds_toArray, List.set_cons_zero, List.set_cons_succ]
              refine wpAnyH_take (i := 10) (oi := ⟨some 99, _, _, _, _, _⟩) (v := ?_) rfl (by kernel_rfl) (by kernel_rfl) (by kernel_rfl) (fun _ _ _ h => h) (Or.inl ⟨by rfl, ?_⟩) (by assumption) ?_
              rotate_left
              · intro w hSw
                (try dsimp only at hSw)
                go_simp
                all_goals (with_reducible rfl)
              try simp only [Act.put, List.setIfInBounds_toArray, List.set_cons_zero, List.set_cons_succ]
              refine wpAnyH_take (i := 11) (oi := ⟨some 19, _, _, _, _, _⟩) (v := ?_) rfl (by kernel_rfl) (by kernel_rfl) (by kernel_rfl) (fun _ _ _ h => h) (Or.inl ⟨by rfl, ?_⟩) (by assumption) ?_
              rotate_left
              · intro w hSw
                (try dsimp only at hSw)
                go_simp
                all_goals (with_reducible rfl)
              try simp only [Act.put, List.setIfInBounds_toArray, List.set_cons_zero, List.set_cons_succ]
              refine wpAnyH_take (i := 12) (oi := ⟨some 20, _, _, _, _, _⟩) (v := ?_) rfl (by kernel_rfl) (by kernel_rfl) (by kernel_rfl) (fun _ _ _ h => h) (Or.inl ⟨by rfl, ?_⟩) (by assumption) ?_
              rotate_left
              · intro w hSw
                (try dsimp only at hSw)
                go_simp
                all_goals (with_reducible rfl)
              try simp only [Act.put, List.setIfInBounds_toArray, List.set_cons_zero, List.set_cons_succ]
              refine wpAnyH_done (by kernel_rfl) ?_ _
              have HB9 : Hid (Below wr.heap.size wr w9) := hb8.trans (hb9.mono hb8.size)
              have ht9 := HTw.out.below (Nat.lt_of_lt_of_le hlt6 hbs) HB9.out
              have hcn : (((crc entry x1 : Nat) : Int) == ((crc entry b : Nat) : Int)) = false := beq_eq_false_iff_ne.2 (fun h => HQ.out ((fun hc => (H1s.out hc).elim) (by omega)))
              have q1 := Lib.hid (sum_any _ _ A5 n c5 x1 w9 ht9 (HXw.out.below HB9.out (Nat.le_refl _)) (by omega))
              have q2 := Lib.hid (sum_any _ _ A n c b w9 ht9 (HRw.out.below HB9.out (Nat.le_refl _)) (by omega))
              clear ht9 ho7 hb7 ho8 hg8 hat8 hb8 ht8 hr9 hc9 hb9
              go_wp2_with (go_at_call 17; first | ((with_reducible refine q1.out.mono ?_); rintro e w' ⟨rfl, rfl⟩) | ((with_reducible refine q2.out.mono ?_); rintro e w' ⟨rfl, rfl⟩))
              go_roundw
              case rel => exact ⟨1, 1, by omega, by omega, by omega, by go_num, HBx.out.trans (HB9.out.mono hbs)⟩
              case measure => simp [intOf]
          · obtain rfl : z = 1 := by omega
            have ij := HI.out.2.1
            have HXw := Lib.hid (HX2.out.below hbel (Nat.le_refl _))
            by_cases hq : x2 = b
            · rw [hq] at HXw
              have HQ := Lib.hid hq
              clear hq
              have kx := conv_str (P := Try.prog) Try.underlying32 Try.underlying5 Try.underlying9 HXw.out c6
              have kb := conv_str (P := Try.prog) Try.underlying32 Try.underlying5 Try.underlying9 HRw.out c
              clear hbel
              go_wp2
              clear kx kb ij
              refine wp_region_held_drew (S := fun _ => True) (by kernel_rfl) (trivial) (fun hHeld => ?_)
              refine wpAnyH_take (i := 0) (oi := ⟨some 90, _, _, _, _, _⟩) (v := ?_) rfl (by kernel_rfl) (by kernel_rfl) (by kernel_rfl) (fun _ _ _ h => h) (Or.inl ⟨by rfl, ?_⟩) (by assumption) ?_
              rotate_left
              · intro w hSw
                (try dsimp only at hSw)
                go_simp
                all_goals (with_reducible rfl)
              try simp only [Act.put, List.setIfInBounds_toArray, List.set_cons_zero, List.set_cons_succ]
              refine wpAnyH_take (i := 2) (oi := ⟨some 92, _, _, _, _, _⟩) (v := ?_) rfl (by kernel_rfl) (by kernel_rfl) (by kernel_rfl) (fun _ _ _ h => h) (Or.inl ⟨by rfl, ?_⟩) (by assumption) ?_
              rotate_left
              · intro w hSw
                (try dsimp only at hSw)
                go_simp
                all_goals (with_reducible rfl)
              try simp only [Act.put, List.setIfInBounds_toArray, List.set_cons_zero, List.set_cons_succ]
              refine wpAnyH_take (i := 3) (oi := ⟨some 93, _, _, _, _, _⟩) (v := ?_) rfl (by kernel_rfl) (by kernel_rfl) (by kernel_rfl) (fun _ _ _ h => h) (Or.inl ⟨by rfl, ?_⟩) (by assumption) ?_
              rotate_left
              · intro w hSw
                (try dsimp only at hSw)
                go_simp
                all_goals (with_reducible rfl)
              try simp only [Act.put, List.setIfInBounds_toArray, List.set_cons_zero, List.set_cons_succ]
              refine wpAnyH_take (i := 4) (oi := ⟨some 94, _, _, _, _, _⟩) (v := ?_) rfl (by kernel_rfl) (by kernel_rfl) (by kernel_rfl) (fun _ _ _ h => h) (Or.inl ⟨by rfl, ?_⟩) (by assumption) ?_
              rotate_left
              · intro w hSw
                (try dsimp only at hSw)
                go_simp
                all_goals (with_reducible rfl)
              try simp only [Act.put, List.setIfInBounds_toArray, List.set_cons_zero, List.set_cons_succ]
              refine wpAnyH_take (i := 5) (oi := ⟨some 95, _, _, _, _, _⟩) (v := ?_) rfl (by kernel_rfl) (by kernel_rfl) (by kernel_rfl) (fun _ _ _ h => h) (Or.inl ⟨by rfl, ?_⟩) (by assumption) ?_
              rotate_left
              · intro w hSw
                (try dsimp only at hSw)
                go_simp
                all_goals (with_reducible rfl)
              try simp only [Act.put, List.setIfInBounds_toArray, List.set_cons_zero, List.set_cons_succ]
              refine wpAnyH_ready (rs := [1]) (by kernel_rfl) (by simp) (AllReadyH.cons (o := ⟨some 91, _, _, _, _, _⟩) rfl (fun K hK => ?_) AllReadyH.nil)
              go_simp
              refine (copy_any A6 n c6 b _ HXw.out.drew (by omega)).mono ?_
              rintro e w7 ⟨A7, c7, rfl, ho7, hb7⟩
              show K _ _
              refine hK.out _ _ (trivial) (fun hHeld => ?_)
              clear hK K
              try simp only [Act.put, List.setIfInBounds_toArray, List.set_cons_zero, List.set_cons_succ]
              refine wpAnyH_ready (rs := [6]) (by kernel_rfl) (by simp) (AllReadyH.cons (o := ⟨some 96, _, _, _, _, _⟩) rfl (fun K hK => ?_) AllReadyH.nil)
              refine step_app _ rfl (.tmp 91) (.tmp 95) 32 rfl wr.heap.size 5 Try.underlying32 info5 (A := A7) (n := n) (c := c7) (by simp [Act.eval]) ho7 (B := B4) (m := 4) (d := c3 - n) (by simp [Act.eval]) (HR4.out.drew.below hb7 (Nat.le_refl _)) (by omega) hb7.size (n + 4) rfl ?_
              intro A8 c8 w8 ho8 hg8 hat8
              have hb8 : Below wr.heap.size wr w8 := ((Below.refl _ wr).drew.trans hb7).grown hg8 hb7.size (fun k hk => (ho7.block k hk).1)
              have ht8 := HTw.out.below (Nat.lt_of_lt_of_le hlt6 hbs) hb8
              refine hK.out _ _ (trivial) (fun hHeld => ?_)
              clear hK K
              try simp only [Act.put, List.setIfInBounds_toArray, List.set_cons_zero, List.set_cons_succ]
              refine wpAnyH_ready (rs := [7]) (by kernel_rfl) (by simp) (AllReadyH.cons (o := ⟨some 97, _, _, _, _, _⟩) rfl (fun K hK => ?_) AllReadyH.nil)
              go_simp
              have hU := unseal_any _ _ A8 (n + 4) c8 _ w8 ht8 ho8.rd (by omega) ho8.cap
              rw [show b ++ four (crc entry b) = sealed entry b from rfl, unsealed_sealed entry b _ (by rw [HBL.out])] at hU
              refine hU.mono ?_
              rintro e w9 ⟨A9, n9, c9, rfl, hr9, hc9, hb9⟩
              clear hU
              show K _ _
              refine hK.out _ _ (trivial) (fun hHeld => ?_)
              clear hK K
              refine wpAnyH_take (i := 8) (oi := ⟨some 89, _, _, _, _, _⟩) (v := ?_) rfl (by kernel_rfl) (by kernel_rfl) (by kernel_rfl) (fun _ _ _ h => h) (Or.inl ⟨by rfl, ?_⟩) (by assumption) ?_
              rotate_left
              · intro w hSw
                (try dsimp only at hSw)
                go_simp
                all_goals (with_reducible rfl)
              try simp only [Act.put, List.setIfInBounds_toArray, List.set_cons_zero, List.set_cons_succ]
              refine wpAnyH_take (i := 9) (oi := ⟨some 98, _, _, _, _, _⟩) (v := ?_) rfl (by kernel_rfl) (by kernel_rfl) (by kernel_rfl) (fun _ _ _ h => h) (Or.inl ⟨by rfl, ?_⟩) (by assumption) ?_
              rotate_left
              · intro w hSw
                (try dsimp only at hSw)
                go_simp
                all_goals (with_reducible rfl)
              try simp only [Act.put, List.setIfInBounds_toArray, List.set_cons_zero, List.set_cons_succ]
              refine wpAnyH_take (i := 10) (oi := ⟨some 99, _, _, _, _, _⟩) (v := ?_) rfl (by kernel_rfl) (by kernel_rfl) (by kernel_rfl) (fun _ _ _ h => h) (Or.inl ⟨by rfl, ?_⟩) (by assumption) ?_
              rotate_left
              · intro w hSw
                (try dsimp only at hSw)
                go_simp
                all_goals (with_reducible rfl)
              try simp only [Act.put, List.setIfInBounds_toArray, List.set_cons_zero, List.set_cons_succ]
              refine wpAnyH_take (i := 11) (oi := ⟨some 19, _, _, _, _, _⟩) (v := ?_) rfl (by kernel_rfl) (by kernel_rfl) (by kernel_rfl) (fun _ _ _ h => h) (Or.inl ⟨by rfl, ?_⟩) (by assumption) ?_
              rotate_left
              · intro w hSw
                (try dsimp only at hSw)
                go_simp
                all_goals (with_reducible rfl)
              try simp only [Act.put, List.setIfInBounds_toArray, List.set_cons_zero, List.set_cons_succ]
              refine wpAnyH_take (i := 12) (oi := ⟨some 20, _, _, _, _, _⟩) (v := ?_) rfl (by kernel_rfl) (by kernel_rfl) (by kernel_rfl) (fun _ _ _ h => h) (Or.inl ⟨by rfl, ?_⟩) (by assumption) ?_
              rotate_left
              · intro w hSw
                (try dsimp only at hSw)
                go_simp
                all_goals (with_reducible rfl)
              try simp only [Act.put, List.setIfInBounds_toArray, List.set_cons_zero, List.set_cons_succ]
              refine wpAnyH_done (by kernel_rfl) ?_ _
              have HB9 : Hid (Below wr.heap.size wr w9) := hb8.trans (hb9.mono hb8.size)
              have ht9 := HTw.out.below (Nat.lt_of_lt_of_le hlt6 hbs) HB9.out
              have kx := conv_str (P := Try.prog) Try.underlying32 Try.underlying5 Try.underlying9 hr9 c9
              have kb := conv_str (P := Try.prog) Try.underlying32 Try.underlying5 Try.underlying9 (HRw.out.below HB9.out (Nat.le_refl _)) c
              have q1 := Lib.hid (sum_any _ _ A6 n c6 b w9 ht9 (HXw.out.below HB9.out (Nat.le_refl _)) (by omega))
              have q2 := Lib.hid (sum_any _ _ A n c b w9 ht9 (HRw.out.below HB9.out (Nat.le_refl _)) (by omega))
              clear ht9 ho7 hb7 ho8 hg8 hat8 hb8 ht8 hr9 hc9 hb9
              go_wp2_with (go_at_call 17; first | ((with_reducible refine q1.out.mono ?_); rintro e w' ⟨rfl, rfl⟩) | ((with_reducible refine q2.out.mono ?_); rintro e w' ⟨rfl, rfl⟩))
              go_roundw
              case rel => exact ⟨2, 2, by omega, by omega, by omega, by go_num, HBx.out.trans (HB9.out.mono hbs)⟩
              case measure => simp [intOf]
            · have hb1 : (x2 == b) = false := by simpa using hq
              have kx := conv_str (P := Try.prog) Try.underlying32 Try.underlying5 Try.underlying9 HXw.out c6
              have kb := conv_str (P := Try.prog) Try.underlying32 Try.underlying5 Try.underlying9 HRw.out c
              have HQ := Lib.hid hq
              clear hq hbel
              go_wp2
              clear kx kb ij hb1
              refine wp_region_held_drew (S := fun _ => True) (by kernel_rfl) (trivial) (fun hHeld => ?_)
              refine wpAnyH_take (i := 0) (oi := ⟨some 90, _, _, _, _, _⟩) (v := ?_) rfl (by kernel_rfl) (by kernel_rfl) (by kernel_rfl) (fun _ _ _ h => h) (Or.inl ⟨by rfl, ?_⟩) (by assumption) ?_
              rotate_left
              · intro w hSw
                (try dsimp only at hSw)
                go_simp
                all_goals (with_reducible rfl)
              try simp only [Act.put, List.setIfInBounds_toArray, List.set_cons_zero, List.set_cons_succ]
              refine wpAnyH_take (i := 2) (oi := ⟨some 92, _, _, _, _, _⟩) (v := ?_) rfl (by kernel_rfl) (by kernel_rfl) (by kernel_rfl) (fun _ _ _ h => h) (Or.inl ⟨by rfl, ?_⟩) (by assumption) ?_
              rotate_left
              · intro w hSw
                (try dsimp only at hSw)
                go_simp
                all_goals (with_reducible rfl)
              try simp only [Act.put, List.setIfInBounds_toArray, List.set_cons_zero, List.set_cons_succ]
              refine wpAnyH_take (i := 3) (oi := ⟨some 93, _, _, _, _, _⟩) (v := ?_) rfl (by kernel_rfl) (by kernel_rfl) (by kernel_rfl) (fun _ _ _ h => h) (Or.inl ⟨by rfl, ?_⟩) (by assumption) ?_
              rotate_left
              · intro w hSw
                (try dsimp only at hSw)
                go_simp
                all_goals (with_reducible rfl)
              try simp only [Act.put, List.setIfInBounds_toArray, List.set_cons_zero, List.set_cons_succ]
              refine wpAnyH_take (i := 4) (oi := ⟨some 94, _, _, _, _, _⟩) (v := ?_) rfl (by kernel_rfl) (by kernel_rfl) (by kernel_rfl) (fun _ _ _ h => h) (Or.inl ⟨by rfl, ?_⟩) (by assumption) ?_
              rotate_left
              · intro w hSw
                (try dsimp only at hSw)
                go_simp
                all_goals (with_reducible rfl)
              try simp only [Act.put, List.setIfInBounds_toArray, List.set_cons_zero, List.set_cons_succ]
              refine wpAnyH_take (i := 5) (oi := ⟨some 95, _, _, _, _, _⟩) (v := ?_) rfl (by kernel_rfl) (by kernel_rfl) (by kernel_rfl) (fun _ _ _ h => h) (Or.inl ⟨by rfl, ?_⟩) (by assumption) ?_
              rotate_left
              · intro w hSw
                (try dsimp only at hSw)
                go_simp
                all_goals (with_reducible rfl)
              try simp only [Act.put, List.setIfInBounds_toArray, List.set_cons_zero, List.set_cons_succ]
              refine wpAnyH_ready (rs := [1]) (by kernel_rfl) (by simp) (AllReadyH.cons (o := ⟨some 91, _, _, _, _, _⟩) rfl (fun K hK => ?_) AllReadyH.nil)
              go_simp
              refine (copy_any A6 n c6 x2 _ HXw.out.drew (by omega)).mono ?_
              rintro e w7 ⟨A7, c7, rfl, ho7, hb7⟩
              show K _ _
              refine hK.out _ _ (trivial) (fun hHeld => ?_)
              clear hK K
              try simp only [Act.put, List.setIfInBounds_toArray, List.set_cons_zero, List.set_cons_succ]
              refine wpAnyH_ready (rs := [6]) (by kernel_rfl) (by simp) (AllReadyH.cons (o := ⟨some 96, _, _, _, _, _⟩) rfl (fun K hK => ?_) AllReadyH.nil)
              refine step_app _ rfl (.tmp 91) (.tmp 95) 32 rfl wr.heap.size 5 Try.underlying32 info5 (A := A7) (n := n) (c := c7) (by simp [Act.eval]) ho7 (B := B4) (m := 4) (d := c3 - n) (by simp [Act.eval]) (HR4.out.drew.below hb7 (Nat.le_refl _)) (by omega) hb7.size (n + 4) rfl ?_
              intro A8 c8 w8 ho8 hg8 hat8
              have hb8 : Below wr.heap.size wr w8 := ((Below.refl _ wr).drew.trans hb7).grown hg8 hb7.size (fun k hk => (ho7.block k hk).1)
              have ht8 := HTw.out.below (Nat.lt_of_lt_of_le hlt6 hbs) hb8
              refine hK.out _ _ (trivial) (fun hHeld => ?_)
              clear hK K
              try simp only [Act.put, List.setIfInBounds_toArray, List.set_cons_zero, List.set_cons_succ]
              refine wpAnyH_ready (rs := [7]) (by kernel_rfl) (by simp) (AllReadyH.cons (o := ⟨some 97, _, _, _, _, _⟩) rfl (fun K hK => ?_) AllReadyH.nil)
              go_simp
              have hU := unseal_any _ _ A8 (n + 4) c8 _ w8 ht8 ho8.rd (by omega) ho8.cap
              rw [unsealed_other HL.out.2.1 HQ.out H2s.out] at hU
              refine hU.mono ?_
              rintro e w9 ⟨A9, n9, c9, rfl, hr9, hc9, hb9⟩
              clear hU
              show K _ _
              refine hK.out _ _ (trivial) (fun hHeld => ?_)
              clear hK K
              refine wpAnyH_take (i := 8) (oi := ⟨some 89, _, _, _, _, _⟩) (v := ?_) rfl (by kernel_rfl) (by kernel_rfl) (by kernel_rfl) (fun _ _ _ h => h) (Or.inl ⟨by rfl, ?_⟩) (by assumption) ?_
              rotate_left
              · intro w hSw
                (try dsimp only at hSw)
                go_simp
                all_goals (with_reducible rfl)
              try simp only [Act.put, List.setIfInBounds_toArray, List.set_cons_zero, List.set_cons_succ]
              refine wpAnyH_take (i := 9) (oi := ⟨some 98, _, _, _, _, _⟩) (v := ?_) rfl (by kernel_rfl) (by kernel_rfl) (by kernel_rfl) (fun _ _ _ h => h) (Or.inl ⟨by rfl, ?_⟩) (by assumption) ?_
              rotate_left
              · intro w hSw
                (try dsimp only at hSw)
                go_simp
                all_goals (with_reducible rfl)
              try simp only [Act.put, List.setIfInBounds_toArray, List.set_cons_zero, List.set_cons_succ]
              refine wpAnyH_take (i := 10) (oi := ⟨some 99, _, _, _, _, _⟩) (v := ?_) rfl (by kernel_rfl) (by kernel_rfl) (by kernel_rfl) (fun _ _ _ h => h) (Or.inl ⟨by rfl, ?_⟩) (by assumption) ?_
              rotate_left
              · intro w hSw
                (try dsimp only at hSw)
                go_simp
                all_goals (with_reducible rfl)
              try simp only [Act.put, List.setIfInBounds_toArray, List.set_cons_zero, List.set_cons_succ]
              refine wpAnyH_take (i := 11) (oi := ⟨some 19, _, _, _, _, _⟩) (v := ?_) rfl (by kernel_rfl) (by kernel_rfl) (by kernel_rfl) (fun _ _ _ h => h) (Or.inl ⟨by rfl, ?_⟩) (by assumption) ?_
              rotate_left
              · intro w hSw
                (try dsimp only at hSw)
                go_simp
                all_goals (with_reducible rfl)
              try simp only [Act.put, List.setIfInBounds_toArray, List.set_cons_zero, List.set_cons_succ]
              refine wpAnyH_take (i := 12) (oi := ⟨some 20, _, _, _, _, _⟩) (v := ?_) rfl (by kernel_rfl) (by kernel_rfl) (by kernel_rfl) (fun _ _ _ h => h) (Or.inl ⟨by rfl, ?_⟩) (by assumption) ?_
              rotate_left
              · intro w hSw
                (try dsimp only at hSw)
                go_simp
                all_goals (with_reducible rfl)
              try simp only [Act.put, List.setIfInBounds_toArray, List.set_cons_zero, List.set_cons_succ]
              refine wpAnyH_done (by kernel_rfl) ?_ _
              have HB9 : Hid (Below wr.heap.size wr w9) := hb8.trans (hb9.mono hb8.size)
              have ht9 := HTw.out.below (Nat.lt_of_lt_of_le hlt6 hbs) HB9.out
              have hcn : (((crc entry x2 : Nat) : Int) == ((crc entry b : Nat) : Int)) = false := beq_eq_false_iff_ne.2 (fun h => HQ.out (H2s.out (by omega)))
              have q1 := Lib.hid (sum_any _ _ A6 n c6 x2 w9 ht9 (HXw.out.below HB9.out (Nat.le_refl _)) (by omega))
              have q2 := Lib.hid (sum_any _ _ A n c b w9 ht9 (HRw.out.below HB9.out (Nat.le_refl _)) (by omega))
              clear ht9 ho7 hb7 ho8 hg8 hat8 hb8 ht8 hr9 hc9 hb9
              go_wp2_with (go_at_call 17; first | ((with_reducible refine q1.out.mono ?_); rintro e w' ⟨rfl, rfl⟩) | ((with_reducible refine q2.out.mono ?_); rintro e w' ⟨rfl, rfl⟩))
              go_roundw
              case rel => exact ⟨2, 2, by omega, by omega, by omega, by go_num, HBx.out.trans (HB9.out.mono hbs)⟩
              case measure => simp [intOf]
          · obtain rfl : z = 2 := by omega
            have ij := HI.out.2.2
            have HXw := Lib.hid (HX3.out.below hbel (Nat.le_refl _))
            by_cases hq : x = b
            · rw [hq] at HXw
              have HQ := Lib.hid hq
              clear hq
              have kx := conv_str (P := Try.prog) Try.underlying32 Try.underlying5 Try.underlying9 HXw.out c4
              have kb := conv_str (P := Try.prog) Try.underlying32 Try.underlying5 Try.underlying9 HRw.out c
              clear hbel
              go_wp2
              clear kx kb ij
              refine wp_region_held_drew (S := fun _ => True) (by kernel_rfl) (trivial) (fun hHeld => ?_)
              refine wpAnyH_take (i := 0) (oi := ⟨some 90, _, _, _, _, _⟩) (v := ?_) rfl (by kernel_rfl) (by kernel_rfl) (by kernel_rfl) (fun _ _ _ h => h) (Or.inl ⟨by rfl, ?_⟩) (by assumption) ?_
              rotate_left
              · intro w hSw
                (try dsimp only at hSw)
                go_simp
                all_goals (with_reducible rfl)
              try simp only [Act.put, List.setIfInBounds_toArray, List.set_cons_zero, List.set_cons_succ]
              refine wpAnyH_take (i := 2) (oi := ⟨some 92, _, _, _, _, _⟩) (v := ?_) rfl (by kernel_rfl) (by kernel_rfl) (by kernel_rfl) (fun _ _ _ h => h) (Or.inl ⟨by rfl, ?_⟩) (by assumption) ?_
              rotate_left
              · intro w hSw
                (try dsimp only at hSw)
                go_simp
                all_goals (with_reducible rfl)
              try simp only [Act.put, List.setIfInBounds_toArray, List.set_cons_zero, List.set_cons_succ]
              refine wpAnyH_take (i := 3) (oi := ⟨some 93, _, _, _, _, _⟩) (v := ?_) rfl (by kernel_rfl) (by kernel_rfl) (by kernel_rfl) (fun _ _ _ h => h) (Or.inl ⟨by rfl, ?_⟩) (by assumption) ?_
              rotate_left
              · intro w hSw
                (try dsimp only at hSw)
                go_simp
                all_goals (with_reducible rfl)
              try simp only [Act.put, List.setIfInBounds_toArray, List.set_cons_zero, List.set_cons_succ]
              refine wpAnyH_take (i := 4) (oi := ⟨some 94, _, _, _, _, _⟩) (v := ?_) rfl (by kernel_rfl) (by kernel_rfl) (by kernel_rfl) (fun _ _ _ h => h) (Or.inl ⟨by rfl, ?_⟩) (by assumption) ?_
              rotate_left
              · intro w hSw
                (try dsimp only at hSw)
                go_simp
                all_goals (with_reducible rfl)
              try simp only [Act.put, List.setIfInBounds_toArray, List.set_cons_zero, List.set_cons_succ]
              refine wpAnyH_take (i := 5) (oi := ⟨some 95, _, _, _, _, _⟩) (v := ?_) rfl (by kernel_rfl) (by kernel_rfl) (by kernel_rfl) (fun _ _ _ h => h) (Or.inl ⟨by rfl, ?_⟩) (by assumption) ?_
              rotate_left
              · intro w hSw
                (try dsimp only at hSw)
                go_simp
                all_goals (with_reducible rfl)
              try simp only [Act.put, List.setIfInBounds_toArray, List.set_cons_zero, List.set_cons_succ]
              refine wpAnyH_ready (rs := [1]) (by kernel_rfl) (by simp) (AllReadyH.cons (o := ⟨some 91, _, _, _, _, _⟩) rfl (fun K hK => ?_) AllReadyH.nil)
              go_simp
              refine (copy_any (some ⟨g, 0, none⟩) n c4 b _ HXw.out.drew (by omega)).mono ?_
              rintro e w7 ⟨A7, c7, rfl, ho7, hb7⟩
              show K _ _
              refine hK.out _ _ (trivial) (fun hHeld => ?_)
              clear hK K
              try simp only [Act.put, List.setIfInBounds_toArray, List.set_cons_zero, List.set_cons_succ]
              refine wpAnyH_ready (rs := [6]) (by kernel_rfl) (by simp) (AllReadyH.cons (o := ⟨some 96, _, _, _, _, _⟩) rfl (fun K hK => ?_) AllReadyH.nil)
              refine step_app _ rfl (.tmp 91) (.tmp 95) 32 rfl wr.heap.size 5 Try.underlying32 info5 (A := A7) (n := n) (c := c7) (by simp [Act.eval]) ho7 (B := B4) (m := 4) (d := c3 - n) (by simp [Act.eval]) (HR4.out.drew.below hb7 (Nat.le_refl _)) (by omega) hb7.size (n + 4) rfl ?_
              intro A8 c8 w8 ho8 hg8 hat8
              have hb8 : Below wr.heap.size wr w8 := ((Below.refl _ wr).drew.trans hb7).grown hg8 hb7.size (fun k hk => (ho7.block k hk).1)
              have ht8 := HTw.out.below (Nat.lt_of_lt_of_le hlt6 hbs) hb8
              refine hK.out _ _ (trivial) (fun hHeld => ?_)
              clear hK K
              try simp only [Act.put, List.setIfInBounds_toArray, List.set_cons_zero, List.set_cons_succ]
              refine wpAnyH_ready (rs := [7]) (by kernel_rfl) (by simp) (AllReadyH.cons (o := ⟨some 97, _, _, _, _, _⟩) rfl (fun K hK => ?_) AllReadyH.nil)
              go_simp
              have hU := unseal_any _ _ A8 (n + 4) c8 _ w8 ht8 ho8.rd (by omega) ho8.cap
              rw [show b ++ four (crc entry b) = sealed entry b from rfl, unsealed_sealed entry b _ (by rw [HBL.out])] at hU
              refine hU.mono ?_
              rintro e w9 ⟨A9, n9, c9, rfl, hr9, hc9, hb9⟩
              clear hU
              show K _ _
              refine hK.out _ _ (trivial) (fun hHeld => ?_)
              clear hK K
              refine wpAnyH_take (i := 8) (oi := ⟨some 89, _, _, _, _, _⟩) (v := ?_) rfl (by kernel_rfl) (by kernel_rfl) (by kernel_rfl) (fun _ _ _ h => h) (Or.inl ⟨by rfl, ?_⟩) (by assumption) ?_
              rotate_left
              · intro w hSw
                (try dsimp only at hSw)
                go_simp
                all_goals (with_reducible rfl)
              try simp only [Act.put, List.setIfInBounds_toArray, List.set_cons_zero, List.set_cons_succ]
              refine wpAnyH_take (i := 9) (oi := ⟨some 98, _, _, _, _, _⟩) (v := ?_) rfl (by kernel_rfl) (by kernel_rfl) (by kernel_rfl) (fun _ _ _ h => h) (Or.inl ⟨by rfl, ?_⟩) (by assumption) ?_
              rotate_left
              · intro w hSw
                (try dsimp only at hSw)
                go_simp
                all_goals (with_reducible rfl)
              try simp only [Act.put, List.setIfInBounds_toArray, List.set_cons_zero, List.set_cons_succ]
              refine wpAnyH_take (i := 10) (oi := ⟨some 99, _, _, _, _, _⟩) (v := ?_) rfl (by kernel_rfl) (by kernel_rfl) (by kernel_rfl) (fun _ _ _ h => h) (Or.inl ⟨by rfl, ?_⟩) (by assumption) ?_
              rotate_left
              · intro w hSw
                (try dsimp only at hSw)
                go_simp
                all_goals (with_reducible rfl)
              try simp only [Act.put, List.setIfInBounds_toArray, List.set_cons_zero, List.set_cons_succ]
              refine wpAnyH_take (i := 11) (oi := ⟨some 19, _, _, _, _, _⟩) (v := ?_) rfl (by kernel_rfl) (by kernel_rfl) (by kernel_rfl) (fun _ _ _ h => h) (Or.inl ⟨by rfl, ?_⟩) (by assumption) ?_
              rotate_left
              · intro w hSw
                (try dsimp only at hSw)
                go_simp
                all_goals (with_reducible rfl)
              try simp only [Act.put, List.setIfInBounds_toArray, List.set_cons_zero, List.set_cons_succ]
              refine wpAnyH_take (i := 12) (oi := ⟨some 20, _, _, _, _, _⟩) (v := ?_) rfl (by kernel_rfl) (by kernel_rfl) (by kernel_rfl) (fun _ _ _ h => h) (Or.inl ⟨by rfl, ?_⟩) (by assumption) ?_
              rotate_left
              · intro w hSw
                (try dsimp only at hSw)
                go_simp
                all_goals (with_reducible rfl)
              try simp only [Act.put, List.setIfInBounds_toArray, List.set_cons_zero, List.set_cons_succ]
              refine wpAnyH_done (by kernel_rfl) ?_ _
              have HB9 : Hid (Below wr.heap.size wr w9) := hb8.trans (hb9.mono hb8.size)
              have ht9 := HTw.out.below (Nat.lt_of_lt_of_le hlt6 hbs) HB9.out
              have kx := conv_str (P := Try.prog) Try.underlying32 Try.underlying5 Try.underlying9 hr9 c9
              have kb := conv_str (P := Try.prog) Try.underlying32 Try.underlying5 Try.underlying9 (HRw.out.below HB9.out (Nat.le_refl _)) c
              have q1 := Lib.hid (sum_any _ _ (some ⟨g, 0, none⟩) n c4 b w9 ht9 (HXw.out.below HB9.out (Nat.le_refl _)) (by omega))
              have q2 := Lib.hid (sum_any _ _ A n c b w9 ht9 (HRw.out.below HB9.out (Nat.le_refl _)) (by omega))
              clear ht9 ho7 hb7 ho8 hg8 hat8 hb8 ht8 hr9 hc9 hb9
              go_wp2_with (go_at_call 17; first | ((with_reducible refine q1.out.mono ?_); rintro e w' ⟨rfl, rfl⟩) | ((with_reducible refine q2.out.mono ?_); rintro e w' ⟨rfl, rfl⟩))
              go_roundw
              case rel => exact ⟨3, 3, by omega, by omega, by omega, by go_num, HBx.out.trans (HB9.out.mono hbs)⟩
              case measure => simp [intOf]
            · have hb1 : (x == b) = false := by simpa using hq
              have kx := conv_str (P := Try.prog) Try.underlying32 Try.underlying5 Try.underlying9 HXw.out c4
              have kb := conv_str (P := Try.prog) Try.underlying32 Try.underlying5 Try.underlying9 HRw.out c
              have HQ := Lib.hid hq
              clear hq hbel
              go_wp2
              clear kx kb ij hb1
              refine wp_region_held_drew (S := fun _ => True) (by kernel_rfl) (trivial) (fun hHeld => ?_)
              refine wpAnyH_take (i := 0) (oi := ⟨some 90, _, _, _, _, _⟩) (v := ?_) rfl (by kernel_rfl) (by kernel_rfl) (by kernel_rfl) (fun _ _ _ h => h) (Or.inl ⟨by rfl, ?_⟩) (by assumption) ?_
              rotate_left
              · intro w hSw
                (try dsimp only at hSw)
                go_simp
                all_goals (with_reducible rfl)
              try simp only [Act.put, List.setIfInBounds_toArray, List.set_cons_zero, List.set_cons_succ]
              refine wpAnyH_take (i := 2) (oi := ⟨some 92, _, _, _, _, _⟩) (v := ?_) rfl (by kernel_rfl) (by kernel_rfl) (by kernel_rfl) (fun _ _ _ h => h) (Or.inl ⟨by rfl, ?_⟩) (by assumption) ?_
              rotate_left
              · intro w hSw
                (try dsimp only at hSw)
                go_simp
                all_goals (with_reducible rfl)
              try simp only [Act.put, List.setIfInBounds_toArray, List.set_cons_zero, List.set_cons_succ]
              refine wpAnyH_take (i := 3) (oi := ⟨some 93, _, _, _, _, _⟩) (v := ?_) rfl (by kernel_rfl) (by kernel_rfl) (by kernel_rfl) (fun _ _ _ h => h) (Or.inl ⟨by rfl, ?_⟩) (by assumption) ?_
              rotate_left
              · intro w hSw
                (try dsimp only at hSw)
                go_simp
                all_goals (with_reducible rfl)
              try simp only [Act.put, List.setIfInBounds_toArray, List.set_cons_zero, List.set_cons_succ]
              refine wpAnyH_take (i := 4) (oi := ⟨some 94, _, _, _, _, _⟩) (v := ?_) rfl (by kernel_rfl) (by kernel_rfl) (by kernel_rfl) (fun _ _ _ h => h) (Or.inl ⟨by rfl, ?_⟩) (by assumption) ?_
              rotate_left
              · intro w hSw
                (try dsimp only at hSw)
                go_simp
                all_goals (with_reducible rfl)
              try simp only [Act.put, List.setIfInBounds_toArray, List.set_cons_zero, List.set_cons_succ]
              refine wpAnyH_take (i := 5) (oi := ⟨some 95, _, _, _, _, _⟩) (v := ?_) rfl (by kernel_rfl) (by kernel_rfl) (by kernel_rfl) (fun _ _ _ h => h) (Or.inl ⟨by rfl, ?_⟩) (by assumption) ?_
              rotate_left
              · intro w hSw
                (try dsimp only at hSw)
                go_simp
                all_goals (with_reducible rfl)
              try simp only [Act.put, List.setIfInBounds_toArray, List.set_cons_zero, List.set_cons_succ]
              refine wpAnyH_ready (rs := [1]) (by kernel_rfl) (by simp) (AllReadyH.cons (o := ⟨some 91, _, _, _, _, _⟩) rfl (fun K hK => ?_) AllReadyH.nil)
              go_simp
              refine (copy_any (some ⟨g, 0, none⟩) n c4 x _ HXw.out.drew (by omega)).mono ?_
              rintro e w7 ⟨A7, c7, rfl, ho7, hb7⟩
              show K _ _
              refine hK.out _ _ (trivial) (fun hHeld => ?_)
              clear hK K
              try simp only [Act.put, List.setIfInBounds_toArray, List.set_cons_zero, List.set_cons_succ]
              refine wpAnyH_ready (rs := [6]) (by kernel_rfl) (by simp) (AllReadyH.cons (o := ⟨some 96, _, _, _, _, _⟩) rfl (fun K hK => ?_) AllReadyH.nil)
              refine step_app _ rfl (.tmp 91) (.tmp 95) 32 rfl wr.heap.size 5 Try.underlying32 info5 (A := A7) (n := n) (c := c7) (by simp [Act.eval]) ho7 (B := B4) (m := 4) (d := c3 - n) (by simp [Act.eval]) (HR4.out.drew.below hb7 (Nat.le_refl _)) (by omega) hb7.size (n + 4) rfl ?_
              intro A8 c8 w8 ho8 hg8 hat8
              have hb8 : Below wr.heap.size wr w8 := ((Below.refl _ wr).drew.trans hb7).grown hg8 hb7.size (fun k hk => (ho7.block k hk).1)
              have ht8 := HTw.out.below (Nat.lt_of_lt_of_le hlt6 hbs) hb8
              refine hK.out _ _ (trivial) (fun hHeld => ?_)
              clear hK K
              try simp only [Act.put, List.setIfInBounds_toArray, List.set_cons_zero, List.set_cons_succ]
              refine wpAnyH_ready (rs := [7]) (by kernel_rfl) (by simp) (AllReadyH.cons (o := ⟨some 97, _, _, _, _, _⟩) rfl (fun K hK => ?_) AllReadyH.nil)
              go_simp
              have hU := unseal_any _ _ A8 (n + 4) c8 _ w8 ht8 ho8.rd (by omega) ho8.cap
              rw [unsealed_other HL.out.2.2 HQ.out HS3.out] at hU
              refine hU.mono ?_
              rintro e w9 ⟨A9, n9, c9, rfl, hr9, hc9, hb9⟩
              clear hU
              show K _ _
              refine hK.out _ _ (trivial) (fun hHeld => ?_)
              clear hK K
              refine wpAnyH_take (i := 8) (oi := ⟨some 89, _, _, _, _, _⟩) (v := ?_) rfl (by kernel_rfl) (by kernel_rfl) (by kernel_rfl) (fun _ _ _ h => h) (Or.inl ⟨by rfl, ?_⟩) (by assumption) ?_
              rotate_left
              · intro w hSw
                (try dsimp only at hSw)
                go_simp
                all_goals (with_reducible rfl)
              try simp only [Act.put, List.setIfInBounds_toArray, List.set_cons_zero, List.set_cons_succ]
              refine wpAnyH_take (i := 9) (oi := ⟨some 98, _, _, _, _, _⟩) (v := ?_) rfl (by kernel_rfl) (by kernel_rfl) (by kernel_rfl) (fun _ _ _ h => h) (Or.inl ⟨by rfl, ?_⟩) (by assumption) ?_
              rotate_left
              · intro w hSw
                (try dsimp only at hSw)
                go_simp
                all_goals (with_reducible rfl)
              try simp only [Act.put, List.setIfInBounds_toArray, List.set_cons_zero, List.set_cons_succ]
              refine wpAnyH_take (i := 10) (oi := ⟨some 99, _, _, _, _, _⟩) (v := ?_) rfl (by kernel_rfl) (by kernel_rfl) (by kernel_rfl) (fun _ _ _ h => h) (Or.inl ⟨by rfl, ?_⟩) (by assumption) ?_
              rotate_left
              · intro w hSw
                (try dsimp only at hSw)
                go_simp
                all_goals (with_reducible rfl)
              try simp only [Act.put, List.setIfInBounds_toArray, List.set_cons_zero, List.set_cons_succ]
              refine wpAnyH_take (i := 11) (oi := ⟨some 19, _, _, _, _, _⟩) (v := ?_) rfl (by kernel_rfl) (by kernel_rfl) (by kernel_rfl) (fun _ _ _ h => h) (Or.inl ⟨by rfl, ?_⟩) (by assumption) ?_
              rotate_left
              · intro w hSw
                (try dsimp only at hSw)
                go_simp
                all_goals (with_reducible rfl)
              try simp only [Act.put, List.setIfInBounds_toArray, List.set_cons_zero, List.set_cons_succ]
              refine wpAnyH_take (i := 12) (oi := ⟨some 20, _, _, _, _, _⟩) (v := ?_) rfl (by kernel_rfl) (by kernel_rfl) (by kernel_rfl) (fun _ _ _ h => h) (Or.inl ⟨by rfl, ?_⟩) (by assumption) ?_
              rotate_left
              · intro w hSw
                (try dsimp only at hSw)
                go_simp
                all_goals (with_reducible rfl)
              try simp only [Act.put, List.setIfInBounds_toArray, List.set_cons_zero, List.set_cons_succ]
              refine wpAnyH_done (by kernel_rfl) ?_ _
              have HB9 : Hid (Below wr.heap.size wr w9) := hb8.trans (hb9.mono hb8.size)
              have ht9 := HTw.out.below (Nat.lt_of_lt_of_le hlt6 hbs) HB9.out
              have hcn : (((crc entry x : Nat) : Int) == ((crc entry b : Nat) : Int)) = false := beq_eq_false_iff_ne.2 (fun h => HQ.out (HS3.out (by omega)))
              have q1 := Lib.hid (sum_any _ _ (some ⟨g, 0, none⟩) n c4 x w9 ht9 (HXw.out.below HB9.out (Nat.le_refl _)) (by omega))
              have q2 := Lib.hid (sum_any _ _ A n c b w9 ht9 (HRw.out.below HB9.out (Nat.le_refl _)) (by omega))
              clear ht9 ho7 hb7 ho8 hg8 hat8 hb8 ht8 hr9 hc9 hb9
              go_wp2_with (go_at_call 17; first | ((with_reducible refine q1.out.mono ?_); rintro e w' ⟨rfl, rfl⟩) | ((with_reducible refine q2.out.mono ?_); rintro e w' ⟨rfl, rfl⟩))
              go_roundw
              case rel => exact ⟨3, 3, by omega, by omega, by omega, by go_num, HBx.out.trans (HB9.out.mono hbs)⟩
              case measure => simp [intOf]
          · obtain rfl : z = 3 := by omega
            clear hbel
            go_wp2_with fail
            refine (awake_any _).mono ?_
            rintro e w7 ⟨rfl, hb7⟩
            go_wp2
            go_ret
            exact ⟨rfl, (HBw.out.trans (HBx.out.mono HBw.out.size)).trans (hb7.mono (Nat.le_trans HBw.out.size hbs))⟩
end Go.Proofs.Ytfibkpjodhcppaa
