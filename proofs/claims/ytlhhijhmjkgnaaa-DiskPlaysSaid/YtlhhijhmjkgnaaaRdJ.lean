/- The law DiskPlays. -/
import Derived.Test.YtlhhijhmjkgnaaaRdI
import Derived.Deep.CutRange
import Derived.Deep.CutBlock
namespace Go.Proofs.Ytlhhijhmjkgnaaa
open Go.RowKit Go.Coop
set_option maxRecDepth 100000
def PRel (w0 : World) (g m b7 : Nat) (wr : World) : Prop := ∃ c A cc S, S.n ≤ 20 ∧ PR w0 g m b7 wr c A cc S S
def PCut (w0 : World) (g m b7 : Nat) (x y a b : Value) (wc : World) : Prop := ∃ (r : Int) (X Y : Option Addr) (n d d' : Nat) (l : List UInt8), x = .int .i64 r ∧ y = .int .i64 r ∧ a = .slice X n d ∧ b = .slice Y n d' ∧ Rd wc X n l ∧ Rd wc Y n l ∧ PRel w0 g m b7 wc
theorem row_below {w w' : World} {b : Nat} {cs : Array Value} {T : TypeId} (h : w.heap[b]? = some (.cells cs T (0, 0))) (hb : Below w.heap.size w w') : w'.heap[b]? = some (.cells cs T (0, 0)) := (hb.block _ (Array.getElem?_eq_some_iff.1 h).1).trans h
theorem below_drew (w : World) : Below w.heap.size w w.drew := (Below.refl _ _).drew
theorem plays_great (sn : Int) (v : Value) (h : 20 < sn) (w : World) : Calls Try.prog 4 #[.int .i64 sn, v] w (LawP w) := by
  go_enter Try.func4, Try.ntmps4
  go_wp2_with fail
  refine (awake_any _).mono ?_
  rintro e w1 ⟨rfl, hB⟩
  have HB := Lib.hid hB
  clear hB
  go_wp2
  go_ret
  exact ⟨rfl, HB.out⟩
theorem plays_none (sn : Int) (v : Value) (h : sn < 1) (w : World) : Calls Try.prog 4 #[.int .i64 sn, v] w (LawP w) := by
  have h20 : ¬ 20 < sn := by omega
  go_enter Try.func4, Try.ntmps4
  go_wp2_with fail
  refine (new_no sn (.inl h) _).mono ?_
  rintro e w1 ⟨rfl, rfl⟩
  go_wp2_with fail
  refine (rnew_no (.inl h) _).mono ?_
  rintro e w2 ⟨rfl, hB2⟩
  have HB2 := Lib.hid hB2
  clear hB2
  go_wp2_with fail
  refine (awake_any _).mono ?_
  rintro e w3 ⟨rfl, hB⟩
  have HB := Lib.hid hB
  clear hB
  go_wp2
  go_ret
  exact ⟨rfl, (HB2.out.alloc HB2.out.size _).trans (HB.out.mono (by have := HB2.out.size; simp; omega))⟩
set_option maxHeartbeats 8000000 in
theorem plays_yes (n : Nat) (h1 : 1 ≤ n) (h2 : n ≤ 20) (F : Option Addr) (mo co : Nat) (os : List OpV) (w : World) (ho : OpsAt w F mo os) (hob : ∀ o ∈ os, -9223372036854775808 ≤ o.i ∧ o.i ≤ 9223372036854775807 ∧ -9223372036854775808 ≤ o.n) (hmo : mo ≤ 9223372036854775807) :
    Calls Try.prog 4 #[.int .i64 (n : Int), .slice F mo co] w (LawP w) := by
  have HO := Lib.hid ho
  have HOB := Lib.hid hob
  clear ho hob
  go_enter Try.func4, Try.ntmps4
  go_wp2_with fail
  refine (new_yes n (by omega) (by omega) _).mono ?_
  rintro e w1 ⟨g, m, c, rfl, hD, g1, g2, g3, hB⟩
  have HST : Hid (One w1 w.heap.size g m c (DS.new n) ∧ Below w.heap.size w w1) := ⟨⟨hB.size, hD, ⟨g1, g2, g3⟩⟩, hB⟩
  clear hD g1 g2 g3 hB
  go_wp2_with fail
  refine (rnew_yes n h1 (by omega) _).mono ?_
  rintro e w2 ⟨A, cc, rfl, hR, hB2⟩
  have HP : Hid (PR w g m w2.heap.size (w2.alloc (.cells #[.slice A n cc, .int .i64 (-1), .bool false] 42)) c A cc (DS.new n) (DS.new n)) := by
    have hb := HST.out.1.below hB2
    have hba : Below w2.heap.size w2 (w2.alloc (.cells #[.slice A n cc, .int .i64 (-1), .bool false] 42)) := (Below.refl _ _).alloc (Nat.le_refl _) _
    have hbel : Below w.heap.size w w2 := HST.out.2.trans (hB2.mono HST.out.2.size)
    exact ⟨hb.below hba, heap_alloc_new w2 _, RDk.below hR hba, hbel.trans (hba.mono hbel.size)⟩
  have HL : Hid (w.heap.size ≤ w2.heap.size) := Nat.le_trans HST.out.2.size hB2.size
  clear hR hB2 HST
  go_wp2_with fail
  obtain ⟨b7, hb7⟩ : ∃ b7, w2.heap.size = b7 := ⟨_, rfl⟩
  rw [hb7] at HP HL ⊢
  generalize w2.alloc (.cells #[.slice A n cc, .int .i64 (-1), .bool false] 42) = w4 at HP ⊢
  have h0 : Hid (PRel w g m b7 w4) := ⟨c, A, cc, _, h2, HP.out⟩
  clear HP hb7
  go_loopw [9] (fun i wr => ∃ j : Nat, j ≤ mo ∧ j ≤ 80 ∧ i = .int .i64 j ∧ Hid (PRel w g m b7 wr)) (fun i _ => 80 - (Go.RowKit.intOf i).toNat)
  case atStart => exact ⟨0, by omega, by omega, rfl, h0.out⟩
  case round =>
    obtain ⟨j, hj, hj6, rfl, HR⟩ := hrel
    clear h0
    by_cases hjm : j < mo
    · by_cases hj60 : j < 80
      · obtain ⟨c, A7, c7, S, hSn, hP⟩ := HR.out
        obtain ⟨o, ad, hoj, hok, rfl, hload, _⟩ := (HO.out.below hP.bel (Nat.le_refl _)).get hjm
        obtain ⟨kd, oi, oa, on, bb, A, len, cap, ks⟩ := o
        have hoi := HOB.out _ (List.mem_of_getElem? hoj)
        change -9223372036854775808 ≤ oi ∧ oi ≤ 9223372036854775807 ∧ _ at hoi
        have HOK := Lib.hid (HO.out.at_ _ _ hoj).1
        have hload : (Instr.loadAt 47 (.pointer (some (ad.add (j * 6))))).run Try.prog wr = .ok (.agg #[.int .i64 kd, .int .i64 oi, .int .i64 oa, .int .i64 on, .int .u8 (bb.toNat : Int), .slice A len cap]) wr := hload
        have HX := Lib.hid (And.intro hSn (And.intro hP (And.intro hok hoi)))
        have c70 := cell_of_row wr b7 0 _ 42 (0, 0) hP.row
        clear hSn hP hok hoi hoj HR c70
        go_upto_region 11 with (refine wpList_load rfl 47 _ rfl _ rfl _ hload ?_)
        clear hload
        obtain ⟨w5, hw5⟩ : ∃ w5, wr.alloc (.cells #[.int .i64 kd, .int .i64 oi, .int .i64 oa, .int .i64 on, .int .u8 (bb.toNat : Int), .slice A len cap] 47) = w5 := ⟨_, rfl⟩
        obtain ⟨bx, hbx⟩ : ∃ bx, wr.heap.size = bx := ⟨_, rfl⟩
        have hh : w5.heap[bx]? = some (.cells #[.int .i64 kd, .int .i64 oi, .int .i64 oa, .int .i64 on, .int .u8 (bb.toNat : Int), .slice A len cap] 47 (0, 0)) := by rw [← hw5, ← hbx]; exact heap_alloc_new wr _
        have hb1 : Below wr.heap.size wr w5 := by rw [← hw5]; exact (Below.refl _ _).alloc (Nat.le_refl _) _
        have HY := Lib.hid (And.intro (HX.out.2.1.below hb1) (And.intro hh (HX.out.2.2.1.below hb1 (Nat.le_refl _))))
        have hne : b7 ≠ bx := by
          have := (Array.getElem?_eq_some_iff.1 HX.out.2.1.row).1
          omega
        have hoff := off_disk HY.out.1.one.d (by decide) HY.out.2.1
        have HN := Lib.hid (And.intro hne hoff)
        have hSn1 := HY.out.1.one.d.ok.n1
        have HS1 := Lib.hid (And.intro hSn1 HX.out.1)
        have HI := Lib.hid HX.out.2.2.2
        have c0 : w5.cell? ⟨bx, 0, none⟩ = some (.int .i64 kd) := cell_of_row w5 bx 0 _ 47 (0, 0) hh
        have c3 : w5.cell? ⟨bx, 3, none⟩ = some (.int .i64 on) := cell_of_row w5 bx 3 _ 47 (0, 0) hh
        have c5 : w5.cell? ⟨bx, 5, none⟩ = some (.slice A len cap) := cell_of_row w5 bx 5 _ 47 (0, 0) hh
        rw [hw5, hbx]
        clear hw5 hbx hh hb1 HX hne hoff hSn1
        by_cases hlen : 100 < len
        · go_wp2
          go_roundw
          case rel => exact ⟨j + 1, by omega, by omega, by go_num, _, _, _, _, HS1.out.2, HY.out.1⟩
          case measure => simp [Go.RowKit.intOf]; omega
        by_cases hon : 1000 < on
        · go_wp2
          go_roundw
          case rel => exact ⟨j + 1, by omega, by omega, by go_num, _, _, _, _, HS1.out.2, HY.out.1⟩
          case measure => simp [Go.RowKit.intOf]; omega
        go_upto_block 2 with (fail)
        clear c3 c5
        go_cut [11, 12, 13, 14, 15] from 71 to 179 (fun x y a b _ wc => Hid (PCut w g m b7 x y a b wc))
        case first =>
          by_cases h1 : kd = 1
          · subst h1
            have c1 : w5.cell? ⟨bx, 1, none⟩ = some (.int .i64 oi) := cell_of_row w5 bx 1 _ 47 (0, 0) HY.out.2.1
            have c4 : w5.cell? ⟨bx, 4, none⟩ = some (.int .u8 (bb.toNat : Int)) := cell_of_row w5 bx 4 _ 47 (0, 0) HY.out.2.1
            obtain ⟨S', r, hS', hp, hq⟩ := write_both HY.out.1.one.d.ok oi 64 (ofB bb)
            have HW := Lib.hid (And.intro hS' (And.intro hp hq))
            clear hS' hp hq
            go_upto_region 19 with (fail)
            refine wp_region_held_drew (S := fun v => v.cell? ⟨bx, 1, none⟩ = some (.int .i64 oi) ∧ v.cell? ⟨bx, 4, none⟩ = some (.int .u8 (bb.toNat : Int))) (by kernel_rfl) (⟨c1, c4⟩) (fun hHeld => ?_)
            refine wpAnyH_take (i := 0) (oi := ⟨some 76, _, _, _, _, _⟩) (v := ?_) rfl (by kernel_rfl) (by kernel_rfl) (by kernel_rfl) (fun _ _ _ h => h) (Or.inl ⟨by rfl, ?_⟩) (by assumption) ?_
            rotate_left
            · intro w hSw
              (try dsimp only at hSw)
              go_simp
              all_goals (with_reducible rfl)
            try simp only [Act.put, List.setIfInBounds_toArray, List.set_cons_zero, List.set_cons_succ]
            refine wpAnyH_take (i := 1) (oi := ⟨some 77, _, _, _, _, _⟩) (v := ?_) rfl (by kernel_rfl) (by kernel_rfl) (by kernel_rfl) (fun _ _ _ h => h) (Or.inl ⟨by rfl, ?_⟩) (by assumption) ?_
            rotate_left
            · intro w hSw
              (try dsimp only at hSw)
              go_simp
              all_goals (with_reducible rfl)
            try simp only [Act.put, List.setIfInBounds_toArray, List.set_cons_zero, List.set_cons_succ]
            refine wpAnyH_take (i := 2) (oi := ⟨some 78, _, _, _, _, _⟩) (v := ?_) rfl (by kernel_rfl) (by kernel_rfl) (by kernel_rfl) (fun _ _ _ h => h) (Or.inl ⟨by rfl, ?_⟩) (by assumption) ?_
            rotate_left
            · intro w hSw
              (try dsimp only at hSw)
              go_simp
              all_goals (with_reducible rfl)
            try simp only [Act.put, List.setIfInBounds_toArray, List.set_cons_zero, List.set_cons_succ]
            refine wpAnyH_take (i := 3) (oi := ⟨some 79, _, _, _, _, _⟩) (v := ?_) rfl (by kernel_rfl) (by kernel_rfl) (by kernel_rfl) (fun _ _ _ h => h) (Or.inl ⟨by rfl, ?_⟩) (by assumption) ?_
            rotate_left
            · intro w hSw
              (try dsimp only at hSw)
              go_simp
              all_goals (with_reducible rfl)
            try simp only [Act.put, List.setIfInBounds_toArray, List.set_cons_zero, List.set_cons_succ]
            refine wpAnyH_take (i := 4) (oi := ⟨some 80, _, _, _, _, _⟩) (v := ?_) rfl (by kernel_rfl) (by kernel_rfl) (by kernel_rfl) (fun _ _ _ h => h) (Or.inl ⟨by rfl, ?_⟩) (by assumption) ?_
            rotate_left
            · intro w hSw
              (try dsimp only at hSw)
              go_simp
              all_goals (with_reducible rfl)
            try simp only [Act.put, List.setIfInBounds_toArray, List.set_cons_zero, List.set_cons_succ]
            refine wpAnyH_ready (rs := [5]) (by kernel_rfl) (by simp) (AllReadyH.cons (o := ⟨some 81, _, _, _, _, _⟩) rfl (fun K hK => ?_) AllReadyH.nil)
            go_simp
            refine (of_any bb _).mono ?_
            rintro e v1 ⟨rfl, hw⟩
            have hb1 : Below w5.heap.size w5 v1 := by rw [hw]; exact (below_drew w5).alloc (Nat.le_refl _) _
            have hr1 : Rd v1 (some ⟨w5.heap.size, 0, none⟩) 64 (ofB bb) := by rw [hw]; exact rd_new w5.drew _ (ofB_len bb) 5
            have H1 := Lib.hid (And.intro (HY.out.1.below hb1) (And.intro (row_below HY.out.2.1 hb1) hr1))
            clear hw hb1 hr1
            refine hK.out _ _ (⟨cell_of_row v1 bx 1 _ 47 (0, 0) H1.out.2.1, cell_of_row v1 bx 4 _ 47 (0, 0) H1.out.2.1⟩) (fun hHeld => ?_)
            clear hK K
            try simp only [Act.put, List.setIfInBounds_toArray, List.set_cons_zero, List.set_cons_succ]
            refine wpAnyH_ready (rs := [6]) (by kernel_rfl) (by simp) (AllReadyH.cons (o := ⟨some 82, _, _, _, _, _⟩) rfl (fun K hK => ?_) AllReadyH.nil)
            go_simp
            refine (HW.out.2.1 _ _ _ _ _ _ H1.out.1.one.d H1.out.2.2).mono ?_
            rintro e v2 hd
            obtain ⟨c2, rfl, hP2, hbt⟩ := H1.out.1.did hd
            have hx2 := hbt.cells H1.out.2.1 (off_disk H1.out.1.one.d (by decide) H1.out.2.1)
            have H2 := Lib.hid (And.intro hP2 hx2)
            clear hd hP2 hbt hx2
            refine hK.out _ _ (⟨cell_of_row v2 bx 1 _ 47 (0, 0) H2.out.2, cell_of_row v2 bx 4 _ 47 (0, 0) H2.out.2⟩) (fun hHeld => ?_)
            clear hK K
            try simp only [Act.put, List.setIfInBounds_toArray, List.set_cons_zero, List.set_cons_succ]
            refine wpAnyH_take (i := 7) (oi := ⟨some 11, _, _, _, _, _⟩) (v := ?_) rfl (by kernel_rfl) (by kernel_rfl) (by kernel_rfl) (fun _ _ _ h => h) (Or.inl ⟨by rfl, ?_⟩) (by assumption) ?_
            rotate_left
            · intro w hSw
              (try dsimp only at hSw)
              go_simp
              all_goals (with_reducible rfl)
            try simp only [Act.put, List.setIfInBounds_toArray, List.set_cons_zero, List.set_cons_succ]
            refine wpAnyH_done (by kernel_rfl) ?_ _
            clear c1 c4 H1
            go_upto_region 20 with (fail)
            refine wp_region_held_drew (S := fun v => v.cell? ⟨bx, 1, none⟩ = some (.int .i64 oi) ∧ v.cell? ⟨bx, 4, none⟩ = some (.int .u8 (bb.toNat : Int))) (by kernel_rfl) (⟨cell_of_row v2.drew bx 1 _ 47 (0, 0) H2.out.2, cell_of_row v2.drew bx 4 _ 47 (0, 0) H2.out.2⟩) (fun hHeld => ?_)
            refine wpAnyH_take (i := 1) (oi := ⟨some 85, _, _, _, _, _⟩) (v := ?_) rfl (by kernel_rfl) (by kernel_rfl) (by kernel_rfl) (fun _ _ _ h => h) (Or.inl ⟨by rfl, ?_⟩) (by assumption) ?_
            rotate_left
            · intro w hSw
              (try dsimp only at hSw)
              go_simp
              all_goals (with_reducible rfl)
            try simp only [Act.put, List.setIfInBounds_toArray, List.set_cons_zero, List.set_cons_succ]
            refine wpAnyH_take (i := 2) (oi := ⟨some 86, _, _, _, _, _⟩) (v := ?_) rfl (by kernel_rfl) (by kernel_rfl) (by kernel_rfl) (fun _ _ _ h => h) (Or.inl ⟨by rfl, ?_⟩) (by assumption) ?_
            rotate_left
            · intro w hSw
              (try dsimp only at hSw)
              go_simp
              all_goals (with_reducible rfl)
            try simp only [Act.put, List.setIfInBounds_toArray, List.set_cons_zero, List.set_cons_succ]
            refine wpAnyH_take (i := 3) (oi := ⟨some 87, _, _, _, _, _⟩) (v := ?_) rfl (by kernel_rfl) (by kernel_rfl) (by kernel_rfl) (fun _ _ _ h => h) (Or.inl ⟨by rfl, ?_⟩) (by assumption) ?_
            rotate_left
            · intro w hSw
              (try dsimp only at hSw)
              go_simp
              all_goals (with_reducible rfl)
            try simp only [Act.put, List.setIfInBounds_toArray, List.set_cons_zero, List.set_cons_succ]
            refine wpAnyH_take (i := 4) (oi := ⟨some 88, _, _, _, _, _⟩) (v := ?_) rfl (by kernel_rfl) (by kernel_rfl) (by kernel_rfl) (fun _ _ _ h => h) (Or.inl ⟨by rfl, ?_⟩) (by assumption) ?_
            rotate_left
            · intro w hSw
              (try dsimp only at hSw)
              go_simp
              all_goals (with_reducible rfl)
            try simp only [Act.put, List.setIfInBounds_toArray, List.set_cons_zero, List.set_cons_succ]
            refine wpAnyH_ready (rs := [0, 5]) (by kernel_rfl) (by simp) (AllReadyH.cons (o := ⟨some 84, _, _, _, _, _⟩) rfl (fun K hK => ?_) (AllReadyH.cons (o := ⟨some 89, _, _, _, _, _⟩) rfl (fun K hK => ?_) AllReadyH.nil))
            · have c70 := cell_of_row v2 b7 0 _ 42 (0, 0) H2.out.1.row
              have c71 := cell_of_row v2 b7 1 _ 42 (0, 0) H2.out.1.row
              have c72 := cell_of_row v2 b7 2 _ 42 (0, 0) H2.out.1.row
              simp at c70 c71 c72
              go_simp
              refine hK.out _ _ (⟨cell_of_row v2.drew bx 1 _ 47 (0, 0) H2.out.2, cell_of_row v2.drew bx 4 _ 47 (0, 0) H2.out.2⟩) (fun hHeld => ?_)
              clear hK K
              try simp only [Act.put, List.setIfInBounds_toArray, List.set_cons_zero, List.set_cons_succ]
              clear c70 c71 c72
              refine wpAnyH_ready (rs := [5]) (by kernel_rfl) (by simp) (AllReadyH.cons (o := ⟨some 89, _, _, _, _, _⟩) rfl (fun K hK => ?_) AllReadyH.nil)
              go_simp
              refine (of_any bb _).mono ?_
              rintro e v3 ⟨rfl, hw⟩
              have hb3 : Below v2.heap.size v2 v3 := by rw [hw]; exact (below_drew v2).alloc (Nat.le_refl _) _
              have hr3 : Rd v3 (some ⟨v2.heap.size, 0, none⟩) 64 (ofB bb) := by rw [hw]; exact rd_new v2.drew _ (ofB_len bb) 5
              have H3 := Lib.hid (And.intro (H2.out.1.below hb3) (And.intro (row_below H2.out.2 hb3) hr3))
              clear hw hb3 hr3
              refine hK.out _ _ (⟨cell_of_row v3 bx 1 _ 47 (0, 0) H3.out.2.1, cell_of_row v3 bx 4 _ 47 (0, 0) H3.out.2.1⟩) (fun hHeld => ?_)
              clear hK K
              try simp only [Act.put, List.setIfInBounds_toArray, List.set_cons_zero, List.set_cons_succ]
              refine wpAnyH_ready (rs := [6]) (by kernel_rfl) (by simp) (AllReadyH.cons (o := ⟨some 90, _, _, _, _, _⟩) rfl (fun K hK => ?_) AllReadyH.nil)
              go_simp
              refine (HW.out.2.2 _ _ _ _ _ H3.out.1.rd H3.out.2.2).mono ?_
              rintro e v4 ⟨A', c', rfl, hR, hB4⟩
              have hx4 := row_below H3.out.2.1 hB4
              have hr4 := row_below H3.out.1.row hB4
              have c70 := cell_of_row v4 b7 0 _ 42 (0, 0) hr4
              have c71 := cell_of_row v4 b7 1 _ 42 (0, 0) hr4
              have c72 := cell_of_row v4 b7 2 _ 42 (0, 0) hr4
              simp at c70 c71 c72
              have r70 := frozen_of_row v4 b7 0 _ 42 hr4
              have r71 := frozen_of_row v4 b7 1 _ 42 hr4
              have r72 := frozen_of_row v4 b7 2 _ 42 hr4
              have H4 := Lib.hid (And.intro hx4 (H3.out.1.kept hB4 hR HL.out (c' := c') (by rw [HW.out.1]; exact HS1.out.1)))
              have hset : But [b7] v4 (((v4.setCell ⟨b7, 0, none⟩ (.slice A' S'.n c')).setCell ⟨b7, 1, none⟩ (.int .i64 (lf S'))).setCell ⟨b7, 2, none⟩ (.bool S'.down)) := (((But.refl _ _).setCell (by simp) _).setCell (by simp) _).setCell (by simp) _
              have H5 := Lib.hid (hset.cells hx4 (by simpa using fun e => HN.out.1 e.symm))
              clear hx4 hr4 hR hB4 hset
              refine hK.out _ _ (⟨cell_of_row v4 bx 1 _ 47 (0, 0) H4.out.1, cell_of_row v4 bx 4 _ 47 (0, 0) H4.out.1⟩) (fun hHeld => ?_)
              clear hK K
              try simp only [Act.put, List.setIfInBounds_toArray, List.set_cons_zero, List.set_cons_succ]
              refine wpAnyH_take (i := 7) (oi := ⟨some 83, _, _, _, _, _⟩) (v := ?_) rfl (by kernel_rfl) (by kernel_rfl) (by kernel_rfl) (fun _ _ _ h => h) (Or.inl ⟨by rfl, ?_⟩) (by assumption) ?_
              rotate_left
              · intro w hSw
                (try dsimp only at hSw)
                go_simp
                all_goals (with_reducible rfl)
              try simp only [Act.put, List.setIfInBounds_toArray, List.set_cons_zero, List.set_cons_succ]
              refine wpAnyH_take (i := 8) (oi := ⟨some 91, _, _, _, _, _⟩) (v := ?_) rfl (by kernel_rfl) (by kernel_rfl) (by kernel_rfl) (fun _ _ _ h => h) (Or.inl ⟨by rfl, ?_⟩) (by assumption) ?_
              rotate_left
              · intro w hSw
                (try dsimp only at hSw)
                go_simp
                all_goals (with_reducible rfl)
              try simp only [Act.put, List.setIfInBounds_toArray, List.set_cons_zero, List.set_cons_succ]
              refine wpAnyH_take (i := 9) (oi := ⟨some 92, _, _, _, _, _⟩) (v := ?_) rfl (by kernel_rfl) (by kernel_rfl) (by kernel_rfl) (fun _ _ _ h => h) (Or.inl ⟨by rfl, ?_⟩) (by assumption) ?_
              rotate_left
              · intro w hSw
                (try dsimp only at hSw)
                go_simp
                all_goals (with_reducible rfl)
              try simp only [Act.put, List.setIfInBounds_toArray, List.set_cons_zero, List.set_cons_succ]
              refine wpAnyH_ready (rs := [10]) (by kernel_rfl) (by simp) (AllReadyH.cons (o := ⟨none, _, _, _, _, _⟩) rfl (fun K hK => ?_) AllReadyH.nil)
              go_simp
              refine hK.out _ _ (⟨cell_of_row _ bx 1 _ 47 (0, 0) H5.out, cell_of_row _ bx 4 _ 47 (0, 0) H5.out⟩) (fun hHeld => ?_)
              clear hK K
              try simp only [Act.put, List.setIfInBounds_toArray, List.set_cons_zero, List.set_cons_succ]
              refine wpAnyH_take (i := 11) (oi := ⟨some 12, _, _, _, _, _⟩) (v := ?_) rfl (by kernel_rfl) (by kernel_rfl) (by kernel_rfl) (fun _ _ _ h => h) (Or.inl ⟨by rfl, ?_⟩) (by assumption) ?_
              rotate_left
              · intro w hSw
                (try dsimp only at hSw)
                go_simp
                all_goals (with_reducible rfl)
              try simp only [Act.put, List.setIfInBounds_toArray, List.set_cons_zero, List.set_cons_succ]
              refine wpAnyH_done (by kernel_rfl) ?_ _
              clear c70 c71 c72 r70 r71 r72
              go_wp2
              go_meet
              case rel => exact ⟨r, none, none, 0, 0, 0, [], rfl, rfl, rfl, rfl, Rd.nil _ _, Rd.nil _ _, c2, A', c', S', by rw [HW.out.1]; exact HS1.out.2, H4.out.2⟩
            · go_simp
              refine (of_any bb _).mono ?_
              rintro e v3 ⟨rfl, hw⟩
              have hb3 : Below v2.heap.size v2 v3 := by rw [hw]; exact (below_drew v2).alloc (Nat.le_refl _) _
              have hr3 : Rd v3 (some ⟨v2.heap.size, 0, none⟩) 64 (ofB bb) := by rw [hw]; exact rd_new v2.drew _ (ofB_len bb) 5
              have H3 := Lib.hid (And.intro (H2.out.1.below hb3) (And.intro (row_below H2.out.2 hb3) hr3))
              clear hw hb3 hr3
              refine hK.out _ _ (⟨cell_of_row v3 bx 1 _ 47 (0, 0) H3.out.2.1, cell_of_row v3 bx 4 _ 47 (0, 0) H3.out.2.1⟩) (fun hHeld => ?_)
              clear hK K
              try simp only [Act.put, List.setIfInBounds_toArray, List.set_cons_zero, List.set_cons_succ]
              have c70 := cell_of_row v3 b7 0 _ 42 (0, 0) H3.out.1.row
              have c71 := cell_of_row v3 b7 1 _ 42 (0, 0) H3.out.1.row
              have c72 := cell_of_row v3 b7 2 _ 42 (0, 0) H3.out.1.row
              simp at c70 c71 c72
              refine wpAnyH_ready (rs := [0]) (by kernel_rfl) (by simp) (AllReadyH.cons (o := ⟨some 84, _, _, _, _, _⟩) rfl (fun K hK => ?_) AllReadyH.nil)
              go_simp
              refine hK.out _ _ (⟨cell_of_row v3 bx 1 _ 47 (0, 0) H3.out.2.1, cell_of_row v3 bx 4 _ 47 (0, 0) H3.out.2.1⟩) (fun hHeld => ?_)
              clear hK K
              try simp only [Act.put, List.setIfInBounds_toArray, List.set_cons_zero, List.set_cons_succ]
              clear c70 c71 c72
              refine wpAnyH_ready (rs := [6]) (by kernel_rfl) (by simp) (AllReadyH.cons (o := ⟨some 90, _, _, _, _, _⟩) rfl (fun K hK => ?_) AllReadyH.nil)
              go_simp
              refine (HW.out.2.2 _ _ _ _ _ H3.out.1.rd H3.out.2.2).mono ?_
              rintro e v4 ⟨A', c', rfl, hR, hB4⟩
              have hx4 := row_below H3.out.2.1 hB4
              have hr4 := row_below H3.out.1.row hB4
              have c70 := cell_of_row v4 b7 0 _ 42 (0, 0) hr4
              have c71 := cell_of_row v4 b7 1 _ 42 (0, 0) hr4
              have c72 := cell_of_row v4 b7 2 _ 42 (0, 0) hr4
              simp at c70 c71 c72
              have r70 := frozen_of_row v4 b7 0 _ 42 hr4
              have r71 := frozen_of_row v4 b7 1 _ 42 hr4
              have r72 := frozen_of_row v4 b7 2 _ 42 hr4
              have H4 := Lib.hid (And.intro hx4 (H3.out.1.kept hB4 hR HL.out (c' := c') (by rw [HW.out.1]; exact HS1.out.1)))
              have hset : But [b7] v4 (((v4.setCell ⟨b7, 0, none⟩ (.slice A' S'.n c')).setCell ⟨b7, 1, none⟩ (.int .i64 (lf S'))).setCell ⟨b7, 2, none⟩ (.bool S'.down)) := (((But.refl _ _).setCell (by simp) _).setCell (by simp) _).setCell (by simp) _
              have H5 := Lib.hid (hset.cells hx4 (by simpa using fun e => HN.out.1 e.symm))
              clear hx4 hr4 hR hB4 hset
              refine hK.out _ _ (⟨cell_of_row v4 bx 1 _ 47 (0, 0) H4.out.1, cell_of_row v4 bx 4 _ 47 (0, 0) H4.out.1⟩) (fun hHeld => ?_)
              clear hK K
              try simp only [Act.put, List.setIfInBounds_toArray, List.set_cons_zero, List.set_cons_succ]
              refine wpAnyH_take (i := 7) (oi := ⟨some 83, _, _, _, _, _⟩) (v := ?_) rfl (by kernel_rfl) (by kernel_rfl) (by kernel_rfl) (fun _ _ _ h => h) (Or.inl ⟨by rfl, ?_⟩) (by assumption) ?_
              rotate_left
              · intro w hSw
                (try dsimp only at hSw)
                go_simp
                all_goals (with_reducible rfl)
              try simp only [Act.put, List.setIfInBounds_toArray, List.set_cons_zero, List.set_cons_succ]
              refine wpAnyH_take (i := 8) (oi := ⟨some 91, _, _, _, _, _⟩) (v := ?_) rfl (by kernel_rfl) (by kernel_rfl) (by kernel_rfl) (fun _ _ _ h => h) (Or.inl ⟨by rfl, ?_⟩) (by assumption) ?_
              rotate_left
              · intro w hSw
                (try dsimp only at hSw)
                go_simp
                all_goals (with_reducible rfl)
              try simp only [Act.put, List.setIfInBounds_toArray, List.set_cons_zero, List.set_cons_succ]
              refine wpAnyH_take (i := 9) (oi := ⟨some 92, _, _, _, _, _⟩) (v := ?_) rfl (by kernel_rfl) (by kernel_rfl) (by kernel_rfl) (fun _ _ _ h => h) (Or.inl ⟨by rfl, ?_⟩) (by assumption) ?_
              rotate_left
              · intro w hSw
                (try dsimp only at hSw)
                go_simp
                all_goals (with_reducible rfl)
              try simp only [Act.put, List.setIfInBounds_toArray, List.set_cons_zero, List.set_cons_succ]
              refine wpAnyH_ready (rs := [10]) (by kernel_rfl) (by simp) (AllReadyH.cons (o := ⟨none, _, _, _, _, _⟩) rfl (fun K hK => ?_) AllReadyH.nil)
              go_simp
              refine hK.out _ _ (⟨cell_of_row _ bx 1 _ 47 (0, 0) H5.out, cell_of_row _ bx 4 _ 47 (0, 0) H5.out⟩) (fun hHeld => ?_)
              clear hK K
              try simp only [Act.put, List.setIfInBounds_toArray, List.set_cons_zero, List.set_cons_succ]
              refine wpAnyH_take (i := 11) (oi := ⟨some 12, _, _, _, _, _⟩) (v := ?_) rfl (by kernel_rfl) (by kernel_rfl) (by kernel_rfl) (fun _ _ _ h => h) (Or.inl ⟨by rfl, ?_⟩) (by assumption) ?_
              rotate_left
              · intro w hSw
                (try dsimp only at hSw)
                go_simp
                all_goals (with_reducible rfl)
              try simp only [Act.put, List.setIfInBounds_toArray, List.set_cons_zero, List.set_cons_succ]
              refine wpAnyH_done (by kernel_rfl) ?_ _
              clear c70 c71 c72 r70 r71 r72
              go_wp2
              go_meet
              case rel => exact ⟨r, none, none, 0, 0, 0, [], rfl, rfl, rfl, rfl, Rd.nil _ _, Rd.nil _ _, c2, A', c', S', by rw [HW.out.1]; exact HS1.out.2, H4.out.2⟩
          by_cases h2 : kd = 2
          · subst h2
            have c1 : w5.cell? ⟨bx, 1, none⟩ = some (.int .i64 oi) := cell_of_row w5 bx 1 _ 47 (0, 0) HY.out.2.1
            have c4 : w5.cell? ⟨bx, 4, none⟩ = some (.int .u8 (bb.toNat : Int)) := cell_of_row w5 bx 4 _ 47 (0, 0) HY.out.2.1
            obtain ⟨S', r, hS', hp, hq⟩ := write_both HY.out.1.one.d.ok oi 64 (ofB bb)
            have HW := Lib.hid (And.intro hS' (And.intro hp hq))
            clear hS' hp hq
            go_upto_region 19 with (fail)
            refine wp_region_held_drew (S := fun v => v.cell? ⟨bx, 1, none⟩ = some (.int .i64 oi) ∧ v.cell? ⟨bx, 4, none⟩ = some (.int .u8 (bb.toNat : Int))) (by kernel_rfl) (⟨c1, c4⟩) (fun hHeld => ?_)
            refine wpAnyH_take (i := 0) (oi := ⟨some 76, _, _, _, _, _⟩) (v := ?_) rfl (by kernel_rfl) (by kernel_rfl) (by kernel_rfl) (fun _ _ _ h => h) (Or.inl ⟨by rfl, ?_⟩) (by assumption) ?_
            rotate_left
            · intro w hSw
              (try dsimp only at hSw)
              go_simp
              all_goals (with_reducible rfl)
            try simp only [Act.put, List.setIfInBounds_toArray, List.set_cons_zero, List.set_cons_succ]
            refine wpAnyH_take (i := 1) (oi := ⟨some 77, _, _, _, _, _⟩) (v := ?_) rfl (by kernel_rfl) (by kernel_rfl) (by kernel_rfl) (fun _ _ _ h => h) (Or.inl ⟨by rfl, ?_⟩) (by assumption) ?_
            rotate_left
            · intro w hSw
              (try dsimp only at hSw)
              go_simp
              all_goals (with_reducible rfl)
            try simp only [Act.put, List.setIfInBounds_toArray, List.set_cons_zero, List.set_cons_succ]
            refine wpAnyH_take (i := 2) (oi := ⟨some 78, _, _, _, _, _⟩) (v := ?_) rfl (by kernel_rfl) (by kernel_rfl) (by kernel_rfl) (fun _ _ _ h => h) (Or.inl ⟨by rfl, ?_⟩) (by assumption) ?_
            rotate_left
            · intro w hSw
              (try dsimp only at hSw)
              go_simp
              all_goals (with_reducible rfl)
            try simp only [Act.put, List.setIfInBounds_toArray, List.set_cons_zero, List.set_cons_succ]
            refine wpAnyH_take (i := 3) (oi := ⟨some 79, _, _, _, _, _⟩) (v := ?_) rfl (by kernel_rfl) (by kernel_rfl) (by kernel_rfl) (fun _ _ _ h => h) (Or.inl ⟨by rfl, ?_⟩) (by assumption) ?_
            rotate_left
            · intro w hSw
              (try dsimp only at hSw)
              go_simp
              all_goals (with_reducible rfl)
            try simp only [Act.put, List.setIfInBounds_toArray, List.set_cons_zero, List.set_cons_succ]
            refine wpAnyH_take (i := 4) (oi := ⟨some 80, _, _, _, _, _⟩) (v := ?_) rfl (by kernel_rfl) (by kernel_rfl) (by kernel_rfl) (fun _ _ _ h => h) (Or.inl ⟨by rfl, ?_⟩) (by assumption) ?_
            rotate_left
            · intro w hSw
              (try dsimp only at hSw)
              go_simp
              all_goals (with_reducible rfl)
            try simp only [Act.put, List.setIfInBounds_toArray, List.set_cons_zero, List.set_cons_succ]
            refine wpAnyH_ready (rs := [5]) (by kernel_rfl) (by simp) (AllReadyH.cons (o := ⟨some 81, _, _, _, _, _⟩) rfl (fun K hK => ?_) AllReadyH.nil)
            go_simp
            refine (of_any bb _).mono ?_
            rintro e v1 ⟨rfl, hw⟩
            have hb1 : Below w5.heap.size w5 v1 := by rw [hw]; exact (below_drew w5).alloc (Nat.le_refl _) _
            have hr1 : Rd v1 (some ⟨w5.heap.size, 0, none⟩) 64 (ofB bb) := by rw [hw]; exact rd_new w5.drew _ (ofB_len bb) 5
            have H1 := Lib.hid (And.intro (HY.out.1.below hb1) (And.intro (row_below HY.out.2.1 hb1) hr1))
            clear hw hb1 hr1
            refine hK.out _ _ (⟨cell_of_row v1 bx 1 _ 47 (0, 0) H1.out.2.1, cell_of_row v1 bx 4 _ 47 (0, 0) H1.out.2.1⟩) (fun hHeld => ?_)
            clear hK K
            try simp only [Act.put, List.setIfInBounds_toArray, List.set_cons_zero, List.set_cons_succ]
            refine wpAnyH_ready (rs := [6]) (by kernel_rfl) (by simp) (AllReadyH.cons (o := ⟨some 82, _, _, _, _, _⟩) rfl (fun K hK => ?_) AllReadyH.nil)
            go_simp
            refine (HW.out.2.1 _ _ _ _ _ _ H1.out.1.one.d H1.out.2.2).mono ?_
            rintro e v2 hd
            obtain ⟨c2, rfl, hP2, hbt⟩ := H1.out.1.did hd
            have hx2 := hbt.cells H1.out.2.1 (off_disk H1.out.1.one.d (by decide) H1.out.2.1)
            have H2 := Lib.hid (And.intro hP2 hx2)
            clear hd hP2 hbt hx2
            refine hK.out _ _ (⟨cell_of_row v2 bx 1 _ 47 (0, 0) H2.out.2, cell_of_row v2 bx 4 _ 47 (0, 0) H2.out.2⟩) (fun hHeld => ?_)
            clear hK K
            try simp only [Act.put, List.setIfInBounds_toArray, List.set_cons_zero, List.set_cons_succ]
            refine wpAnyH_take (i := 7) (oi := ⟨some 11, _, _, _, _, _⟩) (v := ?_) rfl (by kernel_rfl) (by kernel_rfl) (by kernel_rfl) (fun _ _ _ h => h) (Or.inl ⟨by rfl, ?_⟩) (by assumption) ?_
            rotate_left
            · intro w hSw
              (try dsimp only at hSw)
              go_simp
              all_goals (with_reducible rfl)
            try simp only [Act.put, List.setIfInBounds_toArray, List.set_cons_zero, List.set_cons_succ]
            refine wpAnyH_done (by kernel_rfl) ?_ _
            clear c1 c4 H1
            go_upto_region 20 with (fail)
            refine wp_region_held_drew (S := fun v => v.cell? ⟨bx, 1, none⟩ = some (.int .i64 oi) ∧ v.cell? ⟨bx, 4, none⟩ = some (.int .u8 (bb.toNat : Int))) (by kernel_rfl) (⟨cell_of_row v2.drew bx 1 _ 47 (0, 0) H2.out.2, cell_of_row v2.drew bx 4 _ 47 (0, 0) H2.out.2⟩) (fun hHeld => ?_)
            refine wpAnyH_take (i := 1) (oi := ⟨some 85, _, _, _, _, _⟩) (v := ?_) rfl (by kernel_rfl) (by kernel_rfl) (by kernel_rfl) (fun _ _ _ h => h) (Or.inl ⟨by rfl, ?_⟩) (by assumption) ?_
            rotate_left
            · intro w hSw
              (try dsimp only at hSw)
              go_simp
              all_goals (with_reducible rfl)
            try simp only [Act.put, List.setIfInBounds_toArray, List.set_cons_zero, List.set_cons_succ]
            refine wpAnyH_take (i := 2) (oi := ⟨some 86, _, _, _, _, _⟩) (v := ?_) rfl (by kernel_rfl) (by kernel_rfl) (by kernel_rfl) (fun _ _ _ h => h) (Or.inl ⟨by rfl, ?_⟩) (by assumption) ?_
            rotate_left
            · intro w hSw
              (try dsimp only at hSw)
              go_simp
              all_goals (with_reducible rfl)
            try simp only [Act.put, List.setIfInBounds_toArray, List.set_cons_zero, List.set_cons_succ]
            refine wpAnyH_take (i := 3) (oi := ⟨some 87, _, _, _, _, _⟩) (v := ?_) rfl (by kernel_rfl) (by kernel_rfl) (by kernel_rfl) (fun _ _ _ h => h) (Or.inl ⟨by rfl, ?_⟩) (by assumption) ?_
            rotate_left
            · intro w hSw
              (try dsimp only at hSw)
              go_simp
              all_goals (with_reducible rfl)
            try simp only [Act.put, List.setIfInBounds_toArray, List.set_cons_zero, List.set_cons_succ]
            refine wpAnyH_take (i := 4) (oi := ⟨some 88, _, _, _, _, _⟩) (v := ?_) rfl (by kernel_rfl) (by kernel_rfl) (by kernel_rfl) (fun _ _ _ h => h) (Or.inl ⟨by rfl, ?_⟩) (by assumption) ?_
            rotate_left
            · intro w hSw
              (try dsimp only at hSw)
              go_simp
              all_goals (with_reducible rfl)
            try simp only [Act.put, List.setIfInBounds_toArray, List.set_cons_zero, List.set_cons_succ]
            refine wpAnyH_ready (rs := [0, 5]) (by kernel_rfl) (by simp) (AllReadyH.cons (o := ⟨some 84, _, _, _, _, _⟩) rfl (fun K hK => ?_) (AllReadyH.cons (o := ⟨some 89, _, _, _, _, _⟩) rfl (fun K hK => ?_) AllReadyH.nil))
            · have c70 := cell_of_row v2 b7 0 _ 42 (0, 0) H2.out.1.row
              have c71 := cell_of_row v2 b7 1 _ 42 (0, 0) H2.out.1.row
              have c72 := cell_of_row v2 b7 2 _ 42 (0, 0) H2.out.1.row
              simp at c70 c71 c72
              go_simp
              refine hK.out _ _ (⟨cell_of_row v2.drew bx 1 _ 47 (0, 0) H2.out.2, cell_of_row v2.drew bx 4 _ 47 (0, 0) H2.out.2⟩) (fun hHeld => ?_)
              clear hK K
              try simp only [Act.put, List.setIfInBounds_toArray, List.set_cons_zero, List.set_cons_succ]
              clear c70 c71 c72
              refine wpAnyH_ready (rs := [5]) (by kernel_rfl) (by simp) (AllReadyH.cons (o := ⟨some 89, _, _, _, _, _⟩) rfl (fun K hK => ?_) AllReadyH.nil)
              go_simp
              refine (of_any bb _).mono ?_
              rintro e v3 ⟨rfl, hw⟩
              have hb3 : Below v2.heap.size v2 v3 := by rw [hw]; exact (below_drew v2).alloc (Nat.le_refl _) _
              have hr3 : Rd v3 (some ⟨v2.heap.size, 0, none⟩) 64 (ofB bb) := by rw [hw]; exact rd_new v2.drew _ (ofB_len bb) 5
              have H3 := Lib.hid (And.intro (H2.out.1.below hb3) (And.intro (row_below H2.out.2 hb3) hr3))
              clear hw hb3 hr3
              refine hK.out _ _ (⟨cell_of_row v3 bx 1 _ 47 (0, 0) H3.out.2.1, cell_of_row v3 bx 4 _ 47 (0, 0) H3.out.2.1⟩) (fun hHeld => ?_)
              clear hK K
              try simp only [Act.put, List.setIfInBounds_toArray, List.set_cons_zero, List.set_cons_succ]
              refine wpAnyH_ready (rs := [6]) (by kernel_rfl) (by simp) (AllReadyH.cons (o := ⟨some 90, _, _, _, _, _⟩) rfl (fun K hK => ?_) AllReadyH.nil)
              go_simp
              refine (HW.out.2.2 _ _ _ _ _ H3.out.1.rd H3.out.2.2).mono ?_
              rintro e v4 ⟨A', c', rfl, hR, hB4⟩
              have hx4 := row_below H3.out.2.1 hB4
              have hr4 := row_below H3.out.1.row hB4
              have c70 := cell_of_row v4 b7 0 _ 42 (0, 0) hr4
              have c71 := cell_of_row v4 b7 1 _ 42 (0, 0) hr4
              have c72 := cell_of_row v4 b7 2 _ 42 (0, 0) hr4
              simp at c70 c71 c72
              have r70 := frozen_of_row v4 b7 0 _ 42 hr4
              have r71 := frozen_of_row v4 b7 1 _ 42 hr4
              have r72 := frozen_of_row v4 b7 2 _ 42 hr4
              have H4 := Lib.hid (And.intro hx4 (H3.out.1.kept hB4 hR HL.out (c' := c') (by rw [HW.out.1]; exact HS1.out.1)))
              have hset : But [b7] v4 (((v4.setCell ⟨b7, 0, none⟩ (.slice A' S'.n c')).setCell ⟨b7, 1, none⟩ (.int .i64 (lf S'))).setCell ⟨b7, 2, none⟩ (.bool S'.down)) := (((But.refl _ _).setCell (by simp) _).setCell (by simp) _).setCell (by simp) _
              have H5 := Lib.hid (hset.cells hx4 (by simpa using fun e => HN.out.1 e.symm))
              clear hx4 hr4 hR hB4 hset
              refine hK.out _ _ (⟨cell_of_row v4 bx 1 _ 47 (0, 0) H4.out.1, cell_of_row v4 bx 4 _ 47 (0, 0) H4.out.1⟩) (fun hHeld => ?_)
              clear hK K
              try simp only [Act.put, List.setIfInBounds_toArray, List.set_cons_zero, List.set_cons_succ]
              refine wpAnyH_take (i := 7) (oi := ⟨some 83, _, _, _, _, _⟩) (v := ?_) rfl (by kernel_rfl) (by kernel_rfl) (by kernel_rfl) (fun _ _ _ h => h) (Or.inl ⟨by rfl, ?_⟩) (by assumption) ?_
              rotate_left
              · intro w hSw
                (try dsimp only at hSw)
                go_simp
                all_goals (with_reducible rfl)
              try simp only [Act.put, List.setIfInBounds_toArray, List.set_cons_zero, List.set_cons_succ]
              refine wpAnyH_take (i := 8) (oi := ⟨some 91, _, _, _, _, _⟩) (v := ?_) rfl (by kernel_rfl) (by kernel_rfl) (by kernel_rfl) (fun _ _ _ h => h) (Or.inl ⟨by rfl, ?_⟩) (by assumption) ?_
              rotate_left
              · intro w hSw
                (try dsimp only at hSw)
                go_simp
                all_goals (with_reducible rfl)
              try simp only [Act.put, List.setIfInBounds_toArray, List.set_cons_zero, List.set_cons_succ]
              refine wpAnyH_take (i := 9) (oi := ⟨some 92, _, _, _, _, _⟩) (v := ?_) rfl (by kernel_rfl) (by kernel_rfl) (by kernel_rfl) (fun _ _ _ h => h) (Or.inl ⟨by rfl, ?_⟩) (by assumption) ?_
              rotate_left
              · intro w hSw
                (try dsimp only at hSw)
                go_simp
                all_goals (with_reducible rfl)
              try simp only [Act.put, List.setIfInBounds_toArray, List.set_cons_zero, List.set_cons_succ]
              refine wpAnyH_ready (rs := [10]) (by kernel_rfl) (by simp) (AllReadyH.cons (o := ⟨none, _, _, _, _, _⟩) rfl (fun K hK => ?_) AllReadyH.nil)
              go_simp
              refine hK.out _ _ (⟨cell_of_row _ bx 1 _ 47 (0, 0) H5.out, cell_of_row _ bx 4 _ 47 (0, 0) H5.out⟩) (fun hHeld => ?_)
              clear hK K
              try simp only [Act.put, List.setIfInBounds_toArray, List.set_cons_zero, List.set_cons_succ]
              refine wpAnyH_take (i := 11) (oi := ⟨some 12, _, _, _, _, _⟩) (v := ?_) rfl (by kernel_rfl) (by kernel_rfl) (by kernel_rfl) (fun _ _ _ h => h) (Or.inl ⟨by rfl, ?_⟩) (by assumption) ?_
              rotate_left
              · intro w hSw
                (try dsimp only at hSw)
                go_simp
                all_goals (with_reducible rfl)
              try simp only [Act.put, List.setIfInBounds_toArray, List.set_cons_zero, List.set_cons_succ]
              refine wpAnyH_done (by kernel_rfl) ?_ _
              clear c70 c71 c72 r70 r71 r72
              go_wp2
              go_meet
              case rel => exact ⟨r, none, none, 0, 0, 0, [], rfl, rfl, rfl, rfl, Rd.nil _ _, Rd.nil _ _, c2, A', c', S', by rw [HW.out.1]; exact HS1.out.2, H4.out.2⟩
            · go_simp
              refine (of_any bb _).mono ?_
              rintro e v3 ⟨rfl, hw⟩
              have hb3 : Below v2.heap.size v2 v3 := by rw [hw]; exact (below_drew v2).alloc (Nat.le_refl _) _
              have hr3 : Rd v3 (some ⟨v2.heap.size, 0, none⟩) 64 (ofB bb) := by rw [hw]; exact rd_new v2.drew _ (ofB_len bb) 5
              have H3 := Lib.hid (And.intro (H2.out.1.below hb3) (And.intro (row_below H2.out.2 hb3) hr3))
              clear hw hb3 hr3
              refine hK.out _ _ (⟨cell_of_row v3 bx 1 _ 47 (0, 0) H3.out.2.1, cell_of_row v3 bx 4 _ 47 (0, 0) H3.out.2.1⟩) (fun hHeld => ?_)
              clear hK K
              try simp only [Act.put, List.setIfInBounds_toArray, List.set_cons_zero, List.set_cons_succ]
              have c70 := cell_of_row v3 b7 0 _ 42 (0, 0) H3.out.1.row
              have c71 := cell_of_row v3 b7 1 _ 42 (0, 0) H3.out.1.row
              have c72 := cell_of_row v3 b7 2 _ 42 (0, 0) H3.out.1.row
              simp at c70 c71 c72
              refine wpAnyH_ready (rs := [0]) (by kernel_rfl) (by simp) (AllReadyH.cons (o := ⟨some 84, _, _, _, _, _⟩) rfl (fun K hK => ?_) AllReadyH.nil)
              go_simp
              refine hK.out _ _ (⟨cell_of_row v3 bx 1 _ 47 (0, 0) H3.out.2.1, cell_of_row v3 bx 4 _ 47 (0, 0) H3.out.2.1⟩) (fun hHeld => ?_)
              clear hK K
              try simp only [Act.put, List.setIfInBounds_toArray, List.set_cons_zero, List.set_cons_succ]
              clear c70 c71 c72
              refine wpAnyH_ready (rs := [6]) (by kernel_rfl) (by simp) (AllReadyH.cons (o := ⟨some 90, _, _, _, _, _⟩) rfl (fun K hK => ?_) AllReadyH.nil)
              go_simp
              refine (HW.out.2.2 _ _ _ _ _ H3.out.1.rd H3.out.2.2).mono ?_
              rintro e v4 ⟨A', c', rfl, hR, hB4⟩
              have hx4 := row_below H3.out.2.1 hB4
              have hr4 := row_below H3.out.1.row hB4
              have c70 := cell_of_row v4 b7 0 _ 42 (0, 0) hr4
              have c71 := cell_of_row v4 b7 1 _ 42 (0, 0) hr4
              have c72 := cell_of_row v4 b7 2 _ 42 (0, 0) hr4
              simp at c70 c71 c72
              have r70 := frozen_of_row v4 b7 0 _ 42 hr4
              have r71 := frozen_of_row v4 b7 1 _ 42 hr4
              have r72 := frozen_of_row v4 b7 2 _ 42 hr4
              have H4 := Lib.hid (And.intro hx4 (H3.out.1.kept hB4 hR HL.out (c' := c') (by rw [HW.out.1]; exact HS1.out.1)))
              have hset : But [b7] v4 (((v4.setCell ⟨b7, 0, none⟩ (.slice A' S'.n c')).setCell ⟨b7, 1, none⟩ (.int .i64 (lf S'))).setCell ⟨b7, 2, none⟩ (.bool S'.down)) := (((But.refl _ _).setCell (by simp) _).setCell (by simp) _).setCell (by simp) _
              have H5 := Lib.hid (hset.cells hx4 (by simpa using fun e => HN.out.1 e.symm))
              clear hx4 hr4 hR hB4 hset
              refine hK.out _ _ (⟨cell_of_row v4 bx 1 _ 47 (0, 0) H4.out.1, cell_of_row v4 bx 4 _ 47 (0, 0) H4.out.1⟩) (fun hHeld => ?_)
              clear hK K
              try simp only [Act.put, List.setIfInBounds_toArray, List.set_cons_zero, List.set_cons_succ]
              refine wpAnyH_take (i := 7) (oi := ⟨some 83, _, _, _, _, _⟩) (v := ?_) rfl (by kernel_rfl) (by kernel_rfl) (by kernel_rfl) (fun _ _ _ h => h) (Or.inl ⟨by rfl, ?_⟩) (by assumption) ?_
              rotate_left
              · intro w hSw
                (try dsimp only at hSw)
                go_simp
                all_goals (with_reducible rfl)
              try simp only [Act.put, List.setIfInBounds_toArray, List.set_cons_zero, List.set_cons_succ]
              refine wpAnyH_take (i := 8) (oi := ⟨some 91, _, _, _, _, _⟩) (v := ?_) rfl (by kernel_rfl) (by kernel_rfl) (by kernel_rfl) (fun _ _ _ h => h) (Or.inl ⟨by rfl, ?_⟩) (by assumption) ?_
              rotate_left
              · intro w hSw
                (try dsimp only at hSw)
                go_simp
                all_goals (with_reducible rfl)
              try simp only [Act.put, List.setIfInBounds_toArray, List.set_cons_zero, List.set_cons_succ]
              refine wpAnyH_take (i := 9) (oi := ⟨some 92, _, _, _, _, _⟩) (v := ?_) rfl (by kernel_rfl) (by kernel_rfl) (by kernel_rfl) (fun _ _ _ h => h) (Or.inl ⟨by rfl, ?_⟩) (by assumption) ?_
              rotate_left
              · intro w hSw
                (try dsimp only at hSw)
                go_simp
                all_goals (with_reducible rfl)
              try simp only [Act.put, List.setIfInBounds_toArray, List.set_cons_zero, List.set_cons_succ]
              refine wpAnyH_ready (rs := [10]) (by kernel_rfl) (by simp) (AllReadyH.cons (o := ⟨none, _, _, _, _, _⟩) rfl (fun K hK => ?_) AllReadyH.nil)
              go_simp
              refine hK.out _ _ (⟨cell_of_row _ bx 1 _ 47 (0, 0) H5.out, cell_of_row _ bx 4 _ 47 (0, 0) H5.out⟩) (fun hHeld => ?_)
              clear hK K
              try simp only [Act.put, List.setIfInBounds_toArray, List.set_cons_zero, List.set_cons_succ]
              refine wpAnyH_take (i := 11) (oi := ⟨some 12, _, _, _, _, _⟩) (v := ?_) rfl (by kernel_rfl) (by kernel_rfl) (by kernel_rfl) (fun _ _ _ h => h) (Or.inl ⟨by rfl, ?_⟩) (by assumption) ?_
              rotate_left
              · intro w hSw
                (try dsimp only at hSw)
                go_simp
                all_goals (with_reducible rfl)
              try simp only [Act.put, List.setIfInBounds_toArray, List.set_cons_zero, List.set_cons_succ]
              refine wpAnyH_done (by kernel_rfl) ?_ _
              clear c70 c71 c72 r70 r71 r72
              go_wp2
              go_meet
              case rel => exact ⟨r, none, none, 0, 0, 0, [], rfl, rfl, rfl, rfl, Rd.nil _ _, Rd.nil _ _, c2, A', c', S', by rw [HW.out.1]; exact HS1.out.2, H4.out.2⟩
          by_cases h3 : kd = 3
          · subst h3
            have c1 : w5.cell? ⟨bx, 1, none⟩ = some (.int .i64 oi) := cell_of_row w5 bx 1 _ 47 (0, 0) HY.out.2.1
            have c4 : w5.cell? ⟨bx, 4, none⟩ = some (.int .u8 (bb.toNat : Int)) := cell_of_row w5 bx 4 _ 47 (0, 0) HY.out.2.1
            obtain ⟨S', r, hS', hp, hq⟩ := write_both HY.out.1.one.d.ok oi 64 (ofB bb)
            have HW := Lib.hid (And.intro hS' (And.intro hp hq))
            clear hS' hp hq
            go_upto_region 19 with (fail)
            refine wp_region_held_drew (S := fun v => v.cell? ⟨bx, 1, none⟩ = some (.int .i64 oi) ∧ v.cell? ⟨bx, 4, none⟩ = some (.int .u8 (bb.toNat : Int))) (by kernel_rfl) (⟨c1, c4⟩) (fun hHeld => ?_)
            refine wpAnyH_take (i := 0) (oi := ⟨some 76, _, _, _, _, _⟩) (v := ?_) rfl (by kernel_rfl) (by kernel_rfl) (by kernel_rfl) (fun _ _ _ h => h) (Or.inl ⟨by rfl, ?_⟩) (by assumption) ?_
            rotate_left
            · intro w hSw
              (try dsimp only at hSw)
              go_simp
              all_goals (with_reducible rfl)
            try simp only [Act.put, List.setIfInBounds_toArray, List.set_cons_zero, List.set_cons_succ]
            refine wpAnyH_take (i := 1) (oi := ⟨some 77, _, _, _, _, _⟩) (v := ?_) rfl (by kernel_rfl) (by kernel_rfl) (by kernel_rfl) (fun _ _ _ h => h) (Or.inl ⟨by rfl, ?_⟩) (by assumption) ?_
            rotate_left
            · intro w hSw
              (try dsimp only at hSw)
              go_simp
              all_goals (with_reducible rfl)
            try simp only [Act.put, List.setIfInBounds_toArray, List.set_cons_zero, List.set_cons_succ]
            refine wpAnyH_take (i := 2) (oi := ⟨some 78, _, _, _, _, _⟩) (v := ?_) rfl (by kernel_rfl) (by kernel_rfl) (by kernel_rfl) (fun _ _ _ h => h) (Or.inl ⟨by rfl, ?_⟩) (by assumption) ?_
            rotate_left
            · intro w hSw
              (try dsimp only at hSw)
              go_simp
              all_goals (with_reducible rfl)
            try simp only [Act.put, List.setIfInBounds_toArray, List.set_cons_zero, List.set_cons_succ]
            refine wpAnyH_take (i := 3) (oi := ⟨some 79, _, _, _, _, _⟩) (v := ?_) rfl (by kernel_rfl) (by kernel_rfl) (by kernel_rfl) (fun _ _ _ h => h) (Or.inl ⟨by rfl, ?_⟩) (by assumption) ?_
            rotate_left
            · intro w hSw
              (try dsimp only at hSw)
              go_simp
              all_goals (with_reducible rfl)
            try simp only [Act.put, List.setIfInBounds_toArray, List.set_cons_zero, List.set_cons_succ]
            refine wpAnyH_take (i := 4) (oi := ⟨some 80, _, _, _, _, _⟩) (v := ?_) rfl (by kernel_rfl) (by kernel_rfl) (by kernel_rfl) (fun _ _ _ h => h) (Or.inl ⟨by rfl, ?_⟩) (by assumption) ?_
            rotate_left
            · intro w hSw
              (try dsimp only at hSw)
              go_simp
              all_goals (with_reducible rfl)
            try simp only [Act.put, List.setIfInBounds_toArray, List.set_cons_zero, List.set_cons_succ]
            refine wpAnyH_ready (rs := [5]) (by kernel_rfl) (by simp) (AllReadyH.cons (o := ⟨some 81, _, _, _, _, _⟩) rfl (fun K hK => ?_) AllReadyH.nil)
            go_simp
            refine (of_any bb _).mono ?_
            rintro e v1 ⟨rfl, hw⟩
            have hb1 : Below w5.heap.size w5 v1 := by rw [hw]; exact (below_drew w5).alloc (Nat.le_refl _) _
            have hr1 : Rd v1 (some ⟨w5.heap.size, 0, none⟩) 64 (ofB bb) := by rw [hw]; exact rd_new w5.drew _ (ofB_len bb) 5
            have H1 := Lib.hid (And.intro (HY.out.1.below hb1) (And.intro (row_below HY.out.2.1 hb1) hr1))
            clear hw hb1 hr1
            refine hK.out _ _ (⟨cell_of_row v1 bx 1 _ 47 (0, 0) H1.out.2.1, cell_of_row v1 bx 4 _ 47 (0, 0) H1.out.2.1⟩) (fun hHeld => ?_)
            clear hK K
            try simp only [Act.put, List.setIfInBounds_toArray, List.set_cons_zero, List.set_cons_succ]
            refine wpAnyH_ready (rs := [6]) (by kernel_rfl) (by simp) (AllReadyH.cons (o := ⟨some 82, _, _, _, _, _⟩) rfl (fun K hK => ?_) AllReadyH.nil)
            go_simp
            refine (HW.out.2.1 _ _ _ _ _ _ H1.out.1.one.d H1.out.2.2).mono ?_
            rintro e v2 hd
            obtain ⟨c2, rfl, hP2, hbt⟩ := H1.out.1.did hd
            have hx2 := hbt.cells H1.out.2.1 (off_disk H1.out.1.one.d (by decide) H1.out.2.1)
            have H2 := Lib.hid (And.intro hP2 hx2)
            clear hd hP2 hbt hx2
            refine hK.out _ _ (⟨cell_of_row v2 bx 1 _ 47 (0, 0) H2.out.2, cell_of_row v2 bx 4 _ 47 (0, 0) H2.out.2⟩) (fun hHeld => ?_)
            clear hK K
            try simp only [Act.put, List.setIfInBounds_toArray, List.set_cons_zero, List.set_cons_succ]
            refine wpAnyH_take (i := 7) (oi := ⟨some 11, _, _, _, _, _⟩) (v := ?_) rfl (by kernel_rfl) (by kernel_rfl) (by kernel_rfl) (fun _ _ _ h => h) (Or.inl ⟨by rfl, ?_⟩) (by assumption) ?_
            rotate_left
            · intro w hSw
              (try dsimp only at hSw)
              go_simp
              all_goals (with_reducible rfl)
            try simp only [Act.put, List.setIfInBounds_toArray, List.set_cons_zero, List.set_cons_succ]
            refine wpAnyH_done (by kernel_rfl) ?_ _
            clear c1 c4 H1
            go_upto_region 20 with (fail)
            refine wp_region_held_drew (S := fun v => v.cell? ⟨bx, 1, none⟩ = some (.int .i64 oi) ∧ v.cell? ⟨bx, 4, none⟩ = some (.int .u8 (bb.toNat : Int))) (by kernel_rfl) (⟨cell_of_row v2.drew bx 1 _ 47 (0, 0) H2.out.2, cell_of_row v2.drew bx 4 _ 47 (0, 0) H2.out.2⟩) (fun hHeld => ?_)
            refine wpAnyH_take (i := 1) (oi := ⟨some 85, _, _, _, _, _⟩) (v := ?_) rfl (by kernel_rfl) (by kernel_rfl) (by kernel_rfl) (fun _ _ _ h => h) (Or.inl ⟨by rfl, ?_⟩) (by assumption) ?_
            rotate_left
            · intro w hSw
              (try dsimp only at hSw)
              go_simp
              all_goals (with_reducible rfl)
            try simp only [Act.put, List.setIfInBounds_toArray, List.set_cons_zero, List.set_cons_succ]
            refine wpAnyH_take (i := 2) (oi := ⟨some 86, _, _, _, _, _⟩) (v := ?_) rfl (by kernel_rfl) (by kernel_rfl) (by kernel_rfl) (fun _ _ _ h => h) (Or.inl ⟨by rfl, ?_⟩) (by assumption) ?_
            rotate_left
            · intro w hSw
              (try dsimp only at hSw)
              go_simp
              all_goals (with_reducible rfl)
            try simp only [Act.put, List.setIfInBounds_toArray, List.set_cons_zero, List.set_cons_succ]
            refine wpAnyH_take (i := 3) (oi := ⟨some 87, _, _, _, _, _⟩) (v := ?_) rfl (by kernel_rfl) (by kernel_rfl) (by kernel_rfl) (fun _ _ _ h => h) (Or.inl ⟨by rfl, ?_⟩) (by assumption) ?_
            rotate_left
            · intro w hSw
              (try dsimp only at hSw)
              go_simp
              all_goals (with_reducible rfl)
            try simp only [Act.put, List.setIfInBounds_toArray, List.set_cons_zero, List.set_cons_succ]
            refine wpAnyH_take (i := 4) (oi := ⟨some 88, _, _, _, _, _⟩) (v := ?_) rfl (by kernel_rfl) (by kernel_rfl) (by kernel_rfl) (fun _ _ _ h => h) (Or.inl ⟨by rfl, ?_⟩) (by assumption) ?_
            rotate_left
            · intro w hSw
              (try dsimp only at hSw)
              go_simp
              all_goals (with_reducible rfl)
            try simp only [Act.put, List.setIfInBounds_toArray, List.set_cons_zero, List.set_cons_succ]
            refine wpAnyH_ready (rs := [0, 5]) (by kernel_rfl) (by simp) (AllReadyH.cons (o := ⟨some 84, _, _, _, _, _⟩) rfl (fun K hK => ?_) (AllReadyH.cons (o := ⟨some 89, _, _, _, _, _⟩) rfl (fun K hK => ?_) AllReadyH.nil))
            · have c70 := cell_of_row v2 b7 0 _ 42 (0, 0) H2.out.1.row
              have c71 := cell_of_row v2 b7 1 _ 42 (0, 0) H2.out.1.row
              have c72 := cell_of_row v2 b7 2 _ 42 (0, 0) H2.out.1.row
              simp at c70 c71 c72
              go_simp
              refine hK.out _ _ (⟨cell_of_row v2.drew bx 1 _ 47 (0, 0) H2.out.2, cell_of_row v2.drew bx 4 _ 47 (0, 0) H2.out.2⟩) (fun hHeld => ?_)
              clear hK K
              try simp only [Act.put, List.setIfInBounds_toArray, List.set_cons_zero, List.set_cons_succ]
              clear c70 c71 c72
              refine wpAnyH_ready (rs := [5]) (by kernel_rfl) (by simp) (AllReadyH.cons (o := ⟨some 89, _, _, _, _, _⟩) rfl (fun K hK => ?_) AllReadyH.nil)
              go_simp
              refine (of_any bb _).mono ?_
              rintro e v3 ⟨rfl, hw⟩
              have hb3 : Below v2.heap.size v2 v3 := by rw [hw]; exact (below_drew v2).alloc (Nat.le_refl _) _
              have hr3 : Rd v3 (some ⟨v2.heap.size, 0, none⟩) 64 (ofB bb) := by rw [hw]; exact rd_new v2.drew _ (ofB_len bb) 5
              have H3 := Lib.hid (And.intro (H2.out.1.below hb3) (And.intro (row_below H2.out.2 hb3) hr3))
              clear hw hb3 hr3
              refine hK.out _ _ (⟨cell_of_row v3 bx 1 _ 47 (0, 0) H3.out.2.1, cell_of_row v3 bx 4 _ 47 (0, 0) H3.out.2.1⟩) (fun hHeld => ?_)
              clear hK K
              try simp only [Act.put, List.setIfInBounds_toArray, List.set_cons_zero, List.set_cons_succ]
              refine wpAnyH_ready (rs := [6]) (by kernel_rfl) (by simp) (AllReadyH.cons (o := ⟨some 90, _, _, _, _, _⟩) rfl (fun K hK => ?_) AllReadyH.nil)
              go_simp
              refine (HW.out.2.2 _ _ _ _ _ H3.out.1.rd H3.out.2.2).mono ?_
              rintro e v4 ⟨A', c', rfl, hR, hB4⟩
              have hx4 := row_below H3.out.2.1 hB4
              have hr4 := row_below H3.out.1.row hB4
              have c70 := cell_of_row v4 b7 0 _ 42 (0, 0) hr4
              have c71 := cell_of_row v4 b7 1 _ 42 (0, 0) hr4
              have c72 := cell_of_row v4 b7 2 _ 42 (0, 0) hr4
              simp at c70 c71 c72
              have r70 := frozen_of_row v4 b7 0 _ 42 hr4
              have r71 := frozen_of_row v4 b7 1 _ 42 hr4
              have r72 := frozen_of_row v4 b7 2 _ 42 hr4
              have H4 := Lib.hid (And.intro hx4 (H3.out.1.kept hB4 hR HL.out (c' := c') (by rw [HW.out.1]; exact HS1.out.1)))
              have hset : But [b7] v4 (((v4.setCell ⟨b7, 0, none⟩ (.slice A' S'.n c')).setCell ⟨b7, 1, none⟩ (.int .i64 (lf S'))).setCell ⟨b7, 2, none⟩ (.bool S'.down)) := (((But.refl _ _).setCell (by simp) _).setCell (by simp) _).setCell (by simp) _
              have H5 := Lib.hid (hset.cells hx4 (by simpa using fun e => HN.out.1 e.symm))
              clear hx4 hr4 hR hB4 hset
              refine hK.out _ _ (⟨cell_of_row v4 bx 1 _ 47 (0, 0) H4.out.1, cell_of_row v4 bx 4 _ 47 (0, 0) H4.out.1⟩) (fun hHeld => ?_)
              clear hK K
              try simp only [Act.put, List.setIfInBounds_toArray, List.set_cons_zero, List.set_cons_succ]
              refine wpAnyH_take (i := 7) (oi := ⟨some 83, _, _, _, _, _⟩) (v := ?_) rfl (by kernel_rfl) (by kernel_rfl) (by kernel_rfl) (fun _ _ _ h => h) (Or.inl ⟨by rfl, ?_⟩) (by assumption) ?_
              rotate_left
              · intro w hSw
                (try dsimp only at hSw)
                go_simp
                all_goals (with_reducible rfl)
              try simp only [Act.put, List.setIfInBounds_toArray, List.set_cons_zero, List.set_cons_succ]
              refine wpAnyH_take (i := 8) (oi := ⟨some 91, _, _, _, _, _⟩) (v := ?_) rfl (by kernel_rfl) (by kernel_rfl) (by kernel_rfl) (fun _ _ _ h => h) (Or.inl ⟨by rfl, ?_⟩) (by assumption) ?_
              rotate_left
              · intro w hSw
                (try dsimp only at hSw)
                go_simp
                all_goals (with_reducible rfl)
              try simp only [Act.put, List.setIfInBounds_toArray, List.set_cons_zero, List.set_cons_succ]
              refine wpAnyH_take (i := 9) (oi := ⟨some 92, _, _, _, _, _⟩) (v := ?_) rfl (by kernel_rfl) (by kernel_rfl) (by kernel_rfl) (fun _ _ _ h => h) (Or.inl ⟨by rfl, ?_⟩) (by assumption) ?_
              rotate_left
              · intro w hSw
                (try dsimp only at hSw)
                go_simp
                all_goals (with_reducible rfl)
              try simp only [Act.put, List.setIfInBounds_toArray, List.set_cons_zero, List.set_cons_succ]
              refine wpAnyH_ready (rs := [10]) (by kernel_rfl) (by simp) (AllReadyH.cons (o := ⟨none, _, _, _, _, _⟩) rfl (fun K hK => ?_) AllReadyH.nil)
              go_simp
              refine hK.out _ _ (⟨cell_of_row _ bx 1 _ 47 (0, 0) H5.out, cell_of_row _ bx 4 _ 47 (0, 0) H5.out⟩) (fun hHeld => ?_)
              clear hK K
              try simp only [Act.put, List.setIfInBounds_toArray, List.set_cons_zero, List.set_cons_succ]
              refine wpAnyH_take (i := 11) (oi := ⟨some 12, _, _, _, _, _⟩) (v := ?_) rfl (by kernel_rfl) (by kernel_rfl) (by kernel_rfl) (fun _ _ _ h => h) (Or.inl ⟨by rfl, ?_⟩) (by assumption) ?_
              rotate_left
              · intro w hSw
                (try dsimp only at hSw)
                go_simp
                all_goals (with_reducible rfl)
              try simp only [Act.put, List.setIfInBounds_toArray, List.set_cons_zero, List.set_cons_succ]
              refine wpAnyH_done (by kernel_rfl) ?_ _
              clear c70 c71 c72 r70 r71 r72
              go_wp2
              go_meet
              case rel => exact ⟨r, none, none, 0, 0, 0, [], rfl, rfl, rfl, rfl, Rd.nil _ _, Rd.nil _ _, c2, A', c', S', by rw [HW.out.1]; exact HS1.out.2, H4.out.2⟩
            · go_simp
              refine (of_any bb _).mono ?_
              rintro e v3 ⟨rfl, hw⟩
              have hb3 : Below v2.heap.size v2 v3 := by rw [hw]; exact (below_drew v2).alloc (Nat.le_refl _) _
              have hr3 : Rd v3 (some ⟨v2.heap.size, 0, none⟩) 64 (ofB bb) := by rw [hw]; exact rd_new v2.drew _ (ofB_len bb) 5
              have H3 := Lib.hid (And.intro (H2.out.1.below hb3) (And.intro (row_below H2.out.2 hb3) hr3))
              clear hw hb3 hr3
              refine hK.out _ _ (⟨cell_of_row v3 bx 1 _ 47 (0, 0) H3.out.2.1, cell_of_row v3 bx 4 _ 47 (0, 0) H3.out.2.1⟩) (fun hHeld => ?_)
              clear hK K
              try simp only [Act.put, List.setIfInBounds_toArray, List.set_cons_zero, List.set_cons_succ]
              have c70 := cell_of_row v3 b7 0 _ 42 (0, 0) H3.out.1.row
              have c71 := cell_of_row v3 b7 1 _ 42 (0, 0) H3.out.1.row
              have c72 := cell_of_row v3 b7 2 _ 42 (0, 0) H3.out.1.row
              simp at c70 c71 c72
              refine wpAnyH_ready (rs := [0]) (by kernel_rfl) (by simp) (AllReadyH.cons (o := ⟨some 84, _, _, _, _, _⟩) rfl (fun K hK => ?_) AllReadyH.nil)
              go_simp
              refine hK.out _ _ (⟨cell_of_row v3 bx 1 _ 47 (0, 0) H3.out.2.1, cell_of_row v3 bx 4 _ 47 (0, 0) H3.out.2.1⟩) (fun hHeld => ?_)
              clear hK K
              try simp only [Act.put, List.setIfInBounds_toArray, List.set_cons_zero, List.set_cons_succ]
              clear c70 c71 c72
              refine wpAnyH_ready (rs := [6]) (by kernel_rfl) (by simp) (AllReadyH.cons (o := ⟨some 90, _, _, _, _, _⟩) rfl (fun K hK => ?_) AllReadyH.nil)
              go_simp
              refine (HW.out.2.2 _ _ _ _ _ H3.out.1.rd H3.out.2.2).mono ?_
              rintro e v4 ⟨A', c', rfl, hR, hB4⟩
              have hx4 := row_below H3.out.2.1 hB4
              have hr4 := row_below H3.out.1.row hB4
              have c70 := cell_of_row v4 b7 0 _ 42 (0, 0) hr4
              have c71 := cell_of_row v4 b7 1 _ 42 (0, 0) hr4
              have c72 := cell_of_row v4 b7 2 _ 42 (0, 0) hr4
              simp at c70 c71 c72
              have r70 := frozen_of_row v4 b7 0 _ 42 hr4
              have r71 := frozen_of_row v4 b7 1 _ 42 hr4
              have r72 := frozen_of_row v4 b7 2 _ 42 hr4
              have H4 := Lib.hid (And.intro hx4 (H3.out.1.kept hB4 hR HL.out (c' := c') (by rw [HW.out.1]; exact HS1.out.1)))
              have hset : But [b7] v4 (((v4.setCell ⟨b7, 0, none⟩ (.slice A' S'.n c')).setCell ⟨b7, 1, none⟩ (.int .i64 (lf S'))).setCell ⟨b7, 2, none⟩ (.bool S'.down)) := (((But.refl _ _).setCell (by simp) _).setCell (by simp) _).setCell (by simp) _
              have H5 := Lib.hid (hset.cells hx4 (by simpa using fun e => HN.out.1 e.symm))
              clear hx4 hr4 hR hB4 hset
              refine hK.out _ _ (⟨cell_of_row v4 bx 1 _ 47 (0, 0) H4.out.1, cell_of_row v4 bx 4 _ 47 (0, 0) H4.out.1⟩) (fun hHeld => ?_)
              clear hK K
              try simp only [Act.put, List.setIfInBounds_toArray, List.set_cons_zero, List.set_cons_succ]
              refine wpAnyH_take (i := 7) (oi := ⟨some 83, _, _, _, _, _⟩) (v := ?_) rfl (by kernel_rfl) (by kernel_rfl) (by kernel_rfl) (fun _ _ _ h => h) (Or.inl ⟨by rfl, ?_⟩) (by assumption) ?_
              rotate_left
              · intro w hSw
                (try dsimp only at hSw)
                go_simp
                all_goals (with_reducible rfl)
              try simp only [Act.put, List.setIfInBounds_toArray, List.set_cons_zero, List.set_cons_succ]
              refine wpAnyH_take (i := 8) (oi := ⟨some 91, _, _, _, _, _⟩) (v := ?_) rfl (by kernel_rfl) (by kernel_rfl) (by kernel_rfl) (fun _ _ _ h => h) (Or.inl ⟨by rfl, ?_⟩) (by assumption) ?_
              rotate_left
              · intro w hSw
                (try dsimp only at hSw)
                go_simp
                all_goals (with_reducible rfl)
              try simp only [Act.put, List.setIfInBounds_toArray, List.set_cons_zero, List.set_cons_succ]
              refine wpAnyH_take (i := 9) (oi := ⟨some 92, _, _, _, _, _⟩) (v := ?_) rfl (by kernel_rfl) (by kernel_rfl) (by kernel_rfl) (fun _ _ _ h => h) (Or.inl ⟨by rfl, ?_⟩) (by assumption) ?_
              rotate_left
              · intro w hSw
                (try dsimp only at hSw)
                go_simp
                all_goals (with_reducible rfl)
              try simp only [Act.put, List.setIfInBounds_toArray, List.set_cons_zero, List.set_cons_succ]
              refine wpAnyH_ready (rs := [10]) (by kernel_rfl) (by simp) (AllReadyH.cons (o := ⟨none, _, _, _, _, _⟩) rfl (fun K hK => ?_) AllReadyH.nil)
              go_simp
              refine hK.out _ _ (⟨cell_of_row _ bx 1 _ 47 (0, 0) H5.out, cell_of_row _ bx 4 _ 47 (0, 0) H5.out⟩) (fun hHeld => ?_)
              clear hK K
              try simp only [Act.put, List.setIfInBounds_toArray, List.set_cons_zero, List.set_cons_succ]
              refine wpAnyH_take (i := 11) (oi := ⟨some 12, _, _, _, _, _⟩) (v := ?_) rfl (by kernel_rfl) (by kernel_rfl) (by kernel_rfl) (fun _ _ _ h => h) (Or.inl ⟨by rfl, ?_⟩) (by assumption) ?_
              rotate_left
              · intro w hSw
                (try dsimp only at hSw)
                go_simp
                all_goals (with_reducible rfl)
              try simp only [Act.put, List.setIfInBounds_toArray, List.set_cons_zero, List.set_cons_succ]
              refine wpAnyH_done (by kernel_rfl) ?_ _
              clear c70 c71 c72 r70 r71 r72
              go_wp2
              go_meet
              case rel => exact ⟨r, none, none, 0, 0, 0, [], rfl, rfl, rfl, rfl, Rd.nil _ _, Rd.nil _ _, c2, A', c', S', by rw [HW.out.1]; exact HS1.out.2, H4.out.2⟩
          by_cases h4 : kd = 4
          · subst h4
            have c1 : w5.cell? ⟨bx, 1, none⟩ = some (.int .i64 oi) := cell_of_row w5 bx 1 _ 47 (0, 0) HY.out.2.1
            have c4 : w5.cell? ⟨bx, 4, none⟩ = some (.int .u8 (bb.toNat : Int)) := cell_of_row w5 bx 4 _ 47 (0, 0) HY.out.2.1
            obtain ⟨S', r, hS', hp, hq⟩ := write_both HY.out.1.one.d.ok oi 64 (ofB bb)
            have HW := Lib.hid (And.intro hS' (And.intro hp hq))
            clear hS' hp hq
            go_upto_region 19 with (fail)
            refine wp_region_held_drew (S := fun v => v.cell? ⟨bx, 1, none⟩ = some (.int .i64 oi) ∧ v.cell? ⟨bx, 4, none⟩ = some (.int .u8 (bb.toNat : Int))) (by kernel_rfl) (⟨c1, c4⟩) (fun hHeld => ?_)
            refine wpAnyH_take (i := 0) (oi := ⟨some 76, _, _, _, _, _⟩) (v := ?_) rfl (by kernel_rfl) (by kernel_rfl) (by kernel_rfl) (fun _ _ _ h => h) (Or.inl ⟨by rfl, ?_⟩) (by assumption) ?_
            rotate_left
            · intro w hSw
              (try dsimp only at hSw)
              go_simp
              all_goals (with_reducible rfl)
            try simp only [Act.put, List.setIfInBounds_toArray, List.set_cons_zero, List.set_cons_succ]
            refine wpAnyH_take (i := 1) (oi := ⟨some 77, _, _, _, _, _⟩) (v := ?_) rfl (by kernel_rfl) (by kernel_rfl) (by kernel_rfl) (fun _ _ _ h => h) (Or.inl ⟨by rfl, ?_⟩) (by assumption) ?_
            rotate_left
            · intro w hSw
              (try dsimp only at hSw)
              go_simp
              all_goals (with_reducible rfl)
            try simp only [Act.put, List.setIfInBounds_toArray, List.set_cons_zero, List.set_cons_succ]
            refine wpAnyH_take (i := 2) (oi := ⟨some 78, _, _, _, _, _⟩) (v := ?_) rfl (by kernel_rfl) (by kernel_rfl) (by kernel_rfl) (fun _ _ _ h => h) (Or.inl ⟨by rfl, ?_⟩) (by assumption) ?_
            rotate_left
            · intro w hSw
              (try dsimp only at hSw)
              go_simp
              all_goals (with_reducible rfl)
            try simp only [Act.put, List.setIfInBounds_toArray, List.set_cons_zero, List.set_cons_succ]
            refine wpAnyH_take (i := 3) (oi := ⟨some 79, _, _, _, _, _⟩) (v := ?_) rfl (by kernel_rfl) (by kernel_rfl) (by kernel_rfl) (fun _ _ _ h => h) (Or.inl ⟨by rfl, ?_⟩) (by assumption) ?_
            rotate_left
            · intro w hSw
              (try dsimp only at hSw)
              go_simp
              all_goals (with_reducible rfl)
            try simp only [Act.put, List.setIfInBounds_toArray, List.set_cons_zero, List.set_cons_succ]
            refine wpAnyH_take (i := 4) (oi := ⟨some 80, _, _, _, _, _⟩) (v := ?_) rfl (by kernel_rfl) (by kernel_rfl) (by kernel_rfl) (fun _ _ _ h => h) (Or.inl ⟨by rfl, ?_⟩) (by assumption) ?_
            rotate_left
            · intro w hSw
              (try dsimp only at hSw)
              go_simp
              all_goals (with_reducible rfl)
            try simp only [Act.put, List.setIfInBounds_toArray, List.set_cons_zero, List.set_cons_succ]
            refine wpAnyH_ready (rs := [5]) (by kernel_rfl) (by simp) (AllReadyH.cons (o := ⟨some 81, _, _, _, _, _⟩) rfl (fun K hK => ?_) AllReadyH.nil)
            go_simp
            refine (of_any bb _).mono ?_
            rintro e v1 ⟨rfl, hw⟩
            have hb1 : Below w5.heap.size w5 v1 := by rw [hw]; exact (below_drew w5).alloc (Nat.le_refl _) _
            have hr1 : Rd v1 (some ⟨w5.heap.size, 0, none⟩) 64 (ofB bb) := by rw [hw]; exact rd_new w5.drew _ (ofB_len bb) 5
            have H1 := Lib.hid (And.intro (HY.out.1.below hb1) (And.intro (row_below HY.out.2.1 hb1) hr1))
            clear hw hb1 hr1
            refine hK.out _ _ (⟨cell_of_row v1 bx 1 _ 47 (0, 0) H1.out.2.1, cell_of_row v1 bx 4 _ 47 (0, 0) H1.out.2.1⟩) (fun hHeld => ?_)
            clear hK K
            try simp only [Act.put, List.setIfInBounds_toArray, List.set_cons_zero, List.set_cons_succ]
            refine wpAnyH_ready (rs := [6]) (by kernel_rfl) (by simp) (AllReadyH.cons (o := ⟨some 82, _, _, _, _, _⟩) rfl (fun K hK => ?_) AllReadyH.nil)
            go_simp
            refine (HW.out.2.1 _ _ _ _ _ _ H1.out.1.one.d H1.out.2.2).mono ?_
            rintro e v2 hd
            obtain ⟨c2, rfl, hP2, hbt⟩ := H1.out.1.did hd
            have hx2 := hbt.cells H1.out.2.1 (off_disk H1.out.1.one.d (by decide) H1.out.2.1)
            have H2 := Lib.hid (And.intro hP2 hx2)
            clear hd hP2 hbt hx2
            refine hK.out _ _ (⟨cell_of_row v2 bx 1 _ 47 (0, 0) H2.out.2, cell_of_row v2 bx 4 _ 47 (0, 0) H2.out.2⟩) (fun hHeld => ?_)
            clear hK K
            try simp only [Act.put, List.setIfInBounds_toArray, List.set_cons_zero, List.set_cons_succ]
            refine wpAnyH_take (i := 7) (oi := ⟨some 11, _, _, _, _, _⟩) (v := ?_) rfl (by kernel_rfl) (by kernel_rfl) (by kernel_rfl) (fun _ _ _ h => h) (Or.inl ⟨by rfl, ?_⟩) (by assumption) ?_
            rotate_left
            · intro w hSw
              (try dsimp only at hSw)
              go_simp
              all_goals (with_reducible rfl)
            try simp only [Act.put, List.setIfInBounds_toArray, List.set_cons_zero, List.set_cons_succ]
            refine wpAnyH_done (by kernel_rfl) ?_ _
            clear c1 c4 H1
            go_upto_region 20 with (fail)
            refine wp_region_held_drew (S := fun v => v.cell? ⟨bx, 1, none⟩ = some (.int .i64 oi) ∧ v.cell? ⟨bx, 4, none⟩ = some (.int .u8 (bb.toNat : Int))) (by kernel_rfl) (⟨cell_of_row v2.drew bx 1 _ 47 (0, 0) H2.out.2, cell_of_row v2.drew bx 4 _ 47 (0, 0) H2.out.2⟩) (fun hHeld => ?_)
            refine wpAnyH_take (i := 1) (oi := ⟨some 85, _, _, _, _, _⟩) (v := ?_) rfl (by kernel_rfl) (by kernel_rfl) (by kernel_rfl) (fun _ _ _ h => h) (Or.inl ⟨by rfl, ?_⟩) (by assumption) ?_
            rotate_left
            · intro w hSw
              (try dsimp only at hSw)
              go_simp
              all_goals (with_reducible rfl)
            try simp only [Act.put, List.setIfInBounds_toArray, List.set_cons_zero, List.set_cons_succ]
            refine wpAnyH_take (i := 2) (oi := ⟨some 86, _, _, _, _, _⟩) (v := ?_) rfl (by kernel_rfl) (by kernel_rfl) (by kernel_rfl) (fun _ _ _ h => h) (Or.inl ⟨by rfl, ?_⟩) (by assumption) ?_
            rotate_left
            · intro w hSw
              (try dsimp only at hSw)
              go_simp
              all_goals (with_reducible rfl)
            try simp only [Act.put, List.setIfInBounds_toArray, List.set_cons_zero, List.set_cons_succ]
            refine wpAnyH_take (i := 3) (oi := ⟨some 87, _, _, _, _, _⟩) (v := ?_) rfl (by kernel_rfl) (by kernel_rfl) (by kernel_rfl) (fun _ _ _ h => h) (Or.inl ⟨by rfl, ?_⟩) (by assumption) ?_
            rotate_left
            · intro w hSw
              (try dsimp only at hSw)
              go_simp
              all_goals (with_reducible rfl)
            try simp only [Act.put, List.setIfInBounds_toArray, List.set_cons_zero, List.set_cons_succ]
            refine wpAnyH_take (i := 4) (oi := ⟨some 88, _, _, _, _, _⟩) (v := ?_) rfl (by kernel_rfl) (by kernel_rfl) (by kernel_rfl) (fun _ _ _ h => h) (Or.inl ⟨by rfl, ?_⟩) (by assumption) ?_
            rotate_left
            · intro w hSw
              (try dsimp only at hSw)
              go_simp
              all_goals (with_reducible rfl)
            try simp only [Act.put, List.setIfInBounds_toArray, List.set_cons_zero, List.set_cons_succ]
            refine wpAnyH_ready (rs := [0, 5]) (by kernel_rfl) (by simp) (AllReadyH.cons (o := ⟨some 84, _, _, _, _, _⟩) rfl (fun K hK => ?_) (AllReadyH.cons (o := ⟨some 89, _, _, _, _, _⟩) rfl (fun K hK => ?_) AllReadyH.nil))
            · have c70 := cell_of_row v2 b7 0 _ 42 (0, 0) H2.out.1.row
              have c71 := cell_of_row v2 b7 1 _ 42 (0, 0) H2.out.1.row
              have c72 := cell_of_row v2 b7 2 _ 42 (0, 0) H2.out.1.row
              simp at c70 c71 c72
              go_simp
              refine hK.out _ _ (⟨cell_of_row v2.drew bx 1 _ 47 (0, 0) H2.out.2, cell_of_row v2.drew bx 4 _ 47 (0, 0) H2.out.2⟩) (fun hHeld => ?_)
              clear hK K
              try simp only [Act.put, List.setIfInBounds_toArray, List.set_cons_zero, List.set_cons_succ]
              clear c70 c71 c72
              refine wpAnyH_ready (rs := [5]) (by kernel_rfl) (by simp) (AllReadyH.cons (o := ⟨some 89, _, _, _, _, _⟩) rfl (fun K hK => ?_) AllReadyH.nil)
              go_simp
              refine (of_any bb _).mono ?_
              rintro e v3 ⟨rfl, hw⟩
              have hb3 : Below v2.heap.size v2 v3 := by rw [hw]; exact (below_drew v2).alloc (Nat.le_refl _) _
              have hr3 : Rd v3 (some ⟨v2.heap.size, 0, none⟩) 64 (ofB bb) := by rw [hw]; exact rd_new v2.drew _ (ofB_len bb) 5
              have H3 := Lib.hid (And.intro (H2.out.1.below hb3) (And.intro (row_below H2.out.2 hb3) hr3))
              clear hw hb3 hr3
              refine hK.out _ _ (⟨cell_of_row v3 bx 1 _ 47 (0, 0) H3.out.2.1, cell_of_row v3 bx 4 _ 47 (0, 0) H3.out.2.1⟩) (fun hHeld => ?_)
              clear hK K
              try simp only [Act.put, List.setIfInBounds_toArray, List.set_cons_zero, List.set_cons_succ]
              refine wpAnyH_ready (rs := [6]) (by kernel_rfl) (by simp) (AllReadyH.cons (o := ⟨some 90, _, _, _, _, _⟩) rfl (fun K hK => ?_) AllReadyH.nil)
              go_simp
              refine (HW.out.2.2 _ _ _ _ _ H3.out.1.rd H3.out.2.2).mono ?_
              rintro e v4 ⟨A', c', rfl, hR, hB4⟩
              have hx4 := row_below H3.out.2.1 hB4
              have hr4 := row_below H3.out.1.row hB4
              have c70 := cell_of_row v4 b7 0 _ 42 (0, 0) hr4
              have c71 := cell_of_row v4 b7 1 _ 42 (0, 0) hr4
              have c72 := cell_of_row v4 b7 2 _ 42 (0, 0) hr4
              simp at c70 c71 c72
              have r70 := frozen_of_row v4 b7 0 _ 42 hr4
              have r71 := frozen_of_row v4 b7 1 _ 42 hr4
              have r72 := frozen_of_row v4 b7 2 _ 42 hr4
              have H4 := Lib.hid (And.intro hx4 (H3.out.1.kept hB4 hR HL.out (c' := c') (by rw [HW.out.1]; exact HS1.out.1)))
              have hset : But [b7] v4 (((v4.setCell ⟨b7, 0, none⟩ (.slice A' S'.n c')).setCell ⟨b7, 1, none⟩ (.int .i64 (lf S'))).setCell ⟨b7, 2, none⟩ (.bool S'.down)) := (((But.refl _ _).setCell (by simp) _).setCell (by simp) _).setCell (by simp) _
              have H5 := Lib.hid (hset.cells hx4 (by simpa using fun e => HN.out.1 e.symm))
              clear hx4 hr4 hR hB4 hset
              refine hK.out _ _ (⟨cell_of_row v4 bx 1 _ 47 (0, 0) H4.out.1, cell_of_row v4 bx 4 _ 47 (0, 0) H4.out.1⟩) (fun hHeld => ?_)
              clear hK K
              try simp only [Act.put, List.setIfInBounds_toArray, List.set_cons_zero, List.set_cons_succ]
              refine wpAnyH_take (i := 7) (oi := ⟨some 83, _, _, _, _, _⟩) (v := ?_) rfl (by kernel_rfl) (by kernel_rfl) (by kernel_rfl) (fun _ _ _ h => h) (Or.inl ⟨by rfl, ?_⟩) (by assumption) ?_
              rotate_left
              · intro w hSw
                (try dsimp only at hSw)
                go_simp
                all_goals (with_reducible rfl)
              try simp only [Act.put, List.setIfInBounds_toArray, List.set_cons_zero, List.set_cons_succ]
              refine wpAnyH_take (i := 8) (oi := ⟨some 91, _, _, _, _, _⟩) (v := ?_) rfl (by kernel_rfl) (by kernel_rfl) (by kernel_rfl) (fun _ _ _ h => h) (Or.inl ⟨by rfl, ?_⟩) (by assumption) ?_
              rotate_left
              · intro w hSw
                (try dsimp only at hSw)
                go_simp
                all_goals (with_reducible rfl)
              try simp only [Act.put, List.setIfInBounds_toArray, List.set_cons_zero, List.set_cons_succ]
              refine wpAnyH_take (i := 9) (oi := ⟨some 92, _, _, _, _, _⟩) (v := ?_) rfl (by kernel_rfl) (by kernel_rfl) (by kernel_rfl) (fun _ _ _ h => h) (Or.inl ⟨by rfl, ?_⟩) (by assumption) ?_
              rotate_left
              · intro w hSw
                (try dsimp only at hSw)
                go_simp
                all_goals (with_reducible rfl)
              try simp only [Act.put, List.setIfInBounds_toArray, List.set_cons_zero, List.set_cons_succ]
              refine wpAnyH_ready (rs := [10]) (by kernel_rfl) (by simp) (AllReadyH.cons (o := ⟨none, _, _, _, _, _⟩) rfl (fun K hK => ?_) AllReadyH.nil)
              go_simp
              refine hK.out _ _ (⟨cell_of_row _ bx 1 _ 47 (0, 0) H5.out, cell_of_row _ bx 4 _ 47 (0, 0) H5.out⟩) (fun hHeld => ?_)
              clear hK K
              try simp only [Act.put, List.setIfInBounds_toArray, List.set_cons_zero, List.set_cons_succ]
              refine wpAnyH_take (i := 11) (oi := ⟨some 12, _, _, _, _, _⟩) (v := ?_) rfl (by kernel_rfl) (by kernel_rfl) (by kernel_rfl) (fun _ _ _ h => h) (Or.inl ⟨by rfl, ?_⟩) (by assumption) ?_
              rotate_left
              · intro w hSw
                (try dsimp only at hSw)
                go_simp
                all_goals (with_reducible rfl)
              try simp only [Act.put, List.setIfInBounds_toArray, List.set_cons_zero, List.set_cons_succ]
              refine wpAnyH_done (by kernel_rfl) ?_ _
              clear c70 c71 c72 r70 r71 r72
              go_wp2
              go_meet
              case rel => exact ⟨r, none, none, 0, 0, 0, [], rfl, rfl, rfl, rfl, Rd.nil _ _, Rd.nil _ _, c2, A', c', S', by rw [HW.out.1]; exact HS1.out.2, H4.out.2⟩
            · go_simp
              refine (of_any bb _).mono ?_
              rintro e v3 ⟨rfl, hw⟩
              have hb3 : Below v2.heap.size v2 v3 := by rw [hw]; exact (below_drew v2).alloc (Nat.le_refl _) _
              have hr3 : Rd v3 (some ⟨v2.heap.size, 0, none⟩) 64 (ofB bb) := by rw [hw]; exact rd_new v2.drew _ (ofB_len bb) 5
              have H3 := Lib.hid (And.intro (H2.out.1.below hb3) (And.intro (row_below H2.out.2 hb3) hr3))
              clear hw hb3 hr3
              refine hK.out _ _ (⟨cell_of_row v3 bx 1 _ 47 (0, 0) H3.out.2.1, cell_of_row v3 bx 4 _ 47 (0, 0) H3.out.2.1⟩) (fun hHeld => ?_)
              clear hK K
              try simp only [Act.put, List.setIfInBounds_toArray, List.set_cons_zero, List.set_cons_succ]
              have c70 := cell_of_row v3 b7 0 _ 42 (0, 0) H3.out.1.row
              have c71 := cell_of_row v3 b7 1 _ 42 (0, 0) H3.out.1.row
              have c72 := cell_of_row v3 b7 2 _ 42 (0, 0) H3.out.1.row
              simp at c70 c71 c72
              refine wpAnyH_ready (rs := [0]) (by kernel_rfl) (by simp) (AllReadyH.cons (o := ⟨some 84, _, _, _, _, _⟩) rfl (fun K hK => ?_) AllReadyH.nil)
              go_simp
              refine hK.out _ _ (⟨cell_of_row v3 bx 1 _ 47 (0, 0) H3.out.2.1, cell_of_row v3 bx 4 _ 47 (0, 0) H3.out.2.1⟩) (fun hHeld => ?_)
              clear hK K
              try simp only [Act.put, List.setIfInBounds_toArray, List.set_cons_zero, List.set_cons_succ]
              clear c70 c71 c72
              refine wpAnyH_ready (rs := [6]) (by kernel_rfl) (by simp) (AllReadyH.cons (o := ⟨some 90, _, _, _, _, _⟩) rfl (fun K hK => ?_) AllReadyH.nil)
              go_simp
              refine (HW.out.2.2 _ _ _ _ _ H3.out.1.rd H3.out.2.2).mono ?_
              rintro e v4 ⟨A', c', rfl, hR, hB4⟩
              have hx4 := row_below H3.out.2.1 hB4
              have hr4 := row_below H3.out.1.row hB4
              have c70 := cell_of_row v4 b7 0 _ 42 (0, 0) hr4
              have c71 := cell_of_row v4 b7 1 _ 42 (0, 0) hr4
              have c72 := cell_of_row v4 b7 2 _ 42 (0, 0) hr4
              simp at c70 c71 c72
              have r70 := frozen_of_row v4 b7 0 _ 42 hr4
              have r71 := frozen_of_row v4 b7 1 _ 42 hr4
              have r72 := frozen_of_row v4 b7 2 _ 42 hr4
              have H4 := Lib.hid (And.intro hx4 (H3.out.1.kept hB4 hR HL.out (c' := c') (by rw [HW.out.1]; exact HS1.out.1)))
              have hset : But [b7] v4 (((v4.setCell ⟨b7, 0, none⟩ (.slice A' S'.n c')).setCell ⟨b7, 1, none⟩ (.int .i64 (lf S'))).setCell ⟨b7, 2, none⟩ (.bool S'.down)) := (((But.refl _ _).setCell (by simp) _).setCell (by simp) _).setCell (by simp) _
              have H5 := Lib.hid (hset.cells hx4 (by simpa using fun e => HN.out.1 e.symm))
              clear hx4 hr4 hR hB4 hset
              refine hK.out _ _ (⟨cell_of_row v4 bx 1 _ 47 (0, 0) H4.out.1, cell_of_row v4 bx 4 _ 47 (0, 0) H4.out.1⟩) (fun hHeld => ?_)
              clear hK K
              try simp only [Act.put, List.setIfInBounds_toArray, List.set_cons_zero, List.set_cons_succ]
              refine wpAnyH_take (i := 7) (oi := ⟨some 83, _, _, _, _, _⟩) (v := ?_) rfl (by kernel_rfl) (by kernel_rfl) (by kernel_rfl) (fun _ _ _ h => h) (Or.inl ⟨by rfl, ?_⟩) (by assumption) ?_
              rotate_left
              · intro w hSw
                (try dsimp only at hSw)
                go_simp
                all_goals (with_reducible rfl)
              try simp only [Act.put, List.setIfInBounds_toArray, List.set_cons_zero, List.set_cons_succ]
              refine wpAnyH_take (i := 8) (oi := ⟨some 91, _, _, _, _, _⟩) (v := ?_) rfl (by kernel_rfl) (by kernel_rfl) (by kernel_rfl) (fun _ _ _ h => h) (Or.inl ⟨by rfl, ?_⟩) (by assumption) ?_
              rotate_left
              · intro w hSw
                (try dsimp only at hSw)
                go_simp
                all_goals (with_reducible rfl)
              try simp only [Act.put, List.setIfInBounds_toArray, List.set_cons_zero, List.set_cons_succ]
              refine wpAnyH_take (i := 9) (oi := ⟨some 92, _, _, _, _, _⟩) (v := ?_) rfl (by kernel_rfl) (by kernel_rfl) (by kernel_rfl) (fun _ _ _ h => h) (Or.inl ⟨by rfl, ?_⟩) (by assumption) ?_
              rotate_left
              · intro w hSw
                (try dsimp only at hSw)
                go_simp
                all_goals (with_reducible rfl)
              try simp only [Act.put, List.setIfInBounds_toArray, List.set_cons_zero, List.set_cons_succ]
              refine wpAnyH_ready (rs := [10]) (by kernel_rfl) (by simp) (AllReadyH.cons (o := ⟨none, _, _, _, _, _⟩) rfl (fun K hK => ?_) AllReadyH.nil)
              go_simp
              refine hK.out _ _ (⟨cell_of_row _ bx 1 _ 47 (0, 0) H5.out, cell_of_row _ bx 4 _ 47 (0, 0) H5.out⟩) (fun hHeld => ?_)
              clear hK K
              try simp only [Act.put, List.setIfInBounds_toArray, List.set_cons_zero, List.set_cons_succ]
              refine wpAnyH_take (i := 11) (oi := ⟨some 12, _, _, _, _, _⟩) (v := ?_) rfl (by kernel_rfl) (by kernel_rfl) (by kernel_rfl) (fun _ _ _ h => h) (Or.inl ⟨by rfl, ?_⟩) (by assumption) ?_
              rotate_left
              · intro w hSw
                (try dsimp only at hSw)
                go_simp
                all_goals (with_reducible rfl)
              try simp only [Act.put, List.setIfInBounds_toArray, List.set_cons_zero, List.set_cons_succ]
              refine wpAnyH_done (by kernel_rfl) ?_ _
              clear c70 c71 c72 r70 r71 r72
              go_wp2
              go_meet
              case rel => exact ⟨r, none, none, 0, 0, 0, [], rfl, rfl, rfl, rfl, Rd.nil _ _, Rd.nil _ _, c2, A', c', S', by rw [HW.out.1]; exact HS1.out.2, H4.out.2⟩
          by_cases h5 : kd = 5
          · subst h5
            obtain ⟨S', r, hS', hp, hq⟩ := flush_both HY.out.1.one.d.ok
            have HW := Lib.hid (And.intro hS' (And.intro hp hq))
            clear hS' hp hq
            go_wp2_with fail
            refine (HW.out.2.1 _ _ _ _ HY.out.1.one.d).mono ?_
            rintro e v2 hd
            obtain ⟨cz, rfl, hP2, hbt⟩ := HY.out.1.did hd
            have hx2 := hbt.cells HY.out.2.1 (off_disk HY.out.1.one.d (by decide) HY.out.2.1)
            have H2 := Lib.hid (And.intro hP2 (And.intro hx2 hbt))
            clear hd hP2 hbt hx2
            have c70 := cell_of_row v2 b7 0 _ 42 (0, 0) H2.out.1.row
            have c71 := cell_of_row v2 b7 1 _ 42 (0, 0) H2.out.1.row
            have c72 := cell_of_row v2 b7 2 _ 42 (0, 0) H2.out.1.row
            simp at c70 c71 c72
            go_wp2_with fail
            refine (HW.out.2.2 _ _ _ H2.out.1.rd).mono ?_
            rintro e v4 ⟨A', c', rfl, hR, hB4⟩
            have hr4 := row_below H2.out.1.row hB4
            clear c70 c71 c72
            have c70 := cell_of_row v4 b7 0 _ 42 (0, 0) hr4
            have c71 := cell_of_row v4 b7 1 _ 42 (0, 0) hr4
            have c72 := cell_of_row v4 b7 2 _ 42 (0, 0) hr4
            simp at c70 c71 c72
            have r70 := frozen_of_row v4 b7 0 _ 42 hr4
            have r71 := frozen_of_row v4 b7 1 _ 42 hr4
            have r72 := frozen_of_row v4 b7 2 _ 42 hr4
            have H4 := Lib.hid (H2.out.1.kept hB4 hR HL.out (c' := c') (by rw [HW.out.1]; exact HS1.out.1))
            clear hr4 hR hB4
            go_wp2
            go_meet
            case rel => exact ⟨r, none, none, 0, 0, 0, [], rfl, rfl, rfl, rfl, Rd.nil _ _, Rd.nil _ _, cz, A', c', S', by rw [HW.out.1]; exact HS1.out.2, H4.out⟩
          by_cases h6 : kd = 6
          · subst h6
            obtain ⟨S', r, hS', hp, hq⟩ := flush_both HY.out.1.one.d.ok
            have HW := Lib.hid (And.intro hS' (And.intro hp hq))
            clear hS' hp hq
            go_wp2_with fail
            refine (HW.out.2.1 _ _ _ _ HY.out.1.one.d).mono ?_
            rintro e v2 hd
            obtain ⟨cz, rfl, hP2, hbt⟩ := HY.out.1.did hd
            have hx2 := hbt.cells HY.out.2.1 (off_disk HY.out.1.one.d (by decide) HY.out.2.1)
            have H2 := Lib.hid (And.intro hP2 (And.intro hx2 hbt))
            clear hd hP2 hbt hx2
            have c70 := cell_of_row v2 b7 0 _ 42 (0, 0) H2.out.1.row
            have c71 := cell_of_row v2 b7 1 _ 42 (0, 0) H2.out.1.row
            have c72 := cell_of_row v2 b7 2 _ 42 (0, 0) H2.out.1.row
            simp at c70 c71 c72
            go_wp2_with fail
            refine (HW.out.2.2 _ _ _ H2.out.1.rd).mono ?_
            rintro e v4 ⟨A', c', rfl, hR, hB4⟩
            have hr4 := row_below H2.out.1.row hB4
            clear c70 c71 c72
            have c70 := cell_of_row v4 b7 0 _ 42 (0, 0) hr4
            have c71 := cell_of_row v4 b7 1 _ 42 (0, 0) hr4
            have c72 := cell_of_row v4 b7 2 _ 42 (0, 0) hr4
            simp at c70 c71 c72
            have r70 := frozen_of_row v4 b7 0 _ 42 hr4
            have r71 := frozen_of_row v4 b7 1 _ 42 hr4
            have r72 := frozen_of_row v4 b7 2 _ 42 hr4
            have H4 := Lib.hid (H2.out.1.kept hB4 hR HL.out (c' := c') (by rw [HW.out.1]; exact HS1.out.1))
            clear hr4 hR hB4
            go_wp2
            go_meet
            case rel => exact ⟨r, none, none, 0, 0, 0, [], rfl, rfl, rfl, rfl, Rd.nil _ _, Rd.nil _ _, cz, A', c', S', by rw [HW.out.1]; exact HS1.out.2, H4.out⟩
          by_cases h7 : kd = 7
          · subst h7
            obtain ⟨q, l, r, hp, hq⟩ := read_both (S := S) oi
            have HW := Lib.hid (And.intro hp hq)
            clear hp hq
            have c1 : w5.cell? ⟨bx, 1, none⟩ = some (.int .i64 oi) := cell_of_row w5 bx 1 _ 47 (0, 0) HY.out.2.1
            go_wp2_with fail
            refine (HW.out.1 _ _ _ _ HY.out.1.one.d).mono ?_
            rintro e v2 ⟨X, d, rfl, hr, hB⟩
            have H2 := Lib.hid (And.intro (HY.out.1.below hB) (And.intro (row_below HY.out.2.1 hB) hr))
            clear hr hB c1
            have c70 := cell_of_row v2 b7 0 _ 42 (0, 0) H2.out.1.row
            have c71 := cell_of_row v2 b7 1 _ 42 (0, 0) H2.out.1.row
            have c72 := cell_of_row v2 b7 2 _ 42 (0, 0) H2.out.1.row
            simp at c70 c71 c72
            have c1 : v2.cell? ⟨bx, 1, none⟩ = some (.int .i64 oi) := cell_of_row v2 bx 1 _ 47 (0, 0) H2.out.2.1
            go_wp2_with fail
            refine (HW.out.2 _ _ _ H2.out.1.rd).mono ?_
            rintro e v3 ⟨Y, d', rfl, hr, hB⟩
            have H3 := Lib.hid (And.intro (H2.out.1.below hB) (And.intro (H2.out.2.2.below hB (Nat.le_refl _)) hr))
            clear hr hB c1 c70 c71 c72
            go_wp2
            go_meet
            case rel => exact ⟨r, X, Y, q, d, d', l, rfl, rfl, rfl, rfl, H3.out.2.1, H3.out.2.2, c, A7, c7, S, HS1.out.2, H3.out.1⟩
          by_cases h8 : kd = 8
          · subst h8
            obtain ⟨S', r, hS', hp, hq⟩ := spoil_both HY.out.1.one.d.ok oi oa bb
            have HW := Lib.hid (And.intro hS' (And.intro hp hq))
            clear hS' hp hq
            have c1 : w5.cell? ⟨bx, 1, none⟩ = some (.int .i64 oi) := cell_of_row w5 bx 1 _ 47 (0, 0) HY.out.2.1
            have c2 : w5.cell? ⟨bx, 2, none⟩ = some (.int .i64 oa) := cell_of_row w5 bx 2 _ 47 (0, 0) HY.out.2.1
            have c4 : w5.cell? ⟨bx, 4, none⟩ = some (.int .u8 (bb.toNat : Int)) := cell_of_row w5 bx 4 _ 47 (0, 0) HY.out.2.1
            go_wp2_with fail
            refine (HW.out.2.1 _ _ _ _ HY.out.1.one.d).mono ?_
            rintro e v2 hd
            obtain ⟨cz, rfl, hP2, hbt⟩ := HY.out.1.did hd
            have hx2 := hbt.cells HY.out.2.1 (off_disk HY.out.1.one.d (by decide) HY.out.2.1)
            have H2 := Lib.hid (And.intro hP2 (And.intro hx2 hbt))
            clear hd hP2 hbt hx2
            clear c1 c2 c4
            have c70 := cell_of_row v2 b7 0 _ 42 (0, 0) H2.out.1.row
            have c71 := cell_of_row v2 b7 1 _ 42 (0, 0) H2.out.1.row
            have c72 := cell_of_row v2 b7 2 _ 42 (0, 0) H2.out.1.row
            simp at c70 c71 c72
            have c1 : v2.cell? ⟨bx, 1, none⟩ = some (.int .i64 oi) := cell_of_row v2 bx 1 _ 47 (0, 0) H2.out.2.1
            have c2 : v2.cell? ⟨bx, 2, none⟩ = some (.int .i64 oa) := cell_of_row v2 bx 2 _ 47 (0, 0) H2.out.2.1
            have c4 : v2.cell? ⟨bx, 4, none⟩ = some (.int .u8 (bb.toNat : Int)) := cell_of_row v2 bx 4 _ 47 (0, 0) H2.out.2.1
            go_wp2_with fail
            refine (HW.out.2.2 _ _ _ H2.out.1.rd).mono ?_
            rintro e v4 ⟨A', c', rfl, hR, hB4⟩
            have hr4 := row_below H2.out.1.row hB4
            clear c70 c71 c72
            have c70 := cell_of_row v4 b7 0 _ 42 (0, 0) hr4
            have c71 := cell_of_row v4 b7 1 _ 42 (0, 0) hr4
            have c72 := cell_of_row v4 b7 2 _ 42 (0, 0) hr4
            simp at c70 c71 c72
            have r70 := frozen_of_row v4 b7 0 _ 42 hr4
            have r71 := frozen_of_row v4 b7 1 _ 42 hr4
            have r72 := frozen_of_row v4 b7 2 _ 42 hr4
            have H4 := Lib.hid (H2.out.1.kept hB4 hR HL.out (c' := c') (by rw [HW.out.1]; exact HS1.out.1))
            clear hr4 hR hB4
            clear c1 c2 c4
            go_wp2
            go_meet
            case rel => exact ⟨r, none, none, 0, 0, 0, [], rfl, rfl, rfl, rfl, Rd.nil _ _, Rd.nil _ _, cz, A', c', S', by rw [HW.out.1]; exact HS1.out.2, H4.out⟩
          by_cases h9 : kd = 9
          · subst h9
            obtain ⟨S', hS', hp, hq⟩ := arm_both (S := S) on HY.out.2.2.n
            have HW := Lib.hid (And.intro hS' (And.intro hp hq))
            clear hS' hp hq
            have c3 : w5.cell? ⟨bx, 3, none⟩ = some (.int .i64 on) := cell_of_row w5 bx 3 _ 47 (0, 0) HY.out.2.1
            go_wp2_with fail
            refine (HW.out.2.1 _ _ _ _ HY.out.1.one.d).mono ?_
            rintro e v2 hd
            obtain ⟨cz, rfl, hP2, hbt⟩ := HY.out.1.did hd
            have hx2 := hbt.cells HY.out.2.1 (off_disk HY.out.1.one.d (by decide) HY.out.2.1)
            have H2 := Lib.hid (And.intro hP2 (And.intro hx2 hbt))
            clear hd hP2 hbt hx2
            clear c3
            have c70 := cell_of_row v2 b7 0 _ 42 (0, 0) H2.out.1.row
            have c71 := cell_of_row v2 b7 1 _ 42 (0, 0) H2.out.1.row
            have c72 := cell_of_row v2 b7 2 _ 42 (0, 0) H2.out.1.row
            simp at c70 c71 c72
            have c3 : v2.cell? ⟨bx, 3, none⟩ = some (.int .i64 on) := cell_of_row v2 bx 3 _ 47 (0, 0) H2.out.2.1
            go_wp2_with fail
            refine (HW.out.2.2 _ _ _ H2.out.1.rd).mono ?_
            rintro e v4 ⟨A', c', rfl, hR, hB4⟩
            have hr4 := row_below H2.out.1.row hB4
            clear c70 c71 c72
            have c70 := cell_of_row v4 b7 0 _ 42 (0, 0) hr4
            have c71 := cell_of_row v4 b7 1 _ 42 (0, 0) hr4
            have c72 := cell_of_row v4 b7 2 _ 42 (0, 0) hr4
            simp at c70 c71 c72
            have r70 := frozen_of_row v4 b7 0 _ 42 hr4
            have r71 := frozen_of_row v4 b7 1 _ 42 hr4
            have r72 := frozen_of_row v4 b7 2 _ 42 hr4
            have H4 := Lib.hid (H2.out.1.kept hB4 hR HL.out (c' := c') (by rw [HW.out.1]; exact HS1.out.1))
            clear hr4 hR hB4
            clear c3
            go_wp2
            go_meet
            case rel => exact ⟨0, none, none, 0, 0, 0, [], rfl, rfl, rfl, rfl, Rd.nil _ _, Rd.nil _ _, cz, A', c', S', by rw [HW.out.1]; exact HS1.out.2, H4.out⟩
          by_cases h10 : kd = 10
          · subst h10
            obtain ⟨S', hS', hp, hq⟩ := crash_both HY.out.1.one.d.ok ks
            have HW := Lib.hid (And.intro hS' (And.intro hp hq))
            clear hS' hp hq
            have c5 : w5.cell? ⟨bx, 5, none⟩ = some (.slice A len cap) := cell_of_row w5 bx 5 _ 47 (0, 0) HY.out.2.1
            go_wp2_with fail
            refine (HW.out.2.1 _ _ _ _ _ _ _ HY.out.1.one.d HY.out.2.2.ks HY.out.2.2.len).mono ?_
            rintro e v2 hd
            obtain ⟨cz, rfl, hP2, hbt⟩ := HY.out.1.did hd
            have hx2 := hbt.cells HY.out.2.1 (off_disk HY.out.1.one.d (by decide) HY.out.2.1)
            have H2 := Lib.hid (And.intro hP2 (And.intro hx2 hbt))
            clear hd hP2 hbt hx2
            clear c5
            have c70 := cell_of_row v2 b7 0 _ 42 (0, 0) H2.out.1.row
            have c71 := cell_of_row v2 b7 1 _ 42 (0, 0) H2.out.1.row
            have c72 := cell_of_row v2 b7 2 _ 42 (0, 0) H2.out.1.row
            simp at c70 c71 c72
            have c5 : v2.cell? ⟨bx, 5, none⟩ = some (.slice A len cap) := cell_of_row v2 bx 5 _ 47 (0, 0) H2.out.2.1
            go_wp2_with fail
            refine (HW.out.2.2 _ _ _ _ _ _ H2.out.1.rd (HOK.out.ks.below H2.out.1.bel (Nat.le_refl _)) HY.out.2.2.len).mono ?_
            rintro e v4 ⟨A', c', rfl, hR, hB4⟩
            have hr4 := row_below H2.out.1.row hB4
            clear c70 c71 c72
            have c70 := cell_of_row v4 b7 0 _ 42 (0, 0) hr4
            have c71 := cell_of_row v4 b7 1 _ 42 (0, 0) hr4
            have c72 := cell_of_row v4 b7 2 _ 42 (0, 0) hr4
            simp at c70 c71 c72
            have r70 := frozen_of_row v4 b7 0 _ 42 hr4
            have r71 := frozen_of_row v4 b7 1 _ 42 hr4
            have r72 := frozen_of_row v4 b7 2 _ 42 hr4
            have H4 := Lib.hid (H2.out.1.kept hB4 hR HL.out (c' := c') (by rw [HW.out.1]; exact HS1.out.1))
            clear hr4 hR hB4
            clear c5
            go_wp2
            go_meet
            case rel => exact ⟨0, none, none, 0, 0, 0, [], rfl, rfl, rfl, rfl, Rd.nil _ _, Rd.nil _ _, cz, A', c', S', by rw [HW.out.1]; exact HS1.out.2, H4.out⟩
          by_cases h11 : kd = 11
          · subst h11
            obtain ⟨S', hS', hp, hq⟩ := crash_both HY.out.1.one.d.ok ks
            have HW := Lib.hid (And.intro hS' (And.intro hp hq))
            clear hS' hp hq
            have c5 : w5.cell? ⟨bx, 5, none⟩ = some (.slice A len cap) := cell_of_row w5 bx 5 _ 47 (0, 0) HY.out.2.1
            go_wp2_with fail
            refine (HW.out.2.1 _ _ _ _ _ _ _ HY.out.1.one.d HY.out.2.2.ks HY.out.2.2.len).mono ?_
            rintro e v2 hd
            obtain ⟨cz, rfl, hP2, hbt⟩ := HY.out.1.did hd
            have hx2 := hbt.cells HY.out.2.1 (off_disk HY.out.1.one.d (by decide) HY.out.2.1)
            have H2 := Lib.hid (And.intro hP2 (And.intro hx2 hbt))
            clear hd hP2 hbt hx2
            clear c5
            have c70 := cell_of_row v2 b7 0 _ 42 (0, 0) H2.out.1.row
            have c71 := cell_of_row v2 b7 1 _ 42 (0, 0) H2.out.1.row
            have c72 := cell_of_row v2 b7 2 _ 42 (0, 0) H2.out.1.row
            simp at c70 c71 c72
            have c5 : v2.cell? ⟨bx, 5, none⟩ = some (.slice A len cap) := cell_of_row v2 bx 5 _ 47 (0, 0) H2.out.2.1
            go_wp2_with fail
            refine (HW.out.2.2 _ _ _ _ _ _ H2.out.1.rd (HOK.out.ks.below H2.out.1.bel (Nat.le_refl _)) HY.out.2.2.len).mono ?_
            rintro e v4 ⟨A', c', rfl, hR, hB4⟩
            have hr4 := row_below H2.out.1.row hB4
            clear c70 c71 c72
            have c70 := cell_of_row v4 b7 0 _ 42 (0, 0) hr4
            have c71 := cell_of_row v4 b7 1 _ 42 (0, 0) hr4
            have c72 := cell_of_row v4 b7 2 _ 42 (0, 0) hr4
            simp at c70 c71 c72
            have r70 := frozen_of_row v4 b7 0 _ 42 hr4
            have r71 := frozen_of_row v4 b7 1 _ 42 hr4
            have r72 := frozen_of_row v4 b7 2 _ 42 hr4
            have H4 := Lib.hid (H2.out.1.kept hB4 hR HL.out (c' := c') (by rw [HW.out.1]; exact HS1.out.1))
            clear hr4 hR hB4
            clear c5
            go_wp2
            go_meet
            case rel => exact ⟨0, none, none, 0, 0, 0, [], rfl, rfl, rfl, rfl, Rd.nil _ _, Rd.nil _ _, cz, A', c', S', by rw [HW.out.1]; exact HS1.out.2, H4.out⟩
          by_cases h12 : kd = 12
          · subst h12
            obtain ⟨q, hq⟩ : ∃ q : Nat, max on 0 = (q : Int) := ⟨(max on 0).toNat, by omega⟩
            have hq6 : q ≤ 1000 := by omega
            obtain ⟨S', r, hS', hp, hq'⟩ := write_both HY.out.1.one.d.ok oi q (List.replicate q 0)
            have HW := Lib.hid (And.intro hS' (And.intro hp hq'))
            clear hS' hp hq'
            have c1 : w5.cell? ⟨bx, 1, none⟩ = some (.int .i64 oi) := cell_of_row w5 bx 1 _ 47 (0, 0) HY.out.2.1
            have c3 : w5.cell? ⟨bx, 3, none⟩ = some (.int .i64 on) := cell_of_row w5 bx 3 _ 47 (0, 0) HY.out.2.1
            have hmk := make29 q (by omega) w5
            rw [← hq] at hmk
            have HQ := Lib.hid (And.intro hq hq6)
            clear hq hq6
            have hltx : bx < w5.heap.size := (Array.getElem?_eq_some_iff.1 HY.out.2.1).1
            go_wp2_with fail
            have hb1 : Below w5.heap.size w5 (w5.alloc (.cells (bvs (List.replicate q 0)).toArray 5)) := (Below.refl _ _).alloc (Nat.le_refl _) _
            have hr1 := rd_new w5 (List.replicate q (0 : UInt8)) (n := q) (by simp) 5
            have hz1 := heap_alloc_new w5 (.cells (bvs (List.replicate q (0 : UInt8))).toArray 5)
            have H1 := Lib.hid (And.intro (HY.out.1.below hb1) (And.intro (row_below HY.out.2.1 hb1) (And.intro hr1 hz1)))
            clear hb1 hr1 hz1 c1 c3 hmk hltx
            generalize w5.alloc (.cells (bvs (List.replicate q 0)).toArray 5) = v1 at H1 ⊢
            refine (HW.out.2.1 _ _ _ _ _ _ H1.out.1.one.d H1.out.2.2.1).mono ?_
            rintro e v2 hd
            obtain ⟨cz, rfl, hP2, hbt⟩ := H1.out.1.did hd
            have hx2 := hbt.cells H1.out.2.1 (off_disk H1.out.1.one.d (by decide) H1.out.2.1)
            have hr2 := rd_but H1.out.2.2.1 hbt (fun hk => (disk_kinds H1.out.1.one.d _ hk _).1 H1.out.2.2.2)
            have H2 := Lib.hid (And.intro hP2 (And.intro hx2 hr2))
            clear hd hP2 hbt hx2 hr2
            have c70 := cell_of_row v2 b7 0 _ 42 (0, 0) H2.out.1.row
            have c71 := cell_of_row v2 b7 1 _ 42 (0, 0) H2.out.1.row
            have c72 := cell_of_row v2 b7 2 _ 42 (0, 0) H2.out.1.row
            simp at c70 c71 c72
            have c1 : v2.cell? ⟨bx, 1, none⟩ = some (.int .i64 oi) := cell_of_row v2 bx 1 _ 47 (0, 0) H2.out.2.1
            go_wp2_with fail
            refine (HW.out.2.2 _ _ _ _ _ H2.out.1.rd H2.out.2.2).mono ?_
            rintro e v4 ⟨A', c', rfl, hR, hB4⟩
            have hr4 := row_below H2.out.1.row hB4
            clear c70 c71 c72
            clear c1
            have c70 := cell_of_row v4 b7 0 _ 42 (0, 0) hr4
            have c71 := cell_of_row v4 b7 1 _ 42 (0, 0) hr4
            have c72 := cell_of_row v4 b7 2 _ 42 (0, 0) hr4
            simp at c70 c71 c72
            have r70 := frozen_of_row v4 b7 0 _ 42 hr4
            have r71 := frozen_of_row v4 b7 1 _ 42 hr4
            have r72 := frozen_of_row v4 b7 2 _ 42 hr4
            have H4 := Lib.hid (H2.out.1.kept hB4 hR HL.out (c' := c') (by rw [HW.out.1]; exact HS1.out.1))
            clear hr4 hR hB4
            go_wp2
            go_meet
            case rel => exact ⟨r, none, none, 0, 0, 0, [], rfl, rfl, rfl, rfl, Rd.nil _ _, Rd.nil _ _, cz, A', c', S', by rw [HW.out.1]; exact HS1.out.2, H4.out⟩
          go_wp2
          go_meet
          case rel => exact ⟨0, none, none, 0, 0, 0, [], rfl, rfl, rfl, rfl, Rd.nil _ _, Rd.nil _ _, _, _, _, _, HS1.out.2, HY.out.1⟩
        case rest =>
          obtain ⟨r, X, Y, q, d, d', l, rfl, rfl, rfl, rfl, hX, hY, hP⟩ := hcut.out
          have HC := Lib.hid (And.intro hX (And.intro hY hP))
          clear hX hY hP hcut c0
          go_wp2_with fail
          refine (same_k _ _ _ _ _ _ _ _ _ HC.out.1 HC.out.2.1 (q := true) (beq_self_eq_true _)).mono ?_
          rintro e v ⟨rfl, rfl⟩
          obtain ⟨c2, A2, cc2, S2, hn2, hP2⟩ := HC.out.2.2
          have c70 := cell_of_row wc b7 0 _ 42 (0, 0) hP2.row
          have c71 := cell_of_row wc b7 1 _ 42 (0, 0) hP2.row
          have c72 := cell_of_row wc b7 2 _ 42 (0, 0) hP2.row
          simp at c70 c71 c72
          have H2 := Lib.hid (And.intro hn2 hP2)
          clear hn2 hP2
          go_wp2_with fail
          refine (samedisk _ H2.out.2.one.d H2.out.2.rd rfl).mono ?_
          rintro e v2 ⟨rfl, hB⟩
          have HB := Lib.hid hB
          clear hB c70 c71 c72
          go_wp2
          go_roundw
          case rel => exact ⟨j + 1, by omega, by omega, by go_num, _, _, _, _, H2.out.1, H2.out.2.below HB.out⟩
          case measure => simp [Go.RowKit.intOf]; omega
      · go_wp2_with fail
        refine (awake_any _).mono ?_
        rintro e w3 ⟨rfl, hB⟩
        have HB := Lib.hid hB
        obtain ⟨c, A7, c7, S, hSn, hP⟩ := HR.out
        have HPb := Lib.hid hP.bel
        clear hB hP
        go_wp2
        go_ret
        exact ⟨rfl, HPb.out.trans (HB.out.mono HPb.out.size)⟩
    · go_wp2_with fail
      refine (awake_any _).mono ?_
      rintro e w3 ⟨rfl, hB⟩
      have HB := Lib.hid hB
      obtain ⟨c, A7, c7, S, hSn, hP⟩ := HR.out
      have HPb := Lib.hid hP.bel
      clear hB hP
      go_wp2
      go_ret
      exact ⟨rfl, HPb.out.trans (HB.out.mono HPb.out.size)⟩
theorem plays_law (sn : Int) (F : Option Addr) (mo co : Nat) (os : List OpV) (w : World) (ho : OpsAt w F mo os) (hob : ∀ o ∈ os, -9223372036854775808 ≤ o.i ∧ o.i ≤ 9223372036854775807 ∧ -9223372036854775808 ≤ o.n) (hmo : mo ≤ 9223372036854775807) :
    Calls Try.prog 4 #[.int .i64 sn, .slice F mo co] w (LawP w) := by
  by_cases h1 : 20 < sn
  · exact plays_great sn _ h1 w
  · by_cases h2 : sn < 1
    · exact plays_none sn _ h2 w
    · obtain ⟨n, rfl⟩ := Int.eq_ofNat_of_zero_le (show 0 ≤ sn by omega)
      exact plays_yes n (by omega) (by omega) F mo co os w ho hob hmo
end Go.Proofs.Ytlhhijhmjkgnaaa
