/- The law NetOthers. -/
import Derived.Test.YthhablokbnfpcaaOthD
namespace Go.Proofs.Ythhablokbnfpcaa
open Go.RowKit Go.Coop Go.Maps
set_option maxRecDepth 100000
theorem rowk2 {w w' : World} (hb : Below w.heap.size w w') {b : Nat} {o : Obj} (h : w.heap[b]? = some o) : w'.heap[b]? = some o := (hb.block _ (Array.getElem?_eq_some_iff.1 h).1).trans h
theorem wpList_load {P : Program} {ops : Array Oper} {rest : List Oper} {o : Oper} {a : Act} {w : World} {Q : Exit → Act → World → Prop} (hgd : o.guard = none) (ty : TypeId) (x : Operand) (ho : o.op = .load ty x) (p : Value) (hx : a.eval x = p) (v : Value) (hrun : (Instr.loadAt ty p).run P w = .ok v w)
    (h : wpList P ops Q rest (a.put o.dst v) w) : wpList P ops Q (o :: rest) a w :=
  wpList_plain hgd fun _ hK => by
    unfold Oper.wp execOp
    simp only [ho, hx, Sem.run_bind, hrun, Result.andThen_ok]
    exact hK _ _ h
theorem NetAt.lower {w : World} {B B' g cap c : Nat} {A : Option Addr} {S : NS} (h : NetAt w B' g A cap c S) (hb : B ≤ B') : NetAt w B g A cap c S := by
  obtain ⟨D, hr, hw⟩ := h.raw
  exact ⟨h.ok, D, ⟨Nat.le_trans hb hr.hg, Nat.le_trans hb hr.hc, hr.blk, own34_lower hr.row hb, hr.map⟩, hw⟩
theorem two_new {w w2 : World} {B ga ca gb cb : Nat} {Sa Sb : NS} (ha : Nt w B ga ca Sa) (hb : Below w.heap.size w w2) (h : Nt w2 w.heap.size gb cb Sb) : Two w2 B ga ca Sa gb cb Sb := by
  obtain ⟨h0, Aa, xa, hA, h1⟩ := ha
  obtain ⟨h2, Ab, xb, hB, h3⟩ := h
  refine ⟨Nat.le_trans h0 hb.size, Aa, xa, Ab, xb, h1.below hb, h3.lower h0, fun k k1 k2 => ?_⟩
  have := h1.in_ k k1
  have := h3.lo k k2
  omega
structure NRel (w0 w : World) (ga ca gb cb m : Nat) (Sa Sb : NS) : Prop where
  two : Two w w0.heap.size ga ca Sa gb cb Sb
  oth : Oth m Sa Sb
  bel : Below w0.heap.size w0 w
theorem NRel.below {w0 w w' : World} {ga ca gb cb m : Nat} {Sa Sb : NS} (h : NRel w0 w ga ca gb cb m Sa Sb) (hb : Below w.heap.size w w') : NRel w0 w' ga ca gb cb m Sa Sb := ⟨h.two.below hb, h.oth, h.bel.trans (hb.mono h.bel.size)⟩
theorem Oth.wait_lt {m : Nat} {Sa Sb : NS} (h : Oth m Sa Sb) (k : Int) : Sa.wait k < 256 := by have := NS.wait_le Sa k; have := h.len; omega
theorem Oth.waitb_lt {m : Nat} {Sa Sb : NS} (h : Oth m Sa Sb) (k : Int) : Sb.wait k < 256 := by have := NS.wait_le Sb k; have := h.len; have := h.lenb; omega
set_option maxHeartbeats 6000000 in
theorem others_law (mi : Int) (F : Option Addr) (mo co : Nat) (os : List DeedV) (w : World) (hmi : -9223372036854775808 ≤ mi ∧ mi ≤ 9223372036854775807) (ho : DeedsAt w F mo os) (hm : mo ≤ 9223372036854775807) : Calls Try.prog 8 #[.int .i64 mi, .slice F mo co] w (Awake w) := by
  have HO := Lib.hid ho
  have hmo : (mo : Int) ≤ 9223372036854775807 := by omega
  have HM := Lib.hid hmi
  clear ho hm hmi
  go_enter Try.func8, Try.ntmps8
  go_wp2_with fail
  refine (nt_new _ 5 6 (by decide) (by decide) (by decide) (by decide)).mono ?_
  rintro e w1 ⟨ga, ca, rfl, hN, hb⟩
  have H1 := Lib.hid (And.intro hN hb)
  clear hN hb
  go_wp2_with fail
  refine (nt_new _ 5 6 (by decide) (by decide) (by decide) (by decide)).mono ?_
  rintro e w2 ⟨gb, cb, rfl, hN, hb⟩
  have H2 := Lib.hid (And.intro (two_new H1.out.1 hb hN) (H1.out.2.trans (hb.mono H1.out.2.size)))
  clear hN hb H1
  go_wp2_with fail
  refine (pick_any mi 5 (by decide) (by decide) HM.out _).mono ?_
  rintro e _ ⟨rfl, rfl⟩
  obtain ⟨m, hm⟩ : ∃ m, pk mi 5 = m := ⟨_, rfl⟩
  have hm5 : m < 5 := by rw [← hm]; exact pk_lt _ (by decide)
  rw [hm]
  have h0 : Hid (NRel w w2 ga ca gb cb m (NS.new 5 6) (NS.new 5 6)) := Lib.hid ⟨H2.out.1, Oth.new m, H2.out.2⟩
  have hmi1 : (0 : Int) ≤ (m : Int) := by omega
  have hmi2 : (m : Int) < 5 := by omega
  have HM5 := Lib.hid hm5
  clear H2 hm hm5
  go_wp2
  go_loopw [10] (fun i wr => ∃ (j : Nat) (Sa Sb : NS), j ≤ mo ∧ j ≤ 60 ∧ i = .int .i64 j ∧ Hid (NRel w wr ga ca gb cb m Sa Sb)) (fun i _ => 60 - (Go.RowKit.intOf i).toNat)
  case atStart => exact ⟨0, _, _, by omega, by omega, rfl, h0.out⟩
  case round =>
    obtain ⟨j, Sa, Sb, hj, hj6, rfl, HR⟩ := hrel
    clear h0
    by_cases hjm : j < mo
    · by_cases hj60 : j < 60
      · obtain ⟨o, ad, hoj, hok, rfl, hload⟩ := (DeedsAt.below HO.out HR.out.bel (Nat.le_refl _)).get hjm
        have hok0 := (HO.out.at_ j o hoj).1
        have hij : (0 : Int) ≤ (j : Int) := by omega
        have hjn : (j : Int) < (mo : Int) := by omega
        have hj6i : (j : Int) < 60 := by omega
        have hw1 : IntKind.i64.wrap ((j : Int) + 1) = (j : Int) + 1 := IntWalk.i64_in _ (by omega)
        obtain ⟨q, hq⟩ : ∃ q, min o.n 60 = q := ⟨_, rfl⟩
        have hsl : ∀ v, (Instr.slice 29 (.slice o.X o.n o.c) none (some (.int .i64 (q : Int))) none).run Try.prog v = .ok (.slice o.X q o.c) v := fun v => slice_h29 o.X o.n o.c q (by have := hok.nc; omega) v
        have hmn : (if (60 : Int) < (o.n : Int) then (60 : Int) else (o.n : Int)) = (q : Int) := by split <;> omega
        have hqn : q ≤ o.n ∧ q ≤ 60 := by omega
        obtain ⟨f5, hf5⟩ : ∃ f, pk o.fr 5 = f := ⟨_, rfl⟩
        obtain ⟨t5, ht5⟩ : ∃ f, pk o.tt 5 = f := ⟨_, rfl⟩
        have hf5l : f5 < 5 := by rw [← hf5]; exact pk_lt _ (by decide)
        have ht5l : t5 < 5 := by rw [← ht5]; exact pk_lt _ (by decide)
        obtain ⟨w3, hw3⟩ : ∃ v, wr.alloc (.cells #[.int .u8 o.kd, .int .i64 o.fr, .int .i64 o.tt, .int .i64 o.at_, .slice o.X q o.c] 46) = v := ⟨_, rfl⟩
        have hB3 : Below wr.heap.size wr w3 := hw3 ▸ (Below.refl _ _).alloc (Nat.le_refl _) _
        have hr3 : w3.heap[wr.heap.size]? = some (.cells #[.int .u8 o.kd, .int .i64 o.fr, .int .i64 o.tt, .int .i64 o.at_, .slice o.X q o.c] 46 (0, 0)) := hw3 ▸ heap_alloc_new _ _
        obtain ⟨bx, hbx⟩ : ∃ b, wr.heap.size = b := ⟨_, rfl⟩
        have hrd3 : Rd w3 o.X q (o.l.take q) := (hok.rd.below hB3 (Nat.le_refl _)).take hqn.1
        have hl60 : (o.l.take q).length ≤ 60 := by rw [List.length_take]; omega
        have HRD0 : Hid (Rd w o.X q (o.l.take q)) := Lib.hid ((hok0.rd).take hqn.1)
        have HX := Lib.hid (And.intro hok (And.intro hjm (And.intro hj60 (And.intro hf5l (And.intro ht5l hl60)))))
        have HP := Lib.hid (And.intro hf5 ht5)
        have HW := Lib.hid (And.intro hw3 hbx)
        have H3 := Lib.hid (And.intro (HR.out.below hB3) (And.intro (hbx ▸ hr3) hrd3))
        clear hok hjm hj60 hf5 ht5 hf5l ht5l hw3 hbx hB3 hr3 hq hqn hj hj6 hrd3 hl60 HR hoj hok0
        go_upto_region 11 with (refine wpList_load rfl 46 _ rfl _ rfl _ hload ?_)
        rw [HW.out.1, HW.out.2]
        clear HW hsl hmn hload
        refine wp_region_held_drew (S := fun v => Below w3.heap.size w3 v) (by kernel_rfl) (((Below.refl w3.heap.size w3).drew)) (fun hHeld => ?_)
        refine wpAnyH_take (i := 0) (oi := ⟨some 61, _, _, _, _, _⟩) (v := ?_) rfl (by kernel_rfl) (by kernel_rfl) (by kernel_rfl) (fun _ _ _ h => h) (Or.inl ⟨by rfl, ?_⟩) (by assumption) ?_
        rotate_left
        · intro w hSw
          (try dsimp only at hSw)
          go_simp
          all_goals (with_reducible rfl)
        try simp only [Act.put, List.setIfInBounds_toArray, List.set_cons_zero, List.set_cons_succ]
        refine wpAnyH_take (i := 1) (oi := ⟨some 62, _, _, _, _, _⟩) (v := ?_) rfl (by kernel_rfl) (by kernel_rfl) (by kernel_rfl) (fun _ _ _ h => h) (Or.inl ⟨by rfl, ?_⟩) (by assumption) ?_
        rotate_left
        · intro w hSw
          have cc : w.cell? ⟨bx, 1, none⟩ = some (.int .i64 o.fr) := (cell_of_row _ _ 1 _ 46 (0, 0) (rowk2 hSw H3.out.2.1)).trans rfl
          go_simp
          all_goals (with_reducible rfl)
        try simp only [Act.put, List.setIfInBounds_toArray, List.set_cons_zero, List.set_cons_succ]
        refine wpAnyH_take (i := 3) (oi := ⟨some 64, _, _, _, _, _⟩) (v := ?_) rfl (by kernel_rfl) (by kernel_rfl) (by kernel_rfl) (fun _ _ _ h => h) (Or.inl ⟨by rfl, ?_⟩) (by assumption) ?_
        rotate_left
        · intro w hSw
          (try dsimp only at hSw)
          go_simp
          all_goals (with_reducible rfl)
        try simp only [Act.put, List.setIfInBounds_toArray, List.set_cons_zero, List.set_cons_succ]
        refine wpAnyH_take (i := 4) (oi := ⟨some 65, _, _, _, _, _⟩) (v := ?_) rfl (by kernel_rfl) (by kernel_rfl) (by kernel_rfl) (fun _ _ _ h => h) (Or.inl ⟨by rfl, ?_⟩) (by assumption) ?_
        rotate_left
        · intro w hSw
          have cc : w.cell? ⟨bx, 2, none⟩ = some (.int .i64 o.tt) := (cell_of_row _ _ 2 _ 46 (0, 0) (rowk2 hSw H3.out.2.1)).trans rfl
          go_simp
          all_goals (with_reducible rfl)
        try simp only [Act.put, List.setIfInBounds_toArray, List.set_cons_zero, List.set_cons_succ]
        refine wpAnyH_ready (rs := [2]) (by kernel_rfl) (by simp) (AllReadyH.cons (o := ⟨some 63, _, _, _, _, _⟩) rfl (fun K hK => ?_) AllReadyH.nil)
        go_simp
        refine (pick_any o.fr 5 (by decide) (by decide) HX.out.1.fr _).mono ?_
        rintro e _ ⟨rfl, rfl⟩
        rw [HP.out.1]
        refine hK.out _ _ (((Below.refl w3.heap.size w3).drew)) (fun hHeld => ?_)
        clear hK K
        try simp only [Act.put, List.setIfInBounds_toArray, List.set_cons_zero, List.set_cons_succ]
        refine wpAnyH_ready (rs := [5]) (by kernel_rfl) (by simp) (AllReadyH.cons (o := ⟨some 66, _, _, _, _, _⟩) rfl (fun K hK => ?_) AllReadyH.nil)
        go_simp
        refine (pick_any o.tt 5 (by decide) (by decide) HX.out.1.tt _).mono ?_
        rintro e _ ⟨rfl, rfl⟩
        rw [HP.out.2]
        refine hK.out _ _ (((Below.refl w3.heap.size w3).drew)) (fun hHeld => ?_)
        clear hK K
        try simp only [Act.put, List.setIfInBounds_toArray, List.set_cons_zero, List.set_cons_succ]
        refine wpAnyH_take (i := 6) (oi := ⟨some 12, _, _, _, _, _⟩) (v := ?_) rfl (by kernel_rfl) (by kernel_rfl) (by kernel_rfl) (fun _ _ _ h => h) (Or.inl ⟨by rfl, ?_⟩) (by assumption) ?_
        rotate_left
        · intro w hSw
          (try dsimp only at hSw)
          go_simp
          all_goals (with_reducible rfl)
        try simp only [Act.put, List.setIfInBounds_toArray, List.set_cons_zero, List.set_cons_succ]
        refine wpAnyH_take (i := 7) (oi := ⟨some 13, _, _, _, _, _⟩) (v := ?_) rfl (by kernel_rfl) (by kernel_rfl) (by kernel_rfl) (fun _ _ _ h => h) (Or.inl ⟨by rfl, ?_⟩) (by assumption) ?_
        rotate_left
        · intro w hSw
          (try dsimp only at hSw)
          go_simp
          all_goals (with_reducible rfl)
        try simp only [Act.put, List.setIfInBounds_toArray, List.set_cons_zero, List.set_cons_succ]
        refine wpAnyH_done (by kernel_rfl) ?_ _
        clear hHeld
        obtain ⟨w4, hw4⟩ : ∃ v, w3.drew = v := ⟨_, rfl⟩
        have H4 : Hid (NRel w w4 ga ca gb cb m Sa Sb ∧ w4.heap[bx]? = some (.cells #[.int .u8 o.kd, .int .i64 o.fr, .int .i64 o.tt, .int .i64 o.at_, .slice o.X q o.c] 46 (0, 0)) ∧ Rd w4 o.X q (o.l.take q)) := Lib.hid (hw4 ▸ ⟨H3.out.1.below (by exact ((Below.refl w3.heap.size w3).drew)), rowk2 (by exact ((Below.refl w3.heap.size w3).drew)) H3.out.2.1, H3.out.2.2.below (by exact ((Below.refl w3.heap.size w3).drew)) (Nat.le_refl _)⟩)
        rw [hw4]
        clear hw4 H3 HP
        by_cases h4 : o.kd < 4
        · have h4a : (decide ((4 : Int) ≤ o.kd)) = false := decide_eq_false (by omega)
          have c0 : w4.cell? ⟨bx, 0, none⟩ = some (.int .u8 o.kd) := (cell_of_row _ _ 0 _ 46 (0, 0) H4.out.2.1).trans rfl
          have c3 : w4.cell? ⟨bx, 3, none⟩ = some (.int .i64 o.at_) := (cell_of_row _ _ 3 _ 46 (0, 0) H4.out.2.1).trans rfl
          have c4 : w4.cell? ⟨bx, 4, none⟩ = some (.slice o.X q o.c) := (cell_of_row _ _ 4 _ 46 (0, 0) H4.out.2.1).trans rfl
          have HACT := Lib.hid (H4.out.1.oth.act0 (y := o.kd) (by have := HX.out.1.kd; omega) HX.out.2.2.2.1 HX.out.2.2.2.2.1 o.at_ 0 HX.out.2.2.2.2.2)
          go_wp2_with fail
          refine (deed_is _ H4.out.1.two (by have := H4.out.1.oth.ea; omega) H4.out.1.oth.wait_lt o.kd (f5 : Int) (t5 : Int) o.at_ HX.out.1.kd (by have := HX.out.2.2.2.2.1; omega) H4.out.2.2 o.c).mono ?_
          rintro e v5 ⟨rfl, ht, hb, hk⟩
          have hrow5 := hk.cells _ _ _ _ H4.out.2.1 (by decide) (by decide)
          have H5 := Lib.hid (And.intro ht (And.intro (H4.out.1.bel.trans hb) (And.intro hrow5 (And.intro ((HRD0.out.below (H4.out.1.bel.trans hb) (Nat.le_refl _))) H4.out.1.oth))))
          clear ht hb hk hrow5 c0 c3 c4
          by_cases hab : t5 = m
          · have hact := HACT.out.1 hab
            subst hab
            have c0 : v5.cell? ⟨bx, 0, none⟩ = some (.int .u8 o.kd) := (cell_of_row _ _ 0 _ 46 (0, 0) H5.out.2.2.1).trans rfl
            have c4 : v5.cell? ⟨bx, 4, none⟩ = some (.slice o.X q o.c) := (cell_of_row _ _ 4 _ 46 (0, 0) H5.out.2.2.1).trans rfl
            go_wp2_with fail
            refine (deed_is _ H5.out.1.symm (by have := H5.out.2.2.2.2.eb; omega) H5.out.2.2.2.2.waitb_lt o.kd (f5 : Int) (t5 : Int) 0 HX.out.1.kd (by have := HX.out.2.2.2.2.1; omega) H5.out.2.2.2.1 o.c).mono ?_
            rintro e v6 ⟨rfl, ht, hb, hk⟩
            have hr56 := hact.1
            rw [← hr56]
            have H6 := Lib.hid (And.intro ht.symm (And.intro (H5.out.2.1.trans hb) hact.2))
            clear ht hb hk hr56 hact c0 c4
            go_wp2_with fail
            refine (alike_is _ H6.out.1.left H6.out.1.right H6.out.2.2.h HM5.out).mono ?_
            rintro e v7 ⟨rfl, hb⟩
            have HE : Hid (NRel w v7 ga ca gb cb _ _ _) := Lib.hid (⟨H6.out.1.below hb, H6.out.2.2, H6.out.2.1.trans (hb.mono H6.out.2.1.size)⟩)
            have HJ := Lib.hid (And.intro HX.out.2.1 HX.out.2.2.1)
            clear hb H6 H5
            go_wp2
            go_roundw
            case rel => exact ⟨j + 1, _, _, by have := HJ.out.1; omega, by have := HJ.out.2; omega, by go_num, HE.out⟩
            case measure => have := HJ.out; simp [Go.RowKit.intOf]; omega
          · have hact := HACT.out.2 hab
            have hai : ¬ (t5 : Int) = (m : Int) := by omega
            have HA2 := Lib.hid hact
            clear hact
            go_wp2_with fail
            refine (alike_is _ H5.out.1.left H5.out.1.right HA2.out.h HM5.out).mono ?_
            rintro e v7 ⟨rfl, hb⟩
            have HE : Hid (NRel w v7 ga ca gb cb _ _ _) := Lib.hid (⟨H5.out.1.below hb, HA2.out, H5.out.2.1.trans (hb.mono H5.out.2.1.size)⟩)
            have HJ := Lib.hid (And.intro HX.out.2.1 HX.out.2.2.1)
            clear hb H5
            go_wp2
            go_roundw
            case rel => exact ⟨j + 1, _, _, by have := HJ.out.1; omega, by have := HJ.out.2; omega, by go_num, HE.out⟩
            case measure => have := HJ.out; simp [Go.RowKit.intOf]; omega
        by_cases h6 : 6 < o.kd
        · have h6a : ¬ o.kd ≤ 6 := by omega
          have h4b : (4 : Int) ≤ o.kd := by omega
          have c0 : w4.cell? ⟨bx, 0, none⟩ = some (.int .u8 o.kd) := (cell_of_row _ _ 0 _ 46 (0, 0) H4.out.2.1).trans rfl
          have c3 : w4.cell? ⟨bx, 3, none⟩ = some (.int .i64 o.at_) := (cell_of_row _ _ 3 _ 46 (0, 0) H4.out.2.1).trans rfl
          have c4 : w4.cell? ⟨bx, 4, none⟩ = some (.slice o.X q o.c) := (cell_of_row _ _ 4 _ 46 (0, 0) H4.out.2.1).trans rfl
          have HACT := Lib.hid (H4.out.1.oth.act0 (y := o.kd) (by have := HX.out.1.kd; omega) HX.out.2.2.2.1 HX.out.2.2.2.2.1 o.at_ 0 HX.out.2.2.2.2.2)
          go_wp2_with fail
          refine (deed_is _ H4.out.1.two (by have := H4.out.1.oth.ea; omega) H4.out.1.oth.wait_lt o.kd (f5 : Int) (t5 : Int) o.at_ HX.out.1.kd (by have := HX.out.2.2.2.2.1; omega) H4.out.2.2 o.c).mono ?_
          rintro e v5 ⟨rfl, ht, hb, hk⟩
          have hrow5 := hk.cells _ _ _ _ H4.out.2.1 (by decide) (by decide)
          have H5 := Lib.hid (And.intro ht (And.intro (H4.out.1.bel.trans hb) (And.intro hrow5 (And.intro ((HRD0.out.below (H4.out.1.bel.trans hb) (Nat.le_refl _))) H4.out.1.oth))))
          clear ht hb hk hrow5 c0 c3 c4
          by_cases hab : t5 = m
          · have hact := HACT.out.1 hab
            subst hab
            have c0 : v5.cell? ⟨bx, 0, none⟩ = some (.int .u8 o.kd) := (cell_of_row _ _ 0 _ 46 (0, 0) H5.out.2.2.1).trans rfl
            have c4 : v5.cell? ⟨bx, 4, none⟩ = some (.slice o.X q o.c) := (cell_of_row _ _ 4 _ 46 (0, 0) H5.out.2.2.1).trans rfl
            go_wp2_with fail
            refine (deed_is _ H5.out.1.symm (by have := H5.out.2.2.2.2.eb; omega) H5.out.2.2.2.2.waitb_lt o.kd (f5 : Int) (t5 : Int) 0 HX.out.1.kd (by have := HX.out.2.2.2.2.1; omega) H5.out.2.2.2.1 o.c).mono ?_
            rintro e v6 ⟨rfl, ht, hb, hk⟩
            have hr56 := hact.1
            rw [← hr56]
            have H6 := Lib.hid (And.intro ht.symm (And.intro (H5.out.2.1.trans hb) hact.2))
            clear ht hb hk hr56 hact c0 c4
            go_wp2_with fail
            refine (alike_is _ H6.out.1.left H6.out.1.right H6.out.2.2.h HM5.out).mono ?_
            rintro e v7 ⟨rfl, hb⟩
            have HE : Hid (NRel w v7 ga ca gb cb _ _ _) := Lib.hid (⟨H6.out.1.below hb, H6.out.2.2, H6.out.2.1.trans (hb.mono H6.out.2.1.size)⟩)
            have HJ := Lib.hid (And.intro HX.out.2.1 HX.out.2.2.1)
            clear hb H6 H5
            go_wp2
            go_roundw
            case rel => exact ⟨j + 1, _, _, by have := HJ.out.1; omega, by have := HJ.out.2; omega, by go_num, HE.out⟩
            case measure => have := HJ.out; simp [Go.RowKit.intOf]; omega
          · have hact := HACT.out.2 hab
            have hai : ¬ (t5 : Int) = (m : Int) := by omega
            have HA2 := Lib.hid hact
            clear hact
            go_wp2_with fail
            refine (alike_is _ H5.out.1.left H5.out.1.right HA2.out.h HM5.out).mono ?_
            rintro e v7 ⟨rfl, hb⟩
            have HE : Hid (NRel w v7 ga ca gb cb _ _ _) := Lib.hid (⟨H5.out.1.below hb, HA2.out, H5.out.2.1.trans (hb.mono H5.out.2.1.size)⟩)
            have HJ := Lib.hid (And.intro HX.out.2.1 HX.out.2.2.1)
            clear hb H5
            go_wp2
            go_roundw
            case rel => exact ⟨j + 1, _, _, by have := HJ.out.1; omega, by have := HJ.out.2; omega, by go_num, HE.out⟩
            case measure => have := HJ.out; simp [Go.RowKit.intOf]; omega
        have h4b : (4 : Int) ≤ o.kd := by omega
        have h6b : o.kd ≤ 6 := by omega
        have c0 : w4.cell? ⟨bx, 0, none⟩ = some (.int .u8 o.kd) := (cell_of_row _ _ 0 _ 46 (0, 0) H4.out.2.1).trans rfl
        have c3 : w4.cell? ⟨bx, 3, none⟩ = some (.int .i64 o.at_) := (cell_of_row _ _ 3 _ 46 (0, 0) H4.out.2.1).trans rfl
        cases hl : Sa.look o.at_ with
        | none =>
          have HL := Lib.hid hl
          clear hl
          go_wp2_with fail
          refine (nt_look _ H4.out.1.two.left o.at_ HL.out).mono ?_
          rintro e w5 ⟨X2, cx2, rfl, ⟨rfl, rfl⟩, hb⟩
          dsimp only [nod, Option.getD, Option.isSome, List.length]
          have HE : Hid (NRel w (w5.alloc (.cells #[.int .i64 0, .int .i64 0, .slice none 0 0] 34)) ga ca gb cb _ _ _) := Lib.hid ((H4.out.1.below hb).below ((Below.refl _ _).alloc (Nat.le_refl _) _))
          have HJ := Lib.hid (And.intro HX.out.2.1 HX.out.2.2.1)
          clear hb H4 c0 c3
          go_wp2
          go_roundw
          case rel => exact ⟨j + 1, _, _, by have := HJ.out.1; omega, by have := HJ.out.2; omega, by go_num, HE.out⟩
          case measure => have := HJ.out; simp [Go.RowKit.intOf]; omega
        | some d =>
          obtain ⟨z1, z2, z3⟩ := NS.look_lt hl
          obtain ⟨i0, hi0⟩ : ∃ i0 : Nat, o.at_ = (i0 : Int) := ⟨o.at_.toNat, by omega⟩
          have z4 : Sa.heap[i0]? = some d := by rw [hi0] at z3; exact z3
          have z5 : i0 < 30 := by have := (List.getElem?_eq_some_iff.1 z4).1; have := H4.out.1.oth.len; omega
          have HL := Lib.hid (And.intro hl (And.intro hi0 (And.intro z4 z5)))
          clear hl z1 z2 z3 z4 hi0
          go_wp2_with fail
          refine (nt_look _ H4.out.1.two.left o.at_ HL.out.1).mono ?_
          rintro e w5 ⟨X2, cx2, rfl, hT, hb⟩
          dsimp only [Option.getD, Option.isSome]
          obtain ⟨t, ht⟩ : ∃ t, d.to = t := ⟨_, rfl⟩
          obtain ⟨f, hf⟩ : ∃ t, d.fr = t := ⟨_, rfl⟩
          rw [ht, hf]
          obtain ⟨w6, hw6⟩ : ∃ v, w5.alloc (.cells #[.int .i64 (f : Int), .int .i64 (t : Int), .slice X2 d.b.length cx2] 34) = v := ⟨_, rfl⟩
          have hB6 : Below w5.heap.size w5 w6 := hw6 ▸ (Below.refl _ _).alloc (Nat.le_refl _) _
          have hr6 : w6.heap[w5.heap.size]? = some (.cells #[.int .i64 (f : Int), .int .i64 (t : Int), .slice X2 d.b.length cx2] 34 (0, 0)) := hw6 ▸ heap_alloc_new _ _
          obtain ⟨⟨k0, k1, k2⟩, _, _, _⟩ := three hr6
          have hb46 : Below w4.heap.size w4 w6 := hb.trans (hB6.mono hb.size)
          have H6 := Lib.hid (And.intro (H4.out.1.below hb46) (And.intro (rowk2 hb46 H4.out.2.1) (And.intro (H4.out.2.2.below hb46 (Nat.le_refl _)) ht)))
          have HT6 := Lib.hid hr6
          clear hT hb hB6 hb46 hr6 ht hf H4 c0 c3
          skip
          have c3 : w6.cell? ⟨bx, 3, none⟩ = some (.int .i64 o.at_) := (cell_of_row _ _ 3 _ 46 (0, 0) H6.out.2.1).trans rfl
          go_wp2
          go_loopw [14, 18] (fun kv jv wq => ∃ (p kk : Nat), p ≤ i0 ∧ jv = .int .i64 p ∧ kv = .int .i64 kk ∧ Hid (kk = (mineF m (Sa.heap.take p)).length ∧ Below w6.heap.size w6 wq)) (fun _ jv _ => i0 - (Go.RowKit.intOf jv).toNat)
          case atStart => exact ⟨0, 0, by omega, rfl, rfl, rfl, Below.refl _ _⟩
          case round =>
            obtain ⟨p, kk, hp, rfl, rfl, HB⟩ := hrel
            clear c3 k0 k1 k2
            have hkp : kk ≤ p := by rw [HB.out.1]; exact Nat.le_trans (List.length_filter_le _ _) (List.length_take_le _ _)
            have H7 := Lib.hid (And.intro (H6.out.1.below HB.out.2) (And.intro (rowk2 HB.out.2 H6.out.2.1) (H6.out.2.2.1.below HB.out.2 (Nat.le_refl _))))
            have c3 : wr.cell? ⟨bx, 3, none⟩ = some (.int .i64 (i0 : Int)) := by
              have := (cell_of_row _ _ 3 _ 46 (0, 0) H7.out.2.1).trans rfl
              rw [← HL.out.2.1]
              exact this
            by_cases hpi : p < i0
            · have hp1 : (0 : Int) ≤ (p : Int) := by omega
              have hp2 : (p : Int) < (i0 : Int) := by omega
              have hp3 : (p : Int) < 30 := by omega
              have hk1 : (0 : Int) ≤ (kk : Int) := by omega
              have hk2 : (kk : Int) < 30 := by omega
              have hw2 : IntKind.i64.wrap ((p : Int) + 1) = (p : Int) + 1 := IntWalk.i64_in _ (by omega)
              have hw3' : IntKind.i64.wrap ((kk : Int) + 1) = (kk : Int) + 1 := IntWalk.i64_in _ (by omega)
              obtain ⟨dp, hdp⟩ : ∃ dp, Sa.heap[p]? = some dp := ⟨_, List.getElem?_eq_getElem (by have := (List.getElem?_eq_some_iff.1 HL.out.2.2.1).1; omega)⟩
              have HP := Lib.hid (And.intro hdp hpi)
              clear hdp hpi hp hkp
              go_wp2_with fail
              refine (nt_look _ H7.out.1.two.left (p : Int) (o := some dp) (by rw [NS.look_at]; exact HP.out.1)).mono ?_
              rintro e w8 ⟨X3, cx3, rfl, hT, hb⟩
              dsimp only [Option.getD, Option.isSome]
              obtain ⟨tp, htp⟩ : ∃ t, dp.to = t := ⟨_, rfl⟩
              obtain ⟨fp, hfp⟩ : ∃ t, dp.fr = t := ⟨_, rfl⟩
              rw [htp, hfp]
              obtain ⟨w9, hw9⟩ : ∃ v, w8.alloc (.cells #[.int .i64 (fp : Int), .int .i64 (tp : Int), .slice X3 dp.b.length cx3] 34) = v := ⟨_, rfl⟩
              have hB9 : Below w8.heap.size w8 w9 := hw9 ▸ (Below.refl _ _).alloc (Nat.le_refl _) _
              have hr9 : w9.heap[w8.heap.size]? = some (.cells #[.int .i64 (fp : Int), .int .i64 (tp : Int), .slice X3 dp.b.length cx3] 34 (0, 0)) := hw9 ▸ heap_alloc_new _ _
              obtain ⟨⟨k0, k1, k2⟩, _, _, _⟩ := three hr9
              have H9 := Lib.hid (And.intro (HB.out.2.trans ((hb.mono HB.out.2.size).trans (hB9.mono (Nat.le_trans HB.out.2.size hb.size)))) (And.intro htp HB.out.1))
              have HR9 := Lib.hid hr9
              clear hT hb hB9 hr9 htp hfp H7 c3
              by_cases htm : tp = m
              · subst htm
                have HE : Hid (kk + 1 = (mineF tp (Sa.heap.take (p + 1))).length ∧ Below w6.heap.size w6 w9) := Lib.hid ⟨by rw [List.take_add_one, HP.out.1, mineF_append, List.length_append, ← H9.out.2.2]; simp [mineF, H9.out.2.1], H9.out.1⟩
                have HJ := Lib.hid HP.out.2
                clear HP H9
                go_wp2
                go_roundw
                case rel => exact ⟨p + 1, kk + 1, by have := HJ.out; omega, by go_num, by go_num, HE.out⟩
                case measure => have := HJ.out; simp [Go.RowKit.intOf]; omega
              · have htn : ¬ (tp : Int) = (m : Int) := by omega
                have HE : Hid (kk = (mineF m (Sa.heap.take (p + 1))).length ∧ Below w6.heap.size w6 w9) := Lib.hid ⟨by rw [List.take_add_one, HP.out.1, mineF_append, List.length_append, ← H9.out.2.2]; simp [mineF, H9.out.2.1, htm], H9.out.1⟩
                have HJ := Lib.hid HP.out.2
                clear HP H9
                go_wp2
                go_roundw
                case rel => exact ⟨p + 1, kk, by have := HJ.out; omega, by go_num, rfl, HE.out⟩
                case measure => have := HJ.out; simp [Go.RowKit.intOf]; omega
            · obtain rfl : p = i0 := by omega
              have HK := Lib.hid (And.intro HB.out.1 H6.out.2.2.2)
              clear HB H6 hpi hp hkp c3
              have hge : ¬ ((p : Int) < o.at_) := by rw [HL.out.2.1]; omega
              have c0 : wr.cell? ⟨bx, 0, none⟩ = some (.int .u8 o.kd) := (cell_of_row _ _ 0 _ 46 (0, 0) H7.out.2.1).trans rfl
              have c3 : wr.cell? ⟨bx, 3, none⟩ = some (.int .i64 o.at_) := (cell_of_row _ _ 3 _ 46 (0, 0) H7.out.2.1).trans rfl
              have c4 : wr.cell? ⟨bx, 4, none⟩ = some (.slice o.X q o.c) := (cell_of_row _ _ 4 _ 46 (0, 0) H7.out.2.1).trans rfl
              have HACT := Lib.hid ((by have h := H7.out.1.oth.act1 (y := o.kd) ⟨h4b, h6b⟩ (f5 : Int) (t5 : Int) HL.out.2.2.1 (o.l.take q); rw [← HK.out.1, HK.out.2, ← HL.out.2.1] at h; exact h))
              go_wp2_with fail
              refine (deed_is _ H7.out.1.two (by have := H7.out.1.oth.ea; omega) H7.out.1.oth.wait_lt o.kd (f5 : Int) (t5 : Int) o.at_ HX.out.1.kd (by have := HX.out.2.2.2.2.1; omega) H7.out.2.2 o.c).mono ?_
              rintro e v5 ⟨rfl, ht, hb, hk⟩
              have hrow5 := hk.cells _ _ _ _ H7.out.2.1 (by decide) (by decide)
              have H5 := Lib.hid (And.intro ht (And.intro (H7.out.1.bel.trans hb) (And.intro hrow5 (And.intro ((HRD0.out.below (H7.out.1.bel.trans hb) (Nat.le_refl _))) H7.out.1.oth))))
              clear ht hb hk hrow5 c0 c3 c4
              by_cases hab : t = m
              · have hact := HACT.out.1 hab
                subst hab
                have c0 : v5.cell? ⟨bx, 0, none⟩ = some (.int .u8 o.kd) := (cell_of_row _ _ 0 _ 46 (0, 0) H5.out.2.2.1).trans rfl
                have c4 : v5.cell? ⟨bx, 4, none⟩ = some (.slice o.X q o.c) := (cell_of_row _ _ 4 _ 46 (0, 0) H5.out.2.2.1).trans rfl
                go_wp2_with fail
                refine (deed_is _ H5.out.1.symm (by have := H5.out.2.2.2.2.eb; omega) H5.out.2.2.2.2.waitb_lt o.kd (f5 : Int) (t5 : Int) (kk : Int) HX.out.1.kd (by have := HX.out.2.2.2.2.1; omega) H5.out.2.2.2.1 o.c).mono ?_
                rintro e v6 ⟨rfl, ht, hb, hk⟩
                have hr56 := hact.1
                rw [← hr56]
                have H6 := Lib.hid (And.intro ht.symm (And.intro (H5.out.2.1.trans hb) hact.2))
                clear ht hb hk hr56 hact c0 c4
                go_wp2_with fail
                refine (alike_is _ H6.out.1.left H6.out.1.right H6.out.2.2.h HM5.out).mono ?_
                rintro e v7 ⟨rfl, hb⟩
                have HE : Hid (NRel w v7 ga ca gb cb _ _ _) := Lib.hid (⟨H6.out.1.below hb, H6.out.2.2, H6.out.2.1.trans (hb.mono H6.out.2.1.size)⟩)
                have HJ := Lib.hid (And.intro HX.out.2.1 HX.out.2.2.1)
                clear hb H6 H5
                go_wp2
                go_roundw
                case rel => exact ⟨j + 1, _, _, by have := HJ.out.1; omega, by have := HJ.out.2; omega, by go_num, HE.out⟩
                case measure => have := HJ.out; simp [Go.RowKit.intOf]; omega
              · have hact := HACT.out.2 hab
                have hai : ¬ (t : Int) = (m : Int) := by omega
                have HA2 := Lib.hid hact
                clear hact
                go_wp2_with fail
                refine (alike_is _ H5.out.1.left H5.out.1.right HA2.out.h HM5.out).mono ?_
                rintro e v7 ⟨rfl, hb⟩
                have HE : Hid (NRel w v7 ga ca gb cb _ _ _) := Lib.hid (⟨H5.out.1.below hb, HA2.out, H5.out.2.1.trans (hb.mono H5.out.2.1.size)⟩)
                have HJ := Lib.hid (And.intro HX.out.2.1 HX.out.2.2.1)
                clear hb H5
                go_wp2
                go_roundw
                case rel => exact ⟨j + 1, _, _, by have := HJ.out.1; omega, by have := HJ.out.2; omega, by go_num, HE.out⟩
                case measure => have := HJ.out; simp [Go.RowKit.intOf]; omega
      · obtain rfl : j = 60 := by omega
        have hjn : ((60 : Nat) : Int) < (mo : Int) := by omega
        have HE := Lib.hid HR.out.bel
        clear HR hjm hj60 hj hj6
        go_wp2_with fail
        refine (awake_is _).mono ?_
        rintro e wz ⟨rfl, hz⟩
        have HZ := Lib.hid hz
        clear hz
        go_wp2
        go_ret
        exact ⟨rfl, HE.out.trans (HZ.out.mono HE.out.size)⟩
    · obtain rfl : j = mo := by omega
      have HE := Lib.hid HR.out.bel
      clear HR hjm hj hj6
      go_wp2_with fail
      refine (awake_is _).mono ?_
      rintro e wz ⟨rfl, hz⟩
      have HZ := Lib.hid hz
      clear hz
      go_wp2
      go_ret
      exact ⟨rfl, HE.out.trans (HZ.out.mono HE.out.size)⟩
end Go.Proofs.Ythhablokbnfpcaa
