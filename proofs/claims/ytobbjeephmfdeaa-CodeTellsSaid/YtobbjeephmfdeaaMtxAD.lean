/- The reference's elimination. -/
import Derived.Test.YtobbjeephmfdeaaMtxAC
import Derived.Deep.CutRange
namespace Go.Proofs.Ytobbjeephmfdeaa
open Go.RowKit Go.Coop
set_option maxRecDepth 100000

theorem Two.congr {s : Nat} {w : World} {ga gb n k : Nat} {F G F' G' : Fn2} {ra rb : Nat → Nat} (h : Two s w ga gb n k F G ra rb) (e : ∀ a b, a < n → b < k → F a b = F' a b) (e' : ∀ a b, a < n → b < k → G a b = G' a b) : Two s w ga gb n k F' G' ra rb :=
  ⟨h.oa, h.ob, fun i hi => by obtain ⟨cr, h1, h2⟩ := h.ca i hi; exact ⟨cr, h1, fun j hj => by rw [← e i j hi hj]; exact h2 j hj⟩, fun i hi => by obtain ⟨cr, h1, h2⟩ := h.cb i hi; exact ⟨cr, h1, fun j hj => by rw [← e' i j hi hj]; exact h2 j hj⟩, h.ia, h.ib, h.ab, h.gg, h.lo⟩
theorem Two.drew {s : Nat} {w : World} {ga gb n k : Nat} {F G : Fn2} {ra rb : Nat → Nat} (h : Two s w ga gb n k F G ra rb) : Two s w.drew ga gb n k F G ra rb := ⟨h.oa, h.ob, h.ca, h.cb, h.ia, h.ib, h.ab, h.gg, h.lo⟩
theorem Two.mr {s : Nat} {w : World} {ga gb n k : Nat} {F G : Fn2} {ra rb : Nat → Nat} (h : Two s w ga gb n k F G ra rb) : MR w (some ⟨ga, 0, none⟩) n (tabM n k F) := by
  obtain ⟨co, h1, h2⟩ := h.oa
  have hsz : ∀ i, i < n → i < co.size := fun i hi => by obtain ⟨d, h3⟩ := h2 i hi; exact (Array.getElem?_eq_some_iff.1 h3).1
  refine ⟨tabM_len _ _ _, co.toList.take n, ⟨?_, fun hn => ⟨⟨ga, 0, none⟩, rfl, heap_lt h1, fun j v hj => ?_⟩⟩, fun i r hi => ?_⟩
  · rw [List.length_take]
    by_cases hn : n = 0
    · omega
    · have := hsz (n - 1) (by omega)
      simp
      omega
  · rw [List.getElem?_take] at hj
    split at hj
    · rw [add_zero_off, cell_of_row _ ga j _ 31 (0, 0) h1]
      simpa using hj
    · cases hj
  · have hin : i < n := by have := (List.getElem?_eq_some_iff.1 hi).1; rwa [tabM_len] at this
    rw [tabM_at k F hin] at hi
    injection hi with hi
    subst hi
    obtain ⟨d, h3⟩ := h2 i hin
    refine ⟨some ⟨ra i, 0, none⟩, d, ?_, ?_⟩
    · rw [List.getElem?_take, if_pos hin, rowL_len]
      simpa using h3
    · rw [rowL_len]
      exact h.rd hin
theorem sw_comm (p q a : Nat) : sw p q a = sw q p a := by
  unfold sw
  by_cases e1 : a = p
  · by_cases e2 : a = q
    · rw [if_pos e1, if_pos e2, ← e1, ← e2]
    · rw [if_pos e1, if_neg e2, if_pos e1]
  · by_cases e2 : a = q
    · rw [if_neg e1, if_pos e2, if_pos e2]
    · rw [if_neg e1, if_neg e2, if_neg e2, if_neg e1]
/-- a row times c, as far as column t -/
def scaled (led c t : Nat) (F : Fn2) : Fn2 := fun a b => if a = led ∧ b < t then lay1 c 0 (F led b) else F a b
theorem scaled_lead {n k led first c : Nat} {F : Fn2} : ∀ a b, a < n → b < k → scaled led c k (fun a => F (sw first led a)) a b = lead1 F led first c a b := fun a b _ hb => by
  have e : sw first led led = first := by rw [sw_comm]; unfold sw; simp
  unfold scaled lead1
  by_cases h : a = led
  · rw [if_pos ⟨h, hb⟩, if_pos h]
    show lay1 c 0 (F (sw first led led) b) = _
    rw [e]
  · rw [if_neg (fun x => h x.1), if_neg h, sw_comm]
theorem scaled_step {led c t : Nat} {F : Fn2} : (fun a b => if a = led ∧ b = t then UInt8.ofNat (mul c (F led t).toNat) else scaled led c t F a b) = scaled led c (t + 1) F := by
  funext a b
  unfold scaled
  by_cases h : a = led ∧ b = t
  · rw [if_pos h, if_pos ⟨h.1, by omega⟩, h.2]
    apply UInt8.toNat_inj.1
    rw [lay1_nat, UInt8.toNat_ofNat', Nat.mod_eq_of_lt (mul_lt _ _)]
    simp
  · rw [if_neg h]
    by_cases h2 : a = led ∧ b < t
    · rw [if_pos h2, if_pos ⟨h2.1, by omega⟩]
    · rw [if_neg h2, if_neg (by omega)]
theorem red_full {n q : Nat} {s : Fn2 × Fn2 × Nat} (h : (red n q s).2.2 = n) : ∀ k, q ≤ k → red n k s = red n q s := by
  intro k hk
  induction k with
  | zero => rw [show q = 0 from by omega]
  | succ k ih =>
    by_cases e : q = k + 1
    · rw [e]
    · have := ih (by omega)
      show stepCol n k (red n k s) = _
      rw [this]
      unfold stepCol
      rw [h, Nat.sub_self]
      simp [seek]
theorem onto_at (U : Fn2) (i lead y a b : Nat) : (fun a : Nat => if a = i then (fun jj => lay1 y (U i jj) (U lead jj)) else U a) a b = onto U i lead y a b := by
  unfold onto
  show (if a = i then (fun jj => lay1 y (U i jj) (U lead jj)) else U a) b = _
  by_cases e : a = i
  · rw [if_pos e, if_pos e]
  · rw [if_neg e, if_neg e]
def Main (w0 : World) (ga gb n k : Nat) (F G : Fn2) (vl vj : Value) (wr : World) : Prop := ∃ (j lead : Nat) (F' G' : Fn2) (ra rb : Nat → Nat), j ≤ k ∧ vj = .int .i64 j ∧ vl = .int .i64 lead ∧ lead ≤ n ∧ Hid (red n j (F, G, 0) = (F', G', lead)) ∧ Hid (Two w0.heap.size wr ga gb n k F' G' ra rb) ∧ Hid (Below w0.heap.size w0 wr)
def Scale (w0 : World) (ga gb n k led c : Nat) (F G : Fn2) (ra rb : Nat → Nat) (v : Value) (wr : World) : Prop := ∃ t : Nat, t ≤ k ∧ v = .int .i64 t ∧ Hid (Two w0.heap.size wr ga gb n k (scaled led c t F) G ra rb) ∧ Hid (Below w0.heap.size w0 wr)
def Elim (w0 : World) (ga gb n k j led : Nat) (F G : Fn2) (v : Value) (wr : World) : Prop := ∃ (i : Nat) (ra rb : Nat → Nat), i ≤ n ∧ v = .int .i64 i ∧ Hid (Two w0.heap.size wr ga gb n k (elimTo j led i (F, G)).1 (elimTo j led i (F, G)).2 ra rb) ∧ Hid (Below w0.heap.size w0 wr)
def Making (w0 : World) (k n : Nat) (F G : Fn2) (va vb vi : Value) (wr : World) : Prop := ∃ (q : Nat) (A B : Option Addr) (c c' : Nat) (ra da rb db : Nat → Nat), q ≤ n ∧ vi = .int .i64 q ∧ va = .slice A q c ∧ vb = .slice B q c' ∧ Hid (Copies wr w0.heap.size q k F G A B c c' ra da rb db) ∧ Hid (Below w0.heap.size w0 wr)
def Stepped (w : World) (n k : Nat) (F G : Fn2) (e : Ending) (w' : World) : Prop :=
  ∃ (A B : Option Addr) (c c' : Nat), e = .returned (.tuple #[.slice A n c, .slice B n c', .int .i64 (rankF n k F G : Int)]) ∧ MR w' B n (tabM n k (besF n k F G)) ∧ Below w.heap.size w w'
theorem copies_step {wr w1 w2 : World} {s q k c c' c2 e1 N : Nat} {F G : Fn2} {A B A2 : Option Addr} {ra da rb db : Nat → Nat} {x1 : Nat} (h : Copies wr s q k F G A B c c' ra da rb db) (hs : s ≤ wr.heap.size) (hk : 1 ≤ k)
    (hb : Below wr.heap.size wr w1) (hx : Own w1 wr.heap.size 5 (some ⟨x1, 0, none⟩) k e1 (rowL k (F q))) (hN : N = q + 1) (ho : OwnV w2 s 31 A2 N c2 (rowsV q k ra da ++ [.slice (some ⟨x1, 0, none⟩) k e1])) (hg : w1.grownBy w2 (A.map (·.block))) (hat : A2.map (·.block) = A.map (·.block) ∨ A2.map (·.block) = some w1.heap.size) :
    Half w2 s (q + 1) k A2 c2 F (upd ra q x1) (upd da q e1) ∧ Half w2 s q k B c' G rb db ∧ (B.map (·.block) = none ∨ B.map (·.block) ≠ A2.map (·.block)) ∧ (∀ i j, i < q + 1 → j < q → upd ra q x1 i ≠ rb j) := by
  have ha1 := h.a.below hb (Nat.le_refl _)
  have hb1 := h.b.below hb (Nat.le_refl _)
  refine ⟨h.a.grow hb hs hx hN ho hg hk, hb1.other ha1 hg h.ne, ?_, fun i j hi hj => ?_⟩
  · rcases h.ne with e | e
    · exact .inl e
    · rcases hat with e2 | e2
      · rw [e2]; exact .inr e
      · refine .inr ?_
        rw [e2]
        intro e3
        have := (hb1.own.block _ e3).2
        omega
  · have := h.b.lt hj
    have := (own_lt hx rfl).1
    unfold upd
    split
    · omega
    · exact h.ab i j (by omega) hj
theorem copies_step2 {wr w1 w2 : World} {s q k c c' c2 e1 N : Nat} {F G : Fn2} {A B B2 : Option Addr} {ra da rb db : Nat → Nat} {x1 : Nat} (hA : Half wr s (q + 1) k A c F ra da) (hB : Half wr s q k B c' G rb db) (hne : B.map (·.block) = none ∨ B.map (·.block) ≠ A.map (·.block)) (hab : ∀ i j, i < q + 1 → j < q → ra i ≠ rb j) (hs : s ≤ wr.heap.size) (hk : 1 ≤ k)
    (hb : Below wr.heap.size wr w1) (hx : Own w1 wr.heap.size 5 (some ⟨x1, 0, none⟩) k e1 (rowL k (G q))) (hN : N = q + 1) (ho : OwnV w2 s 31 B2 N c2 (rowsV q k rb db ++ [.slice (some ⟨x1, 0, none⟩) k e1])) (hg : w1.grownBy w2 (B.map (·.block))) (hat : B2.map (·.block) = B.map (·.block) ∨ B2.map (·.block) = some w1.heap.size) :
    Copies w2 s (q + 1) k F G A B2 c c2 ra da (upd rb q x1) (upd db q e1) := by
  have ha1 := hA.below hb (Nat.le_refl _)
  have hb1 := hB.below hb (Nat.le_refl _)
  obtain ⟨ga, rfl, _, hgal, _⟩ := ha1.own.addr (by omega)
  have hne' : (some (⟨ga, 0, none⟩ : Addr)).map (·.block) ≠ B.map (·.block) := by
    rcases hne with e | e
    · rw [e]; intro e; cases e
    · exact fun x => e x.symm
  refine ⟨ha1.other hb1 hg (.inr hne'), hB.grow hb hs hx hN ho hg hk, fun i j hi hj => ?_, .inr ?_⟩
  · have := hA.lt hi
    have := (own_lt hx rfl).1
    unfold upd
    split
    · omega
    · exact hab i j hi (by omega)
  · rcases hat with e2 | e2
    · rw [e2]; exact fun x => hne' x.symm
    · rw [e2]
      intro e3
      injection e3 with e3
      have e4 : w1.heap.size = ga := e3
      omega

set_option maxHeartbeats 8000000 in
set_option maxRecDepth 100000 in
theorem steps_any (A0 : Option Addr) (n c0 k : Nat) (F : Fn2) (B0 : Option Addr) (d0 : Nat) (G : Fn2) (w : World) (h : MR w A0 n (tabM n k F)) (h' : MR w B0 n (tabM n k G)) (hn1 : 1 ≤ n) (hn2 : n ≤ 255) (hk1 : 1 ≤ k) (hk2 : k ≤ 255) :
    Calls Try.prog 84 #[.slice A0 n c0, .slice B0 n d0] w (Stepped w n k F G) := by
  have HM := Lib.hid h
  have HN := Lib.hid h'
  clear h h'
  go_enter Try.func84, Try.ntmps84
  go_wp2
  go_loopw [7, 8, 9] (fun va vb vi wr => Making w k n F G va vb vi wr) (fun _ _ i _ => n - (intOf i).toNat)
  case atStart => exact ⟨0, none, none, 0, 0, id, id, id, id, by omega, rfl, rfl, rfl, ⟨⟨OwnV.nil _ _ _, fun i hi => by omega, fun i hi => by omega, fun i j hi => by omega⟩, ⟨OwnV.nil _ _ _, fun i hi => by omega, fun i hi => by omega, fun i j hi => by omega⟩, fun i j hi => by omega, .inl rfl⟩, Below.refl _ _⟩
  case round =>
    obtain ⟨q, A, B, c, c', ra, da, rb, db, hq, rfl, rfl, rfl, HC, HB⟩ := hrel
    by_cases hlt : q < n
    · obtain ⟨ad, Bm, dm, rfl, _, hcm, hrm⟩ := (HM.out.below HB.out (Nat.le_refl _)).tab hlt
      obtain ⟨bd, Bb, db', rfl, hbdl, hcb, _⟩ := HN.out.tab hlt
      have HRM := Lib.hid hrm
      have HCB := Lib.hid (And.intro hcb hbdl)
      have HNq : Hid (∀ w', Below w.heap.size w w' → w'.cell? (bd.add q) = some (.slice Bb k db') ∧ Rd w' Bb k (rowL k (G q))) := by
        intro w' hw
        obtain ⟨bd2, B2, d2, e, _, h1, h2⟩ := (HN.out.below hw (Nat.le_refl _)).tab hlt
        injection e with e
        subst e
        have h3 := (hw.cell (p := bd.add q) (by rw [addr_add_block]; exact hbdl)).trans hcb
        rw [h3] at h1
        injection h1 with h1
        injection h1 with e1 _ e3
        subst e1 e3
        exact ⟨h3, h2⟩
      have hbs := HB.out.size
      have hqn : (q : Int) < n := by omega
      clear hrm hcb hbdl
      go_wp2_with (at_builtin; first
        | (refine wpList_app _ rfl (.tmp 27) (.tmp 31) _ rfl wr.heap.size 5 Try.underlying31 info5 (A := none) (n := 0) (c := 0) rfl (Own.nil _ _ _) rfl HRM.out (by omega) (Nat.le_refl _) k (by omega) ?_; intro X1 e1 w1 ho hg _; obtain ⟨x1, rfl, _⟩ := ho.addr (by omega); have HO1 : Hid (Own w1 wr.heap.size 5 (some ⟨x1, 0, none⟩) k e1 (rowL k (F q))) := (by show Own _ _ _ _ _ _ _; exact ho); have HG1 : Hid (Below wr.heap.size wr w1) := ((Below.refl _ _).grown hg (Nat.le_refl _) (by simp)); have hz1 := HG1.out.size; clear ho hg)
        | (refine wpList_appV _ rfl (.tmp 26) (.tmp 33) _ rfl w.heap.size 31 (.slice none 0 0) 24 Try.underlying47 info31 rfl rfl ((HC.out.a.below HG1.out (Nat.le_refl _)).alloc _).own rfl (RdV.one _ _ _ _) (by intro u hu; simp at hu; subst hu; rfl) (by omega) (by omega) (by rw [size_alloc]; omega) (q + 1) rfl ?_; intro A2 c2 w2 ho2 hg2 hat2; have HS := Lib.hid (copies_step HC.out hbs hk1 (HG1.out.alloc hz1 _) (HO1.out.alloc _) rfl ho2 hg2 hat2); have HB2 : Hid (Below w.heap.size w w2) := (((HB.out.trans (HG1.out.mono hbs)).alloc (by omega) _).grown hg2 (by rw [size_alloc]; omega) (fun p hp => (HC.out.a.own.block p hp).1)); have hz2 := HB2.out.size; have HNN := Lib.hid (HNq.out w2 HB2.out); have hcb2 := HNN.out.1; clear ho2 hg2 hat2)
        | (refine wpList_app _ rfl (.tmp 36) (.tmp 40) _ rfl w2.heap.size 5 Try.underlying31 info5 (A := none) (n := 0) (c := 0) rfl (Own.nil _ _ _) rfl HNN.out.2 (by omega) (Nat.le_refl _) k (by omega) ?_; intro X3 e3 w3 ho hg _; obtain ⟨x3, rfl, _⟩ := ho.addr (by omega); have HO3 : Hid (Own w3 w2.heap.size 5 (some ⟨x3, 0, none⟩) k e3 (rowL k (G q))) := (by show Own _ _ _ _ _ _ _; exact ho); have HG3 : Hid (Below w2.heap.size w2 w3) := ((Below.refl _ _).grown hg (Nat.le_refl _) (by simp)); have hz3 := HG3.out.size; clear ho hg)
        | (refine wpList_appV _ rfl (.tmp 35) (.tmp 42) _ rfl w.heap.size 31 (.slice none 0 0) 24 Try.underlying47 info31 rfl rfl ((HS.out.2.1.below HG3.out (Nat.le_refl _)).alloc _).own rfl (RdV.one _ _ _ _) (by intro u hu; simp at hu; subst hu; rfl) (by omega) (by omega) (by rw [size_alloc]; omega) (q + 1) rfl ?_; intro A4 c4 w4 ho4 hg4 hat4; have HC4 := Lib.hid (copies_step2 HS.out.1 HS.out.2.1 HS.out.2.2.1 HS.out.2.2.2 hz2 hk1 (HG3.out.alloc hz3 _) (HO3.out.alloc _) rfl ho4 hg4 hat4); have HB4 : Hid (Below w.heap.size w w4) := (((HB2.out.trans (HG3.out.mono hz2)).alloc (by omega) _).grown hg4 (by rw [size_alloc]; omega) (fun p hp => (HS.out.2.1.own.block p hp).1)); clear ho4 hg4 hat4))
      go_roundw
      case rel => exact ⟨q + 1, A2, A4, c2, c4, _, _, _, _, by omega, by go_num, rfl, rfl, HC4.out, HB4.out⟩
      case measure => simp [intOf]; omega
    · obtain rfl : q = n := by omega
      obtain ⟨ga, gb, rfl, rfl, hga, hgb, hT⟩ := HC.out.two hn1
      have HT := Lib.hid hT
      clear hT HC HM HN
      obtain ⟨n, rfl⟩ : ∃ n, n = q := ⟨_, rfl⟩
      go_wp2_with fail
      go_loopw [12, 13] (fun vl vj wr => Main w ga gb n k F G vl vj wr) (fun _ vj _ => k - (intOf vj).toNat)
      case atStart => exact ⟨0, 0, F, G, ra, rb, by omega, rfl, rfl, by omega, rfl, HT.out, HB.out⟩
      case round =>
        clear HT HB
        clear ra rb
        obtain ⟨j, lead, F', G', ra, rb, hj, rfl, rfl, hled, HR, HT, HB⟩ := hrel
        have hn0 : (0 : Int) < n := by omega
        have hn0' : 0 < n := by omega
        obtain ⟨d0, hc0, _⟩ := HT.out.cell (show 0 < n by omega)
        by_cases hbody : j < k ∧ lead < n
        · obtain ⟨hjk, hlead⟩ := hbody
          go_wp2_with fail
          go_loop [14] (fun v => ∃ f : Nat, lead ≤ f ∧ f ≤ n ∧ v = .int .i64 f ∧ Hid (∀ a, lead ≤ a → a < f → F' a j = 0)) (fun v => n - (intOf v).toNat)
          case atStart => exact ⟨lead, Nat.le_refl _, hled, rfl, fun a h1 h2 => by omega⟩
          case round =>
            obtain ⟨f, hlf, hfn', rfl, HZ⟩ := hrel
            by_cases hfn : f < n
            · obtain ⟨df, hcf, _⟩ := HT.out.cell hfn
              obtain ⟨hel, _⟩ := HT.out.elem hfn hjk
              by_cases hz : F' f j = 0
              · have hel0 : wr.cell? ⟨ra f, j, none⟩ = some (.int .u8 0) := by rw [hel, hz]; rfl
                clear hel
                go_wp2
                go_round
                case rel => exact ⟨f + 1, by omega, by omega, by go_num, fun a h1 h2 => by by_cases e : a = f; rw [e]; exact hz; exact HZ.out a h1 (by omega)⟩
                case measure => simp [intOf]; omega
              · have hx1 := byte_ne hz
                have hx2 := UInt8.toNat_lt (F' f j)
                obtain ⟨x, hx⟩ : ∃ x, (F' f j).toNat = x := ⟨_, rfl⟩
                rw [hx] at hel hx1 hx2
                have hq2 : ((x : Int) == 0) = false := beq_eq_false_iff_ne.2 (by omega)
                have hq3 : ((f : Int) == (n : Int)) = false := beq_eq_false_iff_ne.2 (by omega)
                have HXX := Lib.hid hx
                clear hx
                go_upto_region 16 with (fail)
                skip
                obtain ⟨d1, hc1, hz1⟩ := (HT.out).cell hlead
                obtain ⟨d2, hc2, hz2⟩ := (HT.out).cell hfn
                have HCC := Lib.hid (And.intro hc1 (And.intro hc2 (And.intro hz1 hz2)))
                clear hc1 hc2 hz1 hz2
                go_cut [] from 44 to 208 (fun wc => ∃ (F1 : Fn2) (ra1 : Nat → Nat), Hid (F1 = fun a => F' (sw f lead a)) ∧ Hid (Two w.heap.size wc ga gb n k F1 G' ra1 rb) ∧ Hid (Below w.heap.size w wc))
                case first =>
                  refine wp_region_held_drew (S := fun _ => True) (by kernel_rfl) (trivial) (fun hHeld => ?_)
                  refine wpAnyH_take (i := 0) (oi := ⟨some 79, _, _, _, _, _⟩) (v := ?_) rfl (by kernel_rfl) (by kernel_rfl) (by kernel_rfl) (fun _ _ _ h => h) (Or.inl ⟨by rfl, ?_⟩) (by assumption) ?_
                  rotate_left
                  · intro w hSw
                    skip
                    go_simp
                    all_goals (with_reducible rfl)
                  try simp only [Act.put, List.setIfInBounds_toArray, List.set_cons_zero, List.set_cons_succ]
                  refine wpAnyH_take (i := 1) (oi := ⟨some 80, _, _, _, _, _⟩) (v := ?_) rfl (by kernel_rfl) (by kernel_rfl) (by kernel_rfl) (fun _ _ _ h => h) (Or.inl ⟨by rfl, ?_⟩) (by assumption) ?_
                  rotate_left
                  · intro w hSw
                    skip
                    go_simp
                    all_goals (with_reducible rfl)
                  try simp only [Act.put, List.setIfInBounds_toArray, List.set_cons_zero, List.set_cons_succ]
                  refine wpAnyH_take (i := 2) (oi := ⟨some 81, _, _, _, _, _⟩) (v := ?_) rfl (by kernel_rfl) (by kernel_rfl) (by kernel_rfl) (fun _ _ _ h => h) (Or.inl ⟨by rfl, ?_⟩) (by assumption) ?_
                  rotate_left
                  · intro w hSw
                    skip
                    go_simp
                    all_goals (with_reducible rfl)
                  try simp only [Act.put, List.setIfInBounds_toArray, List.set_cons_zero, List.set_cons_succ]
                  refine wpAnyH_take (i := 3) (oi := ⟨some 82, _, _, _, _, _⟩) (v := ?_) rfl (by kernel_rfl) (by kernel_rfl) (by kernel_rfl) (fun _ _ _ h => h) (Or.inl ⟨by rfl, ?_⟩) (by assumption) ?_
                  rotate_left
                  · intro w hSw
                    skip
                    go_simp
                    all_goals (with_reducible rfl)
                  try simp only [Act.put, List.setIfInBounds_toArray, List.set_cons_zero, List.set_cons_succ]
                  refine wpAnyH_take (i := 4) (oi := ⟨some 83, _, _, _, _, _⟩) (v := ?_) rfl (by kernel_rfl) (by kernel_rfl) (by kernel_rfl) (fun _ _ _ h => h) (Or.inl ⟨by rfl, ?_⟩) (by assumption) ?_
                  rotate_left
                  · intro w hSw
                    skip
                    go_simp
                    all_goals (with_reducible rfl)
                  try simp only [Act.put, List.setIfInBounds_toArray, List.set_cons_zero, List.set_cons_succ]
                  refine wpAnyH_take (i := 5) (oi := ⟨some 84, _, _, _, _, _⟩) (v := ?_) rfl (by kernel_rfl) (by kernel_rfl) (by kernel_rfl) (fun _ _ _ h => h) (Or.inl ⟨by rfl, ?_⟩) (by assumption) ?_
                  rotate_left
                  · intro w hSw
                    skip
                    go_simp
                    all_goals (with_reducible rfl)
                  try simp only [Act.put, List.setIfInBounds_toArray, List.set_cons_zero, List.set_cons_succ]
                  refine wpAnyH_take (i := 6) (oi := ⟨some 85, _, _, _, _, _⟩) (v := ?_) rfl (by kernel_rfl) (by kernel_rfl) (by kernel_rfl) (fun _ _ _ h => h) (Or.inl ⟨by rfl, ?_⟩) (by assumption) ?_
                  rotate_left
                  · intro w hSw
                    skip
                    go_simp
                    all_goals (with_reducible rfl)
                  try simp only [Act.put, List.setIfInBounds_toArray, List.set_cons_zero, List.set_cons_succ]
                  refine wpAnyH_take (i := 8) (oi := ⟨some 87, _, _, _, _, _⟩) (v := ?_) rfl (by kernel_rfl) (by kernel_rfl) (by kernel_rfl) (fun _ _ _ h => h) (Or.inl ⟨by rfl, ?_⟩) (by assumption) ?_
                  rotate_left
                  · intro w hSw
                    skip
                    go_simp
                    all_goals (with_reducible rfl)
                  try simp only [Act.put, List.setIfInBounds_toArray, List.set_cons_zero, List.set_cons_succ]
                  refine wpAnyH_take (i := 9) (oi := ⟨some 88, _, _, _, _, _⟩) (v := ?_) rfl (by kernel_rfl) (by kernel_rfl) (by kernel_rfl) (fun _ _ _ h => h) (Or.inl ⟨by rfl, ?_⟩) (by assumption) ?_
                  rotate_left
                  · intro w hSw
                    skip
                    go_simp
                    all_goals (with_reducible rfl)
                  try simp only [Act.put, List.setIfInBounds_toArray, List.set_cons_zero, List.set_cons_succ]
                  refine wpAnyH_take (i := 10) (oi := ⟨some 89, _, _, _, _, _⟩) (v := ?_) rfl (by kernel_rfl) (by kernel_rfl) (by kernel_rfl) (fun _ _ _ h => h) (Or.inl ⟨by rfl, ?_⟩) (by assumption) ?_
                  rotate_left
                  · intro w hSw
                    skip
                    go_simp
                    all_goals (with_reducible rfl)
                  try simp only [Act.put, List.setIfInBounds_toArray, List.set_cons_zero, List.set_cons_succ]
                  have hc1 : wr.drew.cell? ⟨ga, lead, none⟩ = some (.slice (some ⟨ra lead, 0, none⟩) k d1) := HCC.out.1
                  have hc2 : wr.drew.cell? ⟨ga, f, none⟩ = some (.slice (some ⟨ra f, 0, none⟩) k d2) := HCC.out.2.1
                  have hz1 : wr.drew.frozen? ⟨ga, lead, none⟩ = false := HCC.out.2.2.1
                  have hz2 : wr.drew.frozen? ⟨ga, f, none⟩ = false := HCC.out.2.2.2
                  have hc10 := HCC.out.1
                  have hc20 := HCC.out.2.1
                  refine wpAnyH_ready (rs := [7, 11]) (by kernel_rfl) (by simp) (AllReadyH.cons (o := ⟨some 86, _, _, _, _, _⟩) rfl (fun K hK => ?_) (AllReadyH.cons (o := ⟨some 90, _, _, _, _, _⟩) rfl (fun K hK => ?_) AllReadyH.nil))
                  · go_simp
                    refine hK.out _ _ trivial (fun hHeld => ?_)
                    clear hK K
                    try simp only [Act.put, List.setIfInBounds_toArray, List.set_cons_zero, List.set_cons_succ]
                    refine wpAnyH_ready (rs := [11]) (by kernel_rfl) (by simp) (AllReadyH.cons (o := ⟨some 90, _, _, _, _, _⟩) rfl (fun K hK => ?_) AllReadyH.nil)
                    go_simp
                    refine hK.out _ _ (trivial) (fun hHeld => ?_)
                    clear hK K
                    try simp only [Act.put, List.setIfInBounds_toArray, List.set_cons_zero, List.set_cons_succ]
                    refine wpAnyH_take (i := 12) (oi := ⟨some 91, _, _, _, _, _⟩) (v := ?_) rfl (by kernel_rfl) (by kernel_rfl) (by kernel_rfl) (fun _ _ _ h => h) (Or.inl ⟨by rfl, ?_⟩) (by assumption) ?_
                    rotate_left
                    · intro w hSw
                      skip
                      go_simp
                      all_goals (with_reducible rfl)
                    try simp only [Act.put, List.setIfInBounds_toArray, List.set_cons_zero, List.set_cons_succ]
                    refine wpAnyH_ready (rs := [13]) (by kernel_rfl) (by simp) (AllReadyH.cons (o := ⟨none, _, _, _, _, _⟩) rfl (fun K hK => ?_) AllReadyH.nil)
                    go_simp
                    refine hK.out _ _ (trivial) (fun hHeld => ?_)
                    clear hK K
                    try simp only [Act.put, List.setIfInBounds_toArray, List.set_cons_zero, List.set_cons_succ]
                    refine wpAnyH_take (i := 14) (oi := ⟨some 92, _, _, _, _, _⟩) (v := ?_) rfl (by kernel_rfl) (by kernel_rfl) (by kernel_rfl) (fun _ _ _ h => h) (Or.inl ⟨by rfl, ?_⟩) (by assumption) ?_
                    rotate_left
                    · intro w hSw
                      skip
                      go_simp
                      all_goals (with_reducible rfl)
                    try simp only [Act.put, List.setIfInBounds_toArray, List.set_cons_zero, List.set_cons_succ]
                    have hz3 : (wr.setCell ⟨ga, f, none⟩ (.slice (some ⟨ra lead, 0, none⟩) k d1)).frozen? ⟨ga, lead, none⟩ = false := by rw [World.frozen?_setCell]; exact HCC.out.2.2.1
                    obtain ⟨vv, hc3⟩ : ∃ vv, (wr.setCell ⟨ga, f, none⟩ (.slice (some ⟨ra lead, 0, none⟩) k d1)).cell? ⟨ga, lead, none⟩ = some vv := setCell_some (u := wr) (HCC.out.1) _ _
                    refine wpAnyH_ready (rs := [15]) (by kernel_rfl) (by simp) (AllReadyH.cons (o := ⟨none, _, _, _, _, _⟩) rfl (fun K hK => ?_) AllReadyH.nil)
                    go_simp
                    refine hK.out _ _ (trivial) (fun hHeld => ?_)
                    clear hK K
                    try simp only [Act.put, List.setIfInBounds_toArray, List.set_cons_zero, List.set_cons_succ]
                    refine wpAnyH_done (by kernel_rfl) ?_ _
                    go_wp2_with fail
                    go_meet
                    case rel => exact ⟨_, _, rfl, (HT.out.swap (p := f) (q := lead) (dp := d2) (dq := d1) hfn hlead).drew, (((show Below w.heap.size w wr from HB.out).setCell (p := ⟨ga, f, none⟩) hga _).setCell (p := ⟨ga, lead, none⟩) hga _).drew⟩
                  · go_simp
                    refine hK.out _ _ trivial (fun hHeld => ?_)
                    clear hK K
                    try simp only [Act.put, List.setIfInBounds_toArray, List.set_cons_zero, List.set_cons_succ]
                    refine wpAnyH_ready (rs := [7]) (by kernel_rfl) (by simp) (AllReadyH.cons (o := ⟨some 86, _, _, _, _, _⟩) rfl (fun K hK => ?_) AllReadyH.nil)
                    go_simp
                    refine hK.out _ _ (trivial) (fun hHeld => ?_)
                    clear hK K
                    try simp only [Act.put, List.setIfInBounds_toArray, List.set_cons_zero, List.set_cons_succ]
                    refine wpAnyH_take (i := 12) (oi := ⟨some 91, _, _, _, _, _⟩) (v := ?_) rfl (by kernel_rfl) (by kernel_rfl) (by kernel_rfl) (fun _ _ _ h => h) (Or.inl ⟨by rfl, ?_⟩) (by assumption) ?_
                    rotate_left
                    · intro w hSw
                      skip
                      go_simp
                      all_goals (with_reducible rfl)
                    try simp only [Act.put, List.setIfInBounds_toArray, List.set_cons_zero, List.set_cons_succ]
                    refine wpAnyH_ready (rs := [13]) (by kernel_rfl) (by simp) (AllReadyH.cons (o := ⟨none, _, _, _, _, _⟩) rfl (fun K hK => ?_) AllReadyH.nil)
                    go_simp
                    refine hK.out _ _ (trivial) (fun hHeld => ?_)
                    clear hK K
                    try simp only [Act.put, List.setIfInBounds_toArray, List.set_cons_zero, List.set_cons_succ]
                    refine wpAnyH_take (i := 14) (oi := ⟨some 92, _, _, _, _, _⟩) (v := ?_) rfl (by kernel_rfl) (by kernel_rfl) (by kernel_rfl) (fun _ _ _ h => h) (Or.inl ⟨by rfl, ?_⟩) (by assumption) ?_
                    rotate_left
                    · intro w hSw
                      skip
                      go_simp
                      all_goals (with_reducible rfl)
                    try simp only [Act.put, List.setIfInBounds_toArray, List.set_cons_zero, List.set_cons_succ]
                    have hz3 : (wr.setCell ⟨ga, f, none⟩ (.slice (some ⟨ra lead, 0, none⟩) k d1)).frozen? ⟨ga, lead, none⟩ = false := by rw [World.frozen?_setCell]; exact HCC.out.2.2.1
                    obtain ⟨vv, hc3⟩ : ∃ vv, (wr.setCell ⟨ga, f, none⟩ (.slice (some ⟨ra lead, 0, none⟩) k d1)).cell? ⟨ga, lead, none⟩ = some vv := setCell_some (u := wr) (HCC.out.1) _ _
                    refine wpAnyH_ready (rs := [15]) (by kernel_rfl) (by simp) (AllReadyH.cons (o := ⟨none, _, _, _, _, _⟩) rfl (fun K hK => ?_) AllReadyH.nil)
                    go_simp
                    refine hK.out _ _ (trivial) (fun hHeld => ?_)
                    clear hK K
                    try simp only [Act.put, List.setIfInBounds_toArray, List.set_cons_zero, List.set_cons_succ]
                    refine wpAnyH_done (by kernel_rfl) ?_ _
                    go_wp2_with fail
                    go_meet
                    case rel => exact ⟨_, _, rfl, (HT.out.swap (p := f) (q := lead) (dp := d2) (dq := d1) hfn hlead).drew, (((show Below w.heap.size w wr from HB.out).setCell (p := ⟨ga, f, none⟩) hga _).setCell (p := ⟨ga, lead, none⟩) hga _).drew⟩
                case rest =>
                  obtain ⟨F1, ra1, HF1, HT, HB⟩ := hcut
                  go_upto_region 17 with (fail)
                  obtain ⟨d1, hc1, hz1⟩ := (HT.out.flip).cell hlead
                  obtain ⟨d2, hc2, hz2⟩ := (HT.out.flip).cell hfn
                  have HCC := Lib.hid (And.intro hc1 (And.intro hc2 (And.intro hz1 hz2)))
                  clear hc1 hc2 hz1 hz2
                  go_cut [] from 44 to 208 (fun wc => ∃ (G1 : Fn2) (rb1 : Nat → Nat), Hid (G1 = fun a => G' (sw f lead a)) ∧ Hid (Two w.heap.size wc ga gb n k F1 G1 ra1 rb1) ∧ Hid (Below w.heap.size w wc))
                  case first =>
                    refine wp_region_held_drew (S := fun _ => True) (by kernel_rfl) (trivial) (fun hHeld => ?_)
                    refine wpAnyH_take (i := 0) (oi := ⟨some 93, _, _, _, _, _⟩) (v := ?_) rfl (by kernel_rfl) (by kernel_rfl) (by kernel_rfl) (fun _ _ _ h => h) (Or.inl ⟨by rfl, ?_⟩) (by assumption) ?_
                    rotate_left
                    · intro w hSw
                      skip
                      go_simp
                      all_goals (with_reducible rfl)
                    try simp only [Act.put, List.setIfInBounds_toArray, List.set_cons_zero, List.set_cons_succ]
                    refine wpAnyH_take (i := 1) (oi := ⟨some 94, _, _, _, _, _⟩) (v := ?_) rfl (by kernel_rfl) (by kernel_rfl) (by kernel_rfl) (fun _ _ _ h => h) (Or.inl ⟨by rfl, ?_⟩) (by assumption) ?_
                    rotate_left
                    · intro w hSw
                      skip
                      go_simp
                      all_goals (with_reducible rfl)
                    try simp only [Act.put, List.setIfInBounds_toArray, List.set_cons_zero, List.set_cons_succ]
                    refine wpAnyH_take (i := 2) (oi := ⟨some 95, _, _, _, _, _⟩) (v := ?_) rfl (by kernel_rfl) (by kernel_rfl) (by kernel_rfl) (fun _ _ _ h => h) (Or.inl ⟨by rfl, ?_⟩) (by assumption) ?_
                    rotate_left
                    · intro w hSw
                      skip
                      go_simp
                      all_goals (with_reducible rfl)
                    try simp only [Act.put, List.setIfInBounds_toArray, List.set_cons_zero, List.set_cons_succ]
                    refine wpAnyH_take (i := 3) (oi := ⟨some 96, _, _, _, _, _⟩) (v := ?_) rfl (by kernel_rfl) (by kernel_rfl) (by kernel_rfl) (fun _ _ _ h => h) (Or.inl ⟨by rfl, ?_⟩) (by assumption) ?_
                    rotate_left
                    · intro w hSw
                      skip
                      go_simp
                      all_goals (with_reducible rfl)
                    try simp only [Act.put, List.setIfInBounds_toArray, List.set_cons_zero, List.set_cons_succ]
                    refine wpAnyH_take (i := 4) (oi := ⟨some 97, _, _, _, _, _⟩) (v := ?_) rfl (by kernel_rfl) (by kernel_rfl) (by kernel_rfl) (fun _ _ _ h => h) (Or.inl ⟨by rfl, ?_⟩) (by assumption) ?_
                    rotate_left
                    · intro w hSw
                      skip
                      go_simp
                      all_goals (with_reducible rfl)
                    try simp only [Act.put, List.setIfInBounds_toArray, List.set_cons_zero, List.set_cons_succ]
                    refine wpAnyH_take (i := 5) (oi := ⟨some 98, _, _, _, _, _⟩) (v := ?_) rfl (by kernel_rfl) (by kernel_rfl) (by kernel_rfl) (fun _ _ _ h => h) (Or.inl ⟨by rfl, ?_⟩) (by assumption) ?_
                    rotate_left
                    · intro w hSw
                      skip
                      go_simp
                      all_goals (with_reducible rfl)
                    try simp only [Act.put, List.setIfInBounds_toArray, List.set_cons_zero, List.set_cons_succ]
                    refine wpAnyH_take (i := 6) (oi := ⟨some 99, _, _, _, _, _⟩) (v := ?_) rfl (by kernel_rfl) (by kernel_rfl) (by kernel_rfl) (fun _ _ _ h => h) (Or.inl ⟨by rfl, ?_⟩) (by assumption) ?_
                    rotate_left
                    · intro w hSw
                      skip
                      go_simp
                      all_goals (with_reducible rfl)
                    try simp only [Act.put, List.setIfInBounds_toArray, List.set_cons_zero, List.set_cons_succ]
                    refine wpAnyH_take (i := 8) (oi := ⟨some 101, _, _, _, _, _⟩) (v := ?_) rfl (by kernel_rfl) (by kernel_rfl) (by kernel_rfl) (fun _ _ _ h => h) (Or.inl ⟨by rfl, ?_⟩) (by assumption) ?_
                    rotate_left
                    · intro w hSw
                      skip
                      go_simp
                      all_goals (with_reducible rfl)
                    try simp only [Act.put, List.setIfInBounds_toArray, List.set_cons_zero, List.set_cons_succ]
                    refine wpAnyH_take (i := 9) (oi := ⟨some 102, _, _, _, _, _⟩) (v := ?_) rfl (by kernel_rfl) (by kernel_rfl) (by kernel_rfl) (fun _ _ _ h => h) (Or.inl ⟨by rfl, ?_⟩) (by assumption) ?_
                    rotate_left
                    · intro w hSw
                      skip
                      go_simp
                      all_goals (with_reducible rfl)
                    try simp only [Act.put, List.setIfInBounds_toArray, List.set_cons_zero, List.set_cons_succ]
                    refine wpAnyH_take (i := 10) (oi := ⟨some 103, _, _, _, _, _⟩) (v := ?_) rfl (by kernel_rfl) (by kernel_rfl) (by kernel_rfl) (fun _ _ _ h => h) (Or.inl ⟨by rfl, ?_⟩) (by assumption) ?_
                    rotate_left
                    · intro w hSw
                      skip
                      go_simp
                      all_goals (with_reducible rfl)
                    try simp only [Act.put, List.setIfInBounds_toArray, List.set_cons_zero, List.set_cons_succ]
                    have hc1 : wc.drew.cell? ⟨gb, lead, none⟩ = some (.slice (some ⟨rb lead, 0, none⟩) k d1) := HCC.out.1
                    have hc2 : wc.drew.cell? ⟨gb, f, none⟩ = some (.slice (some ⟨rb f, 0, none⟩) k d2) := HCC.out.2.1
                    have hz1 : wc.drew.frozen? ⟨gb, lead, none⟩ = false := HCC.out.2.2.1
                    have hz2 : wc.drew.frozen? ⟨gb, f, none⟩ = false := HCC.out.2.2.2
                    have hc10 := HCC.out.1
                    have hc20 := HCC.out.2.1
                    refine wpAnyH_ready (rs := [7, 11]) (by kernel_rfl) (by simp) (AllReadyH.cons (o := ⟨some 100, _, _, _, _, _⟩) rfl (fun K hK => ?_) (AllReadyH.cons (o := ⟨some 104, _, _, _, _, _⟩) rfl (fun K hK => ?_) AllReadyH.nil))
                    · go_simp
                      refine hK.out _ _ trivial (fun hHeld => ?_)
                      clear hK K
                      try simp only [Act.put, List.setIfInBounds_toArray, List.set_cons_zero, List.set_cons_succ]
                      refine wpAnyH_ready (rs := [11]) (by kernel_rfl) (by simp) (AllReadyH.cons (o := ⟨some 104, _, _, _, _, _⟩) rfl (fun K hK => ?_) AllReadyH.nil)
                      go_simp
                      refine hK.out _ _ (trivial) (fun hHeld => ?_)
                      clear hK K
                      try simp only [Act.put, List.setIfInBounds_toArray, List.set_cons_zero, List.set_cons_succ]
                      refine wpAnyH_take (i := 12) (oi := ⟨some 105, _, _, _, _, _⟩) (v := ?_) rfl (by kernel_rfl) (by kernel_rfl) (by kernel_rfl) (fun _ _ _ h => h) (Or.inl ⟨by rfl, ?_⟩) (by assumption) ?_
                      rotate_left
                      · intro w hSw
                        skip
                        go_simp
                        all_goals (with_reducible rfl)
                      try simp only [Act.put, List.setIfInBounds_toArray, List.set_cons_zero, List.set_cons_succ]
                      refine wpAnyH_ready (rs := [13]) (by kernel_rfl) (by simp) (AllReadyH.cons (o := ⟨none, _, _, _, _, _⟩) rfl (fun K hK => ?_) AllReadyH.nil)
                      go_simp
                      refine hK.out _ _ (trivial) (fun hHeld => ?_)
                      clear hK K
                      try simp only [Act.put, List.setIfInBounds_toArray, List.set_cons_zero, List.set_cons_succ]
                      refine wpAnyH_take (i := 14) (oi := ⟨some 106, _, _, _, _, _⟩) (v := ?_) rfl (by kernel_rfl) (by kernel_rfl) (by kernel_rfl) (fun _ _ _ h => h) (Or.inl ⟨by rfl, ?_⟩) (by assumption) ?_
                      rotate_left
                      · intro w hSw
                        skip
                        go_simp
                        all_goals (with_reducible rfl)
                      try simp only [Act.put, List.setIfInBounds_toArray, List.set_cons_zero, List.set_cons_succ]
                      have hz3 : (wc.setCell ⟨gb, f, none⟩ (.slice (some ⟨rb lead, 0, none⟩) k d1)).frozen? ⟨gb, lead, none⟩ = false := by rw [World.frozen?_setCell]; exact HCC.out.2.2.1
                      obtain ⟨vv, hc3⟩ : ∃ vv, (wc.setCell ⟨gb, f, none⟩ (.slice (some ⟨rb lead, 0, none⟩) k d1)).cell? ⟨gb, lead, none⟩ = some vv := setCell_some (u := wc) (HCC.out.1) _ _
                      refine wpAnyH_ready (rs := [15]) (by kernel_rfl) (by simp) (AllReadyH.cons (o := ⟨none, _, _, _, _, _⟩) rfl (fun K hK => ?_) AllReadyH.nil)
                      go_simp
                      refine hK.out _ _ (trivial) (fun hHeld => ?_)
                      clear hK K
                      try simp only [Act.put, List.setIfInBounds_toArray, List.set_cons_zero, List.set_cons_succ]
                      refine wpAnyH_done (by kernel_rfl) ?_ _
                      go_wp2_with fail
                      go_meet
                      case rel => exact ⟨_, _, rfl, (HT.out.flip.swap (p := f) (q := lead) (dp := d2) (dq := d1) hfn hlead).flip.drew, (((show Below w.heap.size w wc from HB.out).setCell (p := ⟨gb, f, none⟩) hgb _).setCell (p := ⟨gb, lead, none⟩) hgb _).drew⟩
                    · go_simp
                      refine hK.out _ _ trivial (fun hHeld => ?_)
                      clear hK K
                      try simp only [Act.put, List.setIfInBounds_toArray, List.set_cons_zero, List.set_cons_succ]
                      refine wpAnyH_ready (rs := [7]) (by kernel_rfl) (by simp) (AllReadyH.cons (o := ⟨some 100, _, _, _, _, _⟩) rfl (fun K hK => ?_) AllReadyH.nil)
                      go_simp
                      refine hK.out _ _ (trivial) (fun hHeld => ?_)
                      clear hK K
                      try simp only [Act.put, List.setIfInBounds_toArray, List.set_cons_zero, List.set_cons_succ]
                      refine wpAnyH_take (i := 12) (oi := ⟨some 105, _, _, _, _, _⟩) (v := ?_) rfl (by kernel_rfl) (by kernel_rfl) (by kernel_rfl) (fun _ _ _ h => h) (Or.inl ⟨by rfl, ?_⟩) (by assumption) ?_
                      rotate_left
                      · intro w hSw
                        skip
                        go_simp
                        all_goals (with_reducible rfl)
                      try simp only [Act.put, List.setIfInBounds_toArray, List.set_cons_zero, List.set_cons_succ]
                      refine wpAnyH_ready (rs := [13]) (by kernel_rfl) (by simp) (AllReadyH.cons (o := ⟨none, _, _, _, _, _⟩) rfl (fun K hK => ?_) AllReadyH.nil)
                      go_simp
                      refine hK.out _ _ (trivial) (fun hHeld => ?_)
                      clear hK K
                      try simp only [Act.put, List.setIfInBounds_toArray, List.set_cons_zero, List.set_cons_succ]
                      refine wpAnyH_take (i := 14) (oi := ⟨some 106, _, _, _, _, _⟩) (v := ?_) rfl (by kernel_rfl) (by kernel_rfl) (by kernel_rfl) (fun _ _ _ h => h) (Or.inl ⟨by rfl, ?_⟩) (by assumption) ?_
                      rotate_left
                      · intro w hSw
                        skip
                        go_simp
                        all_goals (with_reducible rfl)
                      try simp only [Act.put, List.setIfInBounds_toArray, List.set_cons_zero, List.set_cons_succ]
                      have hz3 : (wc.setCell ⟨gb, f, none⟩ (.slice (some ⟨rb lead, 0, none⟩) k d1)).frozen? ⟨gb, lead, none⟩ = false := by rw [World.frozen?_setCell]; exact HCC.out.2.2.1
                      obtain ⟨vv, hc3⟩ : ∃ vv, (wc.setCell ⟨gb, f, none⟩ (.slice (some ⟨rb lead, 0, none⟩) k d1)).cell? ⟨gb, lead, none⟩ = some vv := setCell_some (u := wc) (HCC.out.1) _ _
                      refine wpAnyH_ready (rs := [15]) (by kernel_rfl) (by simp) (AllReadyH.cons (o := ⟨none, _, _, _, _, _⟩) rfl (fun K hK => ?_) AllReadyH.nil)
                      go_simp
                      refine hK.out _ _ (trivial) (fun hHeld => ?_)
                      clear hK K
                      try simp only [Act.put, List.setIfInBounds_toArray, List.set_cons_zero, List.set_cons_succ]
                      refine wpAnyH_done (by kernel_rfl) ?_ _
                      go_wp2_with fail
                      go_meet
                      case rel => exact ⟨_, _, rfl, (HT.out.flip.swap (p := f) (q := lead) (dp := d2) (dq := d1) hfn hlead).flip.drew, (((show Below w.heap.size w wc from HB.out).setCell (p := ⟨gb, f, none⟩) hgb _).setCell (p := ⟨gb, lead, none⟩) hgb _).drew⟩
                  case rest =>
                    obtain ⟨G1, rb1, HG1, HT, HB⟩ := hcut
                    obtain ⟨d1, hc1, _⟩ := HT.out.cell hlead
                    obtain ⟨hel, _⟩ := HT.out.elem hlead hjk
                    have hxe : (F1 lead j).toNat = x := by rw [HF1.out]; show (F' (sw f lead lead) j).toNat = x; rw [show sw f lead lead = f from by rw [sw_comm]; unfold sw; simp]; exact HXX.out
                    rw [hxe] at hel
                    clear hxe
                    go_wp2_with fail
                    refine (rinv_any x wc hx2 hx1).mono ?_
                    rintro e w9 ⟨rfl, rfl⟩
                    clear hc1 hel
                    go_wp2_with fail
                    go_loopw [16] (fun v wr => Scale w ga gb n k lead (iv x) F1 G1 ra1 rb1 v wr) (fun v _ => k - (intOf v).toNat)
                    case atStart => exact ⟨0, by omega, rfl, (HT.out).congr (fun a b _ _ => by unfold scaled; rw [if_neg (by omega)]) (fun _ _ _ _ => rfl), HB.out⟩
                    case round =>
                      clear HT HB
                      obtain ⟨t, ht, rfl, HT, HB⟩ := hrel
                      obtain ⟨d0, hc0, _⟩ := HT.out.cell (show 0 < n by omega)
                      by_cases htk : t < k
                      · obtain ⟨d1, hc1, _⟩ := HT.out.cell hlead
                        obtain ⟨hel, hfz⟩ := HT.out.elem hlead htk
                        have hsc : scaled lead (iv x) t F1 lead t = F1 lead t := by unfold scaled; rw [if_neg (by omega)]
                        rw [hsc] at hel
                        have hXb := UInt8.toNat_lt (F1 lead t)
                        obtain ⟨X, hX⟩ : ∃ X, (F1 lead t).toNat = X := ⟨_, rfl⟩
                        rw [hX] at hel hXb
                        have HXE := Lib.hid hX
                        have HEL := Lib.hid (And.intro hc1 (And.intro hel hfz))
                        have htk' : (t : Int) < k := by omega
                        clear hX hsc hel hfz hc1
                        go_wp2_with fail
                        clear hc0
                        refine wp_region_held_drew (S := fun u => u.cell? ⟨ga, lead, none⟩ = some (.slice (some ⟨ra1 lead, 0, none⟩) k d1)) (by kernel_rfl) (by exact HEL.out.1) (fun hHeld => ?_)
                        refine wpAnyH_take (i := 0) (oi := ⟨some 123, _, _, _, _, _⟩) (v := ?_) rfl (by kernel_rfl) (by kernel_rfl) (by kernel_rfl) (fun _ _ _ h => h) (Or.inl ⟨by rfl, ?_⟩) (by assumption) ?_
                        rotate_left
                        · intro w hSw
                          skip
                          go_simp
                          all_goals (with_reducible rfl)
                        try simp only [Act.put, List.setIfInBounds_toArray, List.set_cons_zero, List.set_cons_succ]
                        refine wpAnyH_take (i := 1) (oi := ⟨some 124, _, _, _, _, _⟩) (v := ?_) rfl (by kernel_rfl) (by kernel_rfl) (by kernel_rfl) (fun _ _ _ h => h) (Or.inl ⟨by rfl, ?_⟩) (by assumption) ?_
                        rotate_left
                        · intro w hSw
                          skip
                          go_simp
                          all_goals (with_reducible rfl)
                        try simp only [Act.put, List.setIfInBounds_toArray, List.set_cons_zero, List.set_cons_succ]
                        refine wpAnyH_take (i := 2) (oi := ⟨some 125, _, _, _, _, _⟩) (v := ?_) rfl (by kernel_rfl) (by kernel_rfl) (by kernel_rfl) (fun _ _ _ h => h) (Or.inl ⟨by rfl, ?_⟩) (by assumption) ?_
                        rotate_left
                        · intro w hSw
                          skip
                          go_simp
                          all_goals (with_reducible rfl)
                        try simp only [Act.put, List.setIfInBounds_toArray, List.set_cons_zero, List.set_cons_succ]
                        refine wpAnyH_take (i := 3) (oi := ⟨some 126, _, _, _, _, _⟩) (v := ?_) rfl (by kernel_rfl) (by kernel_rfl) (by kernel_rfl) (fun _ _ _ h => h) (Or.inl ⟨by rfl, ?_⟩) (by assumption) ?_
                        rotate_left
                        · intro w hSw
                          skip
                          go_simp
                          all_goals (with_reducible rfl)
                        try simp only [Act.put, List.setIfInBounds_toArray, List.set_cons_zero, List.set_cons_succ]
                        refine wpAnyH_take (i := 4) (oi := ⟨some 127, _, _, _, _, _⟩) (v := ?_) rfl (by kernel_rfl) (by kernel_rfl) (by kernel_rfl) (fun _ _ _ h => h) (Or.inl ⟨by rfl, ?_⟩) (by assumption) ?_
                        rotate_left
                        · intro w hSw
                          skip
                          go_simp
                          all_goals (with_reducible rfl)
                        try simp only [Act.put, List.setIfInBounds_toArray, List.set_cons_zero, List.set_cons_succ]
                        refine wpAnyH_take (i := 5) (oi := ⟨some 128, _, _, _, _, _⟩) (v := ?_) rfl (by kernel_rfl) (by kernel_rfl) (by kernel_rfl) (fun _ _ _ h => h) (Or.inl ⟨by rfl, ?_⟩) (by assumption) ?_
                        rotate_left
                        · intro w hSw
                          skip
                          go_simp
                          all_goals (with_reducible rfl)
                        try simp only [Act.put, List.setIfInBounds_toArray, List.set_cons_zero, List.set_cons_succ]
                        refine wpAnyH_take (i := 6) (oi := ⟨some 129, _, _, _, _, _⟩) (v := ?_) rfl (by kernel_rfl) (by kernel_rfl) (by kernel_rfl) (fun _ _ _ h => h) (Or.inl ⟨by rfl, ?_⟩) (by assumption) ?_
                        rotate_left
                        · intro w hSw
                          skip
                          go_simp
                          all_goals (with_reducible rfl)
                        try simp only [Act.put, List.setIfInBounds_toArray, List.set_cons_zero, List.set_cons_succ]
                        refine wpAnyH_take (i := 7) (oi := ⟨some 130, _, _, _, _, _⟩) (v := ?_) rfl (by kernel_rfl) (by kernel_rfl) (by kernel_rfl) (fun _ _ _ h => h) (Or.inl ⟨by rfl, ?_⟩) (by assumption) ?_
                        rotate_left
                        · intro w hSw
                          skip
                          go_simp
                          all_goals (with_reducible rfl)
                        try simp only [Act.put, List.setIfInBounds_toArray, List.set_cons_zero, List.set_cons_succ]
                        refine wpAnyH_take (i := 8) (oi := ⟨some 131, _, _, _, _, _⟩) (v := ?_) rfl (by kernel_rfl) (by kernel_rfl) (by kernel_rfl) (fun _ _ _ h => h) (Or.inl ⟨by rfl, ?_⟩) (by assumption) ?_
                        rotate_left
                        · intro w hSw
                          skip
                          go_simp
                          all_goals (with_reducible rfl)
                        try simp only [Act.put, List.setIfInBounds_toArray, List.set_cons_zero, List.set_cons_succ]
                        refine wpAnyH_take (i := 9) (oi := ⟨some 132, _, _, _, _, _⟩) (v := ?_) rfl (by kernel_rfl) (by kernel_rfl) (by kernel_rfl) (fun _ _ _ h => h) (Or.inl ⟨by rfl, ?_⟩) (by assumption) ?_
                        rotate_left
                        · intro w hSw
                          skip
                          go_simp
                          all_goals (with_reducible rfl)
                        try simp only [Act.put, List.setIfInBounds_toArray, List.set_cons_zero, List.set_cons_succ]
                        refine wpAnyH_take (i := 10) (oi := ⟨some 133, _, _, _, _, _⟩) (v := ?_) rfl (by kernel_rfl) (by kernel_rfl) (by kernel_rfl) (fun _ _ _ h => h) (Or.inl ⟨by rfl, ?_⟩) (by assumption) ?_
                        rotate_left
                        · intro w hSw
                          skip
                          go_simp
                          all_goals (with_reducible rfl)
                        try simp only [Act.put, List.setIfInBounds_toArray, List.set_cons_zero, List.set_cons_succ]
                        refine wpAnyH_take (i := 11) (oi := ⟨some 134, _, _, _, _, _⟩) (v := ?_) rfl (by kernel_rfl) (by kernel_rfl) (by kernel_rfl) (fun _ _ _ h => h) (Or.inl ⟨by rfl, ?_⟩) (by assumption) ?_
                        rotate_left
                        · intro w hSw
                          skip
                          go_simp
                          all_goals (with_reducible rfl)
                        try simp only [Act.put, List.setIfInBounds_toArray, List.set_cons_zero, List.set_cons_succ]
                        have hH := hHeld
                        have hel : wr.drew.cell? ⟨ra1 lead, t, none⟩ = some (.int .u8 (X : Int)) := HEL.out.2.1
                        have hel0 := HEL.out.2.1
                        have hfz : wr.drew.frozen? ⟨ra1 lead, t, none⟩ = false := HEL.out.2.2
                        have hfz0 := HEL.out.2.2
                        refine wpAnyH_ready (rs := [12]) (by kernel_rfl) (by simp) (AllReadyH.cons (o := ⟨some 135, _, _, _, _, _⟩) rfl (fun K hK => ?_) AllReadyH.nil)
                        go_simp
                        refine hK.out _ _ (hH) (fun hHeld => ?_)
                        clear hK K
                        try simp only [Act.put, List.setIfInBounds_toArray, List.set_cons_zero, List.set_cons_succ]
                        refine wpAnyH_ready (rs := [13]) (by kernel_rfl) (by simp) (AllReadyH.cons (o := ⟨some 136, _, _, _, _, _⟩) rfl (fun K hK => ?_) AllReadyH.nil)
                        go_simp
                        refine (rmul_any (iv x) X wr.drew (iv_lt x) hXb).mono ?_
                        rintro e w3 ⟨rfl, rfl⟩
                        refine hK.out _ _ (hH) (fun hHeld => ?_)
                        clear hK K
                        try simp only [Act.put, List.setIfInBounds_toArray, List.set_cons_zero, List.set_cons_succ]
                        refine wpAnyH_take (i := 14) (oi := ⟨some 137, _, _, _, _, _⟩) (v := ?_) rfl (by kernel_rfl) (by kernel_rfl) (by kernel_rfl) (fun _ _ _ h => h) (Or.inl ⟨by rfl, ?_⟩) (by assumption) ?_
                        rotate_left
                        · intro w hSw
                          skip
                          go_simp
                          all_goals (with_reducible rfl)
                        try simp only [Act.put, List.setIfInBounds_toArray, List.set_cons_zero, List.set_cons_succ]
                        have hne : ra1 lead ≠ ga := (HT.out.row_ne hlead).1
                        have hH4 : ((wr.setCell ⟨ra1 lead, t, none⟩ (.int .u8 (mul (iv x) X : Int))).drew).cell? ⟨ga, lead, none⟩ = some (.slice (some ⟨ra1 lead, 0, none⟩) k d1) := (World.cell?_of_block (w := wr) (Below.heap_setCell _ _ _ _ (by exact hne.symm))).trans HEL.out.1
                        refine wpAnyH_ready (rs := [15]) (by kernel_rfl) (by simp) (AllReadyH.cons (o := ⟨none, _, _, _, _, _⟩) rfl (fun K hK => ?_) AllReadyH.nil)
                        go_simp
                        refine hK.out _ _ (hH4) (fun hHeld => ?_)
                        clear hK K
                        try simp only [Act.put, List.setIfInBounds_toArray, List.set_cons_zero, List.set_cons_succ]
                        refine wpAnyH_done (by kernel_rfl) ?_ _
                        go_wp2
                        go_roundw
                        case rel =>
                          have hbv : Value.int .u8 (mul (iv x) X : Int) = BV (UInt8.ofNat (mul (iv x) X)) := by
                            unfold BV
                            rw [UInt8.toNat_ofNat', Nat.mod_eq_of_lt (mul_lt _ _)]
                          refine ⟨t + 1, by omega, by go_num, ?_, ?_⟩
                          · rw [hbv, ← HXE.out, ← scaled_step]
                            exact (HT.out.setElem (j := t) hlead _).drew
                          · exact ((show Below w.heap.size w wr from HB.out).setCell (p := ⟨ra1 lead, t, none⟩) (HT.out.lo lead hlead).1 _).drew
                        case measure => simp [intOf]; omega
                      · obtain rfl : t = k := by omega
                        obtain ⟨k, rfl⟩ : ∃ k, k = t := ⟨_, rfl⟩
                        obtain ⟨F2, hF2⟩ : ∃ F2, scaled lead (iv x) k F1 = F2 := ⟨_, rfl⟩
                        rw [hF2] at HT
                        have HF2 : Hid (F2 = scaled lead (iv x) k F1) := hF2.symm
                        clear hF2
                        go_wp2_with fail
                        clear hc0
                        go_loopw [17] (fun v wr => Scale w gb ga n k lead (iv x) G1 F2 rb1 ra1 v wr) (fun v _ => k - (intOf v).toNat)
                        case atStart => exact ⟨0, by omega, rfl, (HT.out.flip).congr (fun a b _ _ => by unfold scaled; rw [if_neg (by omega)]) (fun _ _ _ _ => rfl), HB.out⟩
                        case round =>
                          clear HT HB
                          obtain ⟨t, ht, rfl, HT, HB⟩ := hrel
                          obtain ⟨d0, hc0, _⟩ := HT.out.cell (show 0 < n by omega)
                          by_cases htk : t < k
                          · obtain ⟨d1, hc1, _⟩ := HT.out.cell hlead
                            obtain ⟨hel, hfz⟩ := HT.out.elem hlead htk
                            have hsc : scaled lead (iv x) t G1 lead t = G1 lead t := by unfold scaled; rw [if_neg (by omega)]
                            rw [hsc] at hel
                            have hXb := UInt8.toNat_lt (G1 lead t)
                            obtain ⟨X, hX⟩ : ∃ X, (G1 lead t).toNat = X := ⟨_, rfl⟩
                            rw [hX] at hel hXb
                            have HXE := Lib.hid hX
                            have HEL := Lib.hid (And.intro hc1 (And.intro hel hfz))
                            have htk' : (t : Int) < k := by omega
                            clear hX hsc hel hfz hc1
                            go_wp2_with fail
                            clear hc0
                            refine wp_region_held_drew (S := fun u => u.cell? ⟨gb, lead, none⟩ = some (.slice (some ⟨rb1 lead, 0, none⟩) k d1)) (by kernel_rfl) (by exact HEL.out.1) (fun hHeld => ?_)
                            refine wpAnyH_take (i := 0) (oi := ⟨some 146, _, _, _, _, _⟩) (v := ?_) rfl (by kernel_rfl) (by kernel_rfl) (by kernel_rfl) (fun _ _ _ h => h) (Or.inl ⟨by rfl, ?_⟩) (by assumption) ?_
                            rotate_left
                            · intro w hSw
                              skip
                              go_simp
                              all_goals (with_reducible rfl)
                            try simp only [Act.put, List.setIfInBounds_toArray, List.set_cons_zero, List.set_cons_succ]
                            refine wpAnyH_take (i := 1) (oi := ⟨some 147, _, _, _, _, _⟩) (v := ?_) rfl (by kernel_rfl) (by kernel_rfl) (by kernel_rfl) (fun _ _ _ h => h) (Or.inl ⟨by rfl, ?_⟩) (by assumption) ?_
                            rotate_left
                            · intro w hSw
                              skip
                              go_simp
                              all_goals (with_reducible rfl)
                            try simp only [Act.put, List.setIfInBounds_toArray, List.set_cons_zero, List.set_cons_succ]
                            refine wpAnyH_take (i := 2) (oi := ⟨some 148, _, _, _, _, _⟩) (v := ?_) rfl (by kernel_rfl) (by kernel_rfl) (by kernel_rfl) (fun _ _ _ h => h) (Or.inl ⟨by rfl, ?_⟩) (by assumption) ?_
                            rotate_left
                            · intro w hSw
                              skip
                              go_simp
                              all_goals (with_reducible rfl)
                            try simp only [Act.put, List.setIfInBounds_toArray, List.set_cons_zero, List.set_cons_succ]
                            refine wpAnyH_take (i := 3) (oi := ⟨some 149, _, _, _, _, _⟩) (v := ?_) rfl (by kernel_rfl) (by kernel_rfl) (by kernel_rfl) (fun _ _ _ h => h) (Or.inl ⟨by rfl, ?_⟩) (by assumption) ?_
                            rotate_left
                            · intro w hSw
                              skip
                              go_simp
                              all_goals (with_reducible rfl)
                            try simp only [Act.put, List.setIfInBounds_toArray, List.set_cons_zero, List.set_cons_succ]
                            refine wpAnyH_take (i := 4) (oi := ⟨some 150, _, _, _, _, _⟩) (v := ?_) rfl (by kernel_rfl) (by kernel_rfl) (by kernel_rfl) (fun _ _ _ h => h) (Or.inl ⟨by rfl, ?_⟩) (by assumption) ?_
                            rotate_left
                            · intro w hSw
                              skip
                              go_simp
                              all_goals (with_reducible rfl)
                            try simp only [Act.put, List.setIfInBounds_toArray, List.set_cons_zero, List.set_cons_succ]
                            refine wpAnyH_take (i := 5) (oi := ⟨some 151, _, _, _, _, _⟩) (v := ?_) rfl (by kernel_rfl) (by kernel_rfl) (by kernel_rfl) (fun _ _ _ h => h) (Or.inl ⟨by rfl, ?_⟩) (by assumption) ?_
                            rotate_left
                            · intro w hSw
                              skip
                              go_simp
                              all_goals (with_reducible rfl)
                            try simp only [Act.put, List.setIfInBounds_toArray, List.set_cons_zero, List.set_cons_succ]
                            refine wpAnyH_take (i := 6) (oi := ⟨some 152, _, _, _, _, _⟩) (v := ?_) rfl (by kernel_rfl) (by kernel_rfl) (by kernel_rfl) (fun _ _ _ h => h) (Or.inl ⟨by rfl, ?_⟩) (by assumption) ?_
                            rotate_left
                            · intro w hSw
                              skip
                              go_simp
                              all_goals (with_reducible rfl)
                            try simp only [Act.put, List.setIfInBounds_toArray, List.set_cons_zero, List.set_cons_succ]
                            refine wpAnyH_take (i := 7) (oi := ⟨some 153, _, _, _, _, _⟩) (v := ?_) rfl (by kernel_rfl) (by kernel_rfl) (by kernel_rfl) (fun _ _ _ h => h) (Or.inl ⟨by rfl, ?_⟩) (by assumption) ?_
                            rotate_left
                            · intro w hSw
                              skip
                              go_simp
                              all_goals (with_reducible rfl)
                            try simp only [Act.put, List.setIfInBounds_toArray, List.set_cons_zero, List.set_cons_succ]
                            refine wpAnyH_take (i := 8) (oi := ⟨some 154, _, _, _, _, _⟩) (v := ?_) rfl (by kernel_rfl) (by kernel_rfl) (by kernel_rfl) (fun _ _ _ h => h) (Or.inl ⟨by rfl, ?_⟩) (by assumption) ?_
                            rotate_left
                            · intro w hSw
                              skip
                              go_simp
                              all_goals (with_reducible rfl)
                            try simp only [Act.put, List.setIfInBounds_toArray, List.set_cons_zero, List.set_cons_succ]
                            refine wpAnyH_take (i := 9) (oi := ⟨some 155, _, _, _, _, _⟩) (v := ?_) rfl (by kernel_rfl) (by kernel_rfl) (by kernel_rfl) (fun _ _ _ h => h) (Or.inl ⟨by rfl, ?_⟩) (by assumption) ?_
                            rotate_left
                            · intro w hSw
                              skip
                              go_simp
                              all_goals (with_reducible rfl)
                            try simp only [Act.put, List.setIfInBounds_toArray, List.set_cons_zero, List.set_cons_succ]
                            refine wpAnyH_take (i := 10) (oi := ⟨some 156, _, _, _, _, _⟩) (v := ?_) rfl (by kernel_rfl) (by kernel_rfl) (by kernel_rfl) (fun _ _ _ h => h) (Or.inl ⟨by rfl, ?_⟩) (by assumption) ?_
                            rotate_left
                            · intro w hSw
                              skip
                              go_simp
                              all_goals (with_reducible rfl)
                            try simp only [Act.put, List.setIfInBounds_toArray, List.set_cons_zero, List.set_cons_succ]
                            refine wpAnyH_take (i := 11) (oi := ⟨some 157, _, _, _, _, _⟩) (v := ?_) rfl (by kernel_rfl) (by kernel_rfl) (by kernel_rfl) (fun _ _ _ h => h) (Or.inl ⟨by rfl, ?_⟩) (by assumption) ?_
                            rotate_left
                            · intro w hSw
                              skip
                              go_simp
                              all_goals (with_reducible rfl)
                            try simp only [Act.put, List.setIfInBounds_toArray, List.set_cons_zero, List.set_cons_succ]
                            have hH := hHeld
                            have hel : wr.drew.cell? ⟨rb1 lead, t, none⟩ = some (.int .u8 (X : Int)) := HEL.out.2.1
                            have hel0 := HEL.out.2.1
                            have hfz : wr.drew.frozen? ⟨rb1 lead, t, none⟩ = false := HEL.out.2.2
                            have hfz0 := HEL.out.2.2
                            refine wpAnyH_ready (rs := [12]) (by kernel_rfl) (by simp) (AllReadyH.cons (o := ⟨some 158, _, _, _, _, _⟩) rfl (fun K hK => ?_) AllReadyH.nil)
                            go_simp
                            refine hK.out _ _ (hH) (fun hHeld => ?_)
                            clear hK K
                            try simp only [Act.put, List.setIfInBounds_toArray, List.set_cons_zero, List.set_cons_succ]
                            refine wpAnyH_ready (rs := [13]) (by kernel_rfl) (by simp) (AllReadyH.cons (o := ⟨some 159, _, _, _, _, _⟩) rfl (fun K hK => ?_) AllReadyH.nil)
                            go_simp
                            refine (rmul_any (iv x) X wr.drew (iv_lt x) hXb).mono ?_
                            rintro e w3 ⟨rfl, rfl⟩
                            refine hK.out _ _ (hH) (fun hHeld => ?_)
                            clear hK K
                            try simp only [Act.put, List.setIfInBounds_toArray, List.set_cons_zero, List.set_cons_succ]
                            refine wpAnyH_take (i := 14) (oi := ⟨some 160, _, _, _, _, _⟩) (v := ?_) rfl (by kernel_rfl) (by kernel_rfl) (by kernel_rfl) (fun _ _ _ h => h) (Or.inl ⟨by rfl, ?_⟩) (by assumption) ?_
                            rotate_left
                            · intro w hSw
                              skip
                              go_simp
                              all_goals (with_reducible rfl)
                            try simp only [Act.put, List.setIfInBounds_toArray, List.set_cons_zero, List.set_cons_succ]
                            have hne : rb1 lead ≠ gb := (HT.out.row_ne hlead).1
                            have hH4 : ((wr.setCell ⟨rb1 lead, t, none⟩ (.int .u8 (mul (iv x) X : Int))).drew).cell? ⟨gb, lead, none⟩ = some (.slice (some ⟨rb1 lead, 0, none⟩) k d1) := (World.cell?_of_block (w := wr) (Below.heap_setCell _ _ _ _ (by exact hne.symm))).trans HEL.out.1
                            refine wpAnyH_ready (rs := [15]) (by kernel_rfl) (by simp) (AllReadyH.cons (o := ⟨none, _, _, _, _, _⟩) rfl (fun K hK => ?_) AllReadyH.nil)
                            go_simp
                            refine hK.out _ _ (hH4) (fun hHeld => ?_)
                            clear hK K
                            try simp only [Act.put, List.setIfInBounds_toArray, List.set_cons_zero, List.set_cons_succ]
                            refine wpAnyH_done (by kernel_rfl) ?_ _
                            go_wp2
                            go_roundw
                            case rel =>
                              have hbv : Value.int .u8 (mul (iv x) X : Int) = BV (UInt8.ofNat (mul (iv x) X)) := by
                                unfold BV
                                rw [UInt8.toNat_ofNat', Nat.mod_eq_of_lt (mul_lt _ _)]
                              refine ⟨t + 1, by omega, by go_num, ?_, ?_⟩
                              · rw [hbv, ← HXE.out, ← scaled_step]
                                exact (HT.out.setElem (j := t) hlead _).drew
                              · exact ((show Below w.heap.size w wr from HB.out).setCell (p := ⟨rb1 lead, t, none⟩) (HT.out.lo lead hlead).1 _).drew
                            case measure => simp [intOf]; omega
                          · obtain rfl : t = k := by omega
                            obtain ⟨F3, hF3⟩ : ∃ F3, lead1 F' lead f (iv x) = F3 := ⟨_, rfl⟩
                            obtain ⟨G3, hG3⟩ : ∃ G3, lead1 G' lead f (iv x) = G3 := ⟨_, rfl⟩
                            have HT3 : Hid (Two w.heap.size wr ga gb n t F3 G3 ra1 rb1) := HT.out.flip.congr (fun a b h1 h2 => by rw [← hF3, HF2.out, HF1.out]; exact scaled_lead a b h1 h2) (fun a b h1 h2 => by rw [← hG3, HG1.out]; exact scaled_lead a b h1 h2)
                            have HFG := Lib.hid (And.intro hF3 hG3)
                            clear hF3 hG3
                            obtain ⟨k, rfl⟩ : ∃ k, k = t := ⟨_, rfl⟩
                            go_wp2_with fail
                            clear hc0
                            go_loopw [18] (fun v wr => Elim w ga gb n k j lead F3 G3 v wr) (fun v _ => n - (intOf v).toNat)
                            case atStart => exact ⟨0, ra1, rb1, by omega, rfl, HT3.out, HB.out⟩
                            case round =>
                              clear HT HT3 HB
                              obtain ⟨i, ra2, rb2, hi, rfl, HT, HB⟩ := hrel
                              by_cases hin : i < n
                              · obtain ⟨d1, hc1, _⟩ := HT.out.cell hin
                                obtain ⟨hel, _⟩ := HT.out.elem hin hjk
                                have hin' : (i : Int) < n := by omega
                                by_cases hil : i = lead
                                · subst hil
                                  have hq1 : ((i : Int) == (i : Int)) = true := beq_self_eq_true _
                                  have HEQ := Lib.hid (elimTo_skip (q := j) (led := i) (i := i) (s := (F3, G3)) (.inl rfl))
                                  obtain ⟨y, hy⟩ : ∃ y, ((elimTo j i i (F3, G3)).1 i j).toNat = y := ⟨_, rfl⟩
                                  rw [hy] at hel
                                  clear hy
                                  go_wp2
                                  go_roundw
                                  case rel => exact ⟨i + 1, ra2, rb2, by omega, by go_num, by show Two _ _ _ _ _ _ _ _ _ _; rw [HEQ.out]; exact HT.out, HB.out⟩
                                  case measure => simp [intOf]; omega
                                · have hq1 : ((i : Int) == (lead : Int)) = false := beq_eq_false_iff_ne.2 (by omega)
                                  by_cases hz2 : (elimTo j lead i (F3, G3)).1 i j = 0
                                  · have HEQ := Lib.hid (elimTo_skip (q := j) (led := lead) (i := i) (s := (F3, G3)) (.inr hz2))
                                    have hel0 : wr.cell? ⟨ra2 i, j, none⟩ = some (.int .u8 0) := by rw [hel, hz2]; rfl
                                    clear hel hz2
                                    go_wp2
                                    go_roundw
                                    case rel => exact ⟨i + 1, ra2, rb2, by omega, by go_num, by show Two _ _ _ _ _ _ _ _ _ _; rw [HEQ.out]; exact HT.out, HB.out⟩
                                    case measure => simp [intOf]; omega
                                  · have hx1' := byte_ne hz2
                                    have hy256 := UInt8.toNat_lt ((elimTo j lead i (F3, G3)).1 i j)
                                    have HEQ := Lib.hid (elimTo_go (q := j) (led := lead) (i := i) (s := (F3, G3)) hil hz2)
                                    obtain ⟨y, hy⟩ : ∃ y, ((elimTo j lead i (F3, G3)).1 i j).toNat = y := ⟨_, rfl⟩
                                    rw [hy] at hel hx1' hy256 HEQ
                                    have hq2' : ((y : Int) == 0) = false := beq_eq_false_iff_ne.2 (by omega)
                                    clear hy hz2
                                    go_upto_region 32 with (fail)
                                    clear hc1 hel
                                    obtain ⟨d1, hc1, hz1⟩ := (HT.out).cell hin
                                    obtain ⟨d2, hc2, _⟩ := (HT.out).cell hlead
                                    have HCC := Lib.hid (And.intro hc1 (And.intro hc2 hz1))
                                    clear hc1 hc2 hz1
                                    go_cut [] from 161 to 206 (fun wc => ∃ ra3 : Nat → Nat, Hid (Two w.heap.size wc ga gb n k (onto (elimTo j lead i (F3, G3)).1 i lead y) (elimTo j lead i (F3, G3)).2 ra3 rb2) ∧ Hid (Below w.heap.size w wc))
                                    case first =>
                                      refine wp_region_held_drew (S := fun u => u.cell? ⟨ga, lead, none⟩ = some (.slice (some ⟨ra2 lead, 0, none⟩) k d2)) (by kernel_rfl) (by exact HCC.out.2.1) (fun hHeld => ?_)
                                      refine wpAnyH_take (i := 0) (oi := ⟨some 181, _, _, _, _, _⟩) (v := ?_) rfl (by kernel_rfl) (by kernel_rfl) (by kernel_rfl) (fun _ _ _ h => h) (Or.inl ⟨by rfl, ?_⟩) (by assumption) ?_
                                      rotate_left
                                      · intro w hSw
                                        skip
                                        go_simp
                                        all_goals (with_reducible rfl)
                                      try simp only [Act.put, List.setIfInBounds_toArray, List.set_cons_zero, List.set_cons_succ]
                                      refine wpAnyH_take (i := 1) (oi := ⟨some 182, _, _, _, _, _⟩) (v := ?_) rfl (by kernel_rfl) (by kernel_rfl) (by kernel_rfl) (fun _ _ _ h => h) (Or.inl ⟨by rfl, ?_⟩) (by assumption) ?_
                                      rotate_left
                                      · intro w hSw
                                        skip
                                        go_simp
                                        all_goals (with_reducible rfl)
                                      try simp only [Act.put, List.setIfInBounds_toArray, List.set_cons_zero, List.set_cons_succ]
                                      refine wpAnyH_take (i := 2) (oi := ⟨some 183, _, _, _, _, _⟩) (v := ?_) rfl (by kernel_rfl) (by kernel_rfl) (by kernel_rfl) (fun _ _ _ h => h) (Or.inl ⟨by rfl, ?_⟩) (by assumption) ?_
                                      rotate_left
                                      · intro w hSw
                                        skip
                                        go_simp
                                        all_goals (with_reducible rfl)
                                      try simp only [Act.put, List.setIfInBounds_toArray, List.set_cons_zero, List.set_cons_succ]
                                      refine wpAnyH_take (i := 3) (oi := ⟨some 184, _, _, _, _, _⟩) (v := ?_) rfl (by kernel_rfl) (by kernel_rfl) (by kernel_rfl) (fun _ _ _ h => h) (Or.inl ⟨by rfl, ?_⟩) (by assumption) ?_
                                      rotate_left
                                      · intro w hSw
                                        skip
                                        go_simp
                                        all_goals (with_reducible rfl)
                                      try simp only [Act.put, List.setIfInBounds_toArray, List.set_cons_zero, List.set_cons_succ]
                                      refine wpAnyH_take (i := 4) (oi := ⟨some 185, _, _, _, _, _⟩) (v := ?_) rfl (by kernel_rfl) (by kernel_rfl) (by kernel_rfl) (fun _ _ _ h => h) (Or.inl ⟨by rfl, ?_⟩) (by assumption) ?_
                                      rotate_left
                                      · intro w hSw
                                        skip
                                        go_simp
                                        all_goals (with_reducible rfl)
                                      try simp only [Act.put, List.setIfInBounds_toArray, List.set_cons_zero, List.set_cons_succ]
                                      refine wpAnyH_take (i := 6) (oi := ⟨some 187, _, _, _, _, _⟩) (v := ?_) rfl (by kernel_rfl) (by kernel_rfl) (by kernel_rfl) (fun _ _ _ h => h) (Or.inl ⟨by rfl, ?_⟩) (by assumption) ?_
                                      rotate_left
                                      · intro w hSw
                                        skip
                                        go_simp
                                        all_goals (with_reducible rfl)
                                      try simp only [Act.put, List.setIfInBounds_toArray, List.set_cons_zero, List.set_cons_succ]
                                      refine wpAnyH_take (i := 7) (oi := ⟨some 188, _, _, _, _, _⟩) (v := ?_) rfl (by kernel_rfl) (by kernel_rfl) (by kernel_rfl) (fun _ _ _ h => h) (Or.inl ⟨by rfl, ?_⟩) (by assumption) ?_
                                      rotate_left
                                      · intro w hSw
                                        skip
                                        go_simp
                                        all_goals (with_reducible rfl)
                                      try simp only [Act.put, List.setIfInBounds_toArray, List.set_cons_zero, List.set_cons_succ]
                                      refine wpAnyH_take (i := 8) (oi := ⟨some 189, _, _, _, _, _⟩) (v := ?_) rfl (by kernel_rfl) (by kernel_rfl) (by kernel_rfl) (fun _ _ _ h => h) (Or.inl ⟨by rfl, ?_⟩) (by assumption) ?_
                                      rotate_left
                                      · intro w hSw
                                        skip
                                        go_simp
                                        all_goals (with_reducible rfl)
                                      try simp only [Act.put, List.setIfInBounds_toArray, List.set_cons_zero, List.set_cons_succ]
                                      refine wpAnyH_take (i := 9) (oi := ⟨some 190, _, _, _, _, _⟩) (v := ?_) rfl (by kernel_rfl) (by kernel_rfl) (by kernel_rfl) (fun _ _ _ h => h) (Or.inl ⟨by rfl, ?_⟩) (by assumption) ?_
                                      rotate_left
                                      · intro w hSw
                                        skip
                                        go_simp
                                        all_goals (with_reducible rfl)
                                      try simp only [Act.put, List.setIfInBounds_toArray, List.set_cons_zero, List.set_cons_succ]
                                      refine wpAnyH_take (i := 10) (oi := ⟨some 191, _, _, _, _, _⟩) (v := ?_) rfl (by kernel_rfl) (by kernel_rfl) (by kernel_rfl) (fun _ _ _ h => h) (Or.inl ⟨by rfl, ?_⟩) (by assumption) ?_
                                      rotate_left
                                      · intro w hSw
                                        skip
                                        go_simp
                                        all_goals (with_reducible rfl)
                                      try simp only [Act.put, List.setIfInBounds_toArray, List.set_cons_zero, List.set_cons_succ]
                                      have hH := hHeld
                                      have hc1 : wr.drew.cell? ⟨ga, i, none⟩ = some (.slice (some ⟨ra2 i, 0, none⟩) k d1) := HCC.out.1
                                      have hc10 := HCC.out.1
                                      refine wpAnyH_ready (rs := [5]) (by kernel_rfl) (by simp) (AllReadyH.cons (o := ⟨some 186, _, _, _, _, _⟩) rfl (fun K hK => ?_) AllReadyH.nil)
                                      go_simp
                                      refine hK.out _ _ (hH) (fun hHeld => ?_)
                                      clear hK K
                                      try simp only [Act.put, List.setIfInBounds_toArray, List.set_cons_zero, List.set_cons_succ]
                                      refine wpAnyH_ready (rs := [11]) (by kernel_rfl) (by simp) (AllReadyH.cons (o := ⟨some 192, _, _, _, _, _⟩) rfl (fun K hK => ?_) AllReadyH.nil)
                                      go_simp
                                      refine (rlay_any (some ⟨ra2 i, 0, none⟩) k d1 _ y (some ⟨ra2 lead, 0, none⟩) k d2 _ wr.drew (by exact ((HT.out).rd hin).drew) (by exact ((HT.out).rd hlead).drew) hy256 (by omega)).mono ?_
                                      rintro e w3 ⟨A3, c3, rfl, ho3, hb3⟩
                                      have ho3' : Own w3 wr.heap.size 5 A3 k c3 (rowL k fun jj => lay1 y ((elimTo j lead i (F3, G3)).1 i jj) ((elimTo j lead i (F3, G3)).1 lead jj)) := by rw [← lay_rowL]; exact ho3
                                      have hb3' : Below wr.heap.size wr w3 := ⟨hb3.os, hb3.tape, hb3.output, hb3.size, hb3.block⟩
                                      have hH3 : w3.cell? ⟨ga, lead, none⟩ = some (.slice (some ⟨ra2 lead, 0, none⟩) k d2) := (hb3'.cell (p := ⟨ga, lead, none⟩) (block_lt_of_cell HCC.out.2.1)).trans HCC.out.2.1
                                      refine hK.out _ _ (hH3) (fun hHeld => ?_)
                                      clear hK K
                                      try simp only [Act.put, List.setIfInBounds_toArray, List.set_cons_zero, List.set_cons_succ]
                                      refine wpAnyH_take (i := 12) (oi := ⟨some 193, _, _, _, _, _⟩) (v := ?_) rfl (by kernel_rfl) (by kernel_rfl) (by kernel_rfl) (fun _ _ _ h => h) (Or.inl ⟨by rfl, ?_⟩) (by assumption) ?_
                                      rotate_left
                                      · intro w hSw
                                        skip
                                        go_simp
                                        all_goals (with_reducible rfl)
                                      try simp only [Act.put, List.setIfInBounds_toArray, List.set_cons_zero, List.set_cons_succ]
                                      have hx3 : w3.cell? ⟨ga, i, none⟩ = some (.slice (some ⟨ra2 i, 0, none⟩) k d1) := (hb3'.cell (p := ⟨ga, i, none⟩) (block_lt_of_cell HCC.out.1)).trans HCC.out.1
                                      have hf3 : w3.frozen? ⟨ga, i, none⟩ = false := (hb3'.frozen (p := ⟨ga, i, none⟩) (block_lt_of_cell HCC.out.1)).trans HCC.out.2.2
                                      have hH5 : (w3.setCell ⟨ga, i, none⟩ (.slice A3 k c3)).cell? ⟨ga, lead, none⟩ = some (.slice (some ⟨ra2 lead, 0, none⟩) k d2) := (World.cell?_setCell_other _ _ _ _ (by intro e; injection e with _ e _; omega)).trans hH3
                                      refine wpAnyH_ready (rs := [13]) (by kernel_rfl) (by simp) (AllReadyH.cons (o := ⟨none, _, _, _, _, _⟩) rfl (fun K hK => ?_) AllReadyH.nil)
                                      go_simp
                                      refine hK.out _ _ (by exact hH5) (fun hHeld => ?_)
                                      clear hK K
                                      try simp only [Act.put, List.setIfInBounds_toArray, List.set_cons_zero, List.set_cons_succ]
                                      refine wpAnyH_done (by kernel_rfl) ?_ _
                                      obtain ⟨r3, hT3⟩ := (HT.out).setRow (show w.heap.size ≤ wr.heap.size from HB.out.size) hk1 hb3' (i := i) ho3'
                                      have hT4 := hT3
                                      have hBB : Below w.heap.size w (w3.setCell ⟨ga, i, none⟩ (.slice A3 k c3)) := ((show Below w.heap.size w wr from HB.out).trans (hb3'.mono HB.out.size)).setCell (p := ⟨ga, i, none⟩) hga _
                                      have HT4 := Lib.hid hT4
                                      have HBB := Lib.hid hBB
                                      clear hT3 hT4 hBB
                                      go_wp2_with fail
                                      go_meet
                                      case rel => exact ⟨r3, HT4.out.congr (fun a b _ _ => onto_at _ i lead y a b) (fun a b _ _ => rfl), HBB.out⟩
                                    case rest =>
                                      obtain ⟨ra3, HT, HB⟩ := hcut
                                      go_upto_region 33 with (fail)
                                      obtain ⟨d1, hc1, hz1⟩ := (HT.out.flip).cell hin
                                      obtain ⟨d2, hc2, _⟩ := (HT.out.flip).cell hlead
                                      have HCC := Lib.hid (And.intro hc1 (And.intro hc2 hz1))
                                      clear hc1 hc2 hz1
                                      refine wp_region_held_drew (S := fun u => u.cell? ⟨gb, lead, none⟩ = some (.slice (some ⟨rb2 lead, 0, none⟩) k d2)) (by kernel_rfl) (by exact HCC.out.2.1) (fun hHeld => ?_)
                                      refine wpAnyH_take (i := 0) (oi := ⟨some 194, _, _, _, _, _⟩) (v := ?_) rfl (by kernel_rfl) (by kernel_rfl) (by kernel_rfl) (fun _ _ _ h => h) (Or.inl ⟨by rfl, ?_⟩) (by assumption) ?_
                                      rotate_left
                                      · intro w hSw
                                        skip
                                        go_simp
                                        all_goals (with_reducible rfl)
                                      try simp only [Act.put, List.setIfInBounds_toArray, List.set_cons_zero, List.set_cons_succ]
                                      refine wpAnyH_take (i := 1) (oi := ⟨some 195, _, _, _, _, _⟩) (v := ?_) rfl (by kernel_rfl) (by kernel_rfl) (by kernel_rfl) (fun _ _ _ h => h) (Or.inl ⟨by rfl, ?_⟩) (by assumption) ?_
                                      rotate_left
                                      · intro w hSw
                                        skip
                                        go_simp
                                        all_goals (with_reducible rfl)
                                      try simp only [Act.put, List.setIfInBounds_toArray, List.set_cons_zero, List.set_cons_succ]
                                      refine wpAnyH_take (i := 2) (oi := ⟨some 196, _, _, _, _, _⟩) (v := ?_) rfl (by kernel_rfl) (by kernel_rfl) (by kernel_rfl) (fun _ _ _ h => h) (Or.inl ⟨by rfl, ?_⟩) (by assumption) ?_
                                      rotate_left
                                      · intro w hSw
                                        skip
                                        go_simp
                                        all_goals (with_reducible rfl)
                                      try simp only [Act.put, List.setIfInBounds_toArray, List.set_cons_zero, List.set_cons_succ]
                                      refine wpAnyH_take (i := 3) (oi := ⟨some 197, _, _, _, _, _⟩) (v := ?_) rfl (by kernel_rfl) (by kernel_rfl) (by kernel_rfl) (fun _ _ _ h => h) (Or.inl ⟨by rfl, ?_⟩) (by assumption) ?_
                                      rotate_left
                                      · intro w hSw
                                        skip
                                        go_simp
                                        all_goals (with_reducible rfl)
                                      try simp only [Act.put, List.setIfInBounds_toArray, List.set_cons_zero, List.set_cons_succ]
                                      refine wpAnyH_take (i := 4) (oi := ⟨some 198, _, _, _, _, _⟩) (v := ?_) rfl (by kernel_rfl) (by kernel_rfl) (by kernel_rfl) (fun _ _ _ h => h) (Or.inl ⟨by rfl, ?_⟩) (by assumption) ?_
                                      rotate_left
                                      · intro w hSw
                                        skip
                                        go_simp
                                        all_goals (with_reducible rfl)
                                      try simp only [Act.put, List.setIfInBounds_toArray, List.set_cons_zero, List.set_cons_succ]
                                      refine wpAnyH_take (i := 6) (oi := ⟨some 200, _, _, _, _, _⟩) (v := ?_) rfl (by kernel_rfl) (by kernel_rfl) (by kernel_rfl) (fun _ _ _ h => h) (Or.inl ⟨by rfl, ?_⟩) (by assumption) ?_
                                      rotate_left
                                      · intro w hSw
                                        skip
                                        go_simp
                                        all_goals (with_reducible rfl)
                                      try simp only [Act.put, List.setIfInBounds_toArray, List.set_cons_zero, List.set_cons_succ]
                                      refine wpAnyH_take (i := 7) (oi := ⟨some 201, _, _, _, _, _⟩) (v := ?_) rfl (by kernel_rfl) (by kernel_rfl) (by kernel_rfl) (fun _ _ _ h => h) (Or.inl ⟨by rfl, ?_⟩) (by assumption) ?_
                                      rotate_left
                                      · intro w hSw
                                        skip
                                        go_simp
                                        all_goals (with_reducible rfl)
                                      try simp only [Act.put, List.setIfInBounds_toArray, List.set_cons_zero, List.set_cons_succ]
                                      refine wpAnyH_take (i := 8) (oi := ⟨some 202, _, _, _, _, _⟩) (v := ?_) rfl (by kernel_rfl) (by kernel_rfl) (by kernel_rfl) (fun _ _ _ h => h) (Or.inl ⟨by rfl, ?_⟩) (by assumption) ?_
                                      rotate_left
                                      · intro w hSw
                                        skip
                                        go_simp
                                        all_goals (with_reducible rfl)
                                      try simp only [Act.put, List.setIfInBounds_toArray, List.set_cons_zero, List.set_cons_succ]
                                      refine wpAnyH_take (i := 9) (oi := ⟨some 203, _, _, _, _, _⟩) (v := ?_) rfl (by kernel_rfl) (by kernel_rfl) (by kernel_rfl) (fun _ _ _ h => h) (Or.inl ⟨by rfl, ?_⟩) (by assumption) ?_
                                      rotate_left
                                      · intro w hSw
                                        skip
                                        go_simp
                                        all_goals (with_reducible rfl)
                                      try simp only [Act.put, List.setIfInBounds_toArray, List.set_cons_zero, List.set_cons_succ]
                                      refine wpAnyH_take (i := 10) (oi := ⟨some 204, _, _, _, _, _⟩) (v := ?_) rfl (by kernel_rfl) (by kernel_rfl) (by kernel_rfl) (fun _ _ _ h => h) (Or.inl ⟨by rfl, ?_⟩) (by assumption) ?_
                                      rotate_left
                                      · intro w hSw
                                        skip
                                        go_simp
                                        all_goals (with_reducible rfl)
                                      try simp only [Act.put, List.setIfInBounds_toArray, List.set_cons_zero, List.set_cons_succ]
                                      have hH := hHeld
                                      have hc1 : wc.drew.cell? ⟨gb, i, none⟩ = some (.slice (some ⟨rb2 i, 0, none⟩) k d1) := HCC.out.1
                                      have hc10 := HCC.out.1
                                      refine wpAnyH_ready (rs := [5]) (by kernel_rfl) (by simp) (AllReadyH.cons (o := ⟨some 199, _, _, _, _, _⟩) rfl (fun K hK => ?_) AllReadyH.nil)
                                      go_simp
                                      refine hK.out _ _ (hH) (fun hHeld => ?_)
                                      clear hK K
                                      try simp only [Act.put, List.setIfInBounds_toArray, List.set_cons_zero, List.set_cons_succ]
                                      refine wpAnyH_ready (rs := [11]) (by kernel_rfl) (by simp) (AllReadyH.cons (o := ⟨some 205, _, _, _, _, _⟩) rfl (fun K hK => ?_) AllReadyH.nil)
                                      go_simp
                                      refine (rlay_any (some ⟨rb2 i, 0, none⟩) k d1 _ y (some ⟨rb2 lead, 0, none⟩) k d2 _ wc.drew (by exact ((HT.out.flip).rd hin).drew) (by exact ((HT.out.flip).rd hlead).drew) hy256 (by omega)).mono ?_
                                      rintro e w3 ⟨A3, c3, rfl, ho3, hb3⟩
                                      have ho3' : Own w3 wc.heap.size 5 A3 k c3 (rowL k fun jj => lay1 y ((elimTo j lead i (F3, G3)).2 i jj) ((elimTo j lead i (F3, G3)).2 lead jj)) := by rw [← lay_rowL]; exact ho3
                                      have hb3' : Below wc.heap.size wc w3 := ⟨hb3.os, hb3.tape, hb3.output, hb3.size, hb3.block⟩
                                      have hH3 : w3.cell? ⟨gb, lead, none⟩ = some (.slice (some ⟨rb2 lead, 0, none⟩) k d2) := (hb3'.cell (p := ⟨gb, lead, none⟩) (block_lt_of_cell HCC.out.2.1)).trans HCC.out.2.1
                                      refine hK.out _ _ (hH3) (fun hHeld => ?_)
                                      clear hK K
                                      try simp only [Act.put, List.setIfInBounds_toArray, List.set_cons_zero, List.set_cons_succ]
                                      refine wpAnyH_take (i := 12) (oi := ⟨some 206, _, _, _, _, _⟩) (v := ?_) rfl (by kernel_rfl) (by kernel_rfl) (by kernel_rfl) (fun _ _ _ h => h) (Or.inl ⟨by rfl, ?_⟩) (by assumption) ?_
                                      rotate_left
                                      · intro w hSw
                                        skip
                                        go_simp
                                        all_goals (with_reducible rfl)
                                      try simp only [Act.put, List.setIfInBounds_toArray, List.set_cons_zero, List.set_cons_succ]
                                      have hx3 : w3.cell? ⟨gb, i, none⟩ = some (.slice (some ⟨rb2 i, 0, none⟩) k d1) := (hb3'.cell (p := ⟨gb, i, none⟩) (block_lt_of_cell HCC.out.1)).trans HCC.out.1
                                      have hf3 : w3.frozen? ⟨gb, i, none⟩ = false := (hb3'.frozen (p := ⟨gb, i, none⟩) (block_lt_of_cell HCC.out.1)).trans HCC.out.2.2
                                      have hH5 : (w3.setCell ⟨gb, i, none⟩ (.slice A3 k c3)).cell? ⟨gb, lead, none⟩ = some (.slice (some ⟨rb2 lead, 0, none⟩) k d2) := (World.cell?_setCell_other _ _ _ _ (by intro e; injection e with _ e _; omega)).trans hH3
                                      refine wpAnyH_ready (rs := [13]) (by kernel_rfl) (by simp) (AllReadyH.cons (o := ⟨none, _, _, _, _, _⟩) rfl (fun K hK => ?_) AllReadyH.nil)
                                      go_simp
                                      refine hK.out _ _ (by exact hH5) (fun hHeld => ?_)
                                      clear hK K
                                      try simp only [Act.put, List.setIfInBounds_toArray, List.set_cons_zero, List.set_cons_succ]
                                      refine wpAnyH_done (by kernel_rfl) ?_ _
                                      obtain ⟨r3, hT3⟩ := (HT.out.flip).setRow (show w.heap.size ≤ wc.heap.size from HB.out.size) hk1 hb3' (i := i) ho3'
                                      have hT4 := hT3.flip
                                      have hBB : Below w.heap.size w (w3.setCell ⟨gb, i, none⟩ (.slice A3 k c3)) := ((show Below w.heap.size w wc from HB.out).trans (hb3'.mono HB.out.size)).setCell (p := ⟨gb, i, none⟩) hgb _
                                      have HT4 := Lib.hid hT4
                                      have HBB := Lib.hid hBB
                                      clear hT3 hT4 hBB
                                      go_wp2
                                      go_roundw
                                      case rel => exact ⟨i + 1, ra3, r3, by omega, by go_num, by show Two _ _ _ _ _ _ _ _ _ _; rw [HEQ.out]; exact HT4.out.congr (fun a b _ _ => rfl) (fun a b _ _ => onto_at _ i lead y a b), HBB.out⟩
                                      case measure => simp [intOf]; omega
                              · obtain rfl : i = n := by omega
                                go_wp2
                                go_roundw
                                case rel =>
                                  refine ⟨j + 1, lead + 1, _, _, ra2, rb2, by omega, by go_num, rfl, by omega, ?_, HT.out, HB.out⟩
                                  show stepCol i j (red i j (F, G, 0)) = _
                                  rw [HR.out, step_led HZ.out hlf hfn hz, HXX.out, HFG.out.1, HFG.out.2]
                                case measure => simp [intOf]; omega
            · obtain rfl : f = n := by omega
              have hq3 : ((f : Int) == (f : Int)) = true := beq_self_eq_true _
              go_wp2
              go_roundw
              case rel =>
                refine ⟨j + 1, lead, F', G', ra, rb, by omega, by go_num, rfl, hled, ?_, HT.out, HB.out⟩
                show stepCol f j (red f j (F, G, 0)) = _
                rw [HR.out]
                unfold stepCol
                simp only
                rw [if_pos (seek_eq HZ.out hlf hfn' (.inl rfl))]
              case measure => simp [intOf]; omega
        · by_cases hjk : j < k
          · obtain rfl : lead = n := by omega
            have hrf := red_full (n := lead) (q := j) (s := (F, G, 0)) (by rw [HR.out]) k (by omega)
            have HRF := Lib.hid hrf
            clear hrf
            go_wp2
            go_ret3
            have e : rankF lead k F G = lead ∧ besF lead k F G = G' := by unfold rankF besF; rw [HRF.out, HR.out]; exact ⟨rfl, rfl⟩
            exact ⟨_, _, _, _, by rw [e.1]; rfl, by rw [e.2]; exact HT.out.flip.mr, HB.out⟩
          · obtain rfl : j = k := by omega
            go_wp2
            go_ret3
            have e : rankF n j F G = lead ∧ besF n j F G = G' := by unfold rankF besF; rw [HR.out]; exact ⟨rfl, rfl⟩
            exact ⟨_, _, _, _, by rw [e.1]; rfl, by rw [e.2]; exact HT.out.flip.mr, HB.out⟩
end Go.Proofs.Ytobbjeephmfdeaa
