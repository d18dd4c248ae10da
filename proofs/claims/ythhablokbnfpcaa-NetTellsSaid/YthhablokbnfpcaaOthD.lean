/- alike: do the same lie about for a station? -/
import Derived.Test.YthhablokbnfpcaaOthP
import Derived.Test.YthhablokbnfpcaaQueC
namespace Go.Proofs.Ythhablokbnfpcaa
open Go.RowKit Go.Coop Go.Maps
set_option maxRecDepth 100000
theorem Nw.grown34 {w w' : World} {lo base k n cc : Nat} {A X : Option Addr} {vs : List Value} {l : List UInt8} (h : Nw w lo X l) (ho : OwnK w base 34 k A n cc vs) (hg : w.grownBy w' (A.map (·.block))) : Nw w' lo X l := by
  rcases ho.row.2 with ⟨hv, h0⟩ | ⟨r, cap, cur, hv, hb, hr, _⟩
  · injection hv with hA _ _
    subst hA
    exact h.below ⟨hg.os, hg.tape, hg.output, hg.size, fun k hk => hg.block k hk (by simp)⟩
  · injection hv with hA _ _
    subst hA
    refine h.but (grown_but hg : But [r] w w') fun k hk c fr e => ?_
    simp at hk
    subst hk
    rw [hr] at e
    injection e with e
    injection e with _ e _
    cases e
/-- a datagram of one's own -/
structure DatV.Its (o : DatV) (w : World) (lo : Nat) : Prop where
  nw : Nw w lo o.X o.l
  n : o.n = o.l.length
  fr : 0 ≤ o.fr
  tt : 0 ≤ o.tt
structure ARel (w0 w : World) (m : Nat) (H : List Dt) (A : Option Addr) (q cc : Nat) (L : List DatV) (j : Nat) : Prop where
  own : OwnK w w0.heap.size 34 3 A q cc (dcs L)
  its : ∀ o ∈ L, o.Its w w0.heap.size
  hp : L.map DatV.dt = mineF m (H.take j)
  bel : Below w0.heap.size w0 w
theorem ARel.len {w0 w : World} {m : Nat} {H : List Dt} {A : Option Addr} {q cc : Nat} {L : List DatV} {j : Nat} (h : ARel w0 w m H A q cc L j) : L.length = q := by
  have := h.own.len
  rw [dcs_len] at this
  omega
theorem ARel.below {w0 w w' : World} {m : Nat} {H : List Dt} {A : Option Addr} {q cc : Nat} {L : List DatV} {j : Nat} (h : ARel w0 w m H A q cc L j) (hb : Below w.heap.size w w') : ARel w0 w' m H A q cc L j :=
  ⟨h.own.below hb (Nat.le_refl _), fun o ho => ⟨(h.its o ho).nw.below hb, (h.its o ho).n, (h.its o ho).fr, (h.its o ho).tt⟩, h.hp, h.bel.trans (hb.mono h.bel.size)⟩
theorem ARel.qle {w0 w : World} {m : Nat} {H : List Dt} {A : Option Addr} {q cc : Nat} {L : List DatV} {j : Nat} (h : ARel w0 w m H A q cc L j) (hj : H.length ≤ 10000) : q ≤ 10000 := by
  have h1 : (L.map DatV.dt).length = (mineF m (H.take j)).length := by rw [h.hp]
  rw [List.length_map, h.len] at h1
  have h2 : (mineF m (H.take j)).length ≤ (H.take j).length := List.length_filter_le _ _
  have h3 : (H.take j).length ≤ H.length := List.length_take_le' _ _
  omega
theorem arel_more {w0 w w' : World} {m : Nat} {H : List Dt} {A A' : Option Addr} {q cc c' : Nat} {L : List DatV} {j : Nat} {d : Dt} {X : Option Addr} {cx : Nat} (h : ARel w0 w m H A q cc L j) (hd : H[j]? = some d) (hm : d.to = m) (hX : Nw w w0.heap.size X d.b)
    (ho : OwnK w' w0.heap.size 34 3 A' (q + 1) c' (dcs L ++ (DatV.mk (d.fr : Int) (d.to : Int) X d.b.length cx d.b).cells)) (hg : w.grownBy w' (A.map (·.block))) : ARel w0 w' m H A' (q + 1) c' (L ++ [DatV.mk (d.fr : Int) (d.to : Int) X d.b.length cx d.b]) (j + 1) := by
  refine ⟨by rw [dcs_append]; exact ho, fun o hi => ?_, ?_, h.bel.grown hg h.bel.size (own34_lo h.own)⟩
  · rcases List.mem_append.1 hi with hi | hi
    · exact ⟨(h.its o hi).nw.grown34 h.own hg, (h.its o hi).n, (h.its o hi).fr, (h.its o hi).tt⟩
    · simp at hi
      subst hi
      exact ⟨hX.grown34 h.own hg, rfl, by show (0 : Int) ≤ (d.fr : Int); omega, by show (0 : Int) ≤ (d.to : Int); omega⟩
  · rw [List.map_append, h.hp, List.take_add_one, hd, mineF_append]
    congr 1
    simp [mineF, hm, DatV.dt]
    rw [← hm]
theorem arel_skip {w0 w : World} {m : Nat} {H : List Dt} {A : Option Addr} {q cc : Nat} {L : List DatV} {j : Nat} {d : Dt} (h : ARel w0 w m H A q cc L j) (hd : H[j]? = some d) (hm : d.to ≠ m) : ARel w0 w m H A q cc L (j + 1) := by
  refine ⟨h.own, h.its, ?_, h.bel⟩
  rw [h.hp, List.take_add_one, hd, mineF_append]
  simp [mineF, hm]
set_option maxHeartbeats 1000000 in
theorem alike_is (w : World) {Ba Bb ga ca gb cb m : Nat} {Sa Sb : NS} (ha : Nt w Ba ga ca Sa) (hb : Nt w Bb gb cb Sb) (h : Sb.heap = mineF m Sa.heap) (hm : m < 5) : Calls Try.prog 35 #[.pointer (some ⟨ga, 0, none⟩), .pointer (some ⟨gb, 0, none⟩), .int .i64 (m : Int)] w (Awake w) := by
  obtain ⟨n, hn⟩ : ∃ n, Sa.heap.length = n := ⟨_, rfl⟩
  have hn0 : n ≤ 10000 := by have := ha.ok.len; omega
  have HA := Lib.hid (And.intro ha (And.intro hb (And.intro h (And.intro hn hn0))))
  have hmi : (0 : Int) ≤ (m : Int) := by omega
  have hmj : (m : Int) < 5 := by omega
  clear ha hb h hn hn0 hm
  go_enter Try.func35, Try.ntmps35
  go_wp2
  go_loopw [7, 8] (fun l i wr => ∃ (j q cc : Nat) (A : Option Addr) (L : List DatV), j ≤ n ∧ l = .slice A q cc ∧ i = .int .i64 j ∧ Hid (ARel w wr m Sa.heap A q cc L j)) (fun _ i _ => n - (Go.RowKit.intOf i).toNat)
  case atStart => exact ⟨0, 0, 0, none, [], by omega, rfl, rfl, OwnK.nil _ _ _ _, by simp, rfl, Below.refl _ _⟩
  case round =>
    obtain ⟨j, q, cc, A, L, hj, rfl, rfl, HR⟩ := hrel
    by_cases hlt : j < n
    · obtain ⟨d, hd⟩ : ∃ d, Sa.heap[j]? = some d := ⟨_, List.getElem?_eq_getElem (by rw [HA.out.2.2.2.1]; exact hlt)⟩
      have hji : (0 : Int) ≤ (j : Int) := by omega
      have hjn : (j : Int) < (n : Int) := by omega
      have hj1 : (j : Int) < 10000 := by have := HA.out.2.2.2.2; omega
      have hw1 : IntKind.i64.wrap ((j : Int) + 1) = (j : Int) + 1 := IntWalk.i64_in _ (by omega)
      have HX := Lib.hid (And.intro hd hlt)
      clear hd hlt hj
      go_wp2_with fail
      refine (nt_flying _ (HA.out.1.below (w' := wr) HR.out.bel) (q := (n : Int)) (by rw [HA.out.2.2.2.1])).mono ?_
      rintro e _ ⟨rfl, rfl⟩
      go_wp2_with fail
      refine (nt_look _ (HA.out.1.below (w' := wr) HR.out.bel) (j : Int) (o := some d) (by rw [NS.look_at]; exact HX.out.1)).mono ?_
      rintro e w2 ⟨X, cx, rfl, hT, hb⟩
      dsimp only [Option.getD, Option.isSome, Told] at hT ⊢
      obtain ⟨t, ht⟩ : ∃ t, d.to = t := ⟨_, rfl⟩
      obtain ⟨f, hf⟩ : ∃ t, d.fr = t := ⟨_, rfl⟩
      rw [ht, hf]
      obtain ⟨w3, hw3⟩ : ∃ v, w2.alloc (.cells #[.int .i64 (f : Int), .int .i64 (t : Int), .slice X d.b.length cx] 34) = v := ⟨_, rfl⟩
      have hB3 : Below w2.heap.size w2 w3 := hw3 ▸ (Below.refl _ _).alloc (Nat.le_refl _) _
      have hr3 : w3.heap[w2.heap.size]? = some (.cells #[.int .i64 (f : Int), .int .i64 (t : Int), .slice X d.b.length cx] 34 (0, 0)) := hw3 ▸ heap_alloc_new _ _
      have H3 := Lib.hid (And.intro ((HR.out.below hb).below hB3) (And.intro ((hT.below hB3).lower (lo' := w.heap.size) HR.out.bel.size) (And.intro hr3 (And.intro ht hf))))
      obtain ⟨⟨k0, k1, k2⟩, _, _, _⟩ := three hr3
      clear hT hb hB3 hr3 HR ht hf
      by_cases htm : t = m
      · subst htm
        have hjq : q ≤ 10000 := H3.out.1.qle (by have := HA.out.2.2.2; omega)
        obtain ⟨w4, hw4⟩ : ∃ v, w3.alloc (.cells #[.int .i64 (f : Int), .int .i64 (t : Int), .slice X d.b.length cx] 34) = v := ⟨_, rfl⟩
        have hr4 : RdV w4 (some ⟨w3.heap.size, 0, none⟩) (1 * 3) (DatV.mk (f : Int) (t : Int) X d.b.length cx d.b).cells := hw4 ▸ RdV.new w3 _ 34 (0, 0)
        have hB4 : Below w3.heap.size w3 w4 := hw4 ▸ (Below.refl _ _).alloc (Nat.le_refl _) _
        have H4 := Lib.hid (And.intro (H3.out.1.below hB4) (And.intro (H3.out.2.1.below hB4) hr4))
        clear hr4 hB4
        go_wp2_with (at_builtin; refine wpList_appK _ rfl (.tmp 30) (.tmp 32) 67 rfl w.heap.size 34 3 _ 40 Try.underlying67 info34 rfl (by omega) (A := A) (n := q) (c := cc) (vs := dcs L) (B := some ⟨w3.heap.size, 0, none⟩) (m := 1) (d := 1) (us := (DatV.mk (f : Int) (t : Int) X d.b.length cx d.b).cells) rfl H4.out.1.own rfl H4.out.2.2 (by omega) (by intro u hu; simp [DatV.cells] at hu; rcases hu with rfl | rfl | rfl <;> rfl) (by omega) (by omega) H4.out.1.bel.size (q + 1) rfl ?_; intro A' c' w5 hown hgr hA)
        have HE : Hid (ARel w w5 t Sa.heap A' (q + 1) c' (L ++ [DatV.mk (d.fr : Int) (d.to : Int) X d.b.length cx d.b]) (j + 1)) := Lib.hid (arel_more H4.out.1 HX.out.1 H3.out.2.2.2.1 H4.out.2.1 (by rw [H3.out.2.2.2.1, H3.out.2.2.2.2]; exact hown) hgr)
        have HJ := Lib.hid HX.out.2
        clear hown hgr hA k0 k1 k2 hw3 hw4 H3 H4 hjq
        go_wp2
        go_roundw
        case rel => exact ⟨j + 1, q + 1, c', A', _, by have := HJ.out; omega, rfl, by go_num, HE.out⟩
        case measure => have := HJ.out; simp [Go.RowKit.intOf]; omega
      · have htn : ¬ (t : Int) = (m : Int) := by omega
        have HE : Hid (ARel w w3 m Sa.heap A q cc L (j + 1)) := Lib.hid (arel_skip H3.out.1 HX.out.1 (by rw [H3.out.2.2.2.1]; exact htm))
        have HJ := Lib.hid HX.out.2
        clear htm
        go_wp2
        go_roundw
        case rel => exact ⟨j + 1, q, cc, A, _, by have := HJ.out; omega, rfl, by go_num, HE.out⟩
        case measure => have := HJ.out; simp [Go.RowKit.intOf]; omega
    · obtain rfl : j = n := by omega
      clear hlt hj
      have hqq : Sb.heap.length = q ∧ Sa.wait (m : Int) = q ∧ Sb.wait (m : Int) = q := by
        have e0 := HR.out.hp
        rw [List.take_of_length_le (by rw [HA.out.2.2.2.1]; exact Nat.le_refl _)] at e0
        have e1 : (mineF m Sa.heap).length = q := by rw [← e0, List.length_map, HR.out.len]
        refine ⟨by rw [HA.out.2.2.1, e1], by rw [wait_mine, e1], by rw [wait_mine, HA.out.2.2.1, mine_mine, e1]⟩
      have HQ := Lib.hid hqq
      have hqle := HR.out.qle (by have := HA.out.2.2.2; omega)
      have hqi : (q : Int) ≤ 10000 := by omega
      clear hqq hqle
      go_wp2_with fail
      refine (nt_flying _ (HA.out.1.below (w' := wr) HR.out.bel) (q := (j : Int)) (by rw [HA.out.2.2.2.1])).mono ?_
      rintro e _ ⟨rfl, rfl⟩
      go_wp2_with fail
      refine (nt_flying _ (HA.out.2.1.below (w' := wr) HR.out.bel) (q := (q : Int)) (by rw [HQ.out.1])).mono ?_
      rintro e _ ⟨rfl, rfl⟩
      go_wp2_with fail
      refine (nt_waiting _ (HA.out.1.below (w' := wr) HR.out.bel) (k := (m : Int)) (by omega) (by omega) (q := (q : Int)) (by rw [HQ.out.2.1])).mono ?_
      rintro e _ ⟨rfl, rfl⟩
      go_wp2_with fail
      refine (nt_waiting _ (HA.out.2.1.below (w' := wr) HR.out.bel) (k := (m : Int)) (by omega) (by omega) (q := (q : Int)) (by rw [HQ.out.2.2])).mono ?_
      rintro e _ ⟨rfl, rfl⟩
      obtain ⟨wo, hwo⟩ : ∃ v, v = wr := ⟨_, rfl⟩
      subst hwo
      go_wp2
      go_loopw [57] (fun i wr => ∃ p : Nat, p ≤ q ∧ i = .int .i64 p ∧ Hid (Below wo.heap.size wo wr)) (fun i _ => q - (Go.RowKit.intOf i).toNat)
      case atStart => exact ⟨0, by omega, rfl, Below.refl _ _⟩
      case round =>
        obtain ⟨p, hp, rfl, HB⟩ := hrel
        by_cases hpq : p < q
        · have HR2 := Lib.hid (HR.out.below HB.out)
          obtain ⟨o, ho⟩ : ∃ o, L[p]? = some o := ⟨_, List.getElem?_eq_getElem (by rw [HR.out.len]; exact hpq)⟩
          have hlk : Sb.look (p : Int) = some o.dt := by
            have e0 := HR.out.hp
            rw [List.take_of_length_le (by rw [HA.out.2.2.2.1]; exact Nat.le_refl _)] at e0
            rw [NS.look_at, HA.out.2.2.1, ← e0, List.getElem?_map, ho]
            rfl
          obtain ⟨r, sp, rfl, _, hrlt, _, hqc, _, _⟩ := HR2.out.own.head (by omega)
          have hpi : (0 : Int) ≤ (p : Int) := by omega
          have hpj : (p : Int) < (q : Int) := by omega
          have hw1 : IntKind.i64.wrap ((p : Int) + 1) = (p : Int) + 1 := IntWalk.i64_in _ (by omega)
          have HX := Lib.hid (And.intro ho (And.intro hlk hpq))
          clear ho hlk hpq hp hrlt hqc
          go_wp2_with fail
          refine (nt_look _ (HA.out.2.1.below (w' := wr) HR2.out.bel) (p : Int) (o := some o.dt) HX.out.2.1).mono ?_
          rintro e w2 ⟨X, cx, rfl, hT, hb⟩
          dsimp only [Option.getD, Option.isSome, Told] at hT ⊢
          obtain ⟨w4, hw4⟩ : ∃ v, w2.alloc (.cells #[.int .i64 (o.dt.fr : Int), .int .i64 (o.dt.to : Int), .slice X o.dt.b.length cx] 34) = v := ⟨_, rfl⟩
          have hB4 : Below w2.heap.size w2 w4 := hw4 ▸ (Below.refl _ _).alloc (Nat.le_refl _) _
          have hr4 : w4.heap[w2.heap.size]? = some (.cells #[.int .i64 (o.dt.fr : Int), .int .i64 (o.dt.to : Int), .slice X o.dt.b.length cx] 34 (0, 0)) := hw4 ▸ heap_alloc_new _ _
          have H4 := Lib.hid (And.intro ((HR2.out.below hb).below hB4) (And.intro (HB.out.trans ((hb.mono HB.out.size).trans (hB4.mono (Nat.le_trans HB.out.size hb.size)))) (And.intro hr4 (hT.below hB4))))
          clear hT hb hB4 hr4 HR2
          obtain ⟨b4, hb4⟩ : ∃ b, w2.heap.size = b := ⟨_, rfl⟩
          have HW := Lib.hid hb4
          clear hb4
          go_upto_region 14 with (fail)
          rw [HW.out]
          have HR4 : Hid (w4.heap[b4]? = some (.cells #[.int .i64 (o.dt.fr : Int), .int .i64 (o.dt.to : Int), .slice X o.dt.b.length cx] 34 (0, 0))) := Lib.hid (HW.out ▸ H4.out.2.2.1)
          have hrows := (two_rows H4.out.1.own HX.out.1).1
          have hrlt : r < w4.heap.size := (own_block H4.out.1.own).2
          have HC4 : Hid (∀ v, Below w4.heap.size w4 v → (v.cell? ⟨r, p * 3, none⟩ = some (.int .i64 o.fr) ∧ v.cell? ⟨r, p * 3 + 1, none⟩ = some (.int .i64 o.tt) ∧ v.cell? ⟨r, p * 3 + 2, none⟩ = some (.slice o.X o.n o.c))) := Lib.hid fun v hv => ⟨(hv.cell (by exact hrlt)).trans hrows.1, (hv.cell (by exact hrlt)).trans hrows.2.1, (hv.cell (by exact hrlt)).trans hrows.2.2⟩
          have hits := H4.out.1.its o (List.mem_of_getElem? HX.out.1)
          have HRD : Hid (Rd w4 o.X o.n o.l) := Lib.hid (by have := hits.nw.rd; rwa [← hits.n] at this)
          have HAL : Hid ((decide ((o.dt.fr : Int) = o.fr) && decide ((o.dt.to : Int) = o.tt) && decide (o.dt.b = o.l)) = true) := Lib.hid (by
            have h1 : (o.dt.fr : Int) = o.fr := by have := hits.fr; show ((o.fr.toNat : Nat) : Int) = _; omega
            have h2 : (o.dt.to : Int) = o.tt := by have := hits.tt; show ((o.tt.toNat : Nat) : Int) = _; omega
            rw [decide_eq_true h1, decide_eq_true h2, decide_eq_true (show o.dt.b = o.l from rfl)]
            rfl)
          clear hrows hrlt hits
          refine wp_region_held_drew (S := fun v => Below w4.heap.size w4 v) (by kernel_rfl) (((Below.refl w4.heap.size w4).drew)) (fun hHeld => ?_)
          refine wpAnyH_take (i := 0) (oi := ⟨some 66, _, _, _, _, _⟩) (v := ?_) rfl (by kernel_rfl) (by kernel_rfl) (by kernel_rfl) (fun _ _ _ h => h) (Or.inl ⟨by rfl, ?_⟩) (by assumption) ?_
          rotate_left
          · intro w hSw
            obtain ⟨⟨k0, k1, k2⟩, _, _, _⟩ := three (b := b4) ((hSw.block _ (Array.getElem?_eq_some_iff.1 HR4.out).1).trans HR4.out)
            go_simp
            all_goals (with_reducible rfl)
          try simp only [Act.put, List.setIfInBounds_toArray, List.set_cons_zero, List.set_cons_succ]
          refine wpAnyH_take (i := 1) (oi := ⟨some 67, _, _, _, _, _⟩) (v := ?_) rfl (by kernel_rfl) (by kernel_rfl) (by kernel_rfl) (fun _ _ _ h => h) (Or.inl ⟨by rfl, ?_⟩) (by assumption) ?_
          rotate_left
          · intro w hSw
            (try dsimp only at hSw)
            go_simp
            all_goals (with_reducible rfl)
          try simp only [Act.put, List.setIfInBounds_toArray, List.set_cons_zero, List.set_cons_succ]
          refine wpAnyH_take (i := 2) (oi := ⟨some 68, _, _, _, _, _⟩) (v := ?_) rfl (by kernel_rfl) (by kernel_rfl) (by kernel_rfl) (fun _ _ _ h => h) (Or.inl ⟨by rfl, ?_⟩) (by assumption) ?_
          rotate_left
          · intro w hSw
            (try dsimp only at hSw)
            go_simp
            all_goals (with_reducible rfl)
          try simp only [Act.put, List.setIfInBounds_toArray, List.set_cons_zero, List.set_cons_succ]
          refine wpAnyH_take (i := 3) (oi := ⟨some 69, _, _, _, _, _⟩) (v := ?_) rfl (by kernel_rfl) (by kernel_rfl) (by kernel_rfl) (fun _ _ _ h => h) (Or.inl ⟨by rfl, ?_⟩) (by assumption) ?_
          rotate_left
          · intro w hSw
            (try dsimp only at hSw)
            go_simp
            all_goals (with_reducible rfl)
          try simp only [Act.put, List.setIfInBounds_toArray, List.set_cons_zero, List.set_cons_succ]
          refine wpAnyH_take (i := 4) (oi := ⟨some 70, _, _, _, _, _⟩) (v := ?_) rfl (by kernel_rfl) (by kernel_rfl) (by kernel_rfl) (fun _ _ _ h => h) (Or.inl ⟨by rfl, ?_⟩) (by assumption) ?_
          rotate_left
          · intro w hSw
            obtain ⟨k0, k1, k2⟩ := HC4.out w hSw
            go_simp
            all_goals (with_reducible rfl)
          try simp only [Act.put, List.setIfInBounds_toArray, List.set_cons_zero, List.set_cons_succ]
          refine wpAnyH_ready (rs := [5]) (by kernel_rfl) (by simp) (AllReadyH.cons (o := ⟨some 71, _, _, _, _, _⟩) rfl (fun K hK => ?_) AllReadyH.nil)
          go_simp
          refine (like_is _ (H4.out.2.2.2.rd.below (by exact ((Below.refl w4.heap.size w4).drew)) (Nat.le_refl _)) (HRD.out.below (by exact ((Below.refl w4.heap.size w4).drew)) (Nat.le_refl _)) (q := true) HAL.out).mono ?_
          rintro e v5 ⟨rfl, hb⟩
          have B5 : Hid (Below w4.heap.size w4 v5) := Lib.hid (Below.trans ((Below.refl w4.heap.size w4).drew) hb)
          clear hb
          refine hK.out _ _ (B5.out) (fun hHeld => ?_)
          clear hK K
          try simp only [Act.put, List.setIfInBounds_toArray, List.set_cons_zero, List.set_cons_succ]
          refine wpAnyH_take (i := 6) (oi := ⟨some 72, _, _, _, _, _⟩) (v := ?_) rfl (by kernel_rfl) (by kernel_rfl) (by kernel_rfl) (fun _ _ _ h => h) (Or.inl ⟨by rfl, ?_⟩) (by assumption) ?_
          rotate_left
          · intro w hSw
            (try dsimp only at hSw)
            go_simp
            all_goals (with_reducible rfl)
          try simp only [Act.put, List.setIfInBounds_toArray, List.set_cons_zero, List.set_cons_succ]
          refine wpAnyH_done (by kernel_rfl) ?_ _
          have HE := Lib.hid (And.intro (H4.out.2.1.trans (B5.out.mono H4.out.2.1.size)) HX.out.2.2)
          clear hHeld HC4 HRD HAL HR4 B5 H4 HX
          go_wp2
          go_roundw
          case rel => exact ⟨p + 1, by have := HE.out.2; omega, by go_num, HE.out.1⟩
          case measure => have := HE.out.2; simp [Go.RowKit.intOf]; omega
        · obtain rfl : p = q := by omega
          have HE := Lib.hid (HR.out.bel.trans (HB.out.mono HR.out.bel.size))
          clear HR hpq hp
          go_wp2
          go_ret
          exact ⟨rfl, HE.out⟩
end Go.Proofs.Ythhablokbnfpcaa
