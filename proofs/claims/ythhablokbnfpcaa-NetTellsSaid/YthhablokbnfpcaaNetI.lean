/- slices.DeleteFunc at datagrams. -/
import Derived.Test.YthhablokbnfpcaaNetH
namespace Go.Proofs.Ythhablokbnfpcaa
open Go.RowKit Go.Coop Go.Maps
set_option maxRecDepth 100000
/-- where the striking stands: i are kept of the first j -/
structure Strikes (w wr : World) (r : Nat) (k : Int) (l : List Dt) (sp : List Value) (i j : Nat) : Prop where
  but : But [r] w wr
  out : ∃ st : List Value, st.length = (j - i) * 3 ∧ ((l.take j).filter fun d => !d.for_ k).length = i ∧ i < j ∧ wr.heap[r]? = some (.cells (dvs ((l.take j).filter fun d => !d.for_ k) ++ (st ++ (dvs (l.drop j) ++ sp))).toArray 80 (0, 0))
theorem take_filter {l : List Dt} {j : Nat} {d : Dt} (h : l[j]? = some d) (k : Int) : (l.take (j + 1)).filter (fun d => !d.for_ k) = (l.take j).filter (fun d => !d.for_ k) ++ if d.for_ k then [] else [d] := by
  rw [List.take_add_one, h, List.filter_append]
  congr 1
  cases hq : d.for_ k <;> simp [hq]
theorem drop_cons {l : List Dt} {j : Nat} {d : Dt} (h : l[j]? = some d) : l.drop j = d :: l.drop (j + 1) := by
  have hj := (List.getElem?_eq_some_iff.1 h).1
  rw [List.drop_eq_getElem_cons hj, (List.getElem?_eq_some_iff.1 h).2]
theorem Strikes.start {w : World} {r : Nat} {k : Int} {l : List Dt} {sp : List Value} {q : Nat} {d : Dt} {wr : World} (hr : w.heap[r]? = some (.cells (dvs l ++ sp).toArray 80 (0, 0))) (hd : l[q]? = some d) (hk : d.for_ k = true) (hall : ∀ x ∈ l.take q, x.for_ k = false) (hb : Below w.heap.size w wr) : Strikes w wr r k l sp q (q + 1) := by
  refine ⟨But.of_below hb, d.vs, by simp [Dt.vs], ?_, by omega, ?_⟩
  · rw [take_filter hd, hk, if_pos rfl, List.append_nil, List.filter_eq_self.2 (fun x hx => by simp [hall x hx]), List.length_take]
    have := (List.getElem?_eq_some_iff.1 hd).1
    omega
  · rw [take_filter hd, hk, if_pos rfl, List.append_nil, List.filter_eq_self.2 (fun x hx => by simp [hall x hx])]
    have e : dvs l = dvs (l.take q) ++ (d.vs ++ dvs (l.drop (q + 1))) := dvs_split hd
    rw [e, List.append_assoc, List.append_assoc] at hr
    exact (hb.block _ (Array.getElem?_eq_some_iff.1 hr).1).trans hr
theorem Strikes.below {w wr w' : World} {r : Nat} {k : Int} {l : List Dt} {sp : List Value} {i j : Nat} (h : Strikes w wr r k l sp i j) (hb : Below wr.heap.size wr w') : Strikes w w' r k l sp i j := by
  obtain ⟨st, h1, h2, h3, h4⟩ := h.out
  exact ⟨h.but.trans (But.of_below hb), st, h1, h2, h3, (hb.block _ (Array.getElem?_eq_some_iff.1 h4).1).trans h4⟩
theorem Strikes.skip {w wr : World} {r : Nat} {k : Int} {l : List Dt} {sp : List Value} {i j : Nat} {d : Dt} (h : Strikes w wr r k l sp i j) (hd : l[j]? = some d) (hk : d.for_ k = true) : Strikes w wr r k l sp i (j + 1) := by
  obtain ⟨st, h1, h2, h3, h4⟩ := h.out
  refine ⟨h.but, st ++ d.vs, ?_, ?_, by omega, ?_⟩
  · rw [List.length_append, h1]; simp [Dt.vs]; omega
  · rw [take_filter hd, hk, if_pos rfl, List.append_nil, h2]
  · rw [take_filter hd, hk, if_pos rfl, List.append_nil, h4, drop_cons hd, dvs_cons]
    simp only [List.append_assoc]
/-- the datagram at j goes to the place i -/
theorem Strikes.keep {w wr : World} {r : Nat} {k : Int} {l : List Dt} {sp : List Value} {i j : Nat} {d : Dt} (h : Strikes w wr r k l sp i j) (hd : l[j]? = some d) (hk : d.for_ k = false) :
    (∃ u0 u1 u2, wr.cell? ⟨r, i * 3, none⟩ = some u0 ∧ wr.cell? ⟨r, i * 3 + 1, none⟩ = some u1 ∧ wr.cell? ⟨r, i * 3 + 2, none⟩ = some u2) ∧ (∀ x, wr.frozen? ⟨r, x, none⟩ = false) ∧
    Strikes w (((wr.setCell ⟨r, i * 3, none⟩ (.int .i64 (d.fr : Int))).setCell ⟨r, i * 3 + 1, none⟩ (.int .i64 (d.to : Int))).setCell ⟨r, i * 3 + 2, none⟩ (SV d.b)) r k l sp (i + 1) (j + 1) := by
  obtain ⟨st, h1, h2, h3, h4⟩ := h.out
  obtain ⟨u0, u1, u2, st', rfl⟩ : ∃ u0 u1 u2 st', st = u0 :: u1 :: u2 :: st' := by
    match st, h1 with
    | u0 :: u1 :: u2 :: st', _ => exact ⟨u0, u1, u2, st', rfl⟩
    | [], h1 => simp at h1; omega
    | [_], h1 => simp at h1; omega
    | [_, _], h1 => simp at h1; omega
  have hK : (dvs ((l.take j).filter fun d => !d.for_ k)).length = i * 3 := by rw [dvs_len, h2]
  have hx : ∀ y u, [u0, u1, u2][y]? = some u → wr.cell? ⟨r, i * 3 + y, none⟩ = some u := fun y u hy => by
    have hy3 := (List.getElem?_eq_some_iff.1 hy).1
    simp only [World.cell?, h4]
    simp only [List.getElem?_toArray]
    rw [List.getElem?_append_right (by omega), hK, Nat.add_sub_cancel_left]
    have e : u0 :: u1 :: u2 :: st' ++ (dvs (l.drop j) ++ sp) = [u0, u1, u2] ++ (st' ++ (dvs (l.drop j) ++ sp)) := rfl
    rw [e, List.getElem?_append_left hy3, hy]
    rfl
  have h5 : wr.heap[r]? = some (.cells (dvs ((l.take j).filter fun d => !d.for_ k) ++ [u0, u1, u2] ++ (st' ++ (dvs (l.drop j) ++ sp))).toArray 80 (0, 0)) := by
    rw [h4, List.append_assoc]
    rfl
  have hst := setCells_row wr Try.prog r 80 _ _ _ d.vs h5 rfl (vs_one d)
  rw [hK] at hst
  have hst2 : ((wr.setCell ⟨r, i * 3, none⟩ (.int .i64 (d.fr : Int))).setCell ⟨r, i * 3 + 1, none⟩ (.int .i64 (d.to : Int))).setCell ⟨r, i * 3 + 2, none⟩ (SV d.b) = wr.setRow r (dvs ((l.take j).filter fun d => !d.for_ k) ++ d.vs ++ (st' ++ (dvs (l.drop j) ++ sp))).toArray := hst
  rw [hst2]
  refine ⟨⟨u0, u1, u2, hx 0 _ rfl, hx 1 _ rfl, hx 2 _ rfl⟩, fun x => frozen_of_row wr r x _ 80 h4, h.but.trans (setRow_but _ _ _), st' ++ d.vs, ?_, ?_, by omega, ?_⟩
  · simp at h1
    simp [Dt.vs]
    omega
  · rw [take_filter hd, hk, List.length_append, h2]; simp
  · rw [setRow_heap wr r _ _ 80 _ h5, take_filter hd, hk, dvs_append, drop_cons hd, dvs_cons]
    simp [dvs]
theorem Strikes.at_ {w wr : World} {r : Nat} {k : Int} {l : List Dt} {sp : List Value} {i j : Nat} {d : Dt} (h : Strikes w wr r k l sp i j) (hd : l[j]? = some d) : wr.cell? ⟨r, j * 3, none⟩ = some (.int .i64 (d.fr : Int)) ∧ wr.cell? ⟨r, j * 3 + 1, none⟩ = some (.int .i64 (d.to : Int)) ∧ wr.cell? ⟨r, j * 3 + 2, none⟩ = some (SV d.b) := by
  obtain ⟨st, h1, h2, h3, h4⟩ := h.out
  rw [← List.append_assoc] at h4
  exact row_get h4 (drop_cons hd) (by rw [List.length_append, dvs_len, h1, h2]; omega)
theorem strike_is (w : World) {B r n cap N : Nat} {l : List Dt} {k : Int} (hl : l.length = n) (h : OwnK w B 80 3 (some ⟨r, 0, none⟩) n cap (dvs l)) (hN : w.cell? ⟨N, 0, none⟩ = some (.int .i64 k)) (hNr : N ≠ r) (hm : n ≤ 1000000) (hex : ∃ d ∈ l, d.for_ k = true) :
    Calls Try.prog 43 #[.slice (some ⟨r, 0, none⟩) n cap, .func (.func 44) #[] #[.pointer (some ⟨N, 0, none⟩)]] w fun e w' => ∃ m, m = (l.filter fun d => !d.for_ k).length ∧ e = .returned (.slice (some ⟨r, 0, none⟩) m cap) ∧ OwnK w' B 80 3 (some ⟨r, 0, none⟩) m cap (dvs (l.filter fun d => !d.for_ k)) ∧ But [r] w w' := by
  have hn0 : 0 < n := by
    obtain ⟨d, hd, _⟩ := hex
    have := List.length_pos_of_mem hd
    omega
  obtain ⟨r', sp, hr', hbr, hrl, hblk, hnc, hcm, hlen⟩ := h.head hn0
  injection hr' with hr'
  injection hr' with hr' _ _
  subst hr'
  have HF := Lib.hid (find_one w (cap := cap) hl hblk hN hm hex)
  have HR := Lib.hid (And.intro hblk (And.intro hN (And.intro hl (And.intro hNr (And.intro hbr (And.intro hcm hlen))))))
  have hcb : cap ≤ 9223372036854775807 := hcm
  clear hblk hN hl hex h hNr hbr hcm hlen hrl
  go_enter Try.func43, Try.ntmps43
  go_wp2_with fail
  refine HF.out.mono ?_
  rintro e w1 ⟨q, d, rfl, hd, hk, hall, hb⟩
  have hqn : q < n := by have := (List.getElem?_eq_some_iff.1 hd).1; have := HR.out.2.2.1; omega
  have HS := Lib.hid (Strikes.start HR.out.1 hd hk hall hb)
  have hne1 : ((q : Int) == -1) = false := beq_eq_false_iff_ne.2 (by omega)
  have hw1 : IntKind.i64.wrap ((q : Int) + 1) = (q : Int) + 1 := IntWalk.i64_in _ (by omega)
  clear hd hk hall hb
  go_wp2
  go_loopw [5, 6, 7] (fun s5 s6 _ wr => ∃ i j : Nat, j ≤ n ∧ s5 = .int .i64 i ∧ s6 = .int .i64 j ∧ Hid (Strikes w wr r k l sp i j)) (fun _ s6 _ _ => n - (Go.RowKit.intOf s6).toNat)
  case atStart => exact ⟨q, q + 1, by omega, rfl, by go_num, HS.out⟩
  case round =>
    obtain ⟨i, j, hj, rfl, rfl, HT⟩ := hrel
    by_cases hlt : j < n
    · obtain ⟨x, hx⟩ : ∃ x, l[j]? = some x := ⟨_, List.getElem?_eq_getElem (by rw [HR.out.2.2.1]; exact hlt)⟩
      obtain ⟨d0, d1, d2⟩ := HT.out.at_ hx
      have hij : i < j := by obtain ⟨_, _, _, h3, _⟩ := HT.out.out; exact h3
      have hNl : N < w.heap.size := by have := block_lt_of_cell HR.out.2.1; simpa using this
      have hNr : wr.cell? ⟨N, 0, none⟩ = some (.int .i64 k) := (World.cell?_of_block (HT.out.but.block N hNl (by simp; exact HR.out.2.2.2.1))).trans HR.out.2.1
      obtain ⟨w2, hw2⟩ : ∃ w2, wr.alloc (.cells #[.int .i64 (x.fr : Int), .int .i64 (x.to : Int), SV x.b] 80) = w2 := ⟨_, rfl⟩
      have hb2 : Below wr.heap.size wr w2 := hw2 ▸ (Below.refl _ _).alloc (Nat.le_refl _) _
      have hbx : w2.heap[wr.heap.size]? = some (.cells #[.int .i64 (x.fr : Int), .int .i64 (x.to : Int), SV x.b] 80 (0, 0)) := hw2 ▸ heap_alloc_new wr _
      have hN2 : w2.cell? ⟨N, 0, none⟩ = some (.int .i64 k) := (hb2.cell (by have := block_lt_of_cell hNr; simpa using this)).trans hNr
      have hbl : wr.heap.size < w2.heap.size := by rw [← hw2]; simp
      obtain ⟨w3, hw3⟩ : ∃ w3, w2.alloc (.cells #[.int .i64 (x.fr : Int), .int .i64 (x.to : Int), SV x.b] 80) = w3 := ⟨_, rfl⟩
      have hb3 : Below w2.heap.size w2 w3 := hw3 ▸ (Below.refl _ _).alloc (Nat.le_refl _) _
      have hbx3 := (hb3.block _ hbl).trans hbx
      have HS3 := Lib.hid ((HT.out.below hb2).below hb3)
      obtain ⟨⟨a0, a1, a2⟩, _, _, _⟩ := three hbx
      obtain ⟨⟨b0, b1, b2⟩, _, _, _⟩ := three hbx3
      have HD := Lib.hid (And.intro hx (And.intro hN2 hw3))
      have hw1 : IntKind.i64.wrap ((j : Int) + 1) = (j : Int) + 1 := IntWalk.i64_in _ (by omega)
      have hw1' : IntKind.i64.wrap ((i : Int) + 1) = (i : Int) + 1 := IntWalk.i64_in _ (by omega)
      have hi1 : (0 : Int) ≤ (j : Int) := by omega
      have hi2 : (j : Int) < (n : Int) := by omega
      have hi3 : (0 : Int) ≤ (i : Int) := by omega
      have hi4 : (i : Int) < (n : Int) := by omega
      clear hx hNr hN2 hbx hbx3 hw3 hb2 hb3 hbl hNl hlt
      cases hq : x.for_ k with
      | true =>
        have HQ := Lib.hid hq
        clear hq
        go_wp2_with fail
        refine (closure_is _ x N HD.out.2.1 HQ.out).mono ?_
        rintro e w4 ⟨rfl, hw4⟩
        rw [HD.out.2.2] at hw4
        subst hw4
        go_wp2
        go_roundw
        case rel => exact ⟨i, j + 1, by omega, rfl, by go_num, HS3.out.skip HD.out.1 HQ.out⟩
        case measure => simp [Go.RowKit.intOf]; omega
      | false =>
        have HQ := Lib.hid hq
        obtain ⟨⟨u0, u1, u2, g0, g1, g2⟩, hfr, hS4⟩ := HS3.out.keep HD.out.1 hq
        have z0 := hfr (i * 3)
        have z1 := hfr (i * 3 + 1)
        have z2 := hfr (i * 3 + 2)
        have HS4 := Lib.hid hS4
        clear hq hS4 hfr
        go_wp2_with fail
        refine (closure_is _ x N HD.out.2.1 HQ.out).mono ?_
        rintro e w4 ⟨rfl, hw4⟩
        rw [HD.out.2.2] at hw4
        subst hw4
        go_wp2
        go_roundw
        case rel => exact ⟨i + 1, j + 1, by omega, by go_num, by go_num, HS4.out⟩
        case measure => simp [Go.RowKit.intOf]; omega
    · obtain rfl : j = n := by omega
      obtain ⟨st, s1, s2, s3, s4⟩ := HT.out.out
      have hfull : l.take j = l := List.take_of_length_le (by rw [HR.out.2.2.1]; exact Nat.le_refl _)
      have hnone : l.drop j = [] := List.drop_eq_nil_of_le (by rw [HR.out.2.2.1]; exact Nat.le_refl _)
      rw [hfull] at s2 s4
      rw [hnone, dvs_nil, List.nil_append, ← List.append_assoc] at s4
      have hK : (dvs (l.filter fun d => !d.for_ k)).length = i * 3 := by rw [dvs_len, s2]
      have hcl := run_clearK (P := Try.prog) wr 56 80 3 (.agg #[.int .i64 0, .int .i64 0, .string ⟨#[]⟩]) Try.underlying56 zero80 rfl (by simp [Value.cells, Value.oneCell']) (by omega) r 80 (cap - i) (j - i) _ st sp s4 s1
      obtain ⟨zs, hzs, hcl0⟩ := hcl
      have hcl := fun ty => hcl0 ty (some ⟨r, i * 3, none⟩) (fun _ => by rw [hK]) (fun e => by cases e)
      have q1 := fun W => slice_lk (P := Try.prog) 56 Try.underlying56 size80 (some ⟨r, 0, none⟩) j cap i (by omega) W
      rw [if_neg (by omega : ¬ cap = i), show (some (⟨r, 0, none⟩ : Addr)).map (·.add (i * 3)) = some ⟨r, i * 3, none⟩ by simp [addr_at]] at q1
      have q2 := fun W => slice_hk (P := Try.prog) 56 Try.underlying56 size80 r j cap i (by omega) W
      have HE := Lib.hid (And.intro s2 (And.intro s4 (And.intro hzs (And.intro s1 (And.intro s3 hK)))))
      clear s1 s2 s3 s4 hfull hnone hK hcl0 hzs
      go_wp2
      go_ret
      obtain ⟨e1, e2, e3, e4, e5, e6⟩ := HE.out
      obtain ⟨_, _, _, r4, r5, r6, r7⟩ := HR.out
      refine ⟨i, e1.symm, rfl, OwnK.mk' (sp := zs ++ sp) r5 ?_ (by omega) r6 e6 ?_, HT.out.but.trans (setRow_but _ _ _)⟩
      · have := setRow_heap wr r _ (dvs (l.filter fun d => !d.for_ k) ++ (zs ++ sp)).toArray 80 _ e2
        exact this
      · have := dvs_len l
        have := HR.out.2.2.1
        rw [e6, List.length_append, e3]
        omega
end Go.Proofs.Ythhablokbnfpcaa
