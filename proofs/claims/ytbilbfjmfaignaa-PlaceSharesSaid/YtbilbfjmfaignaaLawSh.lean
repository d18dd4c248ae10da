/- PlaceShares' walk. -/
import Derived.Test.YtbilbfjmfaignaaLawSp
import Derived.Test.YtbilbfjmfaignaaShaP
import Derived.Deep.RegionHeld3
namespace Go.Proofs.Ytbilbfjmfaignaa
open Go.RowKit Go.Coop
set_option maxRecDepth 100000
theorem info28 : (Try.prog.info? 28).map (fun i => (i.zero, i.size, i.bytes)) = some (some (.slice none 0 0), 1, 24) := by kernel_rfl
/-- the slices of the counts that are made so far -/
def cntC (g many q : Nat) : List Value := (List.range many).map fun i => if i < q then .slice (some ⟨g + 1 + i, 0, none⟩) 0 0 else .slice none 0 0
def cntH (g many k q : Nat) : List Value := (List.range many).map fun i => if i < q then .slice (some ⟨g + 1 + i, 0, none⟩) k k else .slice none 0 0
theorem cntH_len (g many k q : Nat) : (cntH g many k q).length = many := by simp [cntH]
theorem cntH_at {g many k q i : Nat} (h : i < many) : (cntH g many k q)[i]? = some (if i < q then .slice (some ⟨g + 1 + i, 0, none⟩) k k else .slice none 0 0) := by
  unfold cntH
  rw [List.getElem?_map, List.getElem?_range h]
  rfl
theorem cntH_set {g many k q : Nat} : (cntH g many k q).set q (.slice (some ⟨g + 1 + q, 0, none⟩) k k) = cntH g many k (q + 1) := by
  apply List.ext_getElem?
  intro i
  rw [List.getElem?_set, cntH_len]
  by_cases hi : i < many
  · rw [cntH_at hi, cntH_at hi]
    by_cases e : q = i
    · subst e
      rw [if_pos rfl, if_pos hi, if_pos (by omega)]
    · rw [if_neg e]
      by_cases hl : i < q
      · rw [if_pos hl, if_pos (by omega)]
      · rw [if_neg hl, if_neg (by omega)]
  · rw [List.getElem?_eq_none (by rw [cntH_len]; omega), List.getElem?_eq_none (by rw [cntH_len]; omega)]
    split
    · rw [if_neg (by omega)]
    · rfl
theorem make56 (g n k : Nat) (hn : n ≤ 1000) (W : World) : (Instr.makeSlice 56 (.int .i64 (n : Int)) (.int .i64 (n : Int))).run Try.prog W = .ok (.slice (some ⟨W.heap.size, 0, none⟩) n n) (W.alloc (.cells (cntH g n k 0).toArray 28)) := by
  obtain ⟨i, hi, hz, hs, hb⟩ := info_parts info28
  have := run_make (P := Try.prog) W 56 28 i _ Try.underlying56 hi hz .i64 .i64 n n (by omega) (by omega) (by rw [hb]; omega) (by omega)
  rw [hs, Int.toNat_natCast] at this
  rw [this]
  congr 3
  apply Array.ext_getElem?
  intro j
  by_cases h : j < n
  · rw [List.getElem?_toArray (xs := cntH g n k 0), cntH_at h, if_neg (by omega)]
    simp [madeCells, h, Value.cells, Nat.mod_one]
  · rw [Array.getElem?_eq_none (by simp [madeCells]; omega), Array.getElem?_eq_none (by simp [cntH]; omega)]
/-- a row of counts -/
def cntR (k : Nat) (f : Nat → Nat) : List Value := (List.range k).map fun j => .int .i64 (f j : Int)
theorem cntR_at {k : Nat} (f : Nat → Nat) {j : Nat} (h : j < k) : (cntR k f)[j]? = some (.int .i64 (f j : Int)) := by
  unfold cntR
  rw [List.getElem?_map, List.getElem?_range h]
  rfl
theorem cntR_set {k : Nat} (f : Nat → Nat) (j v : Nat) : (cntR k f).set j (.int .i64 (v : Int)) = cntR k (fun x => if x = j then v else f x) := by
  apply List.ext_getElem?
  intro i
  have hl : ∀ f, (cntR k f).length = k := fun f => by simp [cntR]
  rw [List.getElem?_set, hl]
  by_cases hi : i < k
  · rw [cntR_at _ hi, cntR_at _ hi]
    by_cases e : j = i
    · subst e
      rw [if_pos rfl, if_pos hi, if_pos rfl]
    · rw [if_neg e, if_neg (fun h => e h.symm)]
  · rw [List.getElem?_eq_none (by rw [hl]; omega), List.getElem?_eq_none (by rw [hl]; omega)]
    split
    · rw [if_neg (by omega)]
    · rfl
theorem zr_cnt (k : Nat) : zr k = cntR k (fun _ => 0) := by
  apply List.ext_getElem?
  intro i
  by_cases hi : i < k
  · rw [cntR_at _ hi]
    simp [zr, hi, IV]
  · rw [List.getElem?_eq_none (by simp [zr]; omega), List.getElem?_eq_none (by simp [cntR]; omega)]
/-- the counts in memory -/
structure Cnt (w : World) (g many k : Nat) (F : Nat → Nat → Nat) : Prop where
  head : w.heap[g]? = some (.cells (cntH g many k many).toArray 28 (0, 0))
  rows : ∀ i, i < many → w.heap[g + 1 + i]? = some (.cells (cntR k (F i)).toArray 3 (0, 0))
theorem Cnt.below {w w' : World} {g many k B : Nat} {F : Nat → Nat → Nat} (h : Cnt w g many k F) (hb : Below B w w') (hB : w.heap.size ≤ B) : Cnt w' g many k F :=
  ⟨(hb.block _ (by have := lt_of_block h.head; omega)).trans h.head, fun i hi => (hb.block _ (by have := lt_of_block (h.rows i hi); omega)).trans (h.rows i hi)⟩
theorem Cnt.get {w : World} {g many k : Nat} {F : Nat → Nat → Nat} (h : Cnt w g many k F) {i j : Nat} (hi : i < many) (hj : j < k) : w.cell? ⟨g, i, none⟩ = some (.slice (some ⟨g + 1 + i, 0, none⟩) k k) ∧ w.cell? ⟨g + 1 + i, j, none⟩ = some (.int .i64 (F i j : Int)) ∧ w.frozen? ⟨g + 1 + i, j, none⟩ = false := by
  refine ⟨?_, ?_, frozen_of_row w _ _ _ 3 (h.rows i hi)⟩
  · rw [cell_of_row w g i _ 28 (0, 0) h.head, List.getElem?_toArray, cntH_at hi, if_pos hi]
  · rw [cell_of_row w _ j _ 3 (0, 0) (h.rows i hi), List.getElem?_toArray, cntR_at _ hj]
theorem Cnt.hd {w : World} {g many k : Nat} {F : Nat → Nat → Nat} (h : Cnt w g many k F) {i : Nat} (hi : i < many) : w.cell? ⟨g, i, none⟩ = some (.slice (some ⟨g + 1 + i, 0, none⟩) k k) := by
  rw [cell_of_row w g i _ 28 (0, 0) h.head, List.getElem?_toArray, cntH_at hi, if_pos hi]
theorem Cnt.inc {w : World} {g many k : Nat} {F : Nat → Nat → Nat} (h : Cnt w g many k F) {i j : Nat} (hi : i < many) (v : Nat) : Cnt (w.setCell ⟨g + 1 + i, j, none⟩ (.int .i64 (v : Int))) g many k (fun a b => if a = i ∧ b = j then v else F a b) := by
  refine ⟨(Below.heap_setCell _ _ _ _ (by simp; omega)).trans h.head, fun a ha => ?_⟩
  by_cases e : a = i
  · subst e
    have := heap_setCell_same w (g + 1 + a) j _ 3 (.int .i64 (v : Int)) (h.rows a ha)
    rw [this]
    have e2 : (cntR k (F a)).toArray.setIfInBounds j (.int .i64 (v : Int)) = ((cntR k (F a)).set j (.int .i64 (v : Int))).toArray := by simp
    rw [e2, cntR_set]
    congr 4
    funext x
    simp
  · refine (Below.heap_setCell _ _ _ _ (by simp; omega)).trans ?_
    rw [h.rows a ha]
    congr 4
    funext x
    simp [e]
theorem Cnt.congr {w : World} {g many k : Nat} {F G : Nat → Nat → Nat} (h : Cnt w g many k F) (e : ∀ i j, i < many → j < k → F i j = G i j) : Cnt w g many k G :=
  ⟨h.head, fun i hi => by
    rw [h.rows i hi]
    congr 3
    unfold cntR
    apply List.map_congr_left
    intro j hj
    simp at hj
    rw [e i j hi hj]⟩
theorem of_first {many k gr s : Nat} (h : 1 ≤ gr) : ofP (firstL many k gr) (s : Int) = (⟨1, row1 many k (s % gr)⟩, true) := by
  unfold ofP
  have hl : (firstL many k gr).length = gr := by simp [firstL]
  have hlt : s % gr < gr := Nat.mod_lt _ (by omega)
  rw [hl, if_neg (by omega), Int.toNat_natCast]
  unfold firstL
  rw [List.getElem?_map, List.getElem?_range hlt]
  rfl
theorem PL.two {w : World} {z : Nat} {p q : Pc} (h : w.heap[z]? = some (.cells (pcs [p, q]).toArray 30 (0, 0))) (hp : p.Ok w) (hq : q.Ok w) : PL w (some ⟨z, 0, none⟩) 2 [p, q] :=
  ⟨rfl, fun i r hi => by
    have hok : r.Ok w := by
      match i, hi with
      | 0, hi => simp at hi; subst hi; exact hp
      | 1, hi => simp at hi; subst hi; exact hq
    refine ⟨hok, _, rfl, lt_of_block h, fun j v hj => ?_⟩
    rw [addr_at, Nat.zero_add, cell_of_row _ z _ _ 30 (0, 0) h, List.getElem?_toArray]
    exact pcs_get hi hj⟩
section
variable (w : World)
set_option maxHeartbeats 8000000 in
theorem shares_law (f o t s : Nat) (hf : f < 256) (ho : o < 256) (ht : t < 256) (hs : s < 65536) :
    Calls Try.prog 6 #[.int .u8 f, .int .u8 o, .int .u8 t, .int .u16 s] w (Told w true) := by
  obtain ⟨a, ha⟩ : ∃ a, f % 20 = a := ⟨_, rfl⟩
  obtain ⟨many, hmany⟩ : ∃ v, 1 + a = v := ⟨_, rfl⟩
  obtain ⟨k0, hk0⟩ : ∃ v, o % many = v := ⟨_, rfl⟩
  obtain ⟨k, hk⟩ : ∃ v, 1 + k0 = v := ⟨_, rfl⟩
  obtain ⟨t0, ht0⟩ : ∃ v, t % 4 = v := ⟨_, rfl⟩
  obtain ⟨t1, ht1⟩ : ∃ v, 1 + t0 = v := ⟨_, rfl⟩
  obtain ⟨gr, hgr⟩ : ∃ v, many * t1 = v := ⟨_, rfl⟩
  have hal : a < 20 := by have := Nat.mod_lt f (show 0 < 20 by omega); omega
  have hkl : k0 < many := by rw [← hk0]; exact Nat.mod_lt _ (by omega)
  have htl : t0 < 4 := by have := Nat.mod_lt t (show 0 < 4 by omega); omega
  have hgr1 : many * 1 ≤ many * t1 := Nat.mul_le_mul_left _ (by omega)
  have hgr4 : many * t1 ≤ 20 * t1 := Nat.mul_le_mul_right _ (by omega)
  have hdiv : gr / many = t1 := by rw [← hgr]; exact Nat.mul_div_cancel_left _ (by omega)
  have f0 : (f : Int) % 20 = (a : Int) := by omega
  have f0' : (f : Int).tmod 20 = (a : Int) := by rw [Int.tmod_eq_emod_of_nonneg (by omega)]; exact f0
  have f1 : (o : Int) % (many : Int) = (k0 : Int) := by omega
  have f1' : (o : Int).tmod (many : Int) = (k0 : Int) := by rw [Int.tmod_eq_emod_of_nonneg (by omega)]; exact f1
  have f2 : (t : Int) % 4 = (t0 : Int) := by omega
  have f2' : (t : Int).tmod 4 = (t0 : Int) := by rw [Int.tmod_eq_emod_of_nonneg (by omega)]; exact f2
  have q0 : IntKind.i64.wrap (a : Int) = (a : Int) := IntWalk.i64_in _ (by omega)
  have q1 : IntKind.i64.wrap (o : Int) = (o : Int) := IntWalk.i64_in _ (by omega)
  have q2 : IntKind.i64.wrap (t0 : Int) = (t0 : Int) := IntWalk.i64_in _ (by omega)
  have s0 : IntKind.i64.wrap (1 + (a : Int)) = (many : Int) := (IntWalk.i64_in _ (by omega)).trans (by omega)
  have s1 : IntKind.i64.wrap (1 + (k0 : Int)) = (k : Int) := (IntWalk.i64_in _ (by omega)).trans (by omega)
  have s2 : IntKind.i64.wrap (1 + (t0 : Int)) = (t1 : Int) := (IntWalk.i64_in _ (by omega)).trans (by omega)
  have hmul : (many : Int) * (t1 : Int) = (gr : Int) := by rw [← hgr]; simp
  have s3 : IntKind.i64.wrap ((many : Int) * (t1 : Int)) = (gr : Int) := by rw [hmul]; exact IntWalk.i64_in _ (by omega)
  have hnz : ((many : Int) == 0) = false := by simp; omega
  have hnz' : (many = 0) = False := by simp; omega
  have HN := Lib.hid (show (1 ≤ many ∧ many ≤ 20) ∧ (1 ≤ k ∧ k ≤ many) ∧ (1 ≤ t1 ∧ t1 ≤ 4) ∧ (1 ≤ gr ∧ gr ≤ 80) by omega)
  have HG := Lib.hid (And.intro hgr hdiv)
  clear ha hmany hk0 hk ht0 ht1 hgr hal hkl htl hgr1 hgr4 hdiv hmul
  go_enter Try.func6, Try.ntmps6
  go_wp2_with fail
  refine (first_yes _ many k gr (by have := HN.out; omega) (by have := HN.out; omega) (by have := HN.out; omega)).mono ?_
  rintro e w1 ⟨A, n, ps, rfl, hpo, hpl, _, hb1⟩
  have hn := hpo.n_eq hpl
  rw [show (firstL many k gr).length = gr by simp [firstL]] at hn
  subst hn
  have HQ := Lib.hid (And.intro hpo.pl (And.intro hpl hb1))
  clear hpo hpl hb1 f0 f0' f1 f1' f2 f2' q0 q1 q2 s0 s1 s2 s3
  have hnd := HN.out
  obtain ⟨g, hg⟩ : ∃ g, w1.heap.size = g := ⟨_, rfl⟩
  have mk := make56 g many k (by omega)
  have mk2 := make28 k (by omega)
  obtain ⟨w2, hw2⟩ : ∃ v, w1.alloc (.cells (cntH g many k 0).toArray 28) = v := ⟨_, rfl⟩
  obtain ⟨hb2, hx2⟩ := box_new hw2
  have hz2 : w2.heap.size = g + 1 := by rw [← hw2, ← hg]; simp
  rw [hg] at hx2
  have H2 := Lib.hid (And.intro hb2 (And.intro hx2 hz2))
  clear hb2 hx2 hz2 hnd
  go_wp2
  (try rw [hg]); (try rw [hw2])
  clear hw2 mk
  go_loopw [15, 62] (fun _ s62 wr => ∃ j : Nat, j ≤ many ∧ s62 = .int .i64 j ∧ Hid (wr.heap.size = g + 1 + j ∧ wr.heap[g]? = some (.cells (cntH g many k j).toArray 28 (0, 0)) ∧ (∀ i, i < j → wr.heap[g + 1 + i]? = some (.cells (zr k).toArray 3 (0, 0))) ∧ Below w1.heap.size w1 wr)) (fun _ s62 _ => many - (Go.RowKit.intOf s62).toNat)
  case atStart => exact ⟨0, by omega, rfl, (⟨H2.out.2.2, H2.out.2.1, by omega, H2.out.1⟩ : w2.heap.size = g + 1 + 0 ∧ _ ∧ _ ∧ _)⟩
  case round =>
    clear H2
    obtain ⟨j, hj, rfl, HR⟩ := hrel
    have hnd := HN.out
    by_cases hlt : j < many
    · have hi1 : (0 : Int) ≤ (j : Int) := by omega
      have hi2 : (j : Int) < (many : Int) := by omega
      have hw1 : IntKind.i64.wrap ((j : Int) + 1) = (j : Int) + 1 := IntWalk.i64_in _ (by omega)
      obtain ⟨wa, hwa⟩ : ∃ v, wr.alloc (.cells (zr k).toArray 3) = v := ⟨_, rfl⟩
      obtain ⟨hba, hxa⟩ := box_new hwa
      obtain ⟨z, hz⟩ : ∃ z, wr.heap.size = z := ⟨_, rfl⟩
      have hzj : z = g + 1 + j := by rw [← hz]; exact HR.out.1
      rw [hz] at hxa
      have hga : wa.heap[g]? = some (.cells (cntH g many k j).toArray 28 (0, 0)) := (hba.block g (by have := lt_of_block HR.out.2.1; exact this)).trans HR.out.2.1
      have c0 := cell_of_row wa g j _ 28 (0, 0) hga
      rw [List.getElem?_toArray, cntH_at hlt] at c0
      have fz := frozen_of_row wa g j _ 28 hga
      have hs : wa.heap.size = g + 1 + (j + 1) := by rw [← hwa]; simp [hz, hzj]; omega
      have HT := Lib.hid (And.intro hlt (And.intro hba (And.intro hxa (And.intro hga (And.intro hs hzj)))))
      clear hlt hba hxa hga hs hzj
      go_wp2
      (try rw [hwa]); (try rw [hz])
      go_roundw
      case rel =>
        obtain ⟨hlt, hba, hxa, hga, hs, hzj⟩ := HT.out
        subst hzj
        refine ⟨j + 1, by omega, by go_num, (⟨by simpa using hs, ?_, ?_, ?_⟩ : (World.heap _).size = g + 1 + (j + 1) ∧ _ ∧ _ ∧ _)⟩
        · have := heap_setCell_same wa g j _ 28 (.slice (some ⟨g + 1 + j, 0, none⟩) k k) hga
          rw [this]
          have e2 : (cntH g many k j).toArray.setIfInBounds j (.slice (some ⟨g + 1 + j, 0, none⟩) k k) = ((cntH g many k j).set j (.slice (some ⟨g + 1 + j, 0, none⟩) k k)).toArray := by simp
          rw [e2, cntH_set]
        · intro i hi
          refine (Below.heap_setCell _ _ _ _ (by simp; omega)).trans ?_
          by_cases e : i = j
          · subst e
            exact hxa
          · exact (hba.block _ (by have := HR.out.1; omega)).trans (HR.out.2.2.1 i (by omega))
        · have h1 := HR.out.2.2.2
          exact (h1.trans (hba.mono h1.size)).setCell (by simp; rw [hg]; exact Nat.le_refl _) _
      case measure => have := HT.out.1; simp [Go.RowKit.intOf]; omega
    · obtain rfl : j = many := by omega
      have HC : Hid (Cnt wr g j k (fun i b => cf j b i 0) ∧ Below w1.heap.size w1 wr) := ⟨⟨HR.out.2.1, fun i hi => by rw [HR.out.2.2.1 i hi, zr_cnt]; rfl⟩, HR.out.2.2.2⟩
      clear HR hlt mk2
      go_wp2
      go_loopw [17, 18, 19, 73, 96] (fun _ _ _ s73 _ wr2 => ∃ q : Nat, q ≤ n ∧ s73 = .int .i64 q ∧ Hid (Cnt wr2 g j k (fun i b => cf j b i q) ∧ Below w1.heap.size w1 wr2)) (fun _ _ _ s73 _ _ => n - (Go.RowKit.intOf s73).toNat)
      case atStart => exact ⟨0, by omega, rfl, HC⟩
      case round =>
        clear HC
        obtain ⟨q, hq, rfl, HR⟩ := hrel
        by_cases hlt : q < n
        · obtain ⟨p, hp⟩ : ∃ p, ps[q]? = some p := ⟨_, List.getElem?_eq_getElem (by rw [HQ.out.1.len]; exact hlt)⟩
          have hppl : p.pl = ⟨1, row1 j k q⟩ := by
            have h1 := congrArg (fun l => l[q]?) HQ.out.2.1
            simp [hp, firstL, hlt] at h1
            exact h1
          obtain ⟨ad, hok, rfl, hadl, hload, d0, d1⟩ := (HQ.out.1.below HR.out.2 (Nat.le_refl _)).get' hp
          have hpe : p.e = 1 := congrArg Pl.e hppl
          have hpl : p.l = row1 j k q := congrArg Pl.l hppl
          have hpn : p.n = k := by have h1 := hok.len; rw [hpl, row1_len] at h1; omega
          have hi1 : (0 : Int) ≤ (q : Int) := by omega
          have hi2 : (q : Int) < (n : Int) := by omega
          have hw1 : IntKind.i64.wrap ((q : Int) + 1) = (q : Int) + 1 := IntWalk.i64_in _ (by omega)
          obtain ⟨PA, hPA⟩ : ∃ X, p.A = X := ⟨_, rfl⟩
          obtain ⟨wa, hwa⟩ : ∃ v, wr.alloc (.cells #[.int .i64 1, .slice PA k p.c] 30) = v := ⟨_, rfl⟩
          obtain ⟨hba, hxa⟩ := box_new hwa
          obtain ⟨bx, hbx⟩ : ∃ b, wr.heap.size = b := ⟨_, rfl⟩
          rw [hbx] at hxa
          obtain ⟨⟨m0, m1⟩, _⟩ := two30 hxa
          have hrt : rightB (j : Int) ⟨1, row1 j k q⟩ = true := decide_eq_true ⟨by omega, by simp, by simp only [row1_len]; omega, row1_ok q (by omega) (by omega)⟩
          have hokr : RdV wa PA k ((row1 j k q).map IV) := by
            have := hok.rd.below hba (Nat.le_refl _)
            rw [hpl, hpn, hPA] at this
            exact this
          rw [hpe] at d0
          rw [hpn] at d1
          have hBa := HR.out.2.trans (hba.mono HR.out.2.size)
          have HX := Lib.hid (And.intro hlt (And.intro hba (And.intro hxa (And.intro hokr (And.intro hrt (And.intro hBa (And.intro hp (And.intro hpl (And.intro hpn (And.intro hPA hbx))))))))))
          clear hlt hba hxa hokr hrt hBa hp hpl hppl hok hadl
          go_wp2_with fail
          (try rw [hbx]); (try rw [hwa])
          refine (right_is _ (j : Int) 1 HX.out.2.2.2.1 (by omega) HX.out.2.2.2.2.1).mono ?_
          rintro e wb ⟨rfl, hbb⟩
          have hxb := (hbb.block _ (lt_of_block HX.out.2.2.1)).trans HX.out.2.2.1
          have HY := Lib.hid (And.intro (HR.out.1.below (HX.out.2.1.trans (hbb.mono HX.out.2.1.size)) (Nat.le_refl _)) (And.intro (HX.out.2.2.2.2.2.1.trans (hbb.mono HX.out.2.2.2.2.2.1.size)) (HX.out.2.2.2.1.below hbb (Nat.le_refl _))))
          clear m0 m1 hload d0 d1 hwa hbb
          obtain ⟨⟨m0, m1⟩, _⟩ := two30 hxb
          clear hxb
          go_wp2
          clear m0 m1
          go_loopw [18, 19, 96] (fun _ _ s96 wr3 => ∃ b : Nat, b ≤ k ∧ s96 = .int .i64 b ∧ Hid (Cnt wr3 g j k (fun i x => if x < b then cf j x i (q + 1) else cf j x i q) ∧ Below w1.heap.size w1 wr3)) (fun _ _ s96 _ => k - (Go.RowKit.intOf s96).toNat)
          case atStart => exact ⟨0, by omega, rfl, (⟨HY.out.1.congr (fun i x _ _ => by simp), HY.out.2.1⟩ : Cnt wb g j k (fun i x => if x < 0 then cf j x i (q + 1) else cf j x i q) ∧ _)⟩
          case round =>
            obtain ⟨b, hb, rfl, HZ⟩ := hrel
            by_cases hlt2 : b < k
            · have hok3 := (HQ.out.1.below HZ.out.2 (Nat.le_refl _)).get' HX.out.2.2.2.2.2.2.1
              obtain ⟨_, hok3, e9, _⟩ := hok3
              clear e9
              obtain ⟨pd, hpA, hpl2, hpc⟩ := hok3.rd.cells (by have := HX.out.2.2.2.2.2.2.2.2.1; omega)
              have hPA := HX.out.2.2.2.2.2.2.2.2.2.1
              rw [hPA] at hpA
              obtain ⟨v, hv⟩ : ∃ v : Nat, (q + b) % j = v := ⟨_, rfl⟩
              have hvj : v < j := by rw [← hv]; exact Nat.mod_lt _ (by omega)
              have hvv := hpc b (IV (v : Int)) (by
                rw [HX.out.2.2.2.2.2.2.2.1, List.getElem?_map]
                unfold row1
                rw [List.getElem?_map, List.getElem?_range hlt2]
                simp only [Option.map_some]
                rw [hv])
              subst hpA
              obtain ⟨e0, e1, e2⟩ := HZ.out.1.get hvj hlt2
              rw [if_neg (by omega)] at e1
              have hcl := cf_le j b v q
              have hj1 : (0 : Int) ≤ (b : Int) := by omega
              have hj2 : (b : Int) < (k : Int) := by omega
              have hv1 : (0 : Int) ≤ (v : Int) := by omega
              have hv2 : (v : Int) < (j : Int) := by omega
              obtain ⟨cv, hcv⟩ : ∃ cv, cf j b v q = cv := ⟨_, rfl⟩
              rw [hcv] at e1 hcl
              have hw2 : IntKind.i64.wrap ((b : Int) + 1) = (b : Int) + 1 := IntWalk.i64_in _ (by omega)
              have hw3 : IntKind.i64.wrap ((cv : Int) + 1) = (cv : Int) + 1 := IntWalk.i64_in _ (by omega)
              have HU := Lib.hid (And.intro hlt2 (And.intro hv (And.intro hvj hcv)))
              clear hlt2 hv hok3 hpl2 hpc hcl hcv hPA
              go_wp2
              go_roundw
              case rel =>
                obtain ⟨hlt2, hv, hvj, hcv⟩ := HU.out
                refine ⟨b + 1, by omega, by go_num, (⟨?_, HZ.out.2.setCell (by simp; omega) _⟩ : Cnt _ g j k (fun i x => if x < b + 1 then cf j x i (q + 1) else cf j x i q) ∧ _)⟩
                have := HZ.out.1.inc (i := v) (j := b) hvj (cv + 1)
                rw [show ((cv + 1 : Nat) : Int) = (cv : Int) + 1 by omega] at this
                refine this.congr (fun i x hi hx => ?_)
                by_cases hxb : x = b
                · subst hxb
                  rw [if_pos (show x < x + 1 by omega), cf]
                  by_cases hiv : i = v
                  · subst hiv
                    rw [if_pos ⟨rfl, rfl⟩, if_pos hv, hcv]
                  · rw [if_neg (fun h => hiv h.1), if_neg (show ¬ x < x by omega), if_neg (fun h => hiv (h.symm.trans hv)), Nat.add_zero]
                · rw [if_neg (fun h => hxb h.2)]
                  by_cases hl : x < b
                  · rw [if_pos hl, if_pos (by omega)]
                  · rw [if_neg hl, if_neg (by omega)]
              case measure => have := HU.out.1; simp [Go.RowKit.intOf]; omega
            · obtain rfl : b = k := by omega
              clear hlt2
              go_wp2
              go_roundw
              case rel => exact ⟨q + 1, by have := HX.out.1; omega, by go_num, (⟨HZ.out.1.congr (fun i x _ hx => by rw [if_pos hx]), HZ.out.2⟩ : Cnt _ g j b (fun i x => cf j x i (q + 1)) ∧ _)⟩
              case measure => have := HX.out.1; simp [Go.RowKit.intOf]; omega
        · obtain rfl : q = n := by omega
          have HC : Hid (Cnt wr g j k (fun _ _ => t1) ∧ Below w1.heap.size w1 wr) := ⟨HR.out.1.congr (fun i x hi _ => by rw [← HG.out.1]; exact cf_all hi t1), HR.out.2⟩
          clear HR hlt
          have hdz : (q : Int) / (j : Int) = (t1 : Int) := by rw [← HG.out.2]; simp
          have hdz' : (q : Int).tdiv (j : Int) = (t1 : Int) := by rw [Int.tdiv_eq_ediv_of_nonneg (by omega)]; exact hdz
          go_wp2
          go_loopw [21, 23, 114, 120] (fun _ _ s114 _ wr2 => ∃ c : Nat, c ≤ j ∧ s114 = .int .i64 c ∧ Hid (Cnt wr2 g j k (fun _ _ => t1) ∧ Below w1.heap.size w1 wr2)) (fun _ _ s114 _ _ => j - (Go.RowKit.intOf s114).toNat)
          case atStart => exact ⟨0, by omega, rfl, HC⟩
          case round =>
            clear HC
            obtain ⟨c, hc, rfl, HR⟩ := hrel
            by_cases hlt : c < j
            · have e0 := HR.out.1.hd hlt
              have hi1 : (0 : Int) ≤ (c : Int) := by omega
              have hi2 : (c : Int) < (j : Int) := by omega
              have hw1 : IntKind.i64.wrap ((c : Int) + 1) = (c : Int) + 1 := IntWalk.i64_in _ (by omega)
              have HX := Lib.hid hlt
              clear hlt
              go_wp2
              clear e0
              go_loopw [23, 120] (fun _ s120 wr3 => ∃ b : Nat, b ≤ k ∧ s120 = .int .i64 b ∧ Hid (Cnt wr3 g j k (fun _ _ => t1) ∧ Below w1.heap.size w1 wr3)) (fun _ s120 _ => k - (Go.RowKit.intOf s120).toNat)
              case atStart => exact ⟨0, by omega, rfl, HR⟩
              case round =>
                clear HR
                obtain ⟨b, hb, rfl, HZ⟩ := hrel
                by_cases hlt2 : b < k
                · obtain ⟨_, e1, _⟩ := HZ.out.1.get HX.out hlt2
                  have hj1 : (0 : Int) ≤ (b : Int) := by omega
                  have hj2 : (b : Int) < (k : Int) := by omega
                  have hw2 : IntKind.i64.wrap ((b : Int) + 1) = (b : Int) + 1 := IntWalk.i64_in _ (by omega)
                  have hw3 : IntKind.i64.wrap (t1 : Int) = (t1 : Int) := IntWalk.i64_in _ (by omega)
                  have HU := Lib.hid hlt2
                  clear hlt2
                  go_wp2
                  go_roundw
                  case rel => exact ⟨b + 1, by have := HU.out; omega, by go_num, HZ⟩
                  case measure => have := HU.out; simp [Go.RowKit.intOf]; omega
                · obtain rfl : b = k := by omega
                  clear hlt2
                  go_wp2
                  go_roundw
                  case rel => exact ⟨c + 1, by have := HX.out; omega, by go_num, HZ⟩
                  case measure => have := HX.out; simp [Go.RowKit.intOf]; omega
            · obtain rfl : c = j := by omega
              have HF := Lib.hid HR.out.2
              clear HR hlt hdz hdz'
              obtain ⟨r, hr⟩ : ∃ r, s % q = r := ⟨_, rfl⟩
              have hrq : r < q := by rw [← hr]; exact Nat.mod_lt _ (by omega)
              obtain ⟨sg, hsg⟩ : ∃ v, s + q = v := ⟨_, rfl⟩
              have hof1 : ofP (ps.map Pc.pl) (s : Int) = (⟨1, row1 c k r⟩, true) := by rw [HQ.out.2.1, of_first (by omega), hr]
              have hof2 : ofP (ps.map Pc.pl) (sg : Int) = (⟨1, row1 c k r⟩, true) := by rw [HQ.out.2.1, of_first (by omega), ← hsg, Nat.add_mod_right, hr]
              have sw : IntKind.i64.wrap (s : Int) = (s : Int) := IntWalk.i64_in _ (by omega)
              have sw2 : IntKind.i64.wrap ((s : Int) + (q : Int)) = (sg : Int) := (IntWalk.i64_in _ (by omega)).trans (by omega)
              have rm1 : (s : Int) % (q : Int) = (r : Int) := by omega
              have rm2 : (s : Int).tmod (q : Int) = (r : Int) := by rw [Int.tmod_eq_emod_of_nonneg (by omega)]; exact rm1
              have qz : ((q : Int) == 0) = false := by simp; omega
              have qz' : (q = 0) = False := by simp; omega
              have hsgl : sg ≤ 100000 := by omega
              have HO := Lib.hid (And.intro hof1 hof2)
              clear hof1 hof2 hr hsg
              go_wp2_with fail
              refine (of_is _ (HQ.out.1.below HF.out (Nat.le_refl _)) (by omega) (s : Int) (by omega)).mono ?_
              rintro e w4 ⟨X, cX, rfl, hX, hb4⟩
              rw [HO.out.1] at hX ⊢
              simp only [row1_len] at hX ⊢
              obtain ⟨w5, hw5⟩ : ∃ v, w4.alloc (.cells #[.int .i64 1, .slice X k cX] 30) = v := ⟨_, rfl⟩
              obtain ⟨hb5, hx5⟩ := box_new hw5
              obtain ⟨ba, hba⟩ : ∃ b, w4.heap.size = b := ⟨_, rfl⟩
              rw [hba] at hx5
              have HP := Lib.hid (And.intro (HF.out.trans ((hb4.trans (hb5.mono hb4.size)).mono HF.out.size)) (And.intro hx5 (And.intro (hX.rd.below hb5 (Nat.le_refl _)) (And.intro hw5 hba))))
              clear hX hb4 hb5 hx5 hw5 hba
              go_wp2_with fail
              rw [HP.out.2.2.2.1]
              (try rw [HP.out.2.2.2.2])
              refine (of_is _ (HQ.out.1.below HP.out.1 (Nat.le_refl _)) (by omega) (sg : Int) (by omega)).mono ?_
              rintro e w6 ⟨Y, cY, rfl, hY, hb6⟩
              rw [HO.out.2] at hY ⊢
              simp only [row1_len] at hY ⊢
              obtain ⟨w7, hw7⟩ : ∃ v, w6.alloc (.cells #[.int .i64 1, .slice Y k cY] 30) = v := ⟨_, rfl⟩
              obtain ⟨hb7, hx7⟩ := box_new hw7
              obtain ⟨bb, hbb⟩ : ∃ b, w6.heap.size = b := ⟨_, rfl⟩
              rw [hbb] at hx7
              have hb57 : Below w5.heap.size w5 w7 := hb6.trans (hb7.mono hb6.size)
              have hx57 := (hb57.block _ (lt_of_block HP.out.2.1)).trans HP.out.2.1
              have hB7 := HP.out.1.trans (hb57.mono HP.out.1.size)
              obtain ⟨p, hp⟩ : ∃ p, ps[r]? = some p := ⟨_, List.getElem?_eq_getElem (by rw [HQ.out.1.len]; exact hrq)⟩
              have hppl : p.pl = ⟨1, row1 c k r⟩ := by
                have h1 := congrArg (fun l => l[r]?) HQ.out.2.1
                simp [hp, firstL, hrq] at h1
                exact h1
              obtain ⟨ad, hok, rfl, hadl, hload, d0, d1⟩ := (HQ.out.1.below hB7 (Nat.le_refl _)).get' hp
              have hpe : p.e = 1 := congrArg Pl.e hppl
              have hpl : p.l = row1 c k r := congrArg Pl.l hppl
              have hpn : p.n = k := by have h1 := hok.len; rw [hpl, row1_len] at h1; omega
              obtain ⟨PA, hPA⟩ : ∃ V, p.A = V := ⟨_, rfl⟩
              obtain ⟨PC, hPC⟩ : ∃ V, p.c = V := ⟨_, rfl⟩
              have hr1 : RdV w7 X k ((row1 c k r).map IV) := HP.out.2.2.1.below hb57 (Nat.le_refl _)
              have hr2 : RdV w7 Y k ((row1 c k r).map IV) := hY.rd.below hb7 (Nat.le_refl _)
              have hr3 : RdV w7 PA k ((row1 c k r).map IV) := by
                have := hok.rd
                rw [hpl, hpn, hPA] at this
                exact this
              rw [hpe] at d0
              rw [hpn, hPA, hPC] at d1
              obtain ⟨⟨m0, m1⟩, _⟩ := two30 hx57
              obtain ⟨⟨n0, n1⟩, _⟩ := two30 hx7
              have HW := Lib.hid (And.intro hw7 hbb)
              have HR := Lib.hid (And.intro hr1 (And.intro hr2 (And.intro hr3 hB7)))
              have hri1 : (0 : Int) ≤ (r : Int) := by omega
              have hri2 : (r : Int) < (q : Int) := by omega
              clear hY hb6 hb7 hx7 hb57 hx57 hB7 hw7 hbb hr1 hr2 hr3 hppl hok hadl hload hpe hpl hpn hPA hPC hp HP
              go_wp2
              (try rw [HW.out.2]); (try rw [HW.out.1])
              refine wp_region_held_drew (S := fun u => Below w7.heap.size w7 u) (by kernel_rfl) ((Below.refl _ _).drew) (fun hHeld => ?_)
              refine wpAnyH_take (i := 0) (oi := ⟨some 147, _, _, _, _, _⟩) (v := ?_) rfl (by kernel_rfl) (by kernel_rfl) (by kernel_rfl) (fun _ _ _ h => h) (Or.inl ⟨by rfl, ?_⟩) (by assumption) ?_
              rotate_left
              · intro w hSw
                (try dsimp only at hSw)
                go_simp
                all_goals (with_reducible rfl)
              try simp only [Act.put, List.setIfInBounds_toArray, List.set_cons_zero, List.set_cons_succ]
              refine wpAnyH_take (i := 1) (oi := ⟨some 148, _, _, _, _, _⟩) (v := ?_) rfl (by kernel_rfl) (by kernel_rfl) (by kernel_rfl) (fun _ _ _ h => h) (Or.inl ⟨by rfl, ?_⟩) (by assumption) ?_
              rotate_left
              · intro w hSw
                (try dsimp only at hSw)
                go_simp
                all_goals (with_reducible rfl)
              try simp only [Act.put, List.setIfInBounds_toArray, List.set_cons_zero, List.set_cons_succ]
              refine wpAnyH_take (i := 2) (oi := ⟨some 149, _, _, _, _, _⟩) (v := ?_) rfl (by kernel_rfl) (by kernel_rfl) (by kernel_rfl) (fun _ _ _ h => h) (Or.inl ⟨by rfl, ?_⟩) (by assumption) ?_
              rotate_left
              · intro w hSw
                (try dsimp only at hSw)
                go_simp
                all_goals (with_reducible rfl)
              try simp only [Act.put, List.setIfInBounds_toArray, List.set_cons_zero, List.set_cons_succ]
              refine wpAnyH_take (i := 3) (oi := ⟨some 150, _, _, _, _, _⟩) (v := ?_) rfl (by kernel_rfl) (by kernel_rfl) (by kernel_rfl) (fun _ _ _ h => h) (Or.inl ⟨by rfl, ?_⟩) (by assumption) ?_
              rotate_left
              · intro w hSw
                (try dsimp only at hSw)
                go_simp
                all_goals (with_reducible rfl)
              try simp only [Act.put, List.setIfInBounds_toArray, List.set_cons_zero, List.set_cons_succ]
              refine wpAnyH_take (i := 4) (oi := ⟨some 151, _, _, _, _, _⟩) (v := ?_) rfl (by kernel_rfl) (by kernel_rfl) (by kernel_rfl) (fun _ _ _ h => h) (Or.inl ⟨by rfl, ?_⟩) (by assumption) ?_
              rotate_left
              · intro w hSw
                (try dsimp only at hSw)
                go_simp
                all_goals (with_reducible rfl)
              try simp only [Act.put, List.setIfInBounds_toArray, List.set_cons_zero, List.set_cons_succ]
              refine wpAnyH_take (i := 5) (oi := ⟨some 152, _, _, _, _, _⟩) (v := ?_) rfl (by kernel_rfl) (by kernel_rfl) (by kernel_rfl) (fun _ _ _ h => h) (Or.inl ⟨by rfl, ?_⟩) (by assumption) ?_
              rotate_left
              · intro w hSw
                have hl0 := (hSw.cell (block_lt_of_cell m0)).trans m0
                have hl1 := (hSw.cell (block_lt_of_cell m1)).trans m1
                go_simp
                all_goals (with_reducible rfl)
              try simp only [Act.put, List.setIfInBounds_toArray, List.set_cons_zero, List.set_cons_succ]
              refine wpAnyH_take (i := 6) (oi := ⟨some 153, _, _, _, _, _⟩) (v := ?_) rfl (by kernel_rfl) (by kernel_rfl) (by kernel_rfl) (fun _ _ _ h => h) (Or.inl ⟨by rfl, ?_⟩) (by assumption) ?_
              rotate_left
              · intro w hSw
                have hl0 := (hSw.cell (block_lt_of_cell m0)).trans m0
                have hl1 := (hSw.cell (block_lt_of_cell m1)).trans m1
                go_simp
                all_goals (with_reducible rfl)
              try simp only [Act.put, List.setIfInBounds_toArray, List.set_cons_zero, List.set_cons_succ]
              refine wpAnyH_take (i := 8) (oi := ⟨some 155, _, _, _, _, _⟩) (v := ?_) rfl (by kernel_rfl) (by kernel_rfl) (by kernel_rfl) (fun _ _ _ h => h) (Or.inl ⟨by rfl, ?_⟩) (by assumption) ?_
              rotate_left
              · intro w hSw
                have hl0 := (hSw.cell (block_lt_of_cell n0)).trans n0
                have hl1 := (hSw.cell (block_lt_of_cell n1)).trans n1
                go_simp
                all_goals (with_reducible rfl)
              try simp only [Act.put, List.setIfInBounds_toArray, List.set_cons_zero, List.set_cons_succ]
              refine wpAnyH_take (i := 9) (oi := ⟨some 156, _, _, _, _, _⟩) (v := ?_) rfl (by kernel_rfl) (by kernel_rfl) (by kernel_rfl) (fun _ _ _ h => h) (Or.inl ⟨by rfl, ?_⟩) (by assumption) ?_
              rotate_left
              · intro w hSw
                (try dsimp only at hSw)
                go_simp
                all_goals (with_reducible rfl)
              try simp only [Act.put, List.setIfInBounds_toArray, List.set_cons_zero, List.set_cons_succ]
              refine wpAnyH_take (i := 10) (oi := ⟨some 157, _, _, _, _, _⟩) (v := ?_) rfl (by kernel_rfl) (by kernel_rfl) (by kernel_rfl) (fun _ _ _ h => h) (Or.inl ⟨by rfl, ?_⟩) (by assumption) ?_
              rotate_left
              · intro w hSw
                (try dsimp only at hSw)
                go_simp
                all_goals (with_reducible rfl)
              try simp only [Act.put, List.setIfInBounds_toArray, List.set_cons_zero, List.set_cons_succ]
              refine wpAnyH_take (i := 11) (oi := ⟨some 158, _, _, _, _, _⟩) (v := ?_) rfl (by kernel_rfl) (by kernel_rfl) (by kernel_rfl) (fun _ _ _ h => h) (Or.inl ⟨by rfl, ?_⟩) (by assumption) ?_
              rotate_left
              · intro w hSw
                (try dsimp only at hSw)
                go_simp
                all_goals (with_reducible rfl)
              try simp only [Act.put, List.setIfInBounds_toArray, List.set_cons_zero, List.set_cons_succ]
              refine wpAnyH_take (i := 12) (oi := ⟨some 159, _, _, _, _, _⟩) (v := ?_) rfl (by kernel_rfl) (by kernel_rfl) (by kernel_rfl) (fun _ _ _ h => h) (Or.inl ⟨by rfl, ?_⟩) (by assumption) ?_
              rotate_left
              · intro w hSw
                (try dsimp only at hSw)
                go_simp
                all_goals (with_reducible rfl)
              try simp only [Act.put, List.setIfInBounds_toArray, List.set_cons_zero, List.set_cons_succ]
              refine wpAnyH_take (i := 13) (oi := ⟨some 160, _, _, _, _, _⟩) (v := ?_) rfl (by kernel_rfl) (by kernel_rfl) (by kernel_rfl) (fun _ _ _ h => h) (Or.inl ⟨by rfl, ?_⟩) (by assumption) ?_
              rotate_left
              · intro w hSw
                (try dsimp only at hSw)
                go_simp
                all_goals (with_reducible rfl)
              try simp only [Act.put, List.setIfInBounds_toArray, List.set_cons_zero, List.set_cons_succ]
              refine wpAnyH_take (i := 14) (oi := ⟨some 161, _, _, _, _, _⟩) (v := ?_) rfl (by kernel_rfl) (by kernel_rfl) (by kernel_rfl) (fun _ _ _ h => h) (Or.inl ⟨by rfl, ?_⟩) (by assumption) ?_
              rotate_left
              · intro w hSw
                (try dsimp only at hSw)
                go_simp
                all_goals (with_reducible rfl)
              try simp only [Act.put, List.setIfInBounds_toArray, List.set_cons_zero, List.set_cons_succ]
              refine wpAnyH_take (i := 15) (oi := ⟨some 162, _, _, _, _, _⟩) (v := ?_) rfl (by kernel_rfl) (by kernel_rfl) (by kernel_rfl) (fun _ _ _ h => h) (Or.inl ⟨by rfl, ?_⟩) (by assumption) ?_
              rotate_left
              · intro w hSw
                have hl0 := (hSw.cell (block_lt_of_cell d0)).trans d0
                have hl1 := (hSw.cell (block_lt_of_cell d1)).trans d1
                go_simp
                all_goals (with_reducible rfl)
              try simp only [Act.put, List.setIfInBounds_toArray, List.set_cons_zero, List.set_cons_succ]
              refine wpAnyH_ready (rs := [7, 16]) (by kernel_rfl) (by simp) (AllReadyH.cons (o := ⟨some 154, _, _, _, _, _⟩) rfl (fun K hK => ?_) (AllReadyH.cons (o := ⟨some 163, _, _, _, _, _⟩) rfl (fun K hK => ?_) AllReadyH.nil))
              · obtain ⟨u1, hu1⟩ : ∃ v, w7.drew.alloc (.cells #[.int .i64 1, .slice X k cX, .int .i64 1, .slice X k cX] 30) = v := ⟨_, rfl⟩
                obtain ⟨bu1, xu1⟩ := box_new hu1
                go_simp
                (try rw [hu1])
                refine hK.out _ _ (hHeld.trans (bu1.mono hHeld.size)) (fun hHeld => ?_)
                clear hK K
                try simp only [Act.put, List.setIfInBounds_toArray, List.set_cons_zero, List.set_cons_succ]
                refine wpAnyH_ready (rs := [16]) (by kernel_rfl) (by simp) (AllReadyH.cons (o := ⟨some 163, _, _, _, _, _⟩) rfl (fun K hK => ?_) AllReadyH.nil)
                obtain ⟨u2, hu2⟩ : ∃ v, u1.alloc (.cells #[.int .i64 1, .slice Y k cY, .int .i64 1, .slice PA k PC] 30) = v := ⟨_, rfl⟩
                obtain ⟨bu2, xu2⟩ := box_new hu2
                go_simp
                (try rw [hu2])
                refine hK.out _ _ (hHeld.trans (bu2.mono hHeld.size)) (fun hHeld => ?_)
                clear hK K
                try simp only [Act.put, List.setIfInBounds_toArray, List.set_cons_zero, List.set_cons_succ]
                refine wpAnyH_ready (rs := [17]) (by kernel_rfl) (by simp) (AllReadyH.cons (o := ⟨some 164, _, _, _, _, _⟩) rfl (fun K hK => ?_) AllReadyH.nil)
                go_simp
                refine (samePl_is _ (PL.two (p := ⟨1, X, k, cX, row1 c k r⟩) (q := ⟨1, X, k, cX, row1 c k r⟩) ((bu2.block _ (lt_of_block xu1)).trans xu1) ⟨HR.out.1.below hHeld (Nat.le_refl _), by simp only; omega⟩ ⟨HR.out.1.below hHeld (Nat.le_refl _), by simp only; omega⟩) (PL.two (p := ⟨1, Y, k, cY, row1 c k r⟩) (q := ⟨1, PA, k, PC, row1 c k r⟩) xu2 ⟨HR.out.2.1.below hHeld (Nat.le_refl _), by simp only; omega⟩ ⟨HR.out.2.2.1.below hHeld (Nat.le_refl _), by simp only; omega⟩) (by omega) (q := true) (by simp [Pc.pl])).mono ?_
                rintro e u3 ⟨rfl, d3, hu3⟩
                have hH3 : Below w7.heap.size w7 u3 := by rw [hu3]; exact below_drewN hHeld _
                refine hK.out _ _ hH3 (fun hHeld => ?_)
                clear hK K hu3 hH3
                try simp only [Act.put, List.setIfInBounds_toArray, List.set_cons_zero, List.set_cons_succ]
                refine wpAnyH_take (i := 18) (oi := ⟨some 165, _, _, _, _, _⟩) (v := ?_) rfl (by kernel_rfl) (by kernel_rfl) (by kernel_rfl) (fun _ _ _ h => h) (Or.inl ⟨by rfl, ?_⟩) (by assumption) ?_
                rotate_left
                · intro w hSw
                  (try dsimp only at hSw)
                  go_simp
                  all_goals (with_reducible rfl)
                try simp only [Act.put, List.setIfInBounds_toArray, List.set_cons_zero, List.set_cons_succ]
                refine wpAnyH_take (i := 19) (oi := ⟨some 166, _, _, _, _, _⟩) (v := ?_) rfl (by kernel_rfl) (by kernel_rfl) (by kernel_rfl) (fun _ _ _ h => h) (Or.inl ⟨by rfl, ?_⟩) (by assumption) ?_
                rotate_left
                · intro w hSw
                  (try dsimp only at hSw)
                  go_simp
                  all_goals (with_reducible rfl)
                try simp only [Act.put, List.setIfInBounds_toArray, List.set_cons_zero, List.set_cons_succ]
                refine wpAnyH_ready (rs := [20]) (by kernel_rfl) (by simp) (AllReadyH.cons (o := ⟨some 167, _, _, _, _, _⟩) rfl (fun K hK => ?_) AllReadyH.nil)
                go_simp
                refine (awake_is _).mono ?_
                rintro e u4 ⟨rfl, hb4⟩
                refine hK.out _ _ (hHeld.trans (hb4.mono hHeld.size)) (fun hHeld => ?_)
                clear hK K
                try simp only [Act.put, List.setIfInBounds_toArray, List.set_cons_zero, List.set_cons_succ]
                refine wpAnyH_take (i := 21) (oi := ⟨some 168, _, _, _, _, _⟩) (v := ?_) rfl (by kernel_rfl) (by kernel_rfl) (by kernel_rfl) (fun _ _ _ h => h) (Or.inl ⟨by rfl, ?_⟩) (by assumption) ?_
                rotate_left
                · intro w hSw
                  (try dsimp only at hSw)
                  go_simp
                  all_goals (with_reducible rfl)
                try simp only [Act.put, List.setIfInBounds_toArray, List.set_cons_zero, List.set_cons_succ]
                refine wpAnyH_take (i := 22) (oi := ⟨some 8, _, _, _, _, _⟩) (v := ?_) rfl (by kernel_rfl) (by kernel_rfl) (by kernel_rfl) (fun _ _ _ h => h) (Or.inl ⟨by rfl, ?_⟩) (by assumption) ?_
                rotate_left
                · intro w hSw
                  (try dsimp only at hSw)
                  go_simp
                  all_goals (with_reducible rfl)
                try simp only [Act.put, List.setIfInBounds_toArray, List.set_cons_zero, List.set_cons_succ]
                refine wpAnyH_done (by kernel_rfl) ?_ _
                go_wp2
                go_ret
                have h1 := HQ.out.2.2.trans (HR.out.2.2.2.mono HQ.out.2.2.size)
                exact ⟨rfl, h1.trans (hHeld.mono h1.size)⟩
              · obtain ⟨u1, hu1⟩ : ∃ v, w7.drew.alloc (.cells #[.int .i64 1, .slice Y k cY, .int .i64 1, .slice PA k PC] 30) = v := ⟨_, rfl⟩
                obtain ⟨bu1, xu1⟩ := box_new hu1
                go_simp
                (try rw [hu1])
                refine hK.out _ _ (hHeld.trans (bu1.mono hHeld.size)) (fun hHeld => ?_)
                clear hK K
                try simp only [Act.put, List.setIfInBounds_toArray, List.set_cons_zero, List.set_cons_succ]
                refine wpAnyH_ready (rs := [7]) (by kernel_rfl) (by simp) (AllReadyH.cons (o := ⟨some 154, _, _, _, _, _⟩) rfl (fun K hK => ?_) AllReadyH.nil)
                obtain ⟨u2, hu2⟩ : ∃ v, u1.alloc (.cells #[.int .i64 1, .slice X k cX, .int .i64 1, .slice X k cX] 30) = v := ⟨_, rfl⟩
                obtain ⟨bu2, xu2⟩ := box_new hu2
                go_simp
                (try rw [hu2])
                refine hK.out _ _ (hHeld.trans (bu2.mono hHeld.size)) (fun hHeld => ?_)
                clear hK K
                try simp only [Act.put, List.setIfInBounds_toArray, List.set_cons_zero, List.set_cons_succ]
                refine wpAnyH_ready (rs := [17]) (by kernel_rfl) (by simp) (AllReadyH.cons (o := ⟨some 164, _, _, _, _, _⟩) rfl (fun K hK => ?_) AllReadyH.nil)
                go_simp
                refine (samePl_is _ (PL.two (p := ⟨1, X, k, cX, row1 c k r⟩) (q := ⟨1, X, k, cX, row1 c k r⟩) xu2 ⟨HR.out.1.below hHeld (Nat.le_refl _), by simp only; omega⟩ ⟨HR.out.1.below hHeld (Nat.le_refl _), by simp only; omega⟩) (PL.two (p := ⟨1, Y, k, cY, row1 c k r⟩) (q := ⟨1, PA, k, PC, row1 c k r⟩) ((bu2.block _ (lt_of_block xu1)).trans xu1) ⟨HR.out.2.1.below hHeld (Nat.le_refl _), by simp only; omega⟩ ⟨HR.out.2.2.1.below hHeld (Nat.le_refl _), by simp only; omega⟩) (by omega) (q := true) (by simp [Pc.pl])).mono ?_
                rintro e u3 ⟨rfl, d3, hu3⟩
                have hH3 : Below w7.heap.size w7 u3 := by rw [hu3]; exact below_drewN hHeld _
                refine hK.out _ _ hH3 (fun hHeld => ?_)
                clear hK K hu3 hH3
                try simp only [Act.put, List.setIfInBounds_toArray, List.set_cons_zero, List.set_cons_succ]
                refine wpAnyH_take (i := 18) (oi := ⟨some 165, _, _, _, _, _⟩) (v := ?_) rfl (by kernel_rfl) (by kernel_rfl) (by kernel_rfl) (fun _ _ _ h => h) (Or.inl ⟨by rfl, ?_⟩) (by assumption) ?_
                rotate_left
                · intro w hSw
                  (try dsimp only at hSw)
                  go_simp
                  all_goals (with_reducible rfl)
                try simp only [Act.put, List.setIfInBounds_toArray, List.set_cons_zero, List.set_cons_succ]
                refine wpAnyH_take (i := 19) (oi := ⟨some 166, _, _, _, _, _⟩) (v := ?_) rfl (by kernel_rfl) (by kernel_rfl) (by kernel_rfl) (fun _ _ _ h => h) (Or.inl ⟨by rfl, ?_⟩) (by assumption) ?_
                rotate_left
                · intro w hSw
                  (try dsimp only at hSw)
                  go_simp
                  all_goals (with_reducible rfl)
                try simp only [Act.put, List.setIfInBounds_toArray, List.set_cons_zero, List.set_cons_succ]
                refine wpAnyH_ready (rs := [20]) (by kernel_rfl) (by simp) (AllReadyH.cons (o := ⟨some 167, _, _, _, _, _⟩) rfl (fun K hK => ?_) AllReadyH.nil)
                go_simp
                refine (awake_is _).mono ?_
                rintro e u4 ⟨rfl, hb4⟩
                refine hK.out _ _ (hHeld.trans (hb4.mono hHeld.size)) (fun hHeld => ?_)
                clear hK K
                try simp only [Act.put, List.setIfInBounds_toArray, List.set_cons_zero, List.set_cons_succ]
                refine wpAnyH_take (i := 21) (oi := ⟨some 168, _, _, _, _, _⟩) (v := ?_) rfl (by kernel_rfl) (by kernel_rfl) (by kernel_rfl) (fun _ _ _ h => h) (Or.inl ⟨by rfl, ?_⟩) (by assumption) ?_
                rotate_left
                · intro w hSw
                  (try dsimp only at hSw)
                  go_simp
                  all_goals (with_reducible rfl)
                try simp only [Act.put, List.setIfInBounds_toArray, List.set_cons_zero, List.set_cons_succ]
                refine wpAnyH_take (i := 22) (oi := ⟨some 8, _, _, _, _, _⟩) (v := ?_) rfl (by kernel_rfl) (by kernel_rfl) (by kernel_rfl) (fun _ _ _ h => h) (Or.inl ⟨by rfl, ?_⟩) (by assumption) ?_
                rotate_left
                · intro w hSw
                  (try dsimp only at hSw)
                  go_simp
                  all_goals (with_reducible rfl)
                try simp only [Act.put, List.setIfInBounds_toArray, List.set_cons_zero, List.set_cons_succ]
                refine wpAnyH_done (by kernel_rfl) ?_ _
                go_wp2
                go_ret
                have h1 := HQ.out.2.2.trans (HR.out.2.2.2.mono HQ.out.2.2.size)
                exact ⟨rfl, h1.trans (hHeld.mono h1.size)⟩
end
end Go.Proofs.Ytbilbfjmfaignaa
