/- The reference's clock by value: Find, without, told. -/
import Derived.Test.YtncjbohpaanpaaaOncP
import Derived.Laws.ResultCell
import Derived.Deep.Upon
namespace Go.Coop
open Go.RowKit
set_option maxRecDepth 100000
/-- append(s, x...), x may be empty -/
theorem run_appE {P : Program} (w : World) (B : Nat) (t ty E k : Nat) (z : Value) (bytes : Nat) (ht : P.underlying t = some (.slice E)) (hi : (P.info? E).map (fun i => (i.zero, i.size, i.bytes)) = some (some z, k, bytes)) (hz1 : z.cells.size = k) (hk : 0 < k)
    {A : Option Addr} {n c : Nat} {vs : List Value} (h : RowW w B E k A n c vs) {X : Option Addr} {m d : Nat} {us : List Value} (hr : RowW w 0 E k X m d us) (h1 : ∀ u ∈ us, u.oneCell' = true) (hsz : (n + m) * bytes ≤ 140737488355328) (hmax : n + m ≤ 140737488355328) (hbase : B ≤ w.heap.size) :
    ∃ A' c' w', (Builtin.append_ #[t, t] ty #[.slice A n c, .slice X m d]).run P w = .ok (.slice A' (n + m) c') w' ∧ RowW w' B E k A' (n + m) c' (vs ++ us) ∧ But (A.map (·.block)).toList w w' ∧ (A'.map (·.block) = A.map (·.block) ∨ ∃ j, w.heap.size ≤ j ∧ A'.map (·.block) = some j) := by
  rcases Nat.eq_zero_or_pos m with rfl | hm
  · have hu : us = [] := List.eq_nil_of_length_eq_zero (by simpa using hr.len)
    subst hu
    obtain ⟨i, hi, hz, hs1, hs2⟩ := info_parts hi
    refine ⟨A, c, w, ?_, by simpa using h, But.refl _ _, .inl rfl⟩
    cases X with
    | none => exact run_append_nothing w t t ty E i ht hi A n c h.nc.1 _ (Src.ofNil w ht d)
    | some a => exact run_append_nothing w t t ty E i ht hi A n c h.nc.1 _ (Src.ofSlice w ht a 0 d [] (by simp) (by simp) (by simp))
  · exact run_appW w B t ty E k z bytes ht hi hz1 hk h d hr.rd hm h1 hsz hmax hbase
end Go.Coop
namespace Go.Proofs.Ytncjbohpaanpaaa
open Go.RowKit Go.Coop Go.Maps
set_option maxRecDepth 100000
abbrev RV (now most : Int) (A : Option Addr) (n c : Nat) : Value := .agg #[.int .i64 now, .int .i64 most, .slice A n c]
theorem row3 {w : World} {b : Nat} {T : TypeId} {x0 x1 x2 v0 v1 v2 : Value} (h : w.heap[b]? = some (.cells #[x0, x1, x2] T (0, 0))) : (((w.setCell ⟨b, 0, none⟩ v0).setCell ⟨b, 1, none⟩ v1).setCell ⟨b, 2, none⟩ v2).heap[b]? = some (.cells #[v0, v1, v2] T (0, 0)) := by
  have h1 := heap_setCell_same w b 0 _ T v0 h
  have h2 := heap_setCell_same _ b 1 _ T v1 h1
  exact heap_setCell_same _ b 2 _ T v2 h2
theorem size42 : (Try.prog.info? 42).map (·.size) = some 3 := by kernel_rfl
theorem load42 {w : World} {b : Nat} {a0 a1 a2 : Value} (h : w.heap[b]? = some (.cells #[a0, a1, a2] 42 (0, 0))) : (loadVar 42 ⟨b, 0, none⟩).run Try.prog w = .ok (.agg #[a0, a1, a2]) w :=
  run_loadVar_at w ⟨b, 0, none⟩ 42 [a0, a1, a2] _ (fun j v hj => by
    rw [addr_at, Nat.zero_add, cell_of_row w b j _ 42 (0, 0) h]
    simpa using hj) Try.underlying42 rfl size42
theorem three42 {w : World} {b : Nat} {x0 x1 x2 : Value} (h : w.heap[b]? = some (.cells #[x0, x1, x2] 42 (0, 0))) : (w.cell? ⟨b, 0, none⟩ = some x0 ∧ w.cell? ⟨b, 1, none⟩ = some x1 ∧ w.cell? ⟨b, 2, none⟩ = some x2) ∧ w.frozen? ⟨b, 0, none⟩ = false ∧ w.frozen? ⟨b, 1, none⟩ = false ∧ w.frozen? ⟨b, 2, none⟩ = false :=
  ⟨⟨cell_of_row _ b 0 _ 42 (0, 0) h, cell_of_row _ b 1 _ 42 (0, 0) h, cell_of_row _ b 2 _ 42 (0, 0) h⟩, frozen_of_row w b 0 _ 42 h, frozen_of_row w b 1 _ 42 h, frozen_of_row w b 2 _ 42 h⟩
theorem box_new {w w1 : World} {o : Obj} (h : w.alloc o = w1) : Below w.heap.size w w1 ∧ w1.heap[w.heap.size]? = some o := by
  subst h
  exact ⟨(Below.refl _ _).alloc (Nat.le_refl _) _, heap_alloc_new _ _⟩
/-- a field of one box is written, and a whole box beside it -/
theorem wrote2 {w : World} {b b2 : Nat} {x0 x1 x2 y0 y1 y2 v v0 v1 v2 : Value} (_hx : w.heap[b]? = some (.cells #[x0, x1, x2] 42 (0, 0))) (hy : w.heap[b2]? = some (.cells #[y0, y1, y2] 42 (0, 0))) (hne : b2 ≠ b) (f : Nat) :
    ((((w.setCell ⟨b, f, none⟩ v).setCell ⟨b2, 0, none⟩ v0).setCell ⟨b2, 1, none⟩ v1).setCell ⟨b2, 2, none⟩ v2).heap[b2]? = some (.cells #[v0, v1, v2] 42 (0, 0)) ∧ But [b, b2] w ((((w.setCell ⟨b, f, none⟩ v).setCell ⟨b2, 0, none⟩ v0).setCell ⟨b2, 1, none⟩ v1).setCell ⟨b2, 2, none⟩ v2) := by
  refine ⟨row3 (x0 := y0) (x1 := y1) (x2 := y2) ?_, ((((But.refl _ w).setCell (by simp) _).setCell (by simp) _).setCell (by simp) _).setCell (by simp) _⟩
  rw [Below.heap_setCell _ _ _ _ hne]
  exact hy
/-- the first place of an Id -/
def idxN (i : Int) : List Tm → Nat
  | [] => 0
  | t :: l => if t.id = i then 0 else idxN i l + 1
def idxL (i : Int) (L : List Tm) : Int := if idxN i L < L.length then (idxN i L : Int) else -1
theorem idxN_le (i : Int) : ∀ L : List Tm, idxN i L ≤ L.length
  | [] => by simp [idxN]
  | t :: l => by
    have := idxN_le i l
    unfold idxN
    split <;> simp <;> omega
theorem idxN_eq {i : Int} : ∀ {L : List Tm} {j : Nat} {t : Tm}, (∀ u ∈ L.take j, u.id ≠ i) → L[j]? = some t → t.id = i → idxN i L = j
  | [], j, t, _, h, _ => by simp at h
  | a :: l, 0, t, _, h, hi => by
    simp at h
    subst h
    simp [idxN, hi]
  | a :: l, j + 1, t, hn, h, hi => by
    have ha : a.id ≠ i := hn a (by simp)
    simp at h
    have := idxN_eq (L := l) (fun u hu => hn u (by simp [hu])) h hi
    unfold idxN
    rw [if_neg ha, this]
theorem idxN_none {i : Int} : ∀ {L : List Tm}, (∀ u ∈ L, u.id ≠ i) → idxN i L = L.length
  | [], _ => rfl
  | a :: l, h => by
    have ha : a.id ≠ i := h a (by simp)
    have := idxN_none (L := l) fun u hu => h u (by simp [hu])
    unfold idxN
    rw [if_neg ha, this]
    rfl
theorem idxN_some {i : Int} : ∀ {L : List Tm}, idxN i L < L.length → ∃ t, L[idxN i L]? = some t ∧ t.id = i
  | [], h => by simp [idxN] at h
  | a :: l, h => by
    unfold idxN at h ⊢
    split
    · rename_i e
      exact ⟨a, rfl, e⟩
    · rename_i e
      rw [if_neg e] at h
      simp at h
      obtain ⟨t, h1, h2⟩ := idxN_some (L := l) h
      exact ⟨t, by simpa using h1, h2⟩
section
variable (w : World) {A : Option Addr} {n c : Nat} {L : List Tm} (now most : Int)
theorem rf_find (h : Tl w 0 A n c L) (hn : n ≤ 1000000) (i : Int) {q : Int} (hq : idxL i L = q) : Calls Try.prog 26 #[RV now most A n c, .int .i64 i] w fun e w' => e = .returned (.int .i64 q) ∧ Below w.heap.size w w' := by
  have hln : L.length = n := by have := h.len; rw [tvs_len] at this; omega
  obtain ⟨w1, hw1⟩ : ∃ v, w.alloc (.cells #[.int .i64 now, .int .i64 most, .slice A n c] 42) = v := ⟨_, rfl⟩
  obtain ⟨hb1, hx1⟩ := box_new hw1
  obtain ⟨b, hb⟩ : ∃ b, w.heap.size = b := ⟨_, rfl⟩
  have H := Lib.hid (And.intro h (And.intro hln hq))
  have hx1' : w1.heap[b]? = some (.cells #[.int .i64 now, .int .i64 most, .slice A n c] 42 (0, 0)) := hb ▸ hx1
  have H1 := Lib.hid (And.intro hb1 hx1')
  clear h hln hq hb1 hx1 hx1'
  go_enter Try.func26, Try.ntmps26
  go_wp2
  (try rw [hw1]); (try rw [hb])
  clear hw1 hb
  go_loopw [5] (fun s5 wr => ∃ j : Nat, j ≤ n ∧ s5 = .int .i64 j ∧ Hid ((∀ u ∈ L.take j, u.id ≠ i) ∧ Below w.heap.size w wr ∧ wr.heap[b]? = some (.cells #[.int .i64 now, .int .i64 most, .slice A n c] 42 (0, 0)))) (fun s5 _ => n - (Go.RowKit.intOf s5).toNat)
  case atStart => exact ⟨0, by omega, rfl, (⟨by simp, H1.out⟩ : (∀ u ∈ L.take 0, u.id ≠ i) ∧ Below w.heap.size w w1 ∧ w1.heap[b]? = some (.cells #[.int .i64 now, .int .i64 most, .slice A n c] 42 (0, 0)))⟩
  case round =>
    clear H1
    obtain ⟨j, hj, rfl, HR⟩ := hrel
    obtain ⟨⟨_, _, k2⟩, _⟩ := three42 HR.out.2.2
    by_cases hlt : j < n
    · obtain ⟨t, ht⟩ : ∃ t, L[j]? = some t := ⟨_, List.getElem?_eq_getElem (by rw [H.out.2.1]; exact hlt)⟩
      obtain ⟨r, o, rfl, d0, d1, _⟩ := row_get (H.out.1.below HR.out.2.1) ht
      have hi1 : (0 : Int) ≤ (j : Int) := by omega
      have hi2 : (j : Int) < (n : Int) := by omega
      have hw1 : IntKind.i64.wrap ((j : Int) + 1) = (j : Int) + 1 := IntWalk.i64_in _ (by omega)
      have HT := Lib.hid (And.intro ht hlt)
      clear ht hlt
      by_cases hid : t.id = i
      · have hq : Hid (q = (j : Int)) := by
          show q = _
          have h1 := HT.out.2
          rw [← H.out.2.2, idxL, idxN_eq HR.out.1 HT.out.1 hid, if_pos (by rw [H.out.2.1]; exact h1)]
        subst hid
        go_wp2
        go_ret
        rw [hq.out]
        exact ⟨rfl, HR.out.2.1⟩
      · have hne : (t.id == i) = false := by simpa using hid
        have HN := Lib.hid hid
        clear hid
        go_wp2
        go_roundw
        case rel =>
          refine ⟨j + 1, by have := HT.out.2; omega, by go_num, (⟨?_, HR.out.2⟩ : (∀ u ∈ L.take (j + 1), u.id ≠ i) ∧ Below w.heap.size w wr ∧ wr.heap[b]? = _)⟩
          intro u hu
          rw [List.take_add_one, HT.out.1] at hu
          rcases List.mem_append.1 hu with hu | hu
          · exact HR.out.1 u hu
          · simp at hu
            subst hu
            exact HN.out
        case measure =>
          have := HT.out.2
          simp [Go.RowKit.intOf]; omega
    · obtain rfl : j = n := by omega
      have hq : Hid (q = -1) := by
        show q = _
        have hall := HR.out.1
        rw [List.take_of_length_le (by rw [H.out.2.1]; exact Nat.le_refl _)] at hall
        rw [← H.out.2.2, idxL, idxN_none hall, if_neg (by omega)]
      go_wp2
      go_ret
      rw [hq.out]
      exact ⟨rfl, HR.out.2.1⟩
/-- a clock of the reference, by value -/
def RfD (w : World) (a : Option Nat) (now most : Int) (L : List Tm) (r : Value) : Prop := ∃ A n c, r = RV now most A n c ∧ L.length = n ∧ Ls w a (.slice A n c) L
theorem apartw {w : World} {B : Nat} {A : Option Addr} {n c : Nat} {l : List Tm} {a : Option Nat} (h : Tl w B A n c l) (ha : ∀ k, a = some k → k < B) : Ls w a (.slice A n c) l := by
  have hln : l.length = n := by have := h.len; rw [tvs_len] at this; omega
  exact ⟨A, c, by rw [hln], by rw [hln]; exact h.lower (Nat.zero_le _), fun k hk he => by have := (h.block k hk).1; have := ha k he; omega⟩
set_option maxHeartbeats 1000000 in
theorem rf_without (h : Tl w 0 A n c L) (hn : n ≤ 1000000) {i : Nat} (hi : i < n) : Calls Try.prog 36 #[RV now most A n c, .int .i64 (i : Int)] w fun e w' => ∃ A' n' c', e = .returned (RV now most A' n' c') ∧ Tl w' w.heap.size A' n' c' (L.take i ++ L.drop (i + 1)) ∧ Below w.heap.size w w' := by
  have hln : L.length = n := by have := h.len; rw [tvs_len] at this; omega
  obtain ⟨w1, hw1⟩ : ∃ v, w.alloc (.cells #[.int .i64 now, .int .i64 most, .slice A n c] 42) = v := ⟨_, rfl⟩
  obtain ⟨w2, hw2⟩ : ∃ v, w1.alloc (.cells #[.int .i64 0, .int .i64 0, .slice none 0 0] 42) = v := ⟨_, rfl⟩
  obtain ⟨hb1, hx1⟩ := box_new hw1
  obtain ⟨hb2, hx2⟩ := box_new hw2
  obtain ⟨b, hb⟩ : ∃ b, w.heap.size = b := ⟨_, rfl⟩
  obtain ⟨b2, hbb⟩ : ∃ b, w1.heap.size = b := ⟨_, rfl⟩
  have hlt : b < b2 := by rw [← hb, ← hbb]; exact (Array.getElem?_eq_some_iff.1 hx1).1
  have hx12 := (hb2.block _ (Array.getElem?_eq_some_iff.1 hx1).1).trans hx1
  rw [hb] at hx12
  rw [hbb] at hx2
  have hb2l : b2 < w2.heap.size := (Array.getElem?_eq_some_iff.1 hx2).1
  have hB2 := hb1.trans (hb2.mono hb1.size)
  have hT2 := h.below hB2
  have hh := row_head hT2 (Nat.le_of_lt hi)
  rw [tvs_take] at hh
  have hnc := h.nc
  obtain ⟨A3, c3, w3, hrun3, hrow3, hbt3, hA3⟩ := run_appE (P := Try.prog) w2 w2.heap.size 30 30 36 2 _ 16 Try.underlying30 info36 rfl (by omega) (RowW.nil w2 w2.heap.size 36 2) hh (tvs_one _) (by omega) (by omega) (Nat.le_refl _)
  rw [Nat.zero_add, List.nil_append] at hrow3
  rw [Nat.zero_add] at hrun3
  have hbt3' : But [] w2 w3 := hbt3
  have hB3 : Below w2.heap.size w2 w3 := hbt3'.none
  obtain ⟨i1, hi1⟩ : ∃ i1, i + 1 = i1 := ⟨_, rfl⟩
  have hT3 := (hT2.below hB3).tail (m := i1) (by omega)
  rw [tvs_drop] at hT3
  obtain ⟨X, hX⟩ : ∃ X : Option Addr, (if c = i1 then (A : Option Addr) else A.map (·.add (i1 * 2))) = X := ⟨_, rfl⟩
  rw [hX] at hT3
  obtain ⟨A4, c4, w4, hrun4, hrow4, hbt4, hA4⟩ := run_appE (P := Try.prog) w3 w2.heap.size 30 30 36 2 _ 16 Try.underlying30 info36 rfl (by omega) hrow3 hT3 (tvs_one _) (by omega) (by omega) hB3.size
  have hB4 : Below w2.heap.size w2 w4 := hB3.trans (hbt4.below hB3.size (fun g hg => by simp only [Option.mem_toList] at hg; exact (hrow3.block g hg).1))
  have s1 := fun W => slice_hk (P := Try.prog) 30 Try.underlying30 size36 A h.addr n c i (by omega) W
  have s2 := fun W => slice_lk (P := Try.prog) 30 Try.underlying30 size36 A n c i1 (by omega) W
  rw [hX] at s2
  have hwr : IntKind.i64.wrap ((i : Int) + 1) = (i1 : Int) := (IntWalk.i64_in _ (by omega)).trans (by omega)
  obtain ⟨n4, hn4⟩ : ∃ n4, i + (n - i1) = n4 := ⟨_, rfl⟩
  rw [hn4] at hrun4 hrow4
  have hx3 := (hB3.block b (by have := (Array.getElem?_eq_some_iff.1 hx12).1; exact this)).trans hx12
  have hx4 := (hB4.block b (by have := (Array.getElem?_eq_some_iff.1 hx12).1; exact this)).trans hx12
  have hy4 := (hB4.block b2 (by have := (Array.getElem?_eq_some_iff.1 hx2).1; exact this)).trans hx2
  obtain ⟨⟨_, _, k2⟩, _⟩ := three42 hx12
  obtain ⟨⟨_, _, j2⟩, _⟩ := three42 hx3
  obtain ⟨⟨m0, m1, m2⟩, _, _, fm2⟩ := three42 hx4
  obtain ⟨⟨p0, p1, p2⟩, fp0, fp1, fp2⟩ := three42 hy4
  have hne : b2 ≠ b := by omega
  have hne' : b ≠ b2 := by omega
  have HR := Lib.hid (And.intro hrun3 hrun4)
  have HE := Lib.hid (And.intro hrow4 (And.intro (hB2.trans (hB4.mono hB2.size)) (And.intro hx4 (And.intro hy4 (And.intro hlt (And.intro hb (And.intro hi1 (And.intro hB4.size (And.intro hb2l hB2.size)))))))))
  clear h hln hb1 hb2 hx1 hx12 hx2 hB2 hT2 hh hnc hrun3 hrow3 hbt3 hbt3' hA3 hB3 hT3 hX hrun4 hrow4 hbt4 hA4 hB4 hn4 hx3 hx4 hy4 hlt hi hi1
  go_enter Try.func36, Try.ntmps36
  go_wp2_with (first
    | (at_builtin; refine Lib.wpList_append_run _ rfl _ _ _ _ rfl _ _ rfl rfl _ _ HR.out.1 ?_)
    | (at_builtin; refine Lib.wpList_append_run _ rfl _ _ _ _ rfl _ _ rfl rfl _ _ HR.out.2 ?_))
  obtain ⟨q1, q2, q3, q4, q5, q6, q7, q8, q9, q10⟩ := HE.out
  have hw := wrote2 (v := .slice A4 n4 c4) (v0 := .int .i64 now) (v1 := .int .i64 most) (v2 := .slice A4 n4 c4) q3 q4 hne 2
  refine bodyPost_ret (v := RV now most A4 n4 c4) (results_cell_row rfl _ _ b2 42 _ (0, 0) _ rfl hw.1 Try.underlying42 rfl (by kernel_rfl)) rfl ⟨A4, n4, c4, rfl, ?_, ?_⟩
  · rw [q7]
    have := q1.but hw.2 (fun j hj hm => by
      have h1 := (q1.block j hj).1
      simp at hm
      omega)
    rw [← tvs_append] at this
    exact this.lower q10
  · exact q2.trans (hw.2.below q2.size (by simp; omega))
end
end Go.Proofs.Ytncjbohpaanpaaa
