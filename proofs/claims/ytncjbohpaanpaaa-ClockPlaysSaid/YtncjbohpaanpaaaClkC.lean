/- slices.Clone at timers; sort.Search; where a timer stands; the small methods of a clock. -/
import Derived.Test.YtncjbohpaanpaaaClkM
import Derived.Shelf.RegionOpenPlain
import Derived.Deep.LoopGhost
import Derived.Lib.SliceRun
import Derived.Deep.QuietTactic
import Derived.BigQuiet
import Derived.LaidEqlPtr
import Derived.Laws.ResultCell
namespace Go.Proofs.Ytncjbohpaanpaaa
open Go.RowKit Go.Coop Go.Maps
set_option maxRecDepth 100000
theorem ret_bool {a b : Bool} (h : a = b) : Ending.returned (.bool a) = Ending.returned (.bool b) := by rw [h]
/-- a list in memory of its own -/
def Nl (w : World) (B : Nat) (r : Value) (l : List Tm) : Prop := ∃ A c, r = .slice A l.length c ∧ Tl w B A l.length c l
theorem row_head {w : World} {B E k n c : Nat} {A : Option Addr} {vs : List Value} (h : RowW w B E k A n c vs) {m : Nat} (hm : m ≤ n) : RowW w B E k A m c (vs.take (m * k)) := by
  have hmk : m * k ≤ n * k := Nat.mul_le_mul_right _ hm
  have hl := h.len
  have hl2 : (vs.take (m * k)).length = m * k := by rw [List.length_take]; omega
  refine ⟨hl2, ?_⟩
  rcases h.at_ with ⟨rfl, h1, h2⟩ | ⟨g, pre, sp, rfl, hbg, hg, h1, h2, h3⟩
  · exact .inl ⟨rfl, by omega, h2⟩
  · refine .inr ⟨g, pre, vs.drop (m * k) ++ sp, rfl, hbg, ?_, by omega, h2, ?_⟩
    · rw [hg]
      have e : pre ++ vs ++ sp = pre ++ vs.take (m * k) ++ (vs.drop (m * k) ++ sp) := by
        conv => lhs; rw [← List.take_append_drop (m * k) vs]
        simp only [List.append_assoc]
      rw [e]
    · rw [hl2, List.length_append, List.length_drop]
      omega
section
variable (w : World) {B n c : Nat} {A : Option Addr} {l : List Tm}
theorem clone_none : Calls Try.prog 35 #[.slice none n c] w fun e w' => e = .returned (.slice none 0 0) ∧ w = w' := by
  have q30 : ∀ (w : World) (a : Option Addr) (n c n' c' : Nat), (binOp .eql 30 (.slice a n c) (.slice none n' c')).run Try.prog w = .ok (.bool a.isNone) w := fun w a n c n' c' => Lib.run_eql_slice_nil w _ _ a n c n' c' Try.underlying30
  go_enter Try.func35, Try.ntmps35
  go_wp2
  go_ret
  exact ⟨rfl, rfl⟩
theorem clone_is (h : Tl w B A n c l) (hm : n ≤ 1000000) : Calls Try.prog 35 #[.slice A n c] w fun e w' => ∃ r, e = .returned r ∧ Nl w' w.heap.size r l ∧ Below w.heap.size w w' := by
  have hln : l.length = n := by have := h.len; rw [tvs_len] at this; omega
  cases A with
  | none =>
    have h0 : n = 0 := by
      rcases h.at_ with ⟨_, h0, _⟩ | ⟨_, _, _, e, _⟩
      · exact h0
      · cases e
    have hl0 : l = [] := List.eq_nil_of_length_eq_zero (by omega)
    subst hl0
    exact (clone_none w).mono fun e w' ⟨he, hw⟩ => ⟨_, he, ⟨none, 0, rfl, RowW.nil _ _ _ _⟩, hw ▸ Below.refl _ _⟩
  | some a =>
    obtain ⟨b, off, s⟩ := a
    obtain rfl : s = none := by
      rcases h.at_ with ⟨e, _⟩ | ⟨_, _, _, e, _⟩
      · cases e
      · injection e with e; injection e
    have q30 : ∀ (w : World) (a : Option Addr) (n c n' c' : Nat), (binOp .eql 30 (.slice a n c) (.slice none n' c')).run Try.prog w = .ok (.bool a.isNone) w := fun w a n c n' c' => Lib.run_eql_slice_nil w _ _ a n c n' c' Try.underlying30
    obtain ⟨i0, hi0, hz0, hz1, hz2⟩ := info_parts info36
    have HH := Lib.hid (And.intro h hln)
    have HI := Lib.hid (And.intro hi0 (And.intro hz0 (And.intro hz1 hz2)))
    clear h hln hi0 hz0 hz1 hz2
    go_enter Try.func35, Try.ntmps35
    go_wp2_with (at_builtin; refine wpList_append_own _ rfl _ _ 30 rfl w.heap.size 36 i0 zTm 2 16 Try.underlying30 HI.out.1 HI.out.2.1 HI.out.2.2.1 HI.out.2.2.2 rfl (by omega) _ _ _ rfl (World.ownsRow_made w #[] 0 (Nat.le_refl _) (Nat.zero_le _) (by simp)) ⟨b, off, none⟩ n c (tvs l) rfl ?qc1 ?qc2 ?qc3 ?qc4 ?qc5 ?qc6 ?_)
    case qc1 => rw [tvs_len, HH.out.2]
    case qc2 =>
      intro j u hj
      rw [addr_at]
      exact Lib.cell?_alloc_some _ (HH.out.1.cells rfl hj).1
    case qc3 => exact tvs_one l
    case qc4 => rw [Nat.zero_add]; unfold maxLen; omega
    case qc5 => rw [Nat.zero_add]; omega
    case qc6 => simp
    intro v' w1 hown hgrow hnil
    go_wp2
    go_ret
    have hown : w1.ownsRow w.heap.size 36 2 v' n (tvs l) := by simpa using hown
    obtain ⟨A', c', rfl⟩ : ∃ A' c', v' = .slice A' n c' := by
      rcases hown.2 with ⟨rfl, h0⟩ | ⟨g, cap, cur, rfl, _⟩
      · exact ⟨none, 0, by rw [h0]⟩
      · exact ⟨_, _, rfl⟩
    have hK : OwnK w1 w.heap.size 36 2 A' n c' (tvs l) := ⟨hown⟩
    refine ⟨.slice A' n c', rfl, ⟨A', c', by rw [HH.out.2], by rw [HH.out.2]; exact hK.row_w⟩, ?_⟩
    exact ((Below.refl _ w).alloc (Nat.le_refl _) _).grown hgrow (by simp) (by intro k hk; simp [Value.ownBlock] at hk; omega)
/-- sort.Search with the closure of place -/
theorem search_is {v1 v2 : Value} {n : Nat} (hsz : n ≤ 1000000) (p : Nat → Bool) (hf : ∀ (W : World) (i : Nat), i < n → Below w.heap.size w W → Calls Try.prog 41 #[.int .i64 (i : Int), v1, v2] W fun e w' => e = .returned (.bool (p i)) ∧ Below W.heap.size W w')
    (hmono : ∀ a b, a ≤ b → b < n → p a = true → p b = true) :
    Calls Try.prog 40 #[.int .i64 (n : Int), .func (.func 41) #[] #[v1, v2]] w fun e w' => ∃ q : Nat, e = .returned (.int .i64 (q : Int)) ∧ q ≤ n ∧ (∀ t, t < q → p t = false) ∧ (∀ t, q ≤ t → t < n → p t = true) ∧ Below w.heap.size w w' := by
  have HF := Lib.hid hf
  have M := Lib.hid hmono
  clear hf hmono
  go_enter Try.func40, Try.ntmps40
  go_wp2
  go_loopg [5, 6] n (fun kx s5 s6 wr => ∃ (lo hi : Nat), s5 = .int .i64 lo ∧ s6 = .int .i64 hi ∧ lo ≤ hi ∧ hi ≤ n ∧ hi - lo ≤ kx ∧ Hid (Below w.heap.size w wr) ∧
    Hid ((∀ t, t < lo → p t = false) ∧ (∀ t, hi ≤ t → t < n → p t = true)))
  case atStart => exact ⟨0, n, rfl, rfl, Nat.zero_le _, Nat.le_refl _, by omega, Below.refl _ _, (⟨fun t ht => absurd ht (Nat.not_lt_zero _), fun t h1 h2 => by omega⟩ : (∀ t, t < 0 → p t = false) ∧ (∀ t, n ≤ t → t < n → p t = true))⟩
  case round =>
    obtain ⟨lo, hi, rfl, rfl, hlh, hin, hg, HB, I⟩ := hrel
    by_cases hlt : lo < hi
    · have hc := HF.out wr ((lo + hi) / 2) (by omega) HB.out
      rw [show (((lo + hi) / 2 : Nat) : Int) = ((lo : Int) + (hi : Int)) / 2 by omega] at hc
      cases hp : p ((lo + hi) / 2) <;> rw [hp] at hc
      · have HP := Lib.hid hp
        have HC := Lib.hid hc
        clear hp hc
        go_wp2_with fail
        refine HC.out.mono ?_
        rintro e w' ⟨rfl, hb⟩
        have HB' := Lib.hid (HB.out.trans (hb.mono HB.out.size))
        clear hb
        go_wp2
        go_roundg (hi - ((lo + hi) / 2 + 1))
        case measure => omega
        case rel =>
          have I2 : Hid ((∀ t, t < (lo + hi) / 2 + 1 → p t = false) ∧ (∀ t, hi ≤ t → t < n → p t = true)) := ⟨fun t ht => (by
            cases h : p t with
            | false => rfl
            | true => have := M.out t ((lo + hi) / 2) (by omega) (by omega) h; rw [HP.out] at this; cases this), I.out.2⟩
          exact ⟨(lo + hi) / 2 + 1, hi, by rw [show ((lo : Int) + (hi : Int)) / 2 + 1 = (((lo + hi) / 2 + 1 : Nat) : Int) by omega], rfl, by omega, hin, Nat.le_refl _, HB', I2⟩
      · have HP := Lib.hid hp
        have HC := Lib.hid hc
        clear hp hc
        go_wp2_with fail
        refine HC.out.mono ?_
        rintro e w' ⟨rfl, hb⟩
        have HB' := Lib.hid (HB.out.trans (hb.mono HB.out.size))
        clear hb
        go_wp2
        go_roundg ((lo + hi) / 2 - lo)
        case measure => omega
        case rel =>
          have I2 : Hid ((∀ t, t < lo → p t = false) ∧ (∀ t, (lo + hi) / 2 ≤ t → t < n → p t = true)) := ⟨I.out.1, fun t ht htn => M.out ((lo + hi) / 2) t ht htn HP.out⟩
          exact ⟨lo, (lo + hi) / 2, rfl, by rw [show ((lo : Int) + (hi : Int)) / 2 = (((lo + hi) / 2 : Nat) : Int) by omega], by omega, by omega, Nat.le_refl _, HB', I2⟩
    · obtain rfl : hi = lo := by omega
      go_wp2
      go_ret
      exact ⟨hi, rfl, hin, I.out.1, I.out.2, HB.out⟩
end
section
variable (w : World) {B g c cap most : Nat} {now : Int} {L : List Tm} {A : Option Addr} {S : CS} {D : DataW Value}
theorem closure_is (h : ClkRaw w B g A cap c most now L D) {i : Nat} {y x : Tm} (hy : L[i]? = some y) {b1 b2 : Nat} (h1 : w.cell? ⟨b1, 0, none⟩ = some (.pointer (some ⟨g, 0, none⟩))) (h2 : w.heap[b2]? = some (.cells #[.int .i64 x.due, .int .i64 x.id] 36 (0, 0))) {q : Bool} (hq : (!y.lt x) = q) :
    Calls Try.prog 41 #[.int .i64 (i : Int), .pointer (some ⟨b1, 0, none⟩), .pointer (some ⟨b2, 0, none⟩)] w fun e w' => e = .returned (.bool q) ∧ Below w.heap.size w w' := by
  subst hq
  obtain ⟨r, o, rfl, d0, d1, _⟩ := row_get h.row hy
  have c4 := h.c4
  have x0 := cell_of_row _ _ 0 _ 36 (0, 0) h2
  have x1 := cell_of_row _ _ 1 _ 36 (0, 0) h2
  simp at x0 x1
  have hi1 : (0 : Int) ≤ (i : Int) := by omega
  have hi2 : (i : Int) < (L.length : Int) := by have := (List.getElem?_eq_some_iff.1 hy).1; omega
  have hB : Below w.heap.size w (w.alloc (.cells #[.int .i64 y.due, .int .i64 y.id] 36)) := (Below.refl _ w).alloc (Nat.le_refl _) _
  have x0' := (hB.cell (block_lt_of_cell x0)).trans x0
  have x1' := (hB.cell (block_lt_of_cell x1)).trans x1
  have HB := Lib.hid hB
  clear h hy h2 hB
  obtain ⟨yd, yi⟩ := y
  obtain ⟨xd, xi⟩ := x
  simp only at d0 d1 x0 x1 x0' x1' HB
  by_cases e : yd = xd
  · subst e
    go_enter Try.func41, Try.ntmps41
    go_wp2
    go_ret
    refine ⟨ret_bool ?_, HB.out⟩
    unfold Tm.lt
    by_cases h : xi ≤ yi <;> simp [h] <;> omega
  · have hne : (yd == xd) = false := by simpa using e
    by_cases hg : xd < yd
    · clear hne
      go_enter Try.func41, Try.ntmps41
      go_wp2
      go_ret
      refine ⟨ret_bool ?_, HB.out⟩
      unfold Tm.lt
      simp [e]
      omega
    · have hd : decide (xd < yd) = false := by simpa using hg
      clear hg
      have HE := Lib.hid e
      clear e
      go_enter Try.func41, Try.ntmps41
      go_wp2
      go_ret
      refine ⟨ret_bool ?_, HB.out⟩
      have := HE.out
      unfold Tm.lt
      simp at hd ⊢
      omega
/-- how many are ahead of x -/
theorem lt_place {L : List Tm} (h : Srt L) {i : Nat} {y : Tm} (hy : L[i]? = some y) (x : Tm) : y.lt x = decide (i < placeOf x L) := by
  obtain ⟨h1, h2⟩ := h.place x
  by_cases hi : i < placeOf x L
  · have : y ∈ L.take (placeOf x L) := List.mem_of_getElem? (i := i) (by rw [List.getElem?_take, if_pos hi, hy])
    rw [← h1] at this
    rw [(List.mem_filter.1 this).2]
    simp [hi]
  · have : y ∈ L.drop (placeOf x L) := List.mem_of_getElem? (i := i - placeOf x L) (by rw [List.getElem?_drop, show placeOf x L + (i - placeOf x L) = i by omega, hy])
    rw [← h2] at this
    have := (List.mem_filter.1 this).2
    simp at this
    rw [this]
    simp [hi]
theorem place_is (h : ClkRaw w B g A cap c most now L D) (hs : Srt L) (hl : L.length ≤ 1000000) (x : Tm) : Calls Try.prog 32 #[.pointer (some ⟨g, 0, none⟩), .agg #[.int .i64 x.due, .int .i64 x.id]] w fun e w' => e = .returned (.int .i64 (placeOf x L : Int)) ∧ Below w.heap.size w w' := by
  obtain ⟨w1, hw1⟩ : ∃ w1, (w.alloc (.cells #[.pointer (some ⟨g, 0, none⟩)] 23)).alloc (.cells #[.int .i64 x.due, .int .i64 x.id] 36) = w1 := ⟨_, rfl⟩
  have hB1 : Below w.heap.size w w1 := hw1 ▸ ((Below.refl _ w).alloc (Nat.le_refl _) _).alloc (by simp) _
  have h1 := h.below hB1
  have hx : w1.heap[w.heap.size + 1]? = some (.cells #[.int .i64 x.due, .int .i64 x.id] 36 (0, 0)) := by
    rw [← hw1]
    have := heap_alloc_new (w.alloc (.cells #[.pointer (some ⟨g, 0, none⟩)] 23)) (.cells #[.int .i64 x.due, .int .i64 x.id] 36)
    rwa [show (w.alloc (.cells #[.pointer (some ⟨g, 0, none⟩)] 23)).heap.size = w.heap.size + 1 by simp] at this
  have hb : w1.cell? ⟨w.heap.size, 0, none⟩ = some (.pointer (some ⟨g, 0, none⟩)) := by
    rw [← hw1]
    have h0 : (w.alloc (.cells #[.pointer (some ⟨g, 0, none⟩)] 23)).heap[w.heap.size]? = some (.cells #[.pointer (some ⟨g, 0, none⟩)] 23 (0, 0)) := heap_alloc_new w _
    exact cell_of_row _ _ 0 _ 23 (0, 0) ((But.refl [] _).alloc _ |>.cells h0 (by simp))
  have hsearch := search_is w1 (v1 := .pointer (some ⟨w.heap.size, 0, none⟩)) (v2 := .pointer (some ⟨w.heap.size + 1, 0, none⟩)) hl (fun i => !decide (i < placeOf x L)) (fun W i hi hW => by
      obtain ⟨y, hy⟩ : ∃ y, L[i]? = some y := ⟨_, List.getElem?_eq_getElem hi⟩
      exact closure_is W (h1.below hW) hy ((hW.cell (block_lt_of_cell hb)).trans hb) ((hW.block _ (Array.getElem?_eq_some_iff.1 hx).1).trans hx) (by rw [lt_place hs hy]))
    (fun a b hab _ ha => by simp at ha ⊢; omega)
  have c4 := h1.c4
  have HS := Lib.hid (And.intro hsearch (And.intro hB1 (placeOf_le x L)))
  clear h h1 hx hsearch hB1 hs
  go_enter Try.func32, Try.ntmps32
  go_wp2_with fail
  refine HS.out.1.mono ?_
  rintro e w' ⟨q, rfl, hq1, hq2, hq3, hb'⟩
  have hq : q = placeOf x L := by
    have hle := HS.out.2.2
    by_cases h1 : q < placeOf x L
    · have := hq3 q (Nat.le_refl _) (by omega)
      simp at this
      omega
    · by_cases h2 : placeOf x L < q
      · have := hq2 (placeOf x L) h2
        simp at this
      · omega
  subst hq
  have HW := Lib.hid (HS.out.2.1.trans (hb'.mono HS.out.2.1.size))
  clear hq1 hq2 hq3 hb' HS
  go_wp2
  go_ret
  exact ⟨rfl, HW.out⟩
end
end Go.Proofs.Ytncjbohpaanpaaa
