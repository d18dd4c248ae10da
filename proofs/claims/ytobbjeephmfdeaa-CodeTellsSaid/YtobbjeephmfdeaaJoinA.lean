/- Join: all bytes of stripes, one behind the other. -/
import Derived.Test.YtobbjeephmfdeaaSplC
namespace Go.Proofs.Ytobbjeephmfdeaa
open Go.RowKit Go.Coop
set_option maxRecDepth 100000

/-- stripes that read so -/
structure TR (w : World) (A : Option Addr) (n : Nat) (Ts : List (List (List UInt8))) : Prop where
  len : Ts.length = n
  out : ∃ vs : List Value, RdV w A n vs ∧ ∀ (i : Nat) (T : List (List UInt8)), Ts[i]? = some T → ∃ (B : Option Addr) (d : Nat), vs[i]? = some (Value.slice B T.length d) ∧ MR w B T.length T
theorem TO.tr {w : World} {base : Nat} {A : Option Addr} {n c : Nat} {Ts : List (List (List UInt8))} (h : TO w base A n c Ts) : TR w A n Ts := by
  obtain ⟨vs, hv, hr⟩ := h.out
  exact ⟨h.len, vs, hv.rd, fun i T hi => by obtain ⟨B, d, h1, h2⟩ := hr i T hi; exact ⟨B, d, h1, h2.mr⟩⟩
theorem TR.below {w w' : World} {B : Nat} {A : Option Addr} {n : Nat} {Ts : List (List (List UInt8))} (h : TR w A n Ts) (hb : Below B w w') (hB : w.heap.size ≤ B) : TR w' A n Ts := by
  obtain ⟨vs, hv, hr⟩ := h.out
  exact ⟨h.len, vs, hv.below hb hB, fun i T hi => by obtain ⟨B, d, h1, h2⟩ := hr i T hi; exact ⟨B, d, h1, h2.below hb hB⟩⟩
theorem TR.row {w : World} {A : Option Addr} {n : Nat} {Ts : List (List (List UInt8))} (h : TR w A n Ts) {i : Nat} (hi : i < n) : ∃ ad B d T, A = some ad ∧ ad.block < w.heap.size ∧ Ts[i]? = some T ∧ w.cell? (ad.add i) = some (.slice B T.length d) ∧ MR w B T.length T := by
  obtain ⟨vs, hv, hr⟩ := h.out
  obtain ⟨ad, v, e, hlt, h1, hc⟩ := hv.at_ hi
  have hM : i < Ts.length := by have := h.len; omega
  obtain ⟨B, d, h2, h3⟩ := hr i _ (List.getElem?_eq_getElem hM)
  rw [h1] at h2
  injection h2 with h2
  subst h2
  exact ⟨ad, B, d, _, e, hlt, List.getElem?_eq_getElem hM, hc, h3⟩
theorem TR.nil (w : World) (A : Option Addr) : TR w A 0 [] := ⟨rfl, [], RdV.nil _ _, fun i T h => by simp at h⟩

/-- how long the first k are, one behind the other -/
def fl {α : Type} (L : List (List α)) (k : Nat) : Nat := ((L.take k).flatten).length
theorem fl_zero {α : Type} (L : List (List α)) : fl L 0 = 0 := rfl
theorem fl_succ {α : Type} {L : List (List α)} {k : Nat} {r : List α} (h : L[k]? = some r) : fl L (k + 1) = fl L k + r.length ∧ (L.take (k + 1)).flatten = (L.take k).flatten ++ r := by
  have e : (L.take (k + 1)).flatten = (L.take k).flatten ++ r := by rw [List.take_add_one, h]; simp
  exact ⟨by unfold fl; rw [e, List.length_append], e⟩
theorem fl_le {α : Type} (L : List (List α)) (k : Nat) : fl L k ≤ L.flatten.length := by
  unfold fl
  conv => rhs; rw [← List.take_append_drop k L, List.flatten_append, List.length_append]
  omega
theorem fl_all {α : Type} {L : List (List α)} {n : Nat} (h : L.length = n) : fl L n = L.flatten.length ∧ (L.take n).flatten = L.flatten := by
  have e : L.take n = L := List.take_of_length_le (by omega)
  unfold fl; rw [e]; exact ⟨rfl, rfl⟩

/-- Concat, of slices of bytes -/
theorem concat_mr (A : Option Addr) (n c : Nat) (L : List (List UInt8)) (w : World) (h : MR w A n L) (hn : n ≤ 1000000) (ht : L.flatten.length ≤ 140737488355328) :
    Calls Try.prog 53 #[.slice A n c] w (Fresh w L.flatten.length L.flatten) := by
  have HL := Lib.hid h
  have hlen : Hid (L.length = n) := h.len
  clear h
  obtain ⟨tt, htt⟩ : ∃ tt, L.flatten.length = tt := ⟨_, rfl⟩
  have HTT := Lib.hid htt
  rw [htt] at ht ⊢
  clear htt
  go_enter Try.func53, Try.ntmps53
  go_wp2
  go_loopw [3, 11] (fun s i wr => ∃ (k t : Nat), k ≤ n ∧ i = .int .i64 k ∧ s = .int .i64 (t : Int) ∧ t ≤ tt ∧ Hid (fl L k = t) ∧ Hid (wr = w)) (fun _ i _ => n - (intOf i).toNat)
  case atStart => exact ⟨0, 0, Nat.zero_le _, rfl, rfl, Nat.zero_le _, rfl, rfl⟩
  case round =>
    obtain ⟨k, t, hkk, rfl, rfl, htl, HT, HW⟩ := hrel
    have HLr : Hid (MR wr A n L) := by show MR _ _ _ _; rw [HW.out]; exact HL.out
    by_cases hlt : k < n
    · obtain ⟨ad, B, d, r, rfl, _, hr, hc, _⟩ := HLr.out.row hlt
      have h1 := (fl_succ hr).1
      have h3 := fl_le L (k + 1)
      obtain ⟨rl, hrl⟩ : ∃ rl, r.length = rl := ⟨_, rfl⟩
      rw [hrl] at hc h1
      rw [HT.out] at h1
      rw [h1, HTT.out] at h3
      have H1 := Lib.hid h1
      have hkn : (k : Int) < n := by omega
      clear h1 hr hrl
      go_wp2
      go_roundw
      case rel => exact ⟨k + 1, t + rl, by omega, by go_num, by go_num, h3, H1.out, HW.out⟩
      case measure => simp [intOf]; omega
    · obtain rfl : k = n := by omega
      have e : t = tt := by rw [← HT.out, (fl_all hlen.out).1]; exact HTT.out
      subst e
      clear HLr
      go_wp2_with (go_at_call 79; refine (grow_nil _ _ (by omega) (by omega)).mono ?_; rintro e w1 ⟨A1, c1, rfl, ho1, hb1⟩)
      have HO1 : Hid (Go.Coop.Own w1 w.heap.size 5 A1 0 c1 []) := by have := ho1; rwa [HW.out] at this
      have HB1 : Hid (Below w.heap.size w w1) := by have := hb1; rwa [HW.out] at this
      clear ho1 hb1
      go_loopw [6, 27] (fun v i wq => ∃ (j m : Nat) (B : Option Addr) (cb : Nat), j ≤ k ∧ i = .int .i64 j ∧ v = .slice B m cb ∧ m ≤ t ∧ Hid (Go.Coop.Own wq w.heap.size 5 B m cb (L.take j).flatten) ∧ Hid (Below w.heap.size w wq) ∧ Hid (fl L j = m)) (fun _ i _ => k - (intOf i).toNat)
      case atStart => exact ⟨0, 0, A1, c1, by omega, rfl, rfl, by omega, HO1.out, HB1.out, rfl⟩
      case round =>
        rename_i wq
        obtain ⟨j, m, B, cb, hj, rfl, rfl, hm, HO, HB, HM⟩ := hrel
        by_cases hlt : j < k
        · obtain ⟨ad, R, d, r, rfl, _, hr, hc, hd⟩ := (HL.out.below HB.out (Nat.le_refl _)).row hlt
          obtain ⟨h1, h2⟩ := fl_succ hr
          have h3 := fl_le L (j + 1)
          obtain ⟨rl, hrl⟩ : ∃ rl, r.length = rl := ⟨_, rfl⟩
          rw [hrl] at hc h1 hd
          rw [HM.out] at h1
          rw [h1, HTT.out] at h3
          have H1 := Lib.hid (And.intro h1 h2)
          have HD := Lib.hid hd
          have hjn : (j : Int) < k := by omega
          have hbs := HB.out.size
          clear h1 h2 hr hrl hd
          go_wp2_with (at_builtin; refine wpList_app _ rfl (.tmp 31) (.tmp 32) _ rfl w.heap.size 5 Try.underlying31 info5 rfl HO.out rfl HD.out (by omega) hbs (m + rl) rfl ?_; intro A' c' w' ho hg hat)
          go_roundw
          case rel => exact ⟨j + 1, m + rl, A', c', by omega, by go_num, rfl, h3, by rw [H1.out.2]; exact ho, HB.out.grown hg hbs (fun q hq => (HO.out.block q hq).1), H1.out.1⟩
          case measure => simp [intOf]; omega
        · obtain rfl : j = k := by omega
          go_wp2
          go_ret
          have e : m = t := by rw [← HM.out, (fl_all hlen.out).1]; exact HTT.out
          subst e
          refine ⟨B, cb, rfl, ?_, HB.out⟩
          rw [← (fl_all hlen.out).2]
          exact HO.out

/-- Grow, of slices of slices -/
def FreshV (w : World) (e : Ending) (w' : World) : Prop := ∃ A c, e = .returned (.slice A 0 c) ∧ OwnV w' w.heap.size 31 A 0 c [] ∧ Below w.heap.size w w'
theorem growS (x : Nat) (w : World) (h1 : x ≤ 1000000) : Calls Try.prog 80 #[.slice none 0 0, .int .i64 (x : Int)] w (FreshV w) := by
  rcases Nat.eq_zero_or_pos x with rfl | h0
  · go_enter Try.func80, Try.ntmps80
    go_wp2
    go_ret
    exact ⟨none, 0, rfl, OwnV.nil _ _ _, Below.refl _ _⟩
  · obtain ⟨i, hi, hz, hs, hb⟩ := info_parts info31
    have hrun := Lib.run_append_nil_zeros (P := Try.prog) w 32 3 32 31 i (.slice none 0 0) .i64 .i64 Try.underlying32 Try.underlying3 hi hz x h0 (by omega) (by omega) (by rw [hb]; omega)
    have hge := grownCap_ge w x 0 31
    have hle := grownCap_le_maxLen w x 0 31 (by simp only [maxLen]; omega)
    have HR := Lib.hid hrun
    clear hrun hi hz hs hb
    generalize hcap : grownCap w x 0 31 = cap at *
    go_enter Try.func80, Try.ntmps80
    go_wp2_with (at_builtin; refine Lib.wpList_append_run _ rfl _ _ _ _ rfl _ _ rfl rfl _ _ HR.out ?_)
    go_ret
    refine ⟨_, _, rfl, ⟨rfl, ?_⟩, ?_⟩
    · have := World.ownsRow_made (base := w.heap.size) (e := 31) (size := 1) w.drew (Builtin.zeroCells (Value.slice none 0 0).cells x ++ Builtin.zeroCells (Value.slice none 0 0).cells (cap - x)) cap (Nat.le_refl _) hle (by simp [size_zeroCells, Value.cells]; omega)
      exact this
    · exact (Below.refl _ _).drew.alloc (Nat.le_refl _) _
end Go.Proofs.Ytobbjeephmfdeaa
