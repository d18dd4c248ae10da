/- The reference's place, Look. -/
import Derived.Test.YthhablokbnfpcaaRfB
namespace Go.Proofs.Ythhablokbnfpcaa
open Go.RowKit Go.Coop Go.Maps
set_option maxRecDepth 100000
theorem live_mono (L : List EV) {a b : Nat} (h : a ≤ b) : (live (L.take a)).length ≤ (live (L.take b)).length := by
  have e : L.take b = L.take a ++ (L.drop a).take (b - a) := by
    rw [← List.take_add]
    congr 1
    omega
  rw [e, live_append, List.length_append]
  omega
section
variable (w : World) {lo n c : Nat} {A : Option Addr} {L : List EV}
theorem rplace_some (h : Bk w lo A n c L) (e m : Int) {p i : Nat} {o : EV} (hp : L[p]? = some o) (hg : o.gone = false) (hi : (live (L.take p)).length = i) : Calls Try.prog 47 #[.agg #[.int .i64 e, .int .i64 m, .slice A n c], .int .i64 (i : Int)] w fun e w' => e = .returned (.int .i64 (p : Int)) ∧ Below w.heap.size w w' := by
  obtain ⟨w1, hw1⟩ : ∃ v, w.alloc (.cells #[.int .i64 e, .int .i64 m, .slice A n c] 42) = v := ⟨_, rfl⟩
  have hB1 : Below w.heap.size w w1 := hw1 ▸ (Below.refl _ _).alloc (Nat.le_refl _) _
  have hr1 : w1.heap[w.heap.size]? = some (.cells #[.int .i64 e, .int .i64 m, .slice A n c] 42 (0, 0)) := hw1 ▸ heap_alloc_new _ _
  obtain ⟨b, hb⟩ : ∃ b, w.heap.size = b := ⟨_, rfl⟩
  rw [hb] at hr1
  obtain ⟨⟨c0, c1, c2⟩, _, _, _⟩ := three hr1
  have hcap := h.cap
  have hlen := h.len
  have hpn : p < n := by have := (List.getElem?_eq_some_iff.1 hp).1; omega
  have hin : i ≤ n := by have := live_len (L.take p); have := List.length_take_le p L; omega
  have hpi : (p : Int) < (n : Int) := by omega
  have hni : (n : Int) ≤ 9223372036854775807 := by omega
  have hii : (i : Int) ≤ (n : Int) := by omega
  have H := Lib.hid (And.intro (h.below hB1) (And.intro hB1 (And.intro hlen (And.intro hp (And.intro hg hi)))))
  have HW := Lib.hid (And.intro hw1 hb)
  clear h hB1 hw1 hb hr1 hcap hlen hp hg hi hin
  go_enter Try.func47, Try.ntmps47
  go_wp2
  rw [HW.out.1, HW.out.2]
  go_loopw [1, 5] (fun v j wr => ∃ k s : Nat, k ≤ p ∧ s ≤ i ∧ v = .int .i64 s ∧ j = .int .i64 k ∧ w1 = wr ∧ Hid (s + (live (L.take k)).length = i)) (fun _ j _ => n - (Go.RowKit.intOf j).toNat)
  case atStart => exact ⟨0, i, by omega, by omega, rfl, rfl, rfl, Lib.hid (by simp [live])⟩
  case round =>
    obtain ⟨k, s, hk, hs, rfl, rfl, rfl, HS⟩ := hrel
    obtain ⟨q, hq⟩ : ∃ o, L[k]? = some o := ⟨_, List.getElem?_eq_getElem (by rw [H.out.2.2.1]; omega)⟩
    obtain ⟨r, rfl, hrl, k0, k1, k2, k3⟩ := H.out.1.get hq
    have hki : (0 : Int) ≤ (k : Int) := by omega
    have hkn : (k : Int) < (n : Int) := by omega
    have hw1 : IntKind.i64.wrap ((k : Int) + 1) = (k : Int) + 1 := IntWalk.i64_in _ (by omega)
    have hs0 : (0 : Int) ≤ (s : Int) := by omega
    have hs1 : (s : Int) ≤ (i : Int) := by omega
    by_cases hkp : k = p
    · subst hkp
      obtain rfl : o = q := by have := H.out.2.2.2.1; rw [hq] at this; injection this with e; exact e.symm
      rw [H.out.2.2.2.2.1] at k3
      obtain rfl : s = 0 := by have := HS.out; have := H.out.2.2.2.2.2; omega
      clear HS hq hk hs hrl
      go_wp2
      go_ret
      exact ⟨rfl, H.out.2.1⟩
    · have hkp' : k + 1 ≤ p := by omega
      have hmono := live_mono L hkp'
      have hstep := live_take hq
      cases hg : q.gone with
      | true =>
        rw [hg] at k3
        rw [live_no hg, List.append_nil] at hstep
        have HE : Hid (s + (live (L.take (k + 1))).length = i) := Lib.hid (by rw [hstep]; exact HS.out)
        have HJ := Lib.hid (And.intro hkp' hs)
        clear hstep hg hq hmono hkp hkp' hk hs hrl
        go_wp2
        go_roundw
        case rel => exact ⟨k + 1, s, by have := HJ.out; omega, by have := HJ.out; omega, rfl, by go_num, trivial, HE⟩
        case measure => have := HJ.out; simp [Go.RowKit.intOf]; omega
      | false =>
        rw [hg] at k3
        rw [live_yes hg] at hstep
        have h3 := HS.out
        have h4 := H.out.2.2.2.2.2
        rw [hstep, List.length_append] at hmono
        simp only [List.length_cons, List.length_nil] at hmono
        obtain ⟨z, rfl⟩ : ∃ z, s = z + 1 := ⟨s - 1, by omega⟩
        have HE : Hid (z + (live (L.take (k + 1))).length = i) := Lib.hid (by rw [hstep, List.length_append]; simp only [List.length_cons, List.length_nil]; omega)
        have hw2 : IntKind.i64.wrap (((z + 1 : Nat) : Int) - 1) = (z : Int) := by rw [IntWalk.i64_in _ (by omega)]; omega
        obtain ⟨y, hy⟩ : ∃ y : Int, ((z + 1 : Nat) : Int) = y := ⟨_, rfl⟩
        have hy0 : ¬ y = 0 := by omega
        have hy1 : (y == 0) = false := by simpa using hy0
        have hy2 : (0 : Int) ≤ y := by omega
        rw [hy] at hw2 ⊢
        have HJ := Lib.hid (And.intro hkp' hs)
        clear hstep hg hq hmono hkp hkp' hk hs hrl h3 h4 hs0 hs1 hy hy0
        go_wp2
        go_roundw
        case rel => exact ⟨k + 1, z, by have := HJ.out; omega, by have := HJ.out; omega, by go_num, by go_num, trivial, HE⟩
        case measure => have := HJ.out; simp [Go.RowKit.intOf]; omega
theorem rplace_none (h : Bk w lo A n c L) (e m : Int) {i : Int} (hi : i < 0 ∨ ((live L).length : Int) ≤ i) (hi2 : i ≤ 9223372036854775807) : Calls Try.prog 47 #[.agg #[.int .i64 e, .int .i64 m, .slice A n c], .int .i64 i] w fun e w' => e = .returned (.int .i64 (-1)) ∧ Below w.heap.size w w' := by
  obtain ⟨w1, hw1⟩ : ∃ v, w.alloc (.cells #[.int .i64 e, .int .i64 m, .slice A n c] 42) = v := ⟨_, rfl⟩
  have hB1 : Below w.heap.size w w1 := hw1 ▸ (Below.refl _ _).alloc (Nat.le_refl _) _
  have hr1 : w1.heap[w.heap.size]? = some (.cells #[.int .i64 e, .int .i64 m, .slice A n c] 42 (0, 0)) := hw1 ▸ heap_alloc_new _ _
  obtain ⟨b, hb⟩ : ∃ b, w.heap.size = b := ⟨_, rfl⟩
  rw [hb] at hr1
  obtain ⟨⟨c0, c1, c2⟩, _, _, _⟩ := three hr1
  by_cases h0 : i < 0
  · have h0' : ¬ (0 : Int) ≤ i := by omega
    have HW := Lib.hid (And.intro hw1 (And.intro hb hB1))
    have HN := Lib.hid h.len
    clear h hi hi2 hB1 hr1 hw1 hb
    by_cases hn0 : n = 0
    · subst hn0
      go_enter Try.func47, Try.ntmps47
      go_wp2
      rw [HW.out.1, HW.out.2.1]
      go_loopw [1, 5] (fun v j wr => v = .int .i64 i ∧ j = .int .i64 0 ∧ w1 = wr) (fun _ _ _ => 0)
      case atStart => exact ⟨rfl, rfl, rfl⟩
      case round =>
        obtain ⟨rfl, rfl, rfl⟩ := hrel
        go_wp2
        go_ret
        exact ⟨rfl, HW.out.2.2⟩
    · have hn1 : (0 : Int) < (n : Int) := by omega
      clear hn0
      go_enter Try.func47, Try.ntmps47
      go_wp2
      rw [HW.out.1, HW.out.2.1]
      go_loopw [1, 5] (fun v j wr => v = .int .i64 i ∧ j = .int .i64 0 ∧ w1 = wr) (fun _ _ _ => 0)
      case atStart => exact ⟨rfl, rfl, rfl⟩
      case round =>
        obtain ⟨rfl, rfl, rfl⟩ := hrel
        go_wp2
        go_ret
        exact ⟨rfl, HW.out.2.2⟩
  · obtain ⟨i, rfl⟩ := Int.eq_ofNat_of_zero_le (show 0 ≤ i by omega)
    have hi : (live L).length ≤ i := by omega
    have hcap := h.cap
    have hlen := h.len
    have hni : (n : Int) ≤ 9223372036854775807 := by omega
    have H := Lib.hid (And.intro (h.below hB1) (And.intro hB1 (And.intro hlen hi)))
    have HW := Lib.hid (And.intro hw1 hb)
    clear h hB1 hw1 hb hr1 hcap hlen hi h0
    go_enter Try.func47, Try.ntmps47
    go_wp2
    rw [HW.out.1, HW.out.2]
    go_loopw [1, 5] (fun v j wr => ∃ k s : Nat, k ≤ n ∧ s ≤ i ∧ v = .int .i64 s ∧ j = .int .i64 k ∧ w1 = wr ∧ Hid (s + (live (L.take k)).length = i)) (fun _ j _ => n - (Go.RowKit.intOf j).toNat)
    case atStart => exact ⟨0, i, by omega, by omega, rfl, rfl, rfl, Lib.hid (by simp [live])⟩
    case round =>
      obtain ⟨k, s, hk, hs, rfl, rfl, rfl, HS⟩ := hrel
      have hs0 : (0 : Int) ≤ (s : Int) := by omega
      have hs1 : (s : Int) ≤ (i : Int) := by omega
      by_cases hkn : k < n
      · obtain ⟨q, hq⟩ : ∃ o, L[k]? = some o := ⟨_, List.getElem?_eq_getElem (by rw [H.out.2.2.1]; omega)⟩
        obtain ⟨r, rfl, hrl, k0, k1, k2, k3⟩ := H.out.1.get hq
        have hki : (0 : Int) ≤ (k : Int) := by omega
        have hkn' : (k : Int) < (n : Int) := by omega
        have hw1 : IntKind.i64.wrap ((k : Int) + 1) = (k : Int) + 1 := IntWalk.i64_in _ (by omega)
        have hmono := live_mono L (show k + 1 ≤ n by omega)
        rw [List.take_of_length_le (show L.length ≤ n by rw [H.out.2.2.1]; exact Nat.le_refl _)] at hmono
        have hstep := live_take hq
        cases hg : q.gone with
        | true =>
          rw [hg] at k3
          rw [live_no hg, List.append_nil] at hstep
          have HE : Hid (s + (live (L.take (k + 1))).length = i) := Lib.hid (by rw [hstep]; exact HS.out)
          have HJ := Lib.hid (And.intro hkn hs)
          clear hstep hg hq hmono hkn hk hs hrl
          go_wp2
          go_roundw
          case rel => exact ⟨k + 1, s, by have := HJ.out; omega, by have := HJ.out; omega, rfl, by go_num, trivial, HE⟩
          case measure => have := HJ.out; simp [Go.RowKit.intOf]; omega
        | false =>
          rw [hg] at k3
          rw [live_yes hg] at hstep
          have h3 := HS.out
          have h4 := H.out.2.2.2
          rw [hstep, List.length_append] at hmono
          simp only [List.length_cons, List.length_nil] at hmono
          obtain ⟨z, rfl⟩ : ∃ z, s = z + 1 := ⟨s - 1, by omega⟩
          have HE : Hid (z + (live (L.take (k + 1))).length = i) := Lib.hid (by rw [hstep, List.length_append]; simp only [List.length_cons, List.length_nil]; omega)
          have hw2 : IntKind.i64.wrap (((z + 1 : Nat) : Int) - 1) = (z : Int) := by rw [IntWalk.i64_in _ (by omega)]; omega
          obtain ⟨y, hy⟩ : ∃ y : Int, ((z + 1 : Nat) : Int) = y := ⟨_, rfl⟩
          have hy0 : ¬ y = 0 := by omega
          have hy1 : (y == 0) = false := by simpa using hy0
          have hy2 : (0 : Int) ≤ y := by omega
          rw [hy] at hw2 ⊢
          have HJ := Lib.hid (And.intro hkn hs)
          clear hstep hg hq hmono hkn hk hs hrl h3 h4 hs0 hs1 hy hy0
          go_wp2
          go_roundw
          case rel => exact ⟨k + 1, z, by have := HJ.out; omega, by have := HJ.out; omega, by go_num, by go_num, trivial, HE⟩
          case measure => have := HJ.out; simp [Go.RowKit.intOf]; omega
      · obtain rfl : k = n := by omega
        clear hkn hk HS
        go_wp2
        go_ret
        exact ⟨rfl, H.out.2.1⟩
theorem rlook_some (h : Bk w lo A n c L) (e m : Int) {p i : Nat} {o : EV} (hp : L[p]? = some o) (hg : o.gone = false) (hi : (live (L.take p)).length = i) : Calls Try.prog 24 #[.agg #[.int .i64 e, .int .i64 m, .slice A n c], .int .i64 (i : Int)] w fun e w' => e = .returned (.tuple #[DV (o.d.fr : Int) (o.d.to : Int) o.X o.d.b.length o.c, .bool true]) ∧ Below w.heap.size w w' := by
  have hpn : p < n := by have := (List.getElem?_eq_some_iff.1 hp).1; have := h.len; omega
  have hpi : (p : Int) < (n : Int) := by omega
  have hp0 : ¬ (p : Int) < 0 := by omega
  have hp1 : (0 : Int) ≤ (p : Int) := by omega
  have hcap := h.cap
  have H := Lib.hid (And.intro h (And.intro hp (And.intro hg hi)))
  clear h hp hg hi
  go_enter Try.func24, Try.ntmps24
  go_wp2_with fail
  obtain ⟨w2, hw2⟩ : ∃ v, (w.alloc (.cells #[.int .i64 e, .int .i64 m, .slice A n c] 42)).alloc (.cells #[.int .i64 0, .int .i64 0, .slice none 0 0] 34) = v := ⟨_, rfl⟩
  have hB2 : Below w.heap.size w w2 := hw2 ▸ below_two _ _ _
  have h1 : w2.heap[w.heap.size]? = some (.cells #[.int .i64 e, .int .i64 m, .slice A n c] 42 (0, 0)) := hw2 ▸ (Below.heap_alloc _ _ _ (by simp)).trans (heap_alloc_new w _)
  have h2 : w2.heap[w.heap.size + 1]? = some (.cells #[.int .i64 0, .int .i64 0, .slice none 0 0] 34 (0, 0)) := hw2 ▸ heap_second _ _ _
  obtain ⟨b, hb⟩ : ∃ b, w.heap.size = b := ⟨_, rfl⟩
  obtain ⟨b4, hb4⟩ : ∃ b4, b + 1 = b4 := ⟨_, rfl⟩
  rw [hw2, hb]
  rw [hb] at h1 h2
  rw [hb4] at h2 ⊢
  have HB := Lib.hid (And.intro hb hb4)
  refine (rplace_some _ (H.out.1.below hB2) e m H.out.2.1 H.out.2.2.1 H.out.2.2.2).mono ?_
  rintro _ v ⟨rfl, hbv⟩
  have g1 := rowk2 hbv h1
  have g2 := rowk2 hbv h2
  obtain ⟨⟨c0, c1, c2⟩, _, _, _⟩ := three g1
  obtain ⟨⟨d0, d1, d2⟩, f0, f1, f2⟩ := three g2
  obtain ⟨r, rfl, hrl, k0, k1, k2, k3⟩ := ((H.out.1.below hB2).below hbv).get H.out.2.1
  have hB3 : Below w.heap.size w v := hB2.trans (hbv.mono hB2.size)
  have hload := run_loadAt_at (P := Try.prog) v ⟨r, p * 4, none⟩ 34 [.int .i64 (o.d.fr : Int), .int .i64 (o.d.to : Int), .slice o.X o.d.b.length o.c] _ (by
    intro j x hj
    rw [addr_at]
    match j, hj with
    | 0, hj => simp at hj; subst hj; exact k0
    | 1, hj => simp at hj; subst hj; exact k1
    | 2, hj => simp at hj; subst hj; exact k2) Try.underlying34 rfl size34
  obtain ⟨xf, hxf⟩ : ∃ x : Int, (o.d.fr : Int) = x := ⟨_, rfl⟩
  obtain ⟨xt, hxt⟩ : ∃ x : Int, (o.d.to : Int) = x := ⟨_, rfl⟩
  rw [hxf, hxt] at hload
  have HX := Lib.hid (And.intro hxf hxt)
  have HQ := Lib.hid (And.intro g2 (And.intro hB3 (And.intro hb hb4)))
  clear h1 h2 g1 g2 hb hb4 hB2 hbv hB3 hw2 k0 k1 k2 k3 HB hpn hrl hxf hxt
  go_wp2_with (refine wpList_load rfl 34 _ rfl _ rfl _ hload ?_)
  have hE6 := row3 (v0 := .int .i64 xf) (v1 := .int .i64 xt) (v2 := .slice o.X o.d.b.length o.c) HQ.out.1
  have hE := HQ.out.2.1.trans ((((But.refl [b4] v).setCell (p := ⟨b4, 0, none⟩) (by simp) (.int .i64 xf)).setCell (p := ⟨b4, 1, none⟩) (by simp) (.int .i64 xt)).setCell (p := ⟨b4, 2, none⟩) (by simp) (.slice o.X o.d.b.length o.c) |>.below HQ.out.2.1.size (by have := HQ.out.2.2; simp; omega))
  refine bodyPost_ret (v := .tuple #[DV xf xt o.X o.d.b.length o.c, .bool true]) ?_ rfl ⟨by rw [HX.out.1, HX.out.2], hE⟩
  rw [results_cell_tmp rfl]
  simp [asAddr, Result.andThen, load34 hE6, DV]
theorem rlook_none (h : Bk w lo A n c L) (e m : Int) {i : Int} (hi : i < 0 ∨ ((live L).length : Int) ≤ i) (hi2 : i ≤ 9223372036854775807) : Calls Try.prog 24 #[.agg #[.int .i64 e, .int .i64 m, .slice A n c], .int .i64 i] w fun e w' => e = .returned (.tuple #[DV 0 0 none 0 0, .bool false]) ∧ Below w.heap.size w w' := by
  have H := Lib.hid (And.intro h (And.intro hi hi2))
  clear h hi hi2
  go_enter Try.func24, Try.ntmps24
  go_wp2_with fail
  obtain ⟨w2, hw2⟩ : ∃ v, (w.alloc (.cells #[.int .i64 e, .int .i64 m, .slice A n c] 42)).alloc (.cells #[.int .i64 0, .int .i64 0, .slice none 0 0] 34) = v := ⟨_, rfl⟩
  have hB2 : Below w.heap.size w w2 := hw2 ▸ below_two _ _ _
  have h2 : w2.heap[w.heap.size + 1]? = some (.cells #[.int .i64 0, .int .i64 0, .slice none 0 0] 34 (0, 0)) := hw2 ▸ heap_second _ _ _
  obtain ⟨b, hb⟩ : ∃ b, w.heap.size = b := ⟨_, rfl⟩
  obtain ⟨b4, hb4⟩ : ∃ b4, b + 1 = b4 := ⟨_, rfl⟩
  rw [hw2, hb]
  rw [hb] at h2
  rw [hb4] at h2 ⊢
  refine (rplace_none _ (H.out.1.below hB2) e m H.out.2.1 H.out.2.2).mono ?_
  rintro _ v ⟨rfl, hbv⟩
  have g2 := rowk2 hbv h2
  obtain ⟨⟨d0, d1, d2⟩, f0, f1, f2⟩ := three g2
  have hB3 : Below w.heap.size w v := hB2.trans (hbv.mono hB2.size)
  have HQ := Lib.hid (And.intro g2 (And.intro hB3 (And.intro hb hb4)))
  clear h2 g2 hb hb4 hB2 hbv hB3 hw2
  go_wp2
  have hE6 := row3 (v0 := .int .i64 0) (v1 := .int .i64 0) (v2 := .slice none 0 0) HQ.out.1
  have hE := HQ.out.2.1.trans ((((But.refl [b4] v).setCell (p := ⟨b4, 0, none⟩) (by simp) (.int .i64 0)).setCell (p := ⟨b4, 1, none⟩) (by simp) (.int .i64 0)).setCell (p := ⟨b4, 2, none⟩) (by simp) (.slice none 0 0) |>.below HQ.out.2.1.size (by have := HQ.out.2.2; simp; omega))
  refine bodyPost_ret (v := .tuple #[DV 0 0 none 0 0, .bool false]) ?_ rfl ⟨rfl, hE⟩
  rw [results_cell_tmp rfl]
  simp [asAddr, Result.andThen, load34 hE6, DV]
end
end Go.Proofs.Ythhablokbnfpcaa
