/- The law NetOwn. -/
import Derived.Test.YthhablokbnfpcaaOwnA
namespace Go.Proofs.Ythhablokbnfpcaa
open Go.RowKit Go.Coop Go.Maps
set_option maxRecDepth 100000
def o1 (l : List UInt8) : NS := ⟨1, 9, [⟨0, 0, l⟩]⟩
def o2 (l : List UInt8) : NS := ⟨1, 9, [⟨0, 0, l⟩, ⟨0, 0, l⟩]⟩
theorem o_send {l : List UInt8} (h : l.length ≤ 100) : (NS.new 1 9).sendE 0 0 l = 0 ∧ (NS.new 1 9).send 0 0 l = o1 l := by

  have h2 : l.length ≤ 131072 := by omega
  simp [NS.sendE, NS.send, NS.joins, h2, NS.layE, NS.lay, NS.full, NS.wait, NS.new, NS.laid, o1]
theorem own_law (A : Option Addr) (n c : Nat) (l : List UInt8) (w : World) (hr : Rd w A n l) (hn : n ≤ maxLen) : Calls Try.prog 10 #[.slice A n c] w (Awake w) := by
  have hl := hr.len
  unfold maxLen at hn
  have hn' : (n : Int) ≤ 9223372036854775807 := by omega
  by_cases h0 : n = 0
  · subst h0
    clear hr hl hn hn'
    go_enter Try.func10, Try.ntmps10
    go_wp2_with fail
    refine (awake_is w).mono ?_
    rintro e w1 ⟨rfl, hb⟩
    have HB := Lib.hid hb
    clear hb
    go_wp2
    go_ret
    exact ⟨rfl, HB.out⟩
  by_cases h1 : 100 < n
  · have h0' : ¬ n = 0 := h0
    have h00 : (0 : Int) < (n : Int) := by omega
    have h1' : decide ((100 : Int) < (n : Int)) = true := decide_eq_true (by omega)
    have HR := Lib.hid (And.intro hr (And.intro h0 h1))
    clear hr h0 h1 hl hn
    go_enter Try.func10, Try.ntmps10
    go_wp2_with fail
    refine (awake_is w).mono ?_
    rintro e w1 ⟨rfl, hb⟩
    have HB := Lib.hid hb
    clear hb
    go_wp2
    go_ret
    exact ⟨rfl, HB.out⟩
  have h0' : ¬ n = 0 := h0
  have h00 : (0 : Int) < (n : Int) := by omega
  have h1' : decide ((100 : Int) < (n : Int)) = false := decide_eq_false (by omega)
  have HR := Lib.hid hr
  have HL : Hid (0 < l.length ∧ l.length ≤ 100) := Lib.hid ⟨by omega, by omega⟩
  have HN := Lib.hid hl
  clear hr h0 h1 hn hn' hl
  go_enter Try.func10, Try.ntmps10
  go_wp2_with fail
  refine (nt_new _ 1 9 (by decide) (by decide) (by decide) (by decide)).mono ?_
  rintro e w1 ⟨g, cc, rfl, hN, hb⟩
  have H1 := Lib.hid (And.intro hN hb)
  clear hN hb
  go_wp2_with fail
  refine (copy_any A _ c l w1 (HR.out.below H1.out.2 (Nat.le_refl _)) (by have := HL.out.2; have := HN.out; omega)).mono ?_
  rintro e w2 ⟨A2, c2, rfl, ho, hb⟩
  have hnw := Nw.of_own ho (by have := HL.out.1; have := HN.out; omega)
  have H2 := Lib.hid (And.intro (H1.out.1.below hb) (And.intro (H1.out.2.trans (hb.mono H1.out.2.size)) (hnw.lower (lo' := w.heap.size) H1.out.2.size)))
  clear ho hb hnw H1
  go_wp2_with fail
  have hrd : Rd w2 A2 n l := by have := H2.out.2.2.rd; rwa [HN.out] at this
  refine (nt_send _ H2.out.1 0 0 hrd c2 (q := 0) (o_send HL.out.2).1 (o_send HL.out.2).2).mono ?_
  rintro e w3 ⟨rfl, hn, hb, hk⟩
  obtain ⟨x3, cur3, fr3, rfl, hx3, hc3, ha3⟩ := (H2.out.2.2.kp hk).any5
  have H3 := Lib.hid (And.intro hn (And.intro (H2.out.2.1.trans hb) (And.intro hx3 (And.intro hc3 ha3))))
  clear hn hb hk hx3 hc3 ha3 H2 hrd
  go_wp2_with fail
  have ha3 : Any5 w3 x3 n := by have := H3.out.2.2.2.2; rwa [HN.out] at this
  refine (spoil_is _ ha3 (by have := HL.out.2; have := HN.out; omega)).mono ?_
  rintro e w4 ⟨rfl, hb⟩
  have H4 := Lib.hid (And.intro (H3.out.1.but5 hb H3.out.2.2.2.1) (H3.out.2.1.trans (hb.below H3.out.2.1.size (by simp; exact H3.out.2.2.1))))
  clear hb H3 ha3
  go_wp2_with fail
  refine (nt_look _ H4.out.1 0 (o := some ⟨0, 0, l⟩) (by rfl)).mono ?_
  rintro e w5 ⟨X, cx, rfl, hT, hb⟩
  dsimp only [Option.getD, Option.isSome, Told] at hT ⊢
  obtain ⟨x5, cur5, fr5, rfl, hx5, hc5, ha5⟩ := hT.any5
  obtain ⟨w6, hw6⟩ : ∃ v, w5.alloc (.cells #[.int .i64 0, .int .i64 0, .slice (some ⟨x5, 0, none⟩) l.length cx] 34) = v := ⟨_, rfl⟩
  have hy : w6.heap[w5.heap.size]? = some (.cells #[.int .i64 0, .int .i64 0, .slice (some ⟨x5, 0, none⟩) l.length cx] 34 (0, 0)) := hw6 ▸ heap_alloc_new _ _
  have hq6 : Below w5.heap.size w5 w6 := hw6 ▸ (Below.refl _ _).alloc (Nat.le_refl _) _
  obtain ⟨⟨k0, k1, k2⟩, _, _, _⟩ := three hy
  have H6 := Lib.hid (And.intro ((H4.out.1.below hb).below hq6) (And.intro (H4.out.2.trans ((hb.mono H4.out.2.size).trans (hq6.mono (Nat.le_trans H4.out.2.size hb.size)))) (And.intro (Nat.le_trans H4.out.2.size hx5) (And.intro ((hq6.block _ (Array.getElem?_eq_some_iff.1 hc5).1).trans hc5) (hT.below hq6)))))
  clear hT hb hx5 hc5 ha5 hq6 hy H4
  go_wp2_with fail
  have ha6 : Any5 w6 x5 l.length := by
    obtain ⟨x, _, _, e, _, _, ha⟩ := H6.out.2.2.2.2.any5
    injection e with e
    injection e with e _ _
    subst e
    exact ha
  refine (spoil_is _ ha6 HL.out.2).mono ?_
  rintro e w7 ⟨rfl, hb⟩
  have H7 := Lib.hid (And.intro (H6.out.1.but5 hb H6.out.2.2.2.1) (H6.out.2.1.trans (hb.below H6.out.2.1.size (by simp; exact H6.out.2.2.1))))
  clear ha6 hb H6 hw6 k0 k1 k2
  go_wp2_with fail
  refine (nt_copy _ H7.out.1 0 (q := 0) (by rfl) (S' := o2 l) (by rfl)).mono ?_
  rintro e w8 ⟨rfl, hn, hb, hk⟩
  have H8 := Lib.hid (And.intro hn (H7.out.2.trans hb))
  clear hn hb hk H7
  go_wp2_with fail
  refine (nt_take _ H8.out.1 0 (o := some ⟨0, 0, l⟩) (by rfl) (S' := o1 l) (by rfl)).mono ?_
  rintro e w9 ⟨X, cx, rfl, hT, hn, hb, hk⟩
  dsimp only [Option.getD, Option.isSome, Told] at hT ⊢
  obtain ⟨x9, cur9, fr9, rfl, hx9, hc9, ha9⟩ := hT.any5
  obtain ⟨w10, hw10⟩ : ∃ v, w9.alloc (.cells #[.int .i64 0, .int .i64 0, .slice (some ⟨x9, 0, none⟩) l.length cx] 34) = v := ⟨_, rfl⟩
  have hy : w10.heap[w9.heap.size]? = some (.cells #[.int .i64 0, .int .i64 0, .slice (some ⟨x9, 0, none⟩) l.length cx] 34 (0, 0)) := hw10 ▸ heap_alloc_new _ _
  have hq10 : Below w9.heap.size w9 w10 := hw10 ▸ (Below.refl _ _).alloc (Nat.le_refl _) _
  obtain ⟨⟨k0, k1, k2⟩, _, _, _⟩ := three hy
  have H10 := Lib.hid (And.intro (hn.below hq10) (And.intro ((H8.out.2.trans hb).trans (hq10.mono (H8.out.2.trans hb).size)) (And.intro (Nat.le_trans H8.out.2.size hx9) (And.intro ((hq10.block _ (Array.getElem?_eq_some_iff.1 hc9).1).trans hc9) (hT.below hq10)))))
  clear hT hn hb hk hx9 hc9 ha9 hq10 hy H8
  have e1 := conv_str (P := Try.prog) Try.underlying29 Try.underlying5 Try.underlying9 H10.out.2.2.2.2.rd cx
  have e2 := conv_str (P := Try.prog) Try.underlying29 Try.underlying5 Try.underlying9 (HR.out.below H10.out.2.1 (Nat.le_refl _)) c
  go_wp2_with fail
  have ha10 : Any5 w10 x9 l.length := by
    obtain ⟨x, _, _, e, _, _, ha⟩ := H10.out.2.2.2.2.any5
    injection e with e
    injection e with e _ _
    subst e
    exact ha
  refine (spoil_is _ ha10 HL.out.2).mono ?_
  rintro e w11 ⟨rfl, hb⟩
  have H11 := Lib.hid (And.intro (H10.out.1.but5 hb H10.out.2.2.2.1) (H10.out.2.1.trans (hb.below H10.out.2.1.size (by simp; exact H10.out.2.2.1))))
  clear ha10 hb H10 hw10 k0 k1 k2 e1 e2
  go_wp2_with fail
  refine (nt_take _ H11.out.1 0 (o := some ⟨0, 0, l⟩) (by rfl) (S' := NS.new 1 9) (by rfl)).mono ?_
  rintro e w12 ⟨X, cx, rfl, hT, hn, hb, hk⟩
  dsimp only [Option.getD, Option.isSome, Told] at hT ⊢
  obtain ⟨x12, cur12, fr12, rfl, hx12, hc12, ha12⟩ := hT.any5
  obtain ⟨w13, hw13⟩ : ∃ v, w12.alloc (.cells #[.int .i64 0, .int .i64 0, .slice (some ⟨x12, 0, none⟩) l.length cx] 34) = v := ⟨_, rfl⟩
  have hy : w13.heap[w12.heap.size]? = some (.cells #[.int .i64 0, .int .i64 0, .slice (some ⟨x12, 0, none⟩) l.length cx] 34 (0, 0)) := hw13 ▸ heap_alloc_new _ _
  have hq13 : Below w12.heap.size w12 w13 := hw13 ▸ (Below.refl _ _).alloc (Nat.le_refl _) _
  obtain ⟨⟨k0, k1, k2⟩, _, _, _⟩ := three hy
  have H13 := Lib.hid (And.intro ((H11.out.2.trans hb).trans (hq13.mono (H11.out.2.trans hb).size)) (hT.below hq13))
  clear hT hn hb hk hx12 hc12 ha12 hq13 hy H11
  have e1 := conv_str (P := Try.prog) Try.underlying29 Try.underlying5 Try.underlying9 H13.out.2.rd cx
  have e2 := conv_str (P := Try.prog) Try.underlying29 Try.underlying5 Try.underlying9 (HR.out.below H13.out.1 (Nat.le_refl _)) c
  go_wp2_with fail
  refine (awake_is _).mono ?_
  rintro e w14 ⟨rfl, hb⟩
  have HU := Lib.hid hb
  clear hb
  go_wp2
  go_ret
  exact ⟨rfl, H13.out.1.trans (HU.out.mono H13.out.1.size)⟩
end Go.Proofs.Ythhablokbnfpcaa
