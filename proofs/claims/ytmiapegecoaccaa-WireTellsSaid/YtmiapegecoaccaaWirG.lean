/- GetAsk. -/
import Derived.Test.YtmiapegecoaccaaWirF
namespace Go.Proofs.Ytmiapegecoaccaa
open Go.RowKit Go.Coop
set_option maxRecDepth 100000
theorem zero25 : (Try.prog.info? 25).map (fun i => (i.zero, i.size)) = some (some (.agg #[.int .i64 0, .int .i64 0, .int .u8 0, .int .i64 0, .int .i64 0, .int .i64 0, .slice none 0 0]), 7) := by kernel_rfl
theorem row7 {w : World} {b : Nat} {T : TypeId} {x0 x1 x2 x3 x4 x5 x6 v0 v1 v2 v3 v4 v5 v6 : Value} (h : w.heap[b]? = some (.cells #[x0, x1, x2, x3, x4, x5, x6] T (0, 0))) :
    (((((((w.setCell ⟨b, 0, none⟩ v0).setCell ⟨b, 1, none⟩ v1).setCell ⟨b, 2, none⟩ v2).setCell ⟨b, 3, none⟩ v3).setCell ⟨b, 4, none⟩ v4).setCell ⟨b, 5, none⟩ v5).setCell ⟨b, 6, none⟩ v6).heap[b]? = some (.cells #[v0, v1, v2, v3, v4, v5, v6] T (0, 0)) := by
  have h0 := set7 h v0 (i := 0) (cs' := #[v0, x1, x2, x3, x4, x5, x6]) rfl
  have h1 := set7 h0 v1 (i := 1) (cs' := #[v0, v1, x2, x3, x4, x5, x6]) rfl
  have h2 := set7 h1 v2 (i := 2) (cs' := #[v0, v1, v2, x3, x4, x5, x6]) rfl
  have h3 := set7 h2 v3 (i := 3) (cs' := #[v0, v1, v2, v3, x4, x5, x6]) rfl
  have h4 := set7 h3 v4 (i := 4) (cs' := #[v0, v1, v2, v3, v4, x5, x6]) rfl
  have h5 := set7 h4 v5 (i := 5) (cs' := #[v0, v1, v2, v3, v4, v5, x6]) rfl
  have h6 := set7 h5 v6 (i := 6) (cs' := #[v0, v1, v2, v3, v4, v5, v6]) rfl
  exact h6
theorem but7 {w : World} {b : Nat} {v0 v1 v2 v3 v4 v5 v6 : Value} : But [b] w (((((((w.setCell ⟨b, 0, none⟩ v0).setCell ⟨b, 1, none⟩ v1).setCell ⟨b, 2, none⟩ v2).setCell ⟨b, 3, none⟩ v3).setCell ⟨b, 4, none⟩ v4).setCell ⟨b, 5, none⟩ v5).setCell ⟨b, 6, none⟩ v6) := by
  refine But.setCell (gs := [b]) (p := ⟨b, 6, none⟩) ?_ (by simp) _
  refine But.setCell (gs := [b]) (p := ⟨b, 5, none⟩) ?_ (by simp) _
  refine But.setCell (gs := [b]) (p := ⟨b, 4, none⟩) ?_ (by simp) _
  refine But.setCell (gs := [b]) (p := ⟨b, 3, none⟩) ?_ (by simp) _
  refine But.setCell (gs := [b]) (p := ⟨b, 2, none⟩) ?_ (by simp) _
  refine But.setCell (gs := [b]) (p := ⟨b, 1, none⟩) ?_ (by simp) _
  refine But.setCell (gs := [b]) (p := ⟨b, 0, none⟩) ?_ (by simp) _
  exact But.refl _ _
theorem fro7 {w : World} {b : Nat} {T : TypeId} {cs : Array Value} (h : w.heap[b]? = some (.cells cs T (0, 0))) : w.frozen? ⟨b, 0, none⟩ = false ∧ w.frozen? ⟨b, 1, none⟩ = false ∧ w.frozen? ⟨b, 2, none⟩ = false ∧ w.frozen? ⟨b, 3, none⟩ = false ∧ w.frozen? ⟨b, 4, none⟩ = false ∧ w.frozen? ⟨b, 5, none⟩ = false ∧ w.frozen? ⟨b, 6, none⟩ = false :=
  ⟨frozen_of_row w b 0 _ T h, frozen_of_row w b 1 _ T h, frozen_of_row w b 2 _ T h, frozen_of_row w b 3 _ T h, frozen_of_row w b 4 _ T h, frozen_of_row w b 5 _ T h, frozen_of_row w b 6 _ T h⟩
theorem load25 {w : World} {b : Nat} {v0 v1 v2 v3 v4 v5 v6 : Value} (h : w.heap[b]? = some (.cells #[v0, v1, v2, v3, v4, v5, v6] 25 (0, 0))) : (loadVar 25 ⟨b, 0, none⟩).run Try.prog w = .ok (.agg #[v0, v1, v2, v3, v4, v5, v6]) w :=
  run_loadVar_row w b 25 25 _ (0, 0) _ h Try.underlying25 rfl (by kernel_rfl)
abbrev askV (a : AskP) (A : Option Addr) (n c : Nat) : Value := .agg #[.int .i64 a.life, .int .i64 a.seq, .int .u8 a.op, .int .i64 a.stripe, .int .i64 a.index, .int .i64 a.version, .slice A n c]
/-- an ask with bytes of its own, and an error -/
def GotA (w : World) (r : AskP × Int) (e : Ending) (w' : World) : Prop := ∃ A n c, e = .returned (.tuple #[askV r.1 A n c, .int .i64 r.2]) ∧ Own w' w.heap.size 5 A n c r.1.bytes ∧ Below w.heap.size w w'
theorem gotA_no {w w' : World} (x : Int) (h : Below w.heap.size w w') : GotA w (zeroA, x) (.returned (.tuple #[.agg #[.int .i64 0, .int .i64 0, .int .u8 0, .int .i64 0, .int .i64 0, .int .i64 0, .slice none 0 0], .int .i64 x])) w' := ⟨none, 0, 0, rfl, Own.nil _ _ _, h⟩
section
variable (w : World)
set_option maxHeartbeats 4000000 in
theorem getA_is {ad : Addr} {t : Nat → Nat} (hT : TabAt w ad t) (had : ad.block < w.heap.size) {X : Option Addr} {xn xc : Nat} {bs : List UInt8} (hr : Rd w X xn bs) (hxn : xn ≤ 1000000) (hxc : xn ≤ xc) :
    Calls Try.prog 13 #[.pointer (some ad), .slice X xn xc] w (GotA w (getA t bs)) := by
  obtain ⟨gr, hgr⟩ : ∃ g, w.heap.size = g := ⟨_, rfl⟩
  obtain ⟨w1, hw1⟩ : ∃ x, w.alloc (.cells #[.int .i64 0, .int .i64 0, .int .u8 0, .int .i64 0, .int .i64 0, .int .i64 0, .slice none 0 0] 25) = x := ⟨_, rfl⟩
  obtain ⟨hb1, hx1⟩ := box_new hw1
  obtain ⟨w2, hw2⟩ : ∃ x, w1.alloc (.cells #[.int .i64 0, .int .i64 0, .int .u8 0, .int .i64 0, .int .i64 0, .int .i64 0, .slice none 0 0] 25) = x := ⟨_, rfl⟩
  obtain ⟨hb2, hx2⟩ := box_new hw2
  obtain ⟨w3, hw3⟩ : ∃ x, w2.alloc (.cells #[.int .i64 0] 3) = x := ⟨_, rfl⟩
  obtain ⟨hb3, hx3⟩ := box_new hw3
  have s1 : w1.heap.size = gr + 1 := by rw [← hw1, size_alloc, hgr]
  have s2 : w2.heap.size = gr + 1 + 1 := by rw [← hw2, size_alloc, s1]
  have s3 : w3.heap.size = gr + 1 + 1 + 1 := by rw [← hw3, size_alloc, s2]
  rw [hgr] at hx1
  rw [s1] at hx2
  rw [s2] at hx3
  have hB3 : Below w.heap.size w w3 := (hb1.trans (hb2.mono hb1.size)).trans (hb3.mono (by omega))
  have hg3 : w3.heap[gr]? = _ := ((hb2.trans (hb3.mono hb2.size)).block gr (by omega)).trans hx1
  have ha3 : w3.heap[gr + 1]? = _ := (hb3.block (gr + 1) (by omega)).trans hx2
  have hk3 : Box w3 (gr + 1 + 1) (.int .i64 0) 3 := hx3
  have hG := getC_ask w3 (hT.below had hB3) (Nat.lt_of_lt_of_le had hB3.size) (hr.below hB3 (Nat.le_refl _)) hxn hxc hk3 ha3
  have HG := Lib.hid (And.intro hG (And.intro hB3 hg3))
  have HW := Lib.hid (And.intro hw1 (And.intro hw2 hw3))
  clear hb1 hb2 hb3 hx1 hx2 hx3 hB3 hg3 ha3 hk3 hG hw1 hw2 hw3 hT hr
  go_enter Try.func13, Try.ntmps13
  go_wp2_with fail
  rw [HW.out.1, HW.out.2.1, HW.out.2.2]
  refine HG.out.1.mono ?_
  rintro e w4 ⟨hbt, hcase⟩
  have hg4 : w4.heap[gr]? = _ := hbt.cells HG.out.2.2 (by simp; omega)
  have hB4 : Below w.heap.size w w4 := HG.out.2.1.trans (hbt.below HG.out.2.1.size (by simp; omega))
  rcases hcase with ⟨hne, rfl⟩ | ⟨he0, hpc, hcase⟩
  · have hq : (((unsl t bs).2 : Int) != 0) = true := by simp; omega
    have hfn : getA t bs = (zeroA, ((unsl t bs).2 : Int)) := by unfold getA; rw [if_neg hne]
    obtain ⟨E0, hE0⟩ : ∃ x, ((unsl t bs).2 : Int) = x := ⟨_, rfl⟩
    rw [hE0] at hq hfn ⊢
    obtain ⟨c0, c1, c2, c3, c4, c5, c6⟩ := arr7 hg4
    obtain ⟨f0, f1, f2, f3, f4, f5, f6⟩ := fro7 hg4
    have HR := Lib.hid (And.intro hfn (And.intro hg4 hB4))
    clear hne hfn hg4 hB4 hbt hE0
    go_wp2
    have hE := row7 (v0 := .int .i64 0) (v1 := .int .i64 0) (v2 := .int .u8 0) (v3 := .int .i64 0) (v4 := .int .i64 0) (v5 := .int .i64 0) (v6 := .slice none 0 0) HR.out.2.1
    refine bodyPost_ret (v := .tuple #[.agg #[.int .i64 0, .int .i64 0, .int .u8 0, .int .i64 0, .int .i64 0, .int .i64 0, .slice none 0 0], .int .i64 E0]) ?_ rfl ?_
    · rw [results_cell_tmp rfl]
      simp [asAddr, Result.andThen, load25 hE]
    · rw [HR.out.1]
      exact gotA_no _ (HR.out.2.2.trans (but7.below HR.out.2.2.size (fun i hi => by have := List.mem_singleton.1 hi; omega)))
  · obtain ⟨body, hbd⟩ : ∃ b, (unsl t bs).1 = b := ⟨_, rfl⟩
    have hfn : getA t bs = orZ zeroA (parseA body) := by unfold getA; rw [if_pos he0, hbd]
    rw [hbd] at hpc hcase
    obtain ⟨c0, c1, c2, c3, c4, c5, c6⟩ := arr7 hg4
    obtain ⟨f0, f1, f2, f3, f4, f5, f6⟩ := fro7 hg4
    rcases hcase with ⟨hE, SS, m, c, rfl, ho⟩ | ⟨hE, rfl⟩
    · obtain ⟨v0, v1, v2, v3, v4, v5, v6, q1, q2, q3, q4⟩ := hpc
      obtain ⟨bsF, hbsF⟩ : ∃ x, (blobR body (askR body).2.1).1 = x := ⟨_, rfl⟩
      rw [hbsF] at ho
      have hask : askOf (askR body).1 bsF = ⟨v1, v2, v3, v4, v5, v6, bsF⟩ := by rw [q1]; rfl
      have hk0 : (askR body).1.getD 0 0 = (v0 : Int) := by rw [q1]; rfl
      have hpar : parseA body = if (v0 : Int) = 1 ∧ RightA ⟨v1, v2, v3, v4, v5, v6, bsF⟩ then some ⟨v1, v2, v3, v4, v5, v6, bsF⟩ else none := by
        unfold parseA
        rw [hbsF, hk0, hask]
        simp [hE]
      obtain ⟨a0, a1, a2, a3, a4, a5, a6⟩ := arr7 q4
      obtain ⟨e0, e1, e2, e3, e4, e5, e6⟩ := fro7 q4
      obtain ⟨w5, hw5⟩ : ∃ x, w4.setCell ⟨gr + 1, 6, none⟩ (.slice SS m c) = x := ⟨_, rfl⟩
      have b5 : But [gr + 1] w4 w5 := by rw [← hw5]; exact (But.refl _ _).setCell (by simp) _
      have h5 : w5.heap[gr + 1]? = some (.cells #[.int .i64 (v1 : Int), .int .i64 (v2 : Int), .int .u8 (v3 : Int), .int .i64 (v4 : Int), .int .i64 (v5 : Int), .int .i64 (v6 : Int), .slice SS m c] 25 (0, 0)) := by rw [← hw5]; exact set7 q4 _ rfl
      have hg5 : w5.heap[gr]? = _ := b5.cells hg4 (by simp)
      have k5 := q3.but b5 (by simp)
      have hol : ∀ j, SS.map (·.block) = some j → j ≠ gr + 1 := fun j hj => by
        have := (ho.block j hj).1
        have := HG.out.2.1.size
        omega
      have h5c := k5.cell
      have hB5 : Below w.heap.size w w5 := hB4.trans (b5.below hB4.size (by simp; omega))
      have ho5 : Own w5 w3.heap.size 5 SS m c bsF := own_but ho b5 (fun j hj => by simp; exact hol j hj)
      obtain ⟨m0, m1, m2, m3, m4, m5, m6⟩ := arr7 h5
      obtain ⟨g0, g1, g2, g3, g4, g5, g6⟩ := arr7 hg5
      obtain ⟨r0, r1, r2, r3, r4, r5, r6⟩ := fro7 hg5
      have HS := Lib.hid (And.intro h5 (And.intro hg5 (And.intro hB5 ho5)))
      clear c0 c1 c2 c3 c4 c5 c6 f0 f1 f2 f3 f4 f5 f6 h5 hg5 hB5 ho5 b5 k5 hask hk0 hbsF ho q4 q3 q1 hol hB4 hg4 hbt he0 hE
      by_cases hv : v0 = 1
      · have bv : ((v0 : Int) != 1) = false := by simp; omega
        by_cases hR : RightA ⟨v1, v2, v3, v4, v5, v6, bsF⟩
        · have kR := Lib.hid (decide_eq_true hR)
          rw [if_pos ⟨by omega, hR⟩] at hpar
          rw [hpar] at hfn
          change getA t bs = (⟨v1, v2, v3, v4, v5, v6, bsF⟩, 0) at hfn
          have HF := Lib.hid hfn
          clear hpar hfn hR hv
          go_wp2_with fail
          (try rw [hw5])
          refine (rightA_is w5 v1 v2 v3 v4 v5 v6 bsF SS m c HS.out.2.2.2.len kR.out).mono ?_
          rintro e w6 ⟨rfl, hb6⟩
          have h6 : w6.heap[gr + 1]? = _ := (hb6.block _ (lt_of_block HS.out.1)).trans HS.out.1
          have hg6 : w6.heap[gr]? = _ := (hb6.block _ (lt_of_block HS.out.2.1)).trans HS.out.2.1
          have HR := Lib.hid (And.intro HF.out (And.intro hg6 (And.intro (HS.out.2.2.1.trans (hb6.mono HS.out.2.2.1.size)) (HS.out.2.2.2.below hb6 (Nat.le_refl _)))))
          clear m0 m1 m2 m3 m4 m5 m6 g0 g1 g2 g3 g4 g5 g6 r0 r1 r2 r3 r4 r5 r6 h5c hw5 a0 a1 a2 a3 a4 a5 a6 e0 e1 e2 e3 e4 e5 e6
          obtain ⟨m0, m1, m2, m3, m4, m5, m6⟩ := arr7 h6
          obtain ⟨g0, g1, g2, g3, g4, g5, g6⟩ := arr7 hg6
          obtain ⟨r0, r1, r2, r3, r4, r5, r6⟩ := fro7 hg6
          clear h6 hg6 hb6
          go_wp2
          have hE := row7 (v0 := .int .i64 (v1 : Int)) (v1 := .int .i64 (v2 : Int)) (v2 := .int .u8 (v3 : Int)) (v3 := .int .i64 (v4 : Int)) (v4 := .int .i64 (v5 : Int)) (v5 := .int .i64 (v6 : Int)) (v6 := .slice SS m c) HR.out.2.1
          refine bodyPost_ret (v := .tuple #[.agg #[.int .i64 (v1 : Int), .int .i64 (v2 : Int), .int .u8 (v3 : Int), .int .i64 (v4 : Int), .int .i64 (v5 : Int), .int .i64 (v6 : Int), .slice SS m c], .int .i64 0]) ?_ rfl ?_
          · rw [results_cell_tmp rfl]
            simp [asAddr, Result.andThen, load25 hE]
          · rw [HR.out.1]
            exact ⟨SS, m, c, rfl, (own_but HR.out.2.2.2 but7 (fun j hj => by have h1 := (HR.out.2.2.2.block j hj).1; simp; omega)).lower (by omega), HR.out.2.2.1.trans (but7.below HR.out.2.2.1.size (fun i hi => by have := List.mem_singleton.1 hi; omega))⟩
        · have kR := Lib.hid (decide_eq_false hR)
          rw [if_neg (fun h => hR h.2)] at hpar
          rw [hpar] at hfn
          change getA t bs = (zeroA, 110) at hfn
          have HF := Lib.hid hfn
          clear hpar hfn hR hv
          go_wp2_with fail
          (try rw [hw5])
          refine (rightA_is w5 v1 v2 v3 v4 v5 v6 bsF SS m c HS.out.2.2.2.len kR.out).mono ?_
          rintro e w6 ⟨rfl, hb6⟩
          have hg6 : w6.heap[gr]? = _ := (hb6.block _ (lt_of_block HS.out.2.1)).trans HS.out.2.1
          have HR := Lib.hid (And.intro HF.out (And.intro hg6 (HS.out.2.2.1.trans (hb6.mono HS.out.2.2.1.size))))
          clear m0 m1 m2 m3 m4 m5 m6 g0 g1 g2 g3 g4 g5 g6 r0 r1 r2 r3 r4 r5 r6 h5c hw5 a0 a1 a2 a3 a4 a5 a6 e0 e1 e2 e3 e4 e5 e6
          obtain ⟨g0, g1, g2, g3, g4, g5, g6⟩ := arr7 hg6
          obtain ⟨r0, r1, r2, r3, r4, r5, r6⟩ := fro7 hg6
          clear hg6 hb6
          go_wp2
          have hE := row7 (v0 := .int .i64 0) (v1 := .int .i64 0) (v2 := .int .u8 0) (v3 := .int .i64 0) (v4 := .int .i64 0) (v5 := .int .i64 0) (v6 := .slice none 0 0) HR.out.2.1
          refine bodyPost_ret (v := .tuple #[.agg #[.int .i64 0, .int .i64 0, .int .u8 0, .int .i64 0, .int .i64 0, .int .i64 0, .slice none 0 0], .int .i64 110]) ?_ rfl ?_
          · rw [results_cell_tmp rfl]
            simp [asAddr, Result.andThen, load25 hE]
          · rw [HR.out.1]
            exact gotA_no _ (HR.out.2.2.trans (but7.below HR.out.2.2.size (fun i hi => by have := List.mem_singleton.1 hi; omega)))
      · have bv : ((v0 : Int) != 1) = true := by simp; omega
        rw [if_neg (fun h => hv (by have := h.1; omega))] at hpar
        rw [hpar] at hfn
        change getA t bs = (zeroA, 110) at hfn
        have HR := Lib.hid (And.intro hfn (And.intro HS.out.2.1 HS.out.2.2.1))
        clear hpar hfn hv
        go_wp2
        have hE := row7 (v0 := .int .i64 0) (v1 := .int .i64 0) (v2 := .int .u8 0) (v3 := .int .i64 0) (v4 := .int .i64 0) (v5 := .int .i64 0) (v6 := .slice none 0 0) HR.out.2.1
        refine bodyPost_ret (v := .tuple #[.agg #[.int .i64 0, .int .i64 0, .int .u8 0, .int .i64 0, .int .i64 0, .int .i64 0, .slice none 0 0], .int .i64 110]) ?_ rfl ?_
        · rw [results_cell_tmp rfl]
          simp [asAddr, Result.andThen, load25 hE]
        · rw [HR.out.1]
          exact gotA_no _ (HR.out.2.2.trans (but7.below HR.out.2.2.size (fun i hi => by have := List.mem_singleton.1 hi; omega)))
    · have hp : parseA body = none := by unfold parseA; rw [if_neg (fun h => hE h.1)]
      rw [hp] at hfn
      change getA t bs = (zeroA, 110) at hfn
      have HR := Lib.hid (And.intro hfn (And.intro hg4 hB4))
      clear hfn hg4 hB4 hbt hE hpc hp he0
      go_wp2
      have hE := row7 (v0 := .int .i64 0) (v1 := .int .i64 0) (v2 := .int .u8 0) (v3 := .int .i64 0) (v4 := .int .i64 0) (v5 := .int .i64 0) (v6 := .slice none 0 0) HR.out.2.1
      refine bodyPost_ret (v := .tuple #[.agg #[.int .i64 0, .int .i64 0, .int .u8 0, .int .i64 0, .int .i64 0, .int .i64 0, .slice none 0 0], .int .i64 110]) ?_ rfl ?_
      · rw [results_cell_tmp rfl]
        simp [asAddr, Result.andThen, load25 hE]
      · rw [HR.out.1]
        exact gotA_no _ (HR.out.2.2.trans (but7.below HR.out.2.2.size (fun i hi => by have := List.mem_singleton.1 hi; omega)))
end
end Go.Proofs.Ytmiapegecoaccaa
