/- GetTell. -/
import Derived.Test.YtmiapegecoaccaaWirI
namespace Go.Proofs.Ytmiapegecoaccaa
open Go.RowKit Go.Coop
set_option maxRecDepth 100000
theorem zero34 : (Try.prog.info? 34).map (fun i => (i.zero, i.size)) = some (some (.agg #[.int .i64 0, .int .i64 0, .int .u8 0, .int .i64 0, .slice none 0 0, .slice none 0 0, .int .i64 0]), 7) := by kernel_rfl
theorem load34 {w : World} {b : Nat} {v0 v1 v2 v3 v4 v5 v6 : Value} (h : w.heap[b]? = some (.cells #[v0, v1, v2, v3, v4, v5, v6] 34 (0, 0))) : (loadVar 34 ⟨b, 0, none⟩).run Try.prog w = .ok (.agg #[v0, v1, v2, v3, v4, v5, v6]) w :=
  run_loadVar_row w b 34 34 _ (0, 0) _ h Try.underlying34 rfl (by kernel_rfl)
abbrev telV (x : TelP) (I : Option Addr) (m mc : Nat) (A : Option Addr) (n c : Nat) : Value := .agg #[.int .i64 x.life, .int .i64 x.seq, .int .u8 x.op, .int .i64 x.err, .slice I m mc, .slice A n c, .int .i64 x.room]
/-- a tell whose lists are its own, and an error -/
def GotT (w : World) (r : TelP × Int) (e : Ending) (w' : World) : Prop := ∃ I m mc A n c, e = .returned (.tuple #[telV r.1 I m mc A n c, .int .i64 r.2]) ∧ OwnK w' w.heap.size 30 4 I m mc (ics r.1.infos) ∧ m ≤ 50 ∧ Own w' w.heap.size 5 A n c r.1.bytes ∧ Below w.heap.size w w'
theorem gotT_no {w w' : World} (x : Int) (h : Below w.heap.size w w') : GotT w (zeroT, x) (.returned (.tuple #[.agg #[.int .i64 0, .int .i64 0, .int .u8 0, .int .i64 0, .slice none 0 0, .slice none 0 0, .int .i64 0], .int .i64 x])) w' := ⟨none, 0, 0, none, 0, 0, rfl, OwnK.nil _ _ _ _, by omega, Own.nil _ _ _, h⟩
theorem ownK_il {w : World} {B m mc : Nat} {I : Option Addr} {L : List InfP} (h : OwnK w B 30 4 I m mc (ics L)) : IL w I m L := il_of_rd (by have := h.len; rw [ics_len] at this; omega) h.rd
section
variable (w : World)
set_option maxHeartbeats 4000000 in
theorem getT_is {ad : Addr} {t : Nat → Nat} (hT : TabAt w ad t) (had : ad.block < w.heap.size) {X : Option Addr} {xn xc : Nat} {bs : List UInt8} (hr : Rd w X xn bs) (hxn : xn ≤ 1000000) (hxc : xn ≤ xc) :
    Calls Try.prog 14 #[.pointer (some ad), .slice X xn xc] w (GotT w (getT t bs)) := by
  obtain ⟨gr, hgr⟩ : ∃ g, w.heap.size = g := ⟨_, rfl⟩
  obtain ⟨w1, hw1⟩ : ∃ x, w.alloc (.cells #[.int .i64 0, .int .i64 0, .int .u8 0, .int .i64 0, .slice none 0 0, .slice none 0 0, .int .i64 0] 34) = x := ⟨_, rfl⟩
  obtain ⟨hb1, hx1⟩ := box_new hw1
  obtain ⟨w2, hw2⟩ : ∃ x, w1.alloc (.cells #[.int .i64 0, .int .i64 0, .int .u8 0, .int .i64 0, .slice none 0 0, .slice none 0 0, .int .i64 0] 34) = x := ⟨_, rfl⟩
  obtain ⟨hb2, hx2⟩ := box_new hw2
  obtain ⟨w3, hw3⟩ : ∃ x, w2.alloc (.cells #[.int .i64 0] 3) = x := ⟨_, rfl⟩
  obtain ⟨hb3, hx3⟩ := box_new hw3
  have s1 : w1.heap.size = gr + 1 := by rw [← hw1, size_alloc, hgr]
  have s2 : w2.heap.size = gr + 1 + 1 := by rw [← hw2, size_alloc, s1]
  have s3 : w3.heap.size = gr + 1 + 1 + 1 := by rw [← hw3, size_alloc, s2]
  rw [hgr] at hx1
  rw [s1] at hx2
  rw [s2] at hx3
  have hB3 : Below w.heap.size w w3 := (hb1.trans (hb2.mono hb1.size)).trans (hb3.mono (by omega))
  have hg3 : w3.heap[gr]? = _ := ((hb2.trans (hb3.mono hb2.size)).block gr (by omega)).trans hx1
  have ha3 : w3.heap[gr + 1]? = _ := (hb3.block (gr + 1) (by omega)).trans hx2
  have hk3 : Box w3 (gr + 1 + 1) (.int .i64 0) 3 := hx3
  have hG := getC_tell w3 (hT.below had hB3) (Nat.lt_of_lt_of_le had hB3.size) (hr.below hB3 (Nat.le_refl _)) hxn hxc hk3 ha3
  have HG := Lib.hid (And.intro hG (And.intro hB3 hg3))
  have HW := Lib.hid (And.intro hw1 (And.intro hw2 hw3))
  clear hb1 hb2 hb3 hx1 hx2 hx3 hB3 hg3 ha3 hk3 hG hw1 hw2 hw3 hT hr
  go_enter Try.func14, Try.ntmps14
  go_wp2_with fail
  rw [HW.out.1, HW.out.2.1, HW.out.2.2]
  refine HG.out.1.mono ?_
  rintro e w4 ⟨hbt, hcase⟩
  have hg4 : w4.heap[gr]? = _ := hbt.cells HG.out.2.2 (by simp; omega)
  have hB4 : Below w.heap.size w w4 := HG.out.2.1.trans (hbt.below HG.out.2.1.size (by simp; omega))
  rcases hcase with ⟨hne, rfl⟩ | ⟨he0, hpc, hcase⟩
  · have hq : (((unsl t bs).2 : Int) != 0) = true := by simp; omega
    have hfn : getT t bs = (zeroT, ((unsl t bs).2 : Int)) := by unfold getT; rw [if_neg hne]
    obtain ⟨E0, hE0⟩ : ∃ x, ((unsl t bs).2 : Int) = x := ⟨_, rfl⟩
    rw [hE0] at hq hfn ⊢
    obtain ⟨c0, c1, c2, c3, c4, c5, c6⟩ := arr7 hg4
    obtain ⟨f0, f1, f2, f3, f4, f5, f6⟩ := fro7 hg4
    have HR := Lib.hid (And.intro hfn (And.intro hg4 hB4))
    clear hne hfn hg4 hB4 hbt hE0
    go_wp2
    have hE := row7 (v0 := .int .i64 0) (v1 := .int .i64 0) (v2 := .int .u8 0) (v3 := .int .i64 0) (v4 := .slice none 0 0) (v5 := .slice none 0 0) (v6 := .int .i64 0) HR.out.2.1
    refine bodyPost_ret (v := .tuple #[.agg #[.int .i64 0, .int .i64 0, .int .u8 0, .int .i64 0, .slice none 0 0, .slice none 0 0, .int .i64 0], .int .i64 E0]) ?_ rfl ?_
    · rw [results_cell_tmp rfl]
      simp [asAddr, Result.andThen, load34 hE]
    · rw [HR.out.1]
      exact gotT_no _ (HR.out.2.2.trans (but7.below HR.out.2.2.size (fun i hi => by have := List.mem_singleton.1 hi; omega)))
  · obtain ⟨body, hbd⟩ : ∃ b, (unsl t bs).1 = b := ⟨_, rfl⟩
    have hfn : getT t bs = orZ zeroT (parseT body) := by unfold getT; rw [if_pos he0, hbd]
    rw [hbd] at hpc hcase
    obtain ⟨c0, c1, c2, c3, c4, c5, c6⟩ := arr7 hg4
    obtain ⟨f0, f1, f2, f3, f4, f5, f6⟩ := fro7 hg4
    rcases hcase with ⟨hE, SS, m, c, rfl, ho⟩ | ⟨hE, rfl⟩
    · obtain ⟨v0, v1, v2, v3, v4, v5, v6, I, im, imc, q1, q2, qm, q3, q4, qI⟩ := hpc
      obtain ⟨bsF, hbsF⟩ : ∃ x, (blobR body (telI body).2.1).1 = x := ⟨_, rfl⟩
      rw [hbsF] at ho
      obtain ⟨LF, hLF⟩ : ∃ x, (telI body).1 = x := ⟨_, rfl⟩
      rw [hLF] at qI
      have hask : telOf (telR body).1 LF bsF = ⟨v1, v2, v3, v4, LF, bsF, v5⟩ := by rw [q1]; rfl
      have hk0 : (telR body).1.getD 0 0 = (v0 : Int) := by rw [q1]; rfl
      have hpar : parseT body = if (v0 : Int) = 2 ∧ RightT ⟨v1, v2, v3, v4, LF, bsF, v5⟩ then some ⟨v1, v2, v3, v4, LF, bsF, v5⟩ else none := by
        unfold parseT
        rw [hbsF, hk0, hLF, hask]
        simp [hE]
      obtain ⟨a0, a1, a2, a3, a4, a5, a6⟩ := arr7 q4
      obtain ⟨e0, e1, e2, e3, e4, e5, e6⟩ := fro7 q4
      obtain ⟨w5, hw5⟩ : ∃ x, w4.setCell ⟨gr + 1, 5, none⟩ (.slice SS m c) = x := ⟨_, rfl⟩
      have b5 : But [gr + 1] w4 w5 := by rw [← hw5]; exact (But.refl _ _).setCell (by simp) _
      have h5 : w5.heap[gr + 1]? = some (.cells #[.int .i64 (v1 : Int), .int .i64 (v2 : Int), .int .u8 (v3 : Int), .int .i64 (v4 : Int), .slice I im imc, .slice SS m c, .int .i64 (v5 : Int)] 34 (0, 0)) := by rw [← hw5]; exact set7 q4 _ rfl
      have hg5 : w5.heap[gr]? = _ := b5.cells hg4 (by simp)
      have k5 := q3.but b5 (by simp)
      have hol : ∀ j, SS.map (·.block) = some j → j ≠ gr + 1 := fun j hj => by
        have := (ho.block j hj).1
        have := HG.out.2.1.size
        omega
      have h5c := k5.cell
      have hB5 : Below w.heap.size w w5 := hB4.trans (b5.below hB4.size (by simp; omega))
      have ho5 : Own w5 w3.heap.size 5 SS m c bsF := own_but ho b5 (fun j hj => by simp; exact hol j hj)
      have hi5 : OwnK w5 w3.heap.size 30 4 I im imc (ics LF) := qI.but b5 (fun j hj => by have := (qI.block j hj).1; have := HG.out.2.1.size; simp; omega)
      obtain ⟨m0, m1, m2, m3, m4, m5, m6⟩ := arr7 h5
      obtain ⟨g0, g1, g2, g3, g4, g5, g6⟩ := arr7 hg5
      obtain ⟨r0, r1, r2, r3, r4, r5, r6⟩ := fro7 hg5
      have HS := Lib.hid (And.intro h5 (And.intro hg5 (And.intro hB5 (And.intro ho5 hi5))))
      clear c0 c1 c2 c3 c4 c5 c6 f0 f1 f2 f3 f4 f5 f6 h5 hg5 hB5 ho5 hi5 qI hLF b5 k5 hask hk0 hbsF ho q4 q3 q1 hol hB4 hg4 hbt he0 hE
      by_cases hv : v0 = 2
      · have bv : ((v0 : Int) != 2) = false := by simp; omega
        by_cases hR : RightT ⟨v1, v2, v3, v4, LF, bsF, v5⟩
        · have kR := Lib.hid (decide_eq_true hR)
          rw [if_pos ⟨by omega, hR⟩] at hpar
          rw [hpar] at hfn
          change getT t bs = (⟨v1, v2, v3, v4, LF, bsF, v5⟩, 0) at hfn
          have HF := Lib.hid hfn
          clear hpar hfn hR hv
          go_wp2_with fail
          (try rw [hw5])
          refine (rightT_is w5 v1 v2 v3 v4 v5 (ownK_il HS.out.2.2.2.2) (by omega) SS m c bsF HS.out.2.2.2.1.len kR.out).mono ?_
          rintro e w6 ⟨rfl, hb6⟩
          have h6 : w6.heap[gr + 1]? = _ := (hb6.block _ (lt_of_block HS.out.1)).trans HS.out.1
          have hg6 : w6.heap[gr]? = _ := (hb6.block _ (lt_of_block HS.out.2.1)).trans HS.out.2.1
          have HR := Lib.hid (And.intro HF.out (And.intro hg6 (And.intro (HS.out.2.2.1.trans (hb6.mono HS.out.2.2.1.size)) (And.intro (HS.out.2.2.2.1.below hb6 (Nat.le_refl _)) (HS.out.2.2.2.2.below hb6 (Nat.le_refl _))))))
          clear m0 m1 m2 m3 m4 m5 m6 g0 g1 g2 g3 g4 g5 g6 r0 r1 r2 r3 r4 r5 r6 h5c hw5 a0 a1 a2 a3 a4 a5 a6 e0 e1 e2 e3 e4 e5 e6
          obtain ⟨m0, m1, m2, m3, m4, m5, m6⟩ := arr7 h6
          obtain ⟨g0, g1, g2, g3, g4, g5, g6⟩ := arr7 hg6
          obtain ⟨r0, r1, r2, r3, r4, r5, r6⟩ := fro7 hg6
          clear h6 hg6 hb6
          go_wp2
          have hE := row7 (v0 := .int .i64 (v1 : Int)) (v1 := .int .i64 (v2 : Int)) (v2 := .int .u8 (v3 : Int)) (v3 := .int .i64 (v4 : Int)) (v4 := .slice I im imc) (v5 := .slice SS m c) (v6 := .int .i64 (v5 : Int)) HR.out.2.1
          refine bodyPost_ret (v := .tuple #[.agg #[.int .i64 (v1 : Int), .int .i64 (v2 : Int), .int .u8 (v3 : Int), .int .i64 (v4 : Int), .slice I im imc, .slice SS m c, .int .i64 (v5 : Int)], .int .i64 0]) ?_ rfl ?_
          · rw [results_cell_tmp rfl]
            simp [asAddr, Result.andThen, load34 hE]
          · rw [HR.out.1]
            exact ⟨I, im, imc, SS, m, c, rfl, (HR.out.2.2.2.2.but but7 (fun j hj => by have h1 := (HR.out.2.2.2.2.block j hj).1; simp; omega)).lower (by omega), qm, (own_but HR.out.2.2.2.1 but7 (fun j hj => by have h1 := (HR.out.2.2.2.1.block j hj).1; simp; omega)).lower (by omega), HR.out.2.2.1.trans (but7.below HR.out.2.2.1.size (fun i hi => by have := List.mem_singleton.1 hi; omega))⟩
        · have kR := Lib.hid (decide_eq_false hR)
          rw [if_neg (fun h => hR h.2)] at hpar
          rw [hpar] at hfn
          change getT t bs = (zeroT, 110) at hfn
          have HF := Lib.hid hfn
          clear hpar hfn hR hv
          go_wp2_with fail
          (try rw [hw5])
          refine (rightT_is w5 v1 v2 v3 v4 v5 (ownK_il HS.out.2.2.2.2) (by omega) SS m c bsF HS.out.2.2.2.1.len kR.out).mono ?_
          rintro e w6 ⟨rfl, hb6⟩
          have hg6 : w6.heap[gr]? = _ := (hb6.block _ (lt_of_block HS.out.2.1)).trans HS.out.2.1
          have HR := Lib.hid (And.intro HF.out (And.intro hg6 (HS.out.2.2.1.trans (hb6.mono HS.out.2.2.1.size))))
          clear m0 m1 m2 m3 m4 m5 m6 g0 g1 g2 g3 g4 g5 g6 r0 r1 r2 r3 r4 r5 r6 h5c hw5 a0 a1 a2 a3 a4 a5 a6 e0 e1 e2 e3 e4 e5 e6
          obtain ⟨g0, g1, g2, g3, g4, g5, g6⟩ := arr7 hg6
          obtain ⟨r0, r1, r2, r3, r4, r5, r6⟩ := fro7 hg6
          clear hg6 hb6
          go_wp2
          have hE := row7 (v0 := .int .i64 0) (v1 := .int .i64 0) (v2 := .int .u8 0) (v3 := .int .i64 0) (v4 := .slice none 0 0) (v5 := .slice none 0 0) (v6 := .int .i64 0) HR.out.2.1
          refine bodyPost_ret (v := .tuple #[.agg #[.int .i64 0, .int .i64 0, .int .u8 0, .int .i64 0, .slice none 0 0, .slice none 0 0, .int .i64 0], .int .i64 110]) ?_ rfl ?_
          · rw [results_cell_tmp rfl]
            simp [asAddr, Result.andThen, load34 hE]
          · rw [HR.out.1]
            exact gotT_no _ (HR.out.2.2.trans (but7.below HR.out.2.2.size (fun i hi => by have := List.mem_singleton.1 hi; omega)))
      · have bv : ((v0 : Int) != 2) = true := by simp; omega
        rw [if_neg (fun h => hv (by have := h.1; omega))] at hpar
        rw [hpar] at hfn
        change getT t bs = (zeroT, 110) at hfn
        have HR := Lib.hid (And.intro hfn (And.intro HS.out.2.1 HS.out.2.2.1))
        clear hpar hfn hv
        go_wp2
        have hE := row7 (v0 := .int .i64 0) (v1 := .int .i64 0) (v2 := .int .u8 0) (v3 := .int .i64 0) (v4 := .slice none 0 0) (v5 := .slice none 0 0) (v6 := .int .i64 0) HR.out.2.1
        refine bodyPost_ret (v := .tuple #[.agg #[.int .i64 0, .int .i64 0, .int .u8 0, .int .i64 0, .slice none 0 0, .slice none 0 0, .int .i64 0], .int .i64 110]) ?_ rfl ?_
        · rw [results_cell_tmp rfl]
          simp [asAddr, Result.andThen, load34 hE]
        · rw [HR.out.1]
          exact gotT_no _ (HR.out.2.2.trans (but7.below HR.out.2.2.size (fun i hi => by have := List.mem_singleton.1 hi; omega)))
    · have hp : parseT body = none := by unfold parseT; rw [if_neg (fun h => hE h.1)]
      rw [hp] at hfn
      change getT t bs = (zeroT, 110) at hfn
      have HR := Lib.hid (And.intro hfn (And.intro hg4 hB4))
      clear hfn hg4 hB4 hbt hE hpc hp he0
      go_wp2
      have hE := row7 (v0 := .int .i64 0) (v1 := .int .i64 0) (v2 := .int .u8 0) (v3 := .int .i64 0) (v4 := .slice none 0 0) (v5 := .slice none 0 0) (v6 := .int .i64 0) HR.out.2.1
      refine bodyPost_ret (v := .tuple #[.agg #[.int .i64 0, .int .i64 0, .int .u8 0, .int .i64 0, .slice none 0 0, .slice none 0 0, .int .i64 0], .int .i64 110]) ?_ rfl ?_
      · rw [results_cell_tmp rfl]
        simp [asAddr, Result.andThen, load34 hE]
      · rw [HR.out.1]
        exact gotT_no _ (HR.out.2.2.trans (but7.below HR.out.2.2.size (fun i hi => by have := List.mem_singleton.1 hi; omega)))
end
end Go.Proofs.Ytmiapegecoaccaa
