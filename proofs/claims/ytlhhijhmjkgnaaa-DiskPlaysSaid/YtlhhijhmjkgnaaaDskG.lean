/- Flush. -/
import Derived.Test.YtlhhijhmjkgnaaaDskF
import Derived.Deep.LoopGhost
namespace Go.Proofs.Ytlhhijhmjkgnaaa
open Go.RowKit Go.Coop
set_option maxRecDepth 100000

/-- while some of the cache is still to be brought to the medium -/
def flushing (S : DS) (left : Lit → Bool) : DS := { S with med := fun i => if (S.cache i).isSome && !left (.int .i64 (i : Int)) then S.at_ i else S.med i }
theorem flushing_start (S : DS) {left : Lit → Bool} (h : ∀ i : Nat, left (.int .i64 (i : Int)) = (S.cache i).isSome) : flushing S left = S := by
  unfold flushing
  have : (fun i : Nat => if (S.cache i).isSome && !left (.int .i64 (i : Int)) then S.at_ i else S.med i) = S.med := by
    funext i
    rw [h i]
    cases S.cache i <;> simp
  rw [this]
theorem flushing_end (S : DS) {left : Lit → Bool} (h : ∀ kl, left kl = false) : { flushing S left with cache := fun _ => none } = S.flushed := by
  unfold flushing DS.flushed
  have : (fun i : Nat => if (S.cache i).isSome && !left (.int .i64 (i : Int)) then S.at_ i else S.med i) = S.at_ := by
    funext i
    rw [h]
    unfold DS.at_
    cases S.cache i <;> simp
  simp only [this]
theorem flushing_step (S : DS) (left : Lit → Bool) {i : Nat} {l : List UInt8} (hl : S.cache i = some l) : flushing S (fun z => left z && !z.sameKey (.int .i64 (i : Int))) = (flushing S left).spoilt i l := by
  unfold flushing DS.spoilt
  simp only
  congr 1
  funext j
  unfold upd
  by_cases e : j = i
  · subst e
    simp [Lit.sameKey, hl, DS.at_]
  · have : (Lit.int .i64 (j : Int)).sameKey (.int .i64 (i : Int)) = false := by simp [Lit.sameKey]; omega
    simp [this, e]

section
variable (w : World) {g m c : Nat} {S : DS}
theorem flush_none {p : Option Addr} (h : NoD w p) : Calls Try.prog 20 #[.pointer p] w fun e w' => e = .returned (.int .i64 1) ∧ w = w' := by
  have H := Lib.hid h
  clear h
  go_enter Try.func20, Try.ntmps20
  go_wp2_with (go_at_call 38; refine (up_none _ H.out).mono ?_; rintro e w' ⟨rfl, rfl⟩)
  go_ret
  exact ⟨rfl, rfl⟩
theorem flush_down (h : DiskAt w g m c S) (hd : S.down = true) : Calls Try.prog 20 #[.pointer (some ⟨g, 0, none⟩)] w fun e w' => e = .returned (.int .i64 15) ∧ w = w' := by
  have H := Lib.hid h
  have HD := Lib.hid hd
  clear h hd
  go_enter Try.func20, Try.ntmps20
  go_wp2_with (go_at_call 38; refine (up_down _ H.out HD.out).mono ?_; rintro e w' ⟨rfl, rfl⟩)
  go_ret
  exact ⟨rfl, rfl⟩
theorem flush_fails (h : DiskAt w g m c S) (hd : S.down = false) (hf : S.fails = true) : Calls Try.prog 20 #[.pointer (some ⟨g, 0, none⟩)] w fun e w' => e = .returned (.int .i64 15) ∧ DiskAt w' g m c S.failed ∧ But [g] w w' := by
  have H := Lib.hid h
  have HD := Lib.hid hd
  have HF := Lib.hid hf
  clear h hd hf
  go_enter Try.func20, Try.ntmps20
  go_wp2_with (first
    | (go_at_call 38; refine (up_yes _ H.out HD.out).mono ?_; rintro e w' ⟨rfl, rfl⟩)
    | (go_at_call 40; refine (operate_fails _ H.out HF.out).mono ?_; rintro e w2 ⟨rfl, hD2, hB2⟩))
  go_ret
  exact ⟨rfl, hD2, hB2⟩

/-- what an entry of the cache is -/
theorem entry_of {D : DataW Value} {n : Nat} {C : Nat → Option (List UInt8)} (hC : CacheIs D n C) {x : Int} {cc : Array Value} {kl : Lit} {y : DataW Value × List MemPlace} (hkey : keyOf Try.prog 3 (.int .i64 x) = some kl) (hv : secR (.agg cc) = some y) (hat : ∀ zd, D.atKey kl zd = y.1) :
    ∃ (i : Nat) (l : List UInt8), (x = (i : Int) ∧ kl = .int .i64 (i : Int)) ∧ cc = (bvs l).toArray ∧ C i = some l ∧ i < n := by
  obtain ⟨x', ex, rfl, _⟩ := Maps.keyOf_int_inv Try.underlying3 hkey
  injection ex with _ ex
  subst ex
  have hy := secR_inv hv
  subst hy
  have hh := Maps.has_true_of_atKey hat
  obtain ⟨h1, h2⟩ := hC.keys x hh
  obtain ⟨i, rfl⟩ : ∃ i : Nat, x = (i : Int) := ⟨x.toNat, by omega⟩
  have ha := hat .nil
  rw [hC.at_] at ha
  cases hc : C i with
  | none => rw [hc] at ha; cases ha
  | some l =>
    rw [hc] at ha
    injection ha with ha
    unfold secV at ha
    injection ha with ha
    exact ⟨i, l, ⟨rfl, rfl⟩, ha.symm, hc, by omega⟩

theorem ranges_drew {w : World} {k c r n cnt : Nat} {D : DataW Value} {left : Lit → Bool} (h : w.ranges Try.prog k secR c r n D left cnt) : w.drew.ranges Try.prog k secR c r n D left cnt := h
theorem store_med {w : World} {g m c : Nat} {S : DS} (h : DiskAt w g m c S) {i : Nat} (hi : i < S.n) {l : List UInt8} (hl : l.length = 64) :
    (Instr.storeAt 77 (.pointer (some ⟨m, i * 64, none⟩)) (secV l)).run Try.prog w.drew = .ok () (w.drew.setRow m (flat i S.med ++ bvs l ++ behind S.n i S.med).toArray) :=
  run_storeAt_in w.drew m (i * 64) 77 77 _ _ _ (bvs l) (by have := h.med; rw [flat_split hi] at this; exact this) (by rw [flat_len (fun a _ => h.ok.med a), Nat.mul_comm]) (by rw [bvs_length, bvs_length, hl, h.ok.med]) (by rw [size77, bvs_length, hl]) (bvs_one l)
/-- where the loop stands -/
def FlushRel (w0 : World) (g m c r : Nat) (S : DS) (D : DataW Value) (wr : World) : Prop :=
  ∃ (left : Lit → Bool) (cnt : Nat), wr.ranges Try.prog 3 secR c r S.n D left cnt ∧ DiskAt wr g m c (flushing S left) ∧ But [g, m] w0 wr
theorem grown_row {w : World} (g : Nat) (cs : Array Value) : w.grownBy (w.setRow g cs) (some g) := ⟨rfl, rfl, rfl, by simp, fun i _ hi => setRow_other _ _ _ _ (fun e => hi (by rw [e]))⟩
theorem flush_goes (h : DiskAt w g m c S) (hd : S.down = false) (hf : S.fails = false) : Calls Try.prog 20 #[.pointer (some ⟨g, 0, none⟩)] w fun e w' => e = .returned (.int .i64 0) ∧ ∃ c', DiskAt w' g m c' S.took.flushed ∧ But [g, m] w w' ∧ w.heap.size ≤ c' := by
  have H := Lib.hid h
  have HD := Lib.hid hd
  have HF := Lib.hid hf
  clear h hd hf
  go_enter Try.func20, Try.ntmps20
  go_wp2_with (first
    | (go_at_call 38; refine (up_yes _ H.out HD.out).mono ?_; rintro e w' ⟨rfl, rfl⟩)
    | (go_at_call 40; refine (operate_goes _ H.out HF.out).mono ?_; rintro e w2 ⟨rfl, hD2, hB2⟩; have c1 := hD2.c1; obtain ⟨D, hown, hC⟩ := hD2.cache; have HC := Lib.hid hC; have HD2 := Lib.hid hD2; have HB2 := Lib.hid hB2; clear hC hD2 hB2)
    | (at_range; refine wpList_range_own _ rfl _ 57 rfl 3 77 (Maps.int_keyed Try.underlying3) Try.underlying57 secR c S.took.n D rfl hown ?_; intro w3 hrg0 hg0 hs0))
  go_frame
  obtain ⟨r, hr⟩ : ∃ r, w2.heap.size = r := ⟨_, rfl⟩
  have hgr : g < r := by have := HD2.out.g_lt; omega
  have hmr : m < r := by have := HD2.out.m_lt; omega
  have hcr : c < r := by have := HD2.out.c_lt; omega
  have hwr : w.heap.size ≤ r := by have := HB2.out.size; omega
  rw [hr] at hrg0 ⊢
  have HR := Lib.hid (And.intro hgr (And.intro hmr (And.intro hcr hwr)))
  have h0 : FlushRel w g m c r S.took D w3 := by
    refine ⟨_, _, hrg0, ?_, (HB2.out.mono (by simp)).grown hg0 (by simp)⟩
    rw [flushing_start _ (fun i => HC.out.has_ i)]
    exact HD2.out.but (gs := []) ⟨hg0.os, hg0.tape, hg0.output, hg0.size, fun k hk _ => hg0.block k hk (by simp)⟩ (by simp) (by simp) (by simp)
  clear hrg0 hg0 hs0 hgr hmr hcr hwr hown c1 HD2 HB2 hr
  go_loopw [5] (fun _ wr => FlushRel w g m c r S.took D wr) (fun _ wr => wr.rangeLeft c r)
  case atStart => exact h0
  case round =>
    obtain ⟨left, cnt, hrg, hDr, hBr⟩ := hrel
    have HDr := Lib.hid hDr
    have HBr := Lib.hid hBr
    clear hDr hBr h0
    go_wp2_with (first
      | (at_next; refine wpList_next_ranges _ rfl _ rfl 3 (Maps.int_keyed Try.underlying3) secR (Value.int .i64) Value.agg (fun key kl hk => by obtain ⟨x, hx, _, _⟩ := Maps.keyOf_int_inv Try.underlying3 hk; exact ⟨x, hx⟩) (fun v y hv => by cases v <;> simp [secR] at hv; exact ⟨_, rfl⟩) c r S.took.n _ _ _ rfl hrg ?_ ?_))
    · intro hc0 hl0
      have HE := Lib.hid (flushing_end S.took hl0)
      clear hl0 hc0
      go_wp2_with (go_at_call 41; refine (empty_any _ HDr.out).mono ?_; rintro e w5 ⟨rfl, hD5, hB5⟩)
      go_ret
      refine ⟨rfl, wr.heap.size, ?_, HBr.out.trans (hB5.mono (by simp)), ?_⟩
      · rw [HE.out] at hD5
        exact hD5
      · exact HBr.out.size
    · intro x cc kl y1 y2 w4 cnt4 hkey hlk hv hat hrg4 hlt4 hg4 hs4 hen
      obtain ⟨i, l, hxi, hcc, hil, hi⟩ := entry_of HC.out hkey hv hat
      obtain ⟨rfl, rfl⟩ := hxi
      subst hcc
      have HI := Lib.hid hi
      have hl64 := (HDr.out.ok.cache i l hil).1
      have HL := Lib.hid hl64
      have hD4 : DiskAt w4 g m c (flushing S.took left) := HDr.out.but (gs := [r]) ⟨hg4.os, hg4.tape, hg4.output, hg4.size, fun k hk hm => hg4.block k hk (fun e => hm (by simpa using e))⟩ (by have := HR.out.1; simp; omega) (by have := HR.out.2.1; simp; omega) (by have := HR.out.2.2.1; simp; omega)
      have hB4 : But [g, m] w w4 := HBr.out.trans' (hs := [r]) ⟨hg4.os, hg4.tape, hg4.output, hg4.size, fun k hk hm => hg4.block k hk (fun e => hm (by simpa using e))⟩ (by intro j hj; simp at hj; have := HR.out.2.2.2; omega)
      have HB4 := Lib.hid hB4
      have hD5 := hD4.alloc (.cells (bvs l).toArray 77)
      have hload := load77 ((rd_new w4 l hl64 77).drew)
      have HG4 := Lib.hid (And.intro (hrg4.alloc (.cells (bvs l).toArray 77)) (And.intro hlt4 (And.intro (flushing_step S.took left hil) (hB4.alloc (.cells (bvs l).toArray 77)))))
      have hin : (i : Int) < ((flushing S.took left).n : Int) := by have : i < (flushing S.took left).n := HI.out; omega
      have HM := Lib.hid (And.intro hrg.left_eq hrg.ne)
      have HLO := Lib.hid hload
      have HD5 := Lib.hid hD5
      clear hD4 hB4 hD5 hrg4 hlt4 hg4 hs4 hlk hv hat hkey hil hi hl64 hrg hload HB4
      go_wp2_with (first
        | (refine alloc77 rfl rfl ?_)
        | (refine wpList_store rfl 77 _ _ rfl _ _ rfl rfl _ (store77_new w4 noughts l (by simp [noughts]) HL.out) ?_))
      generalize w4.alloc (.cells (bvs l).toArray 77) = w5 at *
      have hst := store_med HD5.out HI.out HL.out
      have c0 := HD5.out.c0
      refine wp_region_still_tail 7 (by kernel_rfl) (by kernel_rfl) ?_
      simp only [List.take_succ_cons, List.take_zero, List.drop_succ_cons, List.drop_zero]
      iterate 5 still_step
      refine wpStill_load rfl 77 _ rfl _ rfl (secV l) HLO.out ?_
      still_step
      refine wpStill_nil ?_
      refine wpList_store rfl 77 _ _ rfl _ _ rfl rfl _ hst ?_
      clear hst
      have HE := Lib.hid (HD5.out.drew.med_ HI.out HL.out)
      have hrg6 : (w5.drew.setRow m (flat i (flushing S.took left).med ++ bvs l ++ behind (flushing S.took left).n i (flushing S.took left).med).toArray).ranges Try.prog 3 secR c r S.took.n D _ cnt4 :=
        World.ranges.kept (ranges_drew HG4.out.1) (grown_row m _) (by have := HD5.out.mc; simp; omega) (by have := HR.out.2.1; simp; omega)
      have HG6 := Lib.hid hrg6
      clear hrg6
      go_wp2
      go_roundw
      case rel =>
        refine ⟨_, _, _, _, _, _, _, _, _, _, _, _, _, _, ⟨_, cnt4, HG6.out, ?_, HG4.out.2.2.2.drew.setRow (by simp) _⟩, rfl⟩
        rw [HG4.out.2.2.1]
        exact HE.out
      case measure => rw [HG6.out.left_eq, HM.out.1]; exact HG4.out.2.1
end
end Go.Proofs.Ytlhhijhmjkgnaaa
