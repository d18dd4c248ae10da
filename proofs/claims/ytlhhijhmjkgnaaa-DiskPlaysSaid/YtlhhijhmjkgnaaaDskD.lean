/- Write. -/
import Derived.Test.YtlhhijhmjkgnaaaDskB
import Derived.RegionTactic
import Derived.BigRegion
import Derived.StillTailTactics
namespace Go.Proofs.Ytlhhijhmjkgnaaa
open Go.RowKit Go.Coop
set_option maxRecDepth 100000

section
variable {P : Program} {ops : Array Oper} {rest : List Oper} {o : Oper} {a : Act} {w : World}
/-- a load, by its run, among what only reads -/
theorem wpStill_load {Q : Act → Prop} (hgd : o.guard = none) (ty : TypeId) (x : Operand) (ho : o.op = .load ty x) (p : Value) (hx : a.eval x = p) (v : Value) (hrun : (Instr.loadAt ty p).run P w = .ok v w)
    (h : wpStill P ops w Q rest (a.put o.dst v)) : wpStill P ops w Q (o :: rest) a := by
  refine wpStill_step fun K hK => ?_
  simp only [Region.wanted, hgd, if_true]
  unfold Oper.still execOp
  simp only [ho, hx, Sem.run_bind, hrun, Result.andThen_ok]
  exact ⟨rfl, hK _ h⟩
theorem wpList_load {Q : Exit → Act → World → Prop} (hgd : o.guard = none) (ty : TypeId) (x : Operand) (ho : o.op = .load ty x) (p : Value) (hx : a.eval x = p) (v : Value) (hrun : (Instr.loadAt ty p).run P w = .ok v w)
    (h : wpList P ops Q rest (a.put o.dst v) w) : wpList P ops Q (o :: rest) a w :=
  wpList_plain hgd fun _ hK => by
    unfold Oper.wp execOp
    simp only [ho, hx, Sem.run_bind, hrun, Result.andThen_ok]
    exact hK _ _ h
theorem wpList_store {Q : Exit → Act → World → Prop} (hgd : o.guard = none) (ty : TypeId) (x y : Operand) (ho : o.op = .store ty x y) (p v : Value) (hx : a.eval x = p) (hy : a.eval y = v) (w' : World) (hrun : (Instr.storeAt ty p v).run P w = .ok () w')
    (h : wpList P ops Q rest (a.put o.dst undef) w') : wpList P ops Q (o :: rest) a w :=
  wpList_plain hgd fun _ hK => by
    unfold Oper.wp execOp
    simp only [ho, hx, hy, Sem.run_bind, hrun, Result.andThen_ok]
    exact hK _ _ h
end
section
variable (w : World) {g m c : Nat} {S : DS}
/-- bytes lie elsewhere -/
theorem DiskAt.rd_ne {w : World} (h : DiskAt w g m c S) {ad : Addr} {n : Nat} {l : List UInt8} (hr : Rd w (some ad) n l) (hn : 0 < n) : ad.block ≠ g := by
  rintro rfl
  obtain ⟨ad', b, e, _, _, hc⟩ := hr.at_ hn
  injection e with e
  subst e
  have e0 : ad.add 0 = ad := by simp [Addr.add]
  rw [e0] at hc
  have hb := h.blk
  simp only [World.cell?, hb] at hc
  split at hc
  · cases hc
  · simp only [List.getElem?_toArray] at hc
    match hk : ad.off, hc with
    | 0, hc => simp [BV] at hc
    | 1, hc => simp [BV] at hc
    | 2, hc => simp [BV] at hc
    | 3, hc => simp [BV] at hc
    | 4, hc => simp [BV] at hc
    | _ + 5, hc => simp at hc
theorem rd_but {w w' : World} {gs : List Nat} {ad : Addr} {n : Nat} {l : List UInt8} (hr : Rd w (some ad) n l) (hb : But gs w w') (hn : ad.block ∉ gs) : Rd w' (some ad) n l :=
  ⟨hr.len, fun h0 => by
    obtain ⟨ad', e, hlt, hc⟩ := hr.cells h0
    injection e with e
    subst e
    refine ⟨ad, rfl, Nat.lt_of_lt_of_le hlt hb.size, fun j c' hj => ?_⟩
    have := hc j c' hj
    have e : w'.heap[ad.block]? = w.heap[ad.block]? := hb.block _ hlt hn
    exact (World.cell?_of_block (w := w) (by rw [addr_add_block]; exact e)).trans this⟩

theorem write_none {p : Option Addr} (h : NoD w p) (i : Int) (b : Value) : Calls Try.prog 13 #[.pointer p, .int .i64 i, b] w fun e w' => e = .returned (.int .i64 1) ∧ w = w' := by
  have H := Lib.hid h
  clear h
  go_enter Try.func13, Try.ntmps13
  go_wp2_with (go_at_call 38; refine (up_none _ H.out).mono ?_; rintro e w' ⟨rfl, rfl⟩)
  go_ret
  exact ⟨rfl, rfl⟩
theorem write_down (h : DiskAt w g m c S) (hd : S.down = true) (i : Int) (b : Value) : Calls Try.prog 13 #[.pointer (some ⟨g, 0, none⟩), .int .i64 i, b] w fun e w' => e = .returned (.int .i64 15) ∧ w = w' := by
  have H := Lib.hid h
  have HD := Lib.hid hd
  clear h hd
  go_enter Try.func13, Try.ntmps13
  go_wp2_with (go_at_call 38; refine (up_down _ H.out HD.out).mono ?_; rintro e w' ⟨rfl, rfl⟩)
  go_ret
  exact ⟨rfl, rfl⟩
theorem write_sector (h : DiskAt w g m c S) (hd : S.down = false) {i : Int} (hi : i < 0 ∨ (S.n : Int) ≤ i) (b : Value) : Calls Try.prog 13 #[.pointer (some ⟨g, 0, none⟩), .int .i64 i, b] w fun e w' => e = .returned (.int .i64 50) ∧ w = w' := by
  have H := Lib.hid h
  have HD := Lib.hid hd
  have HI := Lib.hid hi
  clear h hd hi
  go_enter Try.func13, Try.ntmps13
  go_wp2_with (first
    | (go_at_call 38; refine (up_yes _ H.out HD.out).mono ?_; rintro e w' ⟨rfl, rfl⟩)
    | (go_at_call 39; refine (has_no _ H.out HI.out).mono ?_; rintro e w' ⟨rfl, rfl⟩))
  go_ret
  exact ⟨rfl, rfl⟩
theorem write_arg (h : DiskAt w g m c S) (hd : S.down = false) {i : Nat} (hi : i < S.n) (A : Option Addr) (n cap : Nat) (hn : n ≠ 64) : Calls Try.prog 13 #[.pointer (some ⟨g, 0, none⟩), .int .i64 (i : Int), .slice A n cap] w fun e w' => e = .returned (.int .i64 2) ∧ w = w' := by
  have H := Lib.hid h
  have HD := Lib.hid hd
  have HI := Lib.hid hi
  have hn' : ((n : Int) != 64) = true := by simp; omega
  have hn2 : decide ((n : Int) = 64) = false := by simp; omega
  clear h hd hi hn
  go_enter Try.func13, Try.ntmps13
  go_wp2_with (first
    | (go_at_call 38; refine (up_yes _ H.out HD.out).mono ?_; rintro e w' ⟨rfl, rfl⟩)
    | (go_at_call 39; refine (has_yes _ H.out HI.out).mono ?_; rintro e w' ⟨rfl, rfl⟩))
  all_goals go_ret
  all_goals exact ⟨rfl, rfl⟩
theorem write_fails (h : DiskAt w g m c S) (hd : S.down = false) (hf : S.fails = true) {i : Nat} (hi : i < S.n) (A : Option Addr) (cap : Nat) : Calls Try.prog 13 #[.pointer (some ⟨g, 0, none⟩), .int .i64 (i : Int), .slice A 64 cap] w fun e w' => e = .returned (.int .i64 15) ∧ DiskAt w' g m c S.failed ∧ But [g] w w' := by
  have H := Lib.hid h
  have HD := Lib.hid hd
  have HI := Lib.hid hi
  have HF := Lib.hid hf
  clear h hd hi hf
  go_enter Try.func13, Try.ntmps13
  go_wp2_with (first
    | (go_at_call 38; refine (up_yes _ H.out HD.out).mono ?_; rintro e w' ⟨rfl, rfl⟩)
    | (go_at_call 39; refine (has_yes _ H.out HI.out).mono ?_; rintro e w' ⟨rfl, rfl⟩)
    | (go_at_call 40; refine (operate_fails _ H.out HF.out).mono ?_; rintro e w2 ⟨rfl, hD2, hB2⟩))
  go_ret
  exact ⟨rfl, hD2, hB2⟩
theorem arr77 (A : Option Addr) (cap : Nat) (w : World) : (Instr.arrayAt 77 (.slice A 64 cap)).run Try.prog w = .ok (.pointer A) w := by
  simp [Instr.arrayAt, run_underlying Try.underlying77, Result.andThen]
theorem load77 {w : World} {ad : Addr} {l : List UInt8} (hr : Rd w (some ad) 64 l) : (Instr.loadAt 77 (.pointer (some ad))).run Try.prog w = .ok (secV l) w := by
  refine run_loadAt_at w ad 77 (bvs l) _ (fun j v hj => ?_) Try.underlying77 rfl (by rw [size77, bvs_length, hr.len])
  obtain ⟨b, hb, rfl⟩ := bvs_at hj
  obtain ⟨ad', e, _, hc⟩ := hr.cells (by omega)
  injection e with e
  subst e
  exact hc j b hb
theorem key3 {i : Nat} (hi : i < 65536) : keyOf Try.prog 3 (.int .i64 (i : Int)) = some (.int .i64 (i : Int)) := Maps.keyOf_int_mk Try.underlying3 (by
  simp [Lit.wf, IntKind.min, IntKind.max, IntKind.signed, IntKind.bits]
  omega)
theorem write_goes (h : DiskAt w g m c S) (hd : S.down = false) (hf : S.fails = false) {i : Nat} (hi : i < S.n) {A : Option Addr} {l : List UInt8} (hr : Rd w A 64 l) (cap : Nat) : Calls Try.prog 13 #[.pointer (some ⟨g, 0, none⟩), .int .i64 (i : Int), .slice A 64 cap] w fun e w' => e = .returned (.int .i64 0) ∧ DiskAt w' g m c (S.took.put i l) ∧ But [g, c] w w' := by
  obtain ⟨ad, rfl, hlt, hcs⟩ := hr.cells (by omega)
  have hne := h.rd_ne hr (by omega)
  have H := Lib.hid h
  have HD := Lib.hid hd
  have HI := Lib.hid hi
  have HF := Lib.hid hf
  have HR := Lib.hid hr
  clear h hd hi hf hr hcs
  go_enter Try.func13, Try.ntmps13
  go_wp2_with (first
    | (go_at_call 38; refine (up_yes _ H.out HD.out).mono ?_; rintro e w' ⟨rfl, rfl⟩)
    | (go_at_call 39; refine (has_yes _ H.out HI.out).mono ?_; rintro e w' ⟨rfl, rfl⟩)
    | (go_at_call 40; refine (operate_goes _ H.out HF.out).mono ?_; rintro e w2 ⟨rfl, hD2, hB2⟩))
  have HD2 := Lib.hid hD2
  have HB2 := Lib.hid hB2
  have c1 := hD2.c1
  have harr := arr77 (some ad) cap
  have hload := load77 (w := w2.drew) ((rd_but HR.out hB2 (by simpa using hne)).drew)
  obtain ⟨D, hown, hC⟩ := hD2.cache
  have hn2 : S.n ≤ 65536 := H.out.ok.n2
  have HO := Lib.hid (And.intro hown hC)
  have hi6 : i < 65536 := by have := HI.out; omega
  have hsn : S.took.n < maxLen := by show S.n < maxLen; unfold maxLen; omega
  have HK := Lib.hid (And.intro (key3 hi6) hsn)
  clear hD2 hB2 hn2 hC hi6 hsn hown
  refine wp_region_still_tail 8 (by kernel_rfl) (by kernel_rfl) ?_
  simp only [List.take_succ_cons, List.take_zero, List.drop_succ_cons, List.drop_zero]
  iterate 7 still_step
  refine wpStill_load rfl 77 _ rfl _ rfl _ hload ?_
  refine wpStill_nil ?_
  refine wpList_mapUpdate_own _ rfl _ _ _ 57 rfl 3 77 (Maps.int_keyed Try.underlying3) Try.underlying57 secR c S.took.n D rfl HO.out.1.drew HK.out.2 _ _ _ rfl rfl HK.out.1 _ [] (secR_mk l) ?_
  intro w1 hown1 hg1
  have HW := Lib.hid (And.intro hown1 hg1)
  clear hown1 hg1 harr hload c1
  go_wp2
  go_ret
  exact ⟨rfl, HD2.out.drew.put_ HO.out.2 HO.out.1.isMap HI.out HR.out.len HW.out.1 HW.out.2, (HB2.out.drew.mono (by simp)).grown HW.out.2 (by simp)⟩
end
end Go.Proofs.Ytlhhijhmjkgnaaa
