/- Read; whether a sector is of one byte (reads). -/
import Derived.Test.YtlhhijhmjkgnaaaDskD
namespace Go.Proofs.Ytlhhijhmjkgnaaa
open Go.RowKit Go.Coop
set_option maxRecDepth 100000

section
variable {w : World} {g m c : Nat} {S : DS}
theorem look_run {D : DataW Value} {n nn : Nat} {C : Nat → Option (List UInt8)} (hown : w.ownsMap Try.prog 3 secR c nn D) (hC : CacheIs D n C) {i : Nat} (hi : i < 65536) :
    (Instr.lookup 57 (.map (some c)) (.int .i64 (i : Int)) true).run Try.prog w = .ok (.tuple #[secV ((C i).getD noughts), .bool (C i).isSome]) w := by
  obtain ⟨v, ps, hrun, hv⟩ := hown.look_ok (Maps.int_keyed Try.underlying3) Try.underlying57 (zero77 w) (secR_mk noughts) (key3 hi)
  rw [hC.has_] at hrun
  rw [hC.at_] at hv
  rw [hrun]
  have := secR_inv hv
  injection this with h1 h2
  cases hc : C i with
  | none =>
    rw [hc] at h1
    injection h1 with h1
    rw [← h1]
    rfl
  | some l =>
    rw [hc] at h1
    injection h1 with h1
    rw [← h1]
    rfl
theorem look1_run {D : DataW Value} {n nn : Nat} {C : Nat → Option (List UInt8)} (hown : w.ownsMap Try.prog 3 secR c nn D) (hC : CacheIs D n C) {i : Nat} (hi : i < 65536) :
    (Instr.lookup 57 (.map (some c)) (.int .i64 (i : Int)) false).run Try.prog w = .ok (secV ((C i).getD noughts)) w := by
  obtain ⟨v, ps, hrun, hv⟩ := hown.lookup (Maps.int_keyed Try.underlying3) Try.underlying57 (zero77 w) (secR_mk noughts) (key3 hi)
  rw [hC.at_] at hv
  rw [hrun]
  have := secR_inv hv
  injection this with h1 h2
  cases hc : C i with
  | none =>
    rw [hc] at h1
    injection h1 with h1
    rw [← h1]
    rfl
  | some l =>
    rw [hc] at h1
    injection h1 with h1
    rw [← h1]
    rfl
/-- a sector of the medium, by value -/
theorem DiskAt.med_load (h : DiskAt w g m c S) {i : Nat} (hi : i < S.n) : (Instr.loadAt 77 (.pointer (some ⟨m, i * 64, none⟩))).run Try.prog w = .ok (secV (S.med i)) w := by
  rw [Nat.mul_comm]
  refine run_loadAt_at w _ 77 (bvs (S.med i)) _ (fun j v hj => ?_) Try.underlying77 rfl (by rw [size77, bvs_length, h.ok.med])
  have hj64 : j < 64 := by have := (List.getElem?_eq_some_iff.1 hj).1; rw [bvs_length, h.ok.med] at this; exact this
  rw [addr_at, cell_of_row w m _ _ 77 (0, 0) h.med, List.getElem?_toArray, flat_at hi (fun i _ => h.ok.med i) hj64]
  exact hj
theorem alloc77 {ops : Array Oper} {rest : List Oper} {o : Oper} {a : Act} {Q : Exit → Act → World → Prop} (hgd : o.guard = none) (ho : o.op = .alloc 77) (h : wpList Try.prog ops Q rest (a.put o.dst (.pointer (some ⟨w.heap.size, 0, none⟩))) (w.alloc (.cells (bvs noughts).toArray 77))) :
    wpList Try.prog ops Q (o :: rest) a w :=
  wpList_plain hgd fun _ hK => by
    have hz := zero77 w
    have hrun : (Instr.alloc 77 true (.tuple #[])).run Try.prog w = .ok (.pointer (some ⟨w.heap.size, 0, none⟩)) (w.alloc (.cells (bvs noughts).toArray 77)) := by
      simp [Instr.alloc, hz, newVar, newRow, Result.andThen, secV, Value.cells]
    unfold Oper.wp execOp
    simp only [ho, Sem.run_bind, hrun, Result.andThen_ok]
    exact hK _ _ h
theorem store77_new (w : World) (l k : List UInt8) (hl : l.length = 64) (hk : k.length = 64) : (Instr.storeAt 77 (.pointer (some ⟨w.heap.size, 0, none⟩)) (secV k)).run Try.prog (w.alloc (.cells (bvs l).toArray 77)) = .ok () (w.alloc (.cells (bvs k).toArray 77)) := by
  have := run_storeAt_new (P := Try.prog) w 77 (bvs l).toArray (bvs k).toArray (by rw [size77]; simp [bvs_length, hk]) (by simp [bvs_length, hl, hk]) (by simp only [List.all_toArray, List.all_eq_true]; exact bvs_one k)
  exact this
end
section
variable (w : World) {g m c : Nat} {S : DS}
theorem read_none {p : Option Addr} (h : NoD w p) (i : Int) : Calls Try.prog 16 #[.pointer p, .int .i64 i] w fun e w' => e = .returned (.tuple #[.slice none 0 0, .int .i64 1]) ∧ w = w' := by
  have H := Lib.hid h
  clear h
  go_enter Try.func16, Try.ntmps16
  go_wp2_with (go_at_call 38; refine (up_none _ H.out).mono ?_; rintro e w' ⟨rfl, rfl⟩)
  go_ret2
  exact ⟨rfl, rfl⟩
theorem read_down (h : DiskAt w g m c S) (hd : S.down = true) (i : Int) : Calls Try.prog 16 #[.pointer (some ⟨g, 0, none⟩), .int .i64 i] w fun e w' => e = .returned (.tuple #[.slice none 0 0, .int .i64 15]) ∧ w = w' := by
  have H := Lib.hid h
  have HD := Lib.hid hd
  clear h hd
  go_enter Try.func16, Try.ntmps16
  go_wp2_with (go_at_call 38; refine (up_down _ H.out HD.out).mono ?_; rintro e w' ⟨rfl, rfl⟩)
  go_ret2
  exact ⟨rfl, rfl⟩
theorem read_sector (h : DiskAt w g m c S) (hd : S.down = false) {i : Int} (hi : i < 0 ∨ (S.n : Int) ≤ i) : Calls Try.prog 16 #[.pointer (some ⟨g, 0, none⟩), .int .i64 i] w fun e w' => e = .returned (.tuple #[.slice none 0 0, .int .i64 50]) ∧ w = w' := by
  have H := Lib.hid h
  have HD := Lib.hid hd
  have HI := Lib.hid hi
  clear h hd hi
  go_enter Try.func16, Try.ntmps16
  go_wp2_with (first
    | (go_at_call 38; refine (up_yes _ H.out HD.out).mono ?_; rintro e w' ⟨rfl, rfl⟩)
    | (go_at_call 39; refine (has_no _ H.out HI.out).mono ?_; rintro e w' ⟨rfl, rfl⟩))
  go_ret2
  exact ⟨rfl, rfl⟩
theorem read_yes (h : DiskAt w g m c S) (hd : S.down = false) {i : Nat} (hi : i < S.n) : Calls Try.prog 16 #[.pointer (some ⟨g, 0, none⟩), .int .i64 (i : Int)] w fun e w' => e = .returned (.tuple #[.slice (some ⟨w.heap.size, 0, none⟩) 64 64, .int .i64 0]) ∧ w' = w.alloc (.cells (bvs (S.at_ i)).toArray 77) := by
  have H := Lib.hid h
  have HD := Lib.hid hd
  have HI := Lib.hid hi
  have hg := h.g_lt
  have hn2 := h.ok.n2
  obtain ⟨D, hown, hC⟩ := h.cache
  have c0 := h.c0
  have c1 := h.c1
  have hlk := look_run hown hC (i := i) (by omega)
  cases hc : S.cache i with
  | none =>
    have HAT : Hid (S.at_ i = S.med i) := by show S.at_ i = _; unfold DS.at_; rw [hc]; rfl
    rw [hc] at hlk
    simp only [Option.getD_none, Option.isSome_none] at hlk
    have hld := (h.alloc (.cells (bvs noughts).toArray 77)).med_load hi
    have HL := Lib.hid (h.ok.med i)
    have hin : (i : Int) < (S.n : Int) := by omega
    clear h hd hown hC hc hi hn2
    go_enter Try.func16, Try.ntmps16
    go_wp2_with (first
      | (go_at_call 38; refine (up_yes _ H.out HD.out).mono ?_; rintro e w' ⟨rfl, rfl⟩)
      | (go_at_call 39; refine (has_yes _ H.out HI.out).mono ?_; rintro e w' ⟨rfl, rfl⟩)
      | (refine alloc77 rfl rfl ?_)
      | (refine wpList_load rfl 77 _ rfl _ rfl _ hld ?_)
      | (refine wpList_store rfl 77 _ _ rfl _ _ rfl rfl _ (store77_new w noughts _ (by simp [noughts]) ?hk) ?_; case hk => first | exact HL.out | exact List.length_replicate))
    go_ret2
    exact ⟨rfl, by rw [HAT.out]⟩
  | some l =>
    have HAT : Hid (S.at_ i = l) := by show S.at_ i = _; unfold DS.at_; rw [hc]; rfl
    have HL := Lib.hid (h.ok.cache i l hc).1
    rw [hc] at hlk
    simp only [Option.getD_some, Option.isSome_some] at hlk
    clear h hd hown hC hc hi hn2
    go_enter Try.func16, Try.ntmps16
    go_wp2_with (first
      | (go_at_call 38; refine (up_yes _ H.out HD.out).mono ?_; rintro e w' ⟨rfl, rfl⟩)
      | (go_at_call 39; refine (has_yes _ H.out HI.out).mono ?_; rintro e w' ⟨rfl, rfl⟩)
      | (refine alloc77 rfl rfl ?_)
      | (refine wpList_store rfl 77 _ _ rfl _ _ rfl rfl _ (store77_new w noughts l (by simp [noughts]) HL.out) ?_))
    go_ret2
    exact ⟨rfl, by rw [HAT.out]⟩
end
end Go.Proofs.Ytlhhijhmjkgnaaa
