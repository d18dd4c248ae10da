import Derived.Test.YtfibkpjodhcppaaComes
import Derived.Lib.SlBytesConst
namespace Go.Proofs.Ytfibkpjodhcppaa
open Go.RowKit Go.Coop

theorem wpList_store_new {P : Program} {ops : Array Oper} {rest : List Oper} {o : Oper} {a : Act} {w : World} {Q : Exit → Act → World → Prop} (hgd : o.guard = none) (ty : TypeId) (x y : Operand) (ho : o.op = .store ty x y)
    (cells Z : Array Value) (hx : a.eval x = .pointer (some ⟨w.heap.size, 0, none⟩)) (hy : a.eval y = .agg cells) (t : TypeId)
    (hi : (P.info? ty).map (·.size) = some cells.size) (hold : Z.size = cells.size) (h1 : cells.all (·.oneCell') = true)
    (h : wpList P ops Q rest (a.put o.dst undef) (w.alloc (.cells cells t))) : wpList P ops Q (o :: rest) a (w.alloc (.cells Z t)) := by
  refine wpList_store_row hgd ty x y ho w.heap.size cells hx hy t Z (heap_alloc_new w _) hi hold h1 ?_
  rw [World.setRow_alloc_new]
  exact h

/-- the table as the program makes it -/
def T0 : Array Value := tarr ((List.range 256).map entry)
theorem T0_size : T0.size = 256 := by rw [T0, tarr_size]; simp
theorem T0_one : T0.all (·.oneCell') = true := by simp [T0, tarr]; intro x _; rfl
theorem size24' : (Try.prog.info? 24).map (·.size) = some T0.size := by rw [T0_size]; exact size24
theorem zero24 : ∃ Z : Array Value, Z.size = T0.size ∧ ∀ w, (zeroValue 24).run Try.prog w = .ok (.agg Z) w := ⟨_, by rw [T0_size]; simp, (zero_of_info info24).1⟩
theorem tab_new (w : World) (fr : Nat × Nat) : TabAt (w.alloc (.cells T0 24 fr)) ⟨w.heap.size, 0, none⟩ entry := by
  intro i hi
  refine ⟨entry_lt (by omega), ?_⟩
  have hadd : (⟨w.heap.size, 0, none⟩ : Addr).add i = ⟨w.heap.size, i, none⟩ := by unfold Addr.add; split <;> simp_all
  rw [hadd, cell_of_row _ w.heap.size i T0 24 fr (heap_alloc_new w _), T0, tarr_at (by simpa using hi)]
  simp [List.getD_eq_getElem?_getD, hi]
theorem TabAt.below {w w' : World} {a : Addr} {t : Nat → Nat} {B : Nat} (h : TabAt w a t) (ha : a.block < B) (hb : Below B w w') : TabAt w' a t := fun i hi =>
  ⟨(h i hi).1, (hb.cell (by rw [addr_add_block]; exact ha)).trans (h i hi).2⟩

theorem crc_nine : crc entry [49, 50, 51, 52, 53, 54, 55, 56, 57] = 3808858755 := by decide +kernel
theorem rd_nine (w : World) (fr : Nat × Nat) : Rd (w.alloc (.cells #[.int .u8 49, .int .u8 50, .int .u8 51, .int .u8 52, .int .u8 53, .int .u8 54, .int .u8 55, .int .u8 56, .int .u8 57] 5 fr)) (some ⟨w.heap.size, 0, none⟩) 9 [49, 50, 51, 52, 53, 54, 55, 56, 57] :=
  Rd.new w [49, 50, 51, 52, 53, 54, 55, 56, 57] _ 5 fr fun j c hj => by
    match j, hj with
    | 0, hj => simp at hj; subst hj; rfl
    | 1, hj => simp at hj; subst hj; rfl
    | 2, hj => simp at hj; subst hj; rfl
    | 3, hj => simp at hj; subst hj; rfl
    | 4, hj => simp at hj; subst hj; rfl
    | 5, hj => simp at hj; subst hj; rfl
    | 6, hj => simp at hj; subst hj; rfl
    | 7, hj => simp at hj; subst hj; rfl
    | 8, hj => simp at hj; subst hj; rfl
theorem rd_ab (w : World) (fr : Nat × Nat) : Rd (w.alloc (.cells #[.int .u8 97, .int .u8 98] 5 fr)) (some ⟨w.heap.size, 0, none⟩) 2 [97, 98] :=
  Rd.new w [97, 98] _ 5 fr fun j c hj => by
    match j, hj with
    | 0, hj => simp at hj; subst hj; rfl
    | 1, hj => simp at hj; subst hj; rfl

theorem comes_k (l m : List UInt8) (x : Int) (w : World) (hs : l.length ≤ 1048576) (h : comesF l x = m) : Calls Try.prog 14 #[.string ⟨l.toArray⟩, .int .i64 x] w (Str w m) := by
  have := comes_any ⟨l.toArray⟩ x w (by simpa [ByteArray.size] using hs)
  simp only [h] at this
  exact this

theorem conv_const2 (w : World) (X : Obj) (C : Array Value) (n c : Nat) : (convert 32 32 (.slice (some ⟨w.heap.size + 1, 0, none⟩) n c)).run Try.prog ((w.alloc X).alloc (.cells C 5)) = .ok (.slice (some ⟨w.heap.size + 1, 0, none⟩) n c) ((w.alloc X).alloc (.cells C 5 (C.size, C.size + 1))) := by
  have h := Lib.run_convert_bytes_const (P := Try.prog) (w.alloc X) 32 5 C n c Try.underlying32 Try.underlying5
  rwa [size_alloc] at h

set_option maxRecDepth 100000 in
theorem awake_any (w : World) : Calls Try.prog 18 #[] w fun e w' => e = .returned (.bool true) ∧ Below w.heap.size w w' := by
  obtain ⟨Z, hZs, hz⟩ := zero24
  have HZ := Lib.hid hZs
  have kcc := fun (w : World) (C : Array Value) (n c : Nat) => Lib.run_convert_bytes_const (P := Try.prog) w 32 5 C n c Try.underlying32 Try.underlying5
  have kcd := fun (w : World) (X : Obj) (C : Array Value) (n c : Nat) => conv_const2 w X C n c
  clear hZs
  go_enter Try.func18, Try.ntmps18
  go_wp2_with fail
  refine (table_any _).mono ?_
  rintro e w1 ⟨rfl, hb1⟩
  have hT : tarr ((List.range 256).map entry) = T0 := rfl
  rw [hT]
  clear hT
  go_wp2_with (
    (with_reducible refine wpList_store_new (o := ⟨none, .store 24 (.tmp 1) (.tmp 3), _, _, _, _⟩) ?_ 24 (.tmp 1) (.tmp 3) ?_ T0 Z ?_ ?_ 24 size24' HZ.out T0_one ?_)
    case refine_1 => rfl
    case refine_2 => rfl
    case refine_3 => rfl
    case refine_4 => rfl)
  clear kcd hz
  have ht := (tab_new w1 (0, 0)).below (B := w1.heap.size + 1) (by simp) ((Below.refl (w1.heap.size + 1) (w1.alloc (.cells T0 24))).alloc (by simp) (.cells #[.int .u8 49, .int .u8 50, .int .u8 51, .int .u8 52, .int .u8 53, .int .u8 54, .int .u8 55, .int .u8 56, .int .u8 57] 5 (9, 10)))
  have hr := rd_nine (w1.alloc (.cells T0 24)) (9, 10)
  rw [size_alloc] at hr
  have hB := (hb1.alloc hb1.size (.cells T0 24)).alloc (by rw [size_alloc]; have := hb1.size; omega) (.cells #[.int .u8 49, .int .u8 50, .int .u8 51, .int .u8 52, .int .u8 53, .int .u8 54, .int .u8 55, .int .u8 56, .int .u8 57] 5 (9, 10))
  have hlt : w1.heap.size < ((w1.alloc (.cells T0 24)).alloc (.cells #[.int .u8 49, .int .u8 50, .int .u8 51, .int .u8 52, .int .u8 53, .int .u8 54, .int .u8 55, .int .u8 56, .int .u8 57] 5 (9, 10))).heap.size := by rw [size_alloc, size_alloc]; omega
  have HT := Lib.hid ht
  have HR := Lib.hid hr
  have HB := Lib.hid hB
  clear ht hr hB hb1
  generalize (w1.alloc (.cells T0 24)).alloc (.cells #[.int .u8 49, .int .u8 50, .int .u8 51, .int .u8 52, .int .u8 53, .int .u8 54, .int .u8 55, .int .u8 56, .int .u8 57] 5 (9, 10)) = w2 at *
  have hs := sum_any _ _ _ _ 9 _ _ HT.out HR.out (by omega)
  rw [crc_nine] at hs
  refine hs.mono ?_
  clear hs
  rintro e w' ⟨rfl, rfl⟩
  go_wp2_with fail
  refine (uint_nil 300 _ (by omega)).mono ?_
  rintro e w3 ⟨A3, c3, rfl, ho3, hb3⟩
  have kc3 := conv_str (P := Try.prog) Try.underlying32 Try.underlying5 Try.underlying9 ho3.rd c3
  rw [show (dig 300).length = 2 from by decide]
  rw [show (dig 300).length = 2 from by decide, show dig 300 = [172, 2] from by decide] at kc3
  go_wp2_with fail
  refine (comes_k [172, 2] [172, 2, 32, 2] 0 _ (by decide) (by decide)).mono ?_
  rintro e w4 ⟨rfl, hb4⟩
  go_wp2_with fail
  refine (comes_k [128, 0] [101, 114, 114, 111, 114, 32, 10] 0 _ (by decide) (by decide)).mono ?_
  rintro e w5 ⟨rfl, hb5⟩
  go_wp2_with fail
  refine (comes_k [128] [101, 114, 114, 111, 114, 32, 11] 0 _ (by decide) (by decide)).mono ?_
  rintro e w6 ⟨rfl, hb6⟩
  go_wp2_with fail
  refine (blob_any none 0 0 [] _ _ _ [97, 98] _ (Rd.nil _ _) (rd_ab w6 _) (by omega) (by omega)).mono ?_
  rintro e w7 ⟨A7, c7, rfl, ho7, hb7⟩
  have kc7 := conv_str (P := Try.prog) Try.underlying32 Try.underlying5 Try.underlying9 ho7.rd c7
  rw [show 0 + (dig 2).length + 2 = 3 from by decide] at kc7 ⊢
  rw [show [] ++ dig 2 ++ [97, 98] = [2, 97, 98] from by decide] at kc7
  have h26 : Below w6.heap.size w6 w7 := ((Below.refl _ _).alloc (Nat.le_refl _) _).trans (hb7.mono (by simp))
  have h27 : Below w2.heap.size w2 w7 := ((((hb3.trans (hb4.mono hb3.size)).trans (hb5.mono (Nat.le_trans hb3.size hb4.size))).trans (hb6.mono (Nat.le_trans (Nat.le_trans hb3.size hb4.size) hb5.size)))).trans (h26.mono (Nat.le_trans (Nat.le_trans (Nat.le_trans hb3.size hb4.size) hb5.size) hb6.size))
  have ht7 := HT.out.below hlt h27
  have HT7 := Lib.hid ht7
  have H27 := Lib.hid h27
  clear ht7 h26 h27 hb3 hb4 hb5 hb6 hb7 ho7 ho3 kc3 kcc
  go_wp2_with fail
  have hs := seal_any _ _ none 0 0 [] _ HT7.out (Rd.nil _ _) (by omega)
  rw [show sealed entry [] = [0, 0, 0, 0] from by decide +kernel] at hs
  refine hs.mono ?_
  rintro e w8 ⟨A8, c8, rfl, ho8, hb8⟩
  clear hs
  have kc8 := conv_str (P := Try.prog) Try.underlying32 Try.underlying5 Try.underlying9 ho8.rd c8
  have ht8 := HT7.out.below (Nat.lt_of_lt_of_le hlt H27.out.size) hb8
  have hc0 : w8.cell? ⟨w1.heap.size, 0, none⟩ = some (.int .u32 0) := (ht8 0 (by omega)).2
  have hc1 : w8.cell? ⟨w1.heap.size, 128, none⟩ = some (.int .u32 2197175160) := by
    have := (ht8 128 (by omega)).2
    rw [show entry 128 = 2197175160 from by decide +kernel] at this
    simpa [Addr.add] using this
  have HF : Hid (Below w.heap.size w w8) := (HB.out.trans (H27.out.mono HB.out.size)).trans (hb8.mono (Nat.le_trans HB.out.size H27.out.size))
  clear ht8
  go_wp2
  go_ret
  exact ⟨rfl, HF.out⟩
end Go.Proofs.Ytfibkpjodhcppaa
