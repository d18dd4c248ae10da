import Derived.Test.YtiiomeieihiloaaAwake
import Derived.Test.YtiiomeieihiloaaListP
import Derived.Laws.MakeOwn
import Derived.Laws.Entries
namespace Go.Proofs.Ytiiomeieihiloaa
open Go.RowKit Go.Coop

theorem still_below {w : World} {v : Value} {e : Ending} {w' : World} (h : Still w v e w') : e = .returned v ∧ Below w.heap.size w w' := by
  obtain ⟨rfl, n, rfl⟩ := h
  exact ⟨rfl, ⟨rfl, rfl, rfl, Nat.le_refl _, fun _ _ => rfl⟩⟩
theorem lay_k (g : Nat) (A : Option Addr) (n ca : Nat) (lo : List UInt8) (c : Nat) (B : Option Addr) (m d : Nat) (lx q : List UInt8) (w : World) (h : FldAt w g) (ha : Rd w A n lo) (hb : Rd w B m lx) (hc : c < 256) (hn : n ≤ 140737488355328) (e : lay c lo lx = q) :
    Calls Try.prog 20 #[.pointer (some ⟨g, 0, none⟩), .slice A n ca, .int .u8 (c : Int), .slice B m d] w (Fresh w n q) := by
  subst e; exact lay_any g A n ca lo c B m d lx w h ha hb hc hn
theorem dot_b (g : Nat) (A : Option Addr) (n c : Nat) (la : List UInt8) (B : Option Addr) (m d : Nat) (lb : List UInt8) (q : Nat) (w : World) (h : FldAt w g) (ha : Rd w A n la) (hb : Rd w B m lb) (hn : n ≤ 140737488355328) (e : dot la lb = q) :
    Calls Try.prog 19 #[.pointer (some ⟨g, 0, none⟩), .slice A n c, .slice B m d] w fun e w' => e = .returned (.int .u8 (q : Int)) ∧ Below w.heap.size w w' :=
  (dot_k g A n c la B m d lb q w h ha hb hn e).mono fun _ _ h => still_below h
theorem mul_b (g a b q : Nat) (w : World) (h : FldAt w g) (ha : a < 256) (hb : b < 256) (e : mul a b = q) :
    Calls Try.prog 11 #[.pointer (some ⟨g, 0, none⟩), .int .u8 (a : Int), .int .u8 (b : Int)] w fun e w' => e = .returned (.int .u8 (q : Int)) ∧ Below w.heap.size w w' :=
  (mul_k g a b q w h ha hb e).mono fun _ _ h => still_below h
/-- 'b[:hi]' -/
theorem slice_h (A : Option Addr) (n c y : Nat) (hy : y ≤ c) (w : World) : (Instr.slice 33 (.slice A n c) none (some (.int .i64 (y : Int))) none).run Try.prog w = .ok (.slice A y c) w := by
  obtain ⟨i, hi, hz, h1, h2⟩ := info_parts info5
  have he : Try.prog.elem 33 = 5 := by simp [Program.elem, Try.underlying33]
  have hb : (Instr.sliceBounds true n c none (some (.int .i64 (y : Int))) none).run Try.prog w = .ok (0, y, c) w := by
    simp [Instr.sliceBounds, run_sliceBound, *]
  rw [run_slice_any w 33 A n c (by rw [he]; exact Try.underlying33), hb, he]
  simp [sizeOf, typeInfo, hi, h1, sliced, Result.andThen]
  cases A <;> simp [Addr.add]
/-- 'make([]byte, s)' -/
theorem made_zeros (s : Nat) (hs : s ≤ 1048576) : ∃ C : Array Value, (∀ w : World, (Instr.makeSlice 33 (.int .i64 (s : Int)) (.int .i64 (s : Int))).run Try.prog w = .ok (.slice (some ⟨w.heap.size, 0, none⟩) s s) (w.alloc (.cells C 5))) ∧ ∀ j, j < s → C[j]? = some (BV 0) := by
  obtain ⟨i, hi, hz, h1, h2⟩ := info_parts info5
  refine ⟨madeCells (Value.int .u8 0).cells (s * i.size), fun w => ?_, fun j hj => ?_⟩
  · have hr := run_make (P := Try.prog) w 33 5 i (.int .u8 0) Try.underlying33 hi hz .i64 .i64 s s (by omega) (by omega) (by rw [h2]; omega) (by omega)
    simp only [Int.toNat_natCast] at hr
    exact hr
  · rw [h1]
    simp [madeCells, hj, Value.cells, Nat.mod_one]
    rfl
theorem rd_zero (w : World) (C : Array Value) (s : Nat) (h : ∀ j, j < s → C[j]? = some (BV 0)) : Rd (w.alloc (.cells C 5)) (some ⟨w.heap.size, 0, none⟩) s (List.replicate s 0) := by
  have := Rd.new w (List.replicate s 0) C 5 (0, 0) fun j c hj => by
    rw [List.getElem?_replicate] at hj
    split at hj
    · injection hj with hj; subst hj; exact h j (by assumption)
    · cases hj
  rwa [List.length_replicate] at this
theorem lists_pure (la lb : List UInt8) (c d s : Nat) (hc : c < 256) (hd : d < 256) (h1 : s ≤ la.length) (h2 : s ≤ lb.length) : ∃ sm d1 d2 d4 lz d5 on l2 cd,
    (lay 1 (la.take s) (lb.take s) = sm ∧ dot sm (la.take s) = d1 ∧ dot (la.take s) (la.take s) = d2 ∧ dot (lb.take s) (la.take s) = d4 ∧ d2 ^^^ d4 = d1 ∧ dot (la.take s) (lb.take s) = d4 ∧
      lay c (List.replicate s 0) (la.take s) = lz ∧ dot lz (lb.take s) = d5 ∧ mul c d4 = d5 ∧ lay c la lb = on ∧ lay c on lb = la ∧ lay d on lb = l2 ∧ c ^^^ d = cd ∧ lay cd la lb = l2 ∧ lay 0 la lb = la) ∧ (d2 < 256 ∧ d4 < 256 ∧ cd < 256) := by
  have e : (la.take s).length = s := by rw [List.length_take]; omega
  refine ⟨_, _, _, _, _, _, _, _, _, ⟨rfl, rfl, rfl, rfl, ?_, dot_comm _ _, rfl, rfl, ?_, rfl, lay_back c hc la lb, rfl, rfl, (lay_twice c d hc hd la lb).symm, lay_zero la lb⟩, ⟨dot_lt _ _, dot_lt _ _, xor_lt _ _ hc hd⟩⟩
  · exact (dot_sum _ _ _ (by rw [List.length_take, List.length_take]; omega)).symm
  · have := dot_scale c (la.take s) (lb.take s)
    rw [e] at this
    rw [this, dot_comm (lb.take s)]

set_option maxRecDepth 100000 in
theorem lists_out (A : Option Addr) (n ca : Nat) (B : Option Addr) (m cb : Nat) (c d : Int) (w : World) (h : 200 < n ∨ 200 < m) : Calls Try.prog 9 #[.slice A n ca, .slice B m cb, .int .u8 c, .int .u8 d] w fun e w' => e = .returned (.bool true) ∧ Below w.heap.size w w' := by
  by_cases h1 : 200 < n
  · have hb1 : decide (200 < (n : Int)) = true := by simp; omega
    clear h h1
    go_enter Try.func9, Try.ntmps9
    go_wp2_with fail
    refine (awake_any _).mono ?_
    rintro e w9 ⟨rfl, hb9⟩
    go_wp2
    go_ret
    exact ⟨rfl, hb9⟩
  · have hb1 : decide (200 < (n : Int)) = false := by simp; omega
    have hb2 : decide (200 < (m : Int)) = true := by simp; omega
    clear h h1
    go_enter Try.func9, Try.ntmps9
    go_wp2_with fail
    refine (awake_any _).mono ?_
    rintro e w9 ⟨rfl, hb9⟩
    go_wp2
    go_ret
    exact ⟨rfl, hb9⟩

set_option maxHeartbeats 4000000 in
set_option maxRecDepth 100000 in
theorem lists_in (A : Option Addr) (n ca : Nat) (la : List UInt8) (B : Option Addr) (m cb : Nat) (lb : List UInt8) (c d : Nat) (w : World) (ha : Rd w A n la) (hb : Rd w B m lb) (hn : n ≤ 200) (hm : m ≤ 200) (hca : n ≤ ca) (hcb : m ≤ cb) (hc : c < 256) (hd : d < 256) :
    Calls Try.prog 9 #[.slice A n ca, .slice B m cb, .int .u8 (c : Int), .int .u8 (d : Int)] w fun e w' => e = .returned (.bool true) ∧ Below w.heap.size w w' := by
  obtain ⟨s, hs1, hs2, hs3⟩ : ∃ s : Nat, s ≤ n ∧ s ≤ m ∧ min (n : Int) (m : Int) = (s : Int) := ⟨min n m, by omega, by omega, by omega⟩
  obtain ⟨sm, d1, d2, d4, lz, d5, on, l2, cd, hE, hD⟩ := lists_pure la lb c d s hc hd (by rw [ha.len]; exact hs1) (by rw [hb.len]; exact hs2)
  obtain ⟨C, kmk, hCz'⟩ := made_zeros s (by omega)
  have hCz := Lib.hid hCz'
  have HE := Lib.hid hE
  have HD := Lib.hid hD
  have HA := Lib.hid ha
  have HB := Lib.hid hb
  clear hE hD ha hb hCz'
  have hb1 : decide (200 < (n : Int)) = false := by simp; omega
  have hb2 : decide (200 < (m : Int)) = false := by simp; omega
  have ka := fun w => slice_h A n ca s (by omega) w
  have kb := fun w => slice_h B m cb s (by omega) w
  go_enter Try.func9, Try.ntmps9
  go_wp2_with fail
  refine (new_any _).mono ?_
  rintro e W0 ⟨g, rfl, hf, hg, hb⟩
  have HF0 := Lib.hid hf
  have HA0 := Lib.hid (HA.out.below hb (Nat.le_refl _))
  have HB0 := Lib.hid (HB.out.below hb (Nat.le_refl _))
  have HL0 := Lib.hid hb
  clear hf hb HA HB
  go_wp2_with fail
  go_quiet (fail)
  clear ka kb hs3
  have hb : Below W0.heap.size W0 (W0.drewN nq) := ⟨rfl, rfl, rfl, Nat.le_refl _, fun _ _ => rfl⟩
  generalize W0.drewN nq = W1 at *
  have HF1 := Lib.hid (HF0.out.below hb HF0.out.lt)
  have HA1 := Lib.hid (HA0.out.below hb (Nat.le_refl _))
  have HB1 := Lib.hid (HB0.out.below hb (Nat.le_refl _))
  have HL1 := Lib.hid (HL0.out.trans (hb.mono HL0.out.size))
  clear HF0 HA0 HB0 HL0
  clear hb
  go_wp2_with fail
  refine (lay_k g _ s _ _ 1 _ _ _ _ sm _ HF1.out (HA1.out.take hs1) (HB1.out.take hs2) (by omega) (by omega) HE.out.1).mono ?_
  rintro e W2 ⟨As, cs, rfl, ho, hb⟩
  have HF2 := Lib.hid (HF1.out.below hb HF1.out.lt)
  have HA2 := Lib.hid (HA1.out.below hb (Nat.le_refl _))
  have HB2 := Lib.hid (HB1.out.below hb (Nat.le_refl _))
  have HL2 := Lib.hid (HL1.out.trans (hb.mono HL1.out.size))
  have Hs2 := Lib.hid ho.rd
  clear HF1 HA1 HB1 HL1
  clear ho hb
  go_wp2_with fail
  refine (dot_b g _ s _ _ _ _ _ _ d1 _ HF2.out Hs2.out (HA2.out.take hs1) (by omega) HE.out.2.1).mono ?_
  rintro e W3 ⟨rfl, hb⟩
  have HF3 := Lib.hid (HF2.out.below hb HF2.out.lt)
  have HA3 := Lib.hid (HA2.out.below hb (Nat.le_refl _))
  have HB3 := Lib.hid (HB2.out.below hb (Nat.le_refl _))
  have HL3 := Lib.hid (HL2.out.trans (hb.mono HL2.out.size))
  have Hs3 := Lib.hid (Hs2.out.below hb (Nat.le_refl _))
  clear HF2 HA2 HB2 HL2 Hs2
  clear hb
  go_wp2_with fail
  refine (dot_b g _ s _ _ _ _ _ _ d2 _ HF3.out (HA3.out.take hs1) (HA3.out.take hs1) (by omega) HE.out.2.2.1).mono ?_
  rintro e W4 ⟨rfl, hb⟩
  have HF4 := Lib.hid (HF3.out.below hb HF3.out.lt)
  have HA4 := Lib.hid (HA3.out.below hb (Nat.le_refl _))
  have HB4 := Lib.hid (HB3.out.below hb (Nat.le_refl _))
  have HL4 := Lib.hid (HL3.out.trans (hb.mono HL3.out.size))
  have Hs4 := Lib.hid (Hs3.out.below hb (Nat.le_refl _))
  clear HF3 HA3 HB3 HL3 Hs3
  clear hb
  go_wp2_with fail
  refine (dot_b g _ s _ _ _ _ _ _ d4 _ HF4.out (HB4.out.take hs2) (HA4.out.take hs1) (by omega) HE.out.2.2.2.1).mono ?_
  rintro e W5 ⟨rfl, hb⟩
  have HF5 := Lib.hid (HF4.out.below hb HF4.out.lt)
  have HA5 := Lib.hid (HA4.out.below hb (Nat.le_refl _))
  have HB5 := Lib.hid (HB4.out.below hb (Nat.le_refl _))
  have HL5 := Lib.hid (HL4.out.trans (hb.mono HL4.out.size))
  have Hs5 := Lib.hid (Hs4.out.below hb (Nat.le_refl _))
  clear HF4 HA4 HB4 HL4 Hs4
  clear hb
  go_wp2_with fail
  refine (add_k g d2 d4 d1 _ HF5.out HD.out.1 HD.out.2.1 HE.out.2.2.2.2.1).mono ?_
  rintro e w2 ⟨rfl, rfl⟩
  go_wp2_with fail
  refine (dot_b g _ s _ _ _ _ _ _ d4 _ HF5.out (HA5.out.take hs1) (HB5.out.take hs2) (by omega) HE.out.2.2.2.2.2.1).mono ?_
  rintro e W6 ⟨rfl, hb⟩
  have HF6 := Lib.hid (HF5.out.below hb HF5.out.lt)
  have HA6 := Lib.hid (HA5.out.below hb (Nat.le_refl _))
  have HB6 := Lib.hid (HB5.out.below hb (Nat.le_refl _))
  have HL6 := Lib.hid (HL5.out.trans (hb.mono HL5.out.size))
  have Hs6 := Lib.hid (Hs5.out.below hb (Nat.le_refl _))
  clear HF5 HA5 HB5 HL5 Hs5
  clear hb
  go_wp2_with fail
  refine (dot_b g _ s _ _ _ _ _ _ d4 _ HF6.out (HB6.out.take hs2) (HA6.out.take hs1) (by omega) HE.out.2.2.2.1).mono ?_
  rintro e W7 ⟨rfl, hb⟩
  have HF7 := Lib.hid (HF6.out.below hb HF6.out.lt)
  have HA7 := Lib.hid (HA6.out.below hb (Nat.le_refl _))
  have HB7 := Lib.hid (HB6.out.below hb (Nat.le_refl _))
  have HL7 := Lib.hid (HL6.out.trans (hb.mono HL6.out.size))
  have Hs7 := Lib.hid (Hs6.out.below hb (Nat.le_refl _))
  clear HF6 HA6 HB6 HL6 Hs6
  clear hb
  clear Hs7
  go_wp2_with fail
  have hmk := (Below.refl W7.heap.size W7).alloc (Nat.le_refl _) (.cells C 5)
  have hzr := rd_zero W7 C s hCz.out
  generalize hW8 : W7.alloc (.cells C 5) = W8 at *
  have HF8 := Lib.hid (HF7.out.below hmk HF7.out.lt)
  have HA8 := Lib.hid (HA7.out.below hmk (Nat.le_refl _))
  have HB8 := Lib.hid (HB7.out.below hmk (Nat.le_refl _))
  have HL8 := Lib.hid (HL7.out.trans (hmk.mono HL7.out.size))
  have Hz8 := Lib.hid hzr
  clear HF7 HA7 HB7 HL7
  clear hmk hzr
  refine (lay_k g _ s _ _ c _ _ _ _ lz _ HF8.out Hz8.out (HA8.out.take hs1) hc (by omega) HE.out.2.2.2.2.2.2.1).mono ?_
  rintro e W9 ⟨Alz, clz, rfl, ho, hb⟩
  have HF9 := Lib.hid (HF8.out.below hb HF8.out.lt)
  have HA9 := Lib.hid (HA8.out.below hb (Nat.le_refl _))
  have HB9 := Lib.hid (HB8.out.below hb (Nat.le_refl _))
  have HL9 := Lib.hid (HL8.out.trans (hb.mono HL8.out.size))
  have Hz9 := Lib.hid (Hz8.out.below hb (Nat.le_refl _))
  have Hlz9 := Lib.hid ho.rd
  clear HF8 HA8 HB8 HL8 Hz8
  clear ho hb
  clear hW8
  clear Hz9
  go_wp2_with fail
  refine (dot_b g _ s _ _ _ _ _ _ d5 _ HF9.out Hlz9.out (HB9.out.take hs2) (by omega) HE.out.2.2.2.2.2.2.2.1).mono ?_
  rintro e W10 ⟨rfl, hb⟩
  have HF10 := Lib.hid (HF9.out.below hb HF9.out.lt)
  have HA10 := Lib.hid (HA9.out.below hb (Nat.le_refl _))
  have HB10 := Lib.hid (HB9.out.below hb (Nat.le_refl _))
  have HL10 := Lib.hid (HL9.out.trans (hb.mono HL9.out.size))
  have Hlz10 := Lib.hid (Hlz9.out.below hb (Nat.le_refl _))
  clear HF9 HA9 HB9 HL9 Hlz9
  clear hb
  go_wp2_with fail
  refine (dot_b g _ s _ _ _ _ _ _ d4 _ HF10.out (HA10.out.take hs1) (HB10.out.take hs2) (by omega) HE.out.2.2.2.2.2.1).mono ?_
  rintro e W11 ⟨rfl, hb⟩
  have HF11 := Lib.hid (HF10.out.below hb HF10.out.lt)
  have HA11 := Lib.hid (HA10.out.below hb (Nat.le_refl _))
  have HB11 := Lib.hid (HB10.out.below hb (Nat.le_refl _))
  have HL11 := Lib.hid (HL10.out.trans (hb.mono HL10.out.size))
  have Hlz11 := Lib.hid (Hlz10.out.below hb (Nat.le_refl _))
  clear HF10 HA10 HB10 HL10 Hlz10
  clear hb
  go_wp2_with fail
  refine (mul_b g c d4 d5 _ HF11.out hc HD.out.2.1 HE.out.2.2.2.2.2.2.2.2.1).mono ?_
  rintro e W12 ⟨rfl, hb⟩
  have HF12 := Lib.hid (HF11.out.below hb HF11.out.lt)
  have HA12 := Lib.hid (HA11.out.below hb (Nat.le_refl _))
  have HB12 := Lib.hid (HB11.out.below hb (Nat.le_refl _))
  have HL12 := Lib.hid (HL11.out.trans (hb.mono HL11.out.size))
  have Hlz12 := Lib.hid (Hlz11.out.below hb (Nat.le_refl _))
  clear HF11 HA11 HB11 HL11 Hlz11
  clear hb
  clear Hlz12
  go_wp2_with fail
  refine (lay_k g _ n _ _ c _ _ _ _ on _ HF12.out HA12.out HB12.out hc (by omega) HE.out.2.2.2.2.2.2.2.2.2.1).mono ?_
  rintro e W13 ⟨Aon, con, rfl, ho, hb⟩
  have HF13 := Lib.hid (HF12.out.below hb HF12.out.lt)
  have HA13 := Lib.hid (HA12.out.below hb (Nat.le_refl _))
  have HB13 := Lib.hid (HB12.out.below hb (Nat.le_refl _))
  have HL13 := Lib.hid (HL12.out.trans (hb.mono HL12.out.size))
  have Hon13 := Lib.hid ho.rd
  clear HF12 HA12 HB12 HL12
  clear ho hb
  go_wp2_with fail
  refine (lay_k g _ n _ _ c _ _ _ _ la _ HF13.out Hon13.out HB13.out hc (by omega) HE.out.2.2.2.2.2.2.2.2.2.2.1).mono ?_
  rintro e W14 ⟨Abk, cbk, rfl, ho, hb⟩
  have HF14 := Lib.hid (HF13.out.below hb HF13.out.lt)
  have HA14 := Lib.hid (HA13.out.below hb (Nat.le_refl _))
  have HB14 := Lib.hid (HB13.out.below hb (Nat.le_refl _))
  have HL14 := Lib.hid (HL13.out.trans (hb.mono HL13.out.size))
  have Hon14 := Lib.hid (Hon13.out.below hb (Nat.le_refl _))
  have Hbk14 := Lib.hid ho.rd
  clear HF13 HA13 HB13 HL13 Hon13
  clear ho hb
  go_wp2_with fail
  refine (same_yes _ _ _ _ _ _ _ _ Hbk14.out HA14.out).mono ?_
  rintro e w2 ⟨rfl, rfl⟩
  clear Hbk14
  go_wp2_with fail
  refine (lay_k g _ n _ _ d _ _ _ _ l2 _ HF14.out Hon14.out HB14.out hd (by omega) HE.out.2.2.2.2.2.2.2.2.2.2.2.1).mono ?_
  rintro e W15 ⟨Al2, cl2, rfl, ho, hb⟩
  have HF15 := Lib.hid (HF14.out.below hb HF14.out.lt)
  have HA15 := Lib.hid (HA14.out.below hb (Nat.le_refl _))
  have HB15 := Lib.hid (HB14.out.below hb (Nat.le_refl _))
  have HL15 := Lib.hid (HL14.out.trans (hb.mono HL14.out.size))
  have Hon15 := Lib.hid (Hon14.out.below hb (Nat.le_refl _))
  have Hl215 := Lib.hid ho.rd
  clear HF14 HA14 HB14 HL14 Hon14
  clear ho hb
  go_wp2_with fail
  refine (add_k g c d cd _ HF15.out hc hd HE.out.2.2.2.2.2.2.2.2.2.2.2.2.1).mono ?_
  rintro e w2 ⟨rfl, rfl⟩
  go_wp2_with fail
  refine (lay_k g _ n _ _ cd _ _ _ _ l2 _ HF15.out HA15.out HB15.out HD.out.2.2 (by omega) HE.out.2.2.2.2.2.2.2.2.2.2.2.2.2.1).mono ?_
  rintro e W16 ⟨Al3, cl3, rfl, ho, hb⟩
  have HF16 := Lib.hid (HF15.out.below hb HF15.out.lt)
  have HA16 := Lib.hid (HA15.out.below hb (Nat.le_refl _))
  have HB16 := Lib.hid (HB15.out.below hb (Nat.le_refl _))
  have HL16 := Lib.hid (HL15.out.trans (hb.mono HL15.out.size))
  have Hon16 := Lib.hid (Hon15.out.below hb (Nat.le_refl _))
  have Hl216 := Lib.hid (Hl215.out.below hb (Nat.le_refl _))
  have Hl316 := Lib.hid ho.rd
  clear HF15 HA15 HB15 HL15 Hon15 Hl215
  clear ho hb
  go_wp2_with fail
  refine (same_yes _ _ _ _ _ _ _ _ Hl216.out Hl316.out).mono ?_
  rintro e w2 ⟨rfl, rfl⟩
  go_wp2_with fail
  refine (lay_k g _ n _ _ 0 _ _ _ _ la _ HF16.out HA16.out HB16.out (by omega) (by omega) HE.out.2.2.2.2.2.2.2.2.2.2.2.2.2.2).mono ?_
  rintro e W17 ⟨Al4, cl4, rfl, ho, hb⟩
  have HF17 := Lib.hid (HF16.out.below hb HF16.out.lt)
  have HA17 := Lib.hid (HA16.out.below hb (Nat.le_refl _))
  have HB17 := Lib.hid (HB16.out.below hb (Nat.le_refl _))
  have HL17 := Lib.hid (HL16.out.trans (hb.mono HL16.out.size))
  have Hon17 := Lib.hid (Hon16.out.below hb (Nat.le_refl _))
  have Hl217 := Lib.hid (Hl216.out.below hb (Nat.le_refl _))
  have Hl317 := Lib.hid (Hl316.out.below hb (Nat.le_refl _))
  have Hl417 := Lib.hid ho.rd
  clear HF16 HA16 HB16 HL16 Hon16 Hl216 Hl316
  clear ho hb
  go_wp2_with fail
  refine (same_yes _ _ _ _ _ _ _ _ Hl417.out HA17.out).mono ?_
  rintro e w2 ⟨rfl, rfl⟩
  go_wp2_with fail
  refine (awake_any _).mono ?_
  rintro e w9 ⟨rfl, hb9⟩
  have H9 : Hid (Below w.heap.size w w9) := HL17.out.trans (hb9.mono HL17.out.size)
  clear hb9
  go_wp2
  go_ret
  exact ⟨rfl, H9.out⟩
end Go.Proofs.Ytiiomeieihiloaa
