/- WireNumbers' walk. -/
import Derived.Test.YtmiapegecoaccaaNuP
namespace Go.Proofs.Ytmiapegecoaccaa
open Go.RowKit Go.Coop
set_option maxRecDepth 100000
set_option linter.unusedVariables false
/-- an ask's seven cells -/
structure El where
  l : Int
  s : Int
  o : Int
  st : Int
  i : Int
  ve : Int
  A : Option Addr
  n : Nat
def elv (e : El) : List Value := [.int .i64 e.l, .int .i64 e.s, .int .u8 e.o, .int .i64 e.st, .int .i64 e.i, .int .i64 e.ve, .slice e.A e.n e.n]
theorem elv_get : ∀ {L : List El} {i : Nat} {x : El} {j : Nat} {v : Value}, L[i]? = some x → (elv x)[j]? = some v → (L.flatMap elv)[i * 7 + j]? = some v
  | [], i, p, j, v, h, _ => by simp at h
  | q :: ps, 0, p, j, v, h, hj => by
    simp at h
    subst h
    have : j < (elv q).length := (List.getElem?_eq_some_iff.1 hj).1
    simp only [List.flatMap_cons]
    rw [Nat.zero_mul, Nat.zero_add, List.getElem?_append_left this, hj]
  | q :: ps, i + 1, p, j, v, h, hj => by
    have := elv_get (L := ps) (i := i) (by simpa using h) hj
    simp only [List.flatMap_cons] at this ⊢
    have hl : (elv q).length = 7 := rfl
    rw [List.getElem?_append_right (by rw [hl]; omega), hl, show (i + 1) * 7 + j - 7 = i * 7 + j by omega, this]
theorem addr_atk (z i : Nat) : (⟨z, 0, none⟩ : Addr).add i = ⟨z, i, none⟩ := by unfold Addr.add; split <;> simp_all
/-- an element's seven cells -/
structure ElAt (w : World) (z i : Nat) (e : El) : Prop where
  c0 : w.cell? ⟨z, i * 7, none⟩ = some (.int .i64 e.l)
  c1 : w.cell? ⟨z, i * 7 + 1, none⟩ = some (.int .i64 e.s)
  c2 : w.cell? ⟨z, i * 7 + 2, none⟩ = some (.int .u8 e.o)
  c3 : w.cell? ⟨z, i * 7 + 3, none⟩ = some (.int .i64 e.st)
  c4 : w.cell? ⟨z, i * 7 + 4, none⟩ = some (.int .i64 e.i)
  c5 : w.cell? ⟨z, i * 7 + 5, none⟩ = some (.int .i64 e.ve)
  c6 : w.cell? ⟨z, i * 7 + 6, none⟩ = some (.slice e.A e.n e.n)
theorem el_at {w : World} {z : Nat} {L : List El} (h : Row w z (L.flatMap elv).toArray 25) {i : Nat} {e : El} (he : L[i]? = some e) : ElAt w z i e := by
  have k : ∀ (j : Nat) (v : Value), (elv e)[j]? = some v → w.cell? ⟨z, i * 7 + j, none⟩ = some v := fun j v hj => by
    rw [cell_of_row w z _ _ 25 (0, 0) h, List.getElem?_toArray]
    exact elv_get he hj
  exact ⟨k 0 _ rfl, k 1 _ rfl, k 2 _ rfl, k 3 _ rfl, k 4 _ rfl, k 5 _ rfl, k 6 _ rfl⟩
def ElOk (e : El) : Prop := HeadOk e.l e.s e.o ∧ NumOk e.st e.i e.ve (leastV e.o) ∧ (e.n : Int) ≤ mostB e.o
instance (e : El) : Decidable (ElOk e) := by unfold ElOk; infer_instance
theorem el_is (w : World) (e : El) {q : Bool} (hq : decide (ElOk e) = q) : Calls Try.prog 10 #[.agg #[.int .i64 e.l, .int .i64 e.s, .int .u8 e.o, .int .i64 e.st, .int .i64 e.i, .int .i64 e.ve, .slice e.A e.n e.n]] w (Told w q) :=
  rightA_is w e.l e.s e.o e.st e.i e.ve (List.replicate e.n 0) e.A e.n e.n (by simp) (by rw [← hq]; exact decide_eq_decide.2 (by unfold RightA ElOk; simp))
theorem mk23 (n : Nat) (hk : n ≤ 1000000) : ∃ Z : Array Value, ∀ W : World, (Instr.makeSlice 23 (.int .i64 (n : Int)) (.int .i64 (n : Int))).run Try.prog W = .ok (.slice (some ⟨W.heap.size, 0, none⟩) n n) (W.alloc (.cells Z 5)) := by
  obtain ⟨i, hi, hz, hs, hb⟩ := info_parts info5
  have := fun W : World => run_make (P := Try.prog) W 23 5 i _ Try.underlying23 hi hz .i64 .i64 n n (by omega) (by omega) (by rw [hb]; omega) (by omega)
  simp only [hs, Int.toNat_natCast] at this
  exact ⟨_, this⟩
theorem mkA : ∃ Z : Array Value, ∀ W : World, (Instr.makeSlice 23 (.int .i64 65536) (.int .i64 65536)).run Try.prog W = .ok (.slice (some ⟨W.heap.size, 0, none⟩) 65536 65536) (W.alloc (.cells Z 5)) := mk23 65536 (by omega)
theorem mkB : ∃ Z : Array Value, ∀ W : World, (Instr.makeSlice 23 (.int .i64 65537) (.int .i64 65537)).run Try.prog W = .ok (.slice (some ⟨W.heap.size, 0, none⟩) 65537 65537) (W.alloc (.cells Z 5)) := mk23 65537 (by omega)
def E1 (g : Nat) : List El := [⟨1099511627776, 1099511627776, 1, 1099511627776, 254, 1099511627776, some ⟨g, 0, none⟩, 65536⟩, ⟨1, 1, 1, 0, 0, 1, none, 0⟩, ⟨1, 1, 3, 0, 0, 1, none, 0⟩, ⟨1, 1, 4, 0, 0, 0, none, 0⟩, ⟨1, 1, 5, 0, 0, 9, none, 0⟩, ⟨1, 1, 6, 0, 0, 1, none, 0⟩]
theorem e1_ok (g : Nat) : ∀ e ∈ E1 g, decide (ElOk e) = true := by
  intro e he
  simp only [E1, List.mem_cons, List.not_mem_nil, or_false] at he
  rcases he with rfl | rfl | rfl | rfl | rfl | rfl <;> rw [decide_eq_true_iff] <;> unfold ElOk HeadOk NumOk leastV mostB <;> simp
def E2 (g h : Nat) : List El := [⟨0, 0, 0, 0, 0, 0, none, 0⟩, ⟨1, 1, 0, 0, 0, 0, none, 0⟩, ⟨0, 1, 5, 0, 0, 0, none, 0⟩, ⟨1, 0, 5, 0, 0, 0, none, 0⟩, ⟨1099511627777, 1, 5, 0, 0, 0, none, 0⟩, ⟨1, 1099511627777, 5, 0, 0, 0, none, 0⟩, ⟨1, 1, 7, 0, 0, 0, none, 0⟩, ⟨1, 1, 2, 0, 0, 0, none, 0⟩, ⟨1, 1, 1, 0, 0, 0, none, 0⟩, ⟨1, 1, 3, 0, 0, 0, none, 0⟩, ⟨1, 1, 6, 0, 0, 0, none, 0⟩, ⟨1, 1, 4, 0, 0, 0, some ⟨g, 0, none⟩, 1⟩, ⟨1, 1, 4, -1, 0, 0, none, 0⟩, ⟨1, 1, 4, 1099511627777, 0, 0, none, 0⟩, ⟨1, 1, 4, 0, 255, 0, none, 0⟩, ⟨1, 1, 4, 0, -1, 0, none, 0⟩, ⟨1, 1, 4, 0, 0, -1, none, 0⟩, ⟨1, 1, 4, 0, 0, 1099511627777, none, 0⟩, ⟨1, 1, 1, 0, 0, 1, some ⟨h, 0, none⟩, 65537⟩]
theorem e2_no (g h : Nat) : ∀ e ∈ E2 g h, decide (ElOk e) = false := by
  intro e he
  simp only [E2, List.mem_cons, List.not_mem_nil, or_false] at he
  rcases he with rfl | rfl | rfl | rfl | rfl | rfl | rfl | rfl | rfl | rfl | rfl | rfl | rfl | rfl | rfl | rfl | rfl | rfl | rfl <;> rw [decide_eq_false_iff_not] <;> unfold ElOk HeadOk NumOk leastV mostB <;> simp
theorem mem_at' {α : Type} {l : List α} {i : Nat} {x : α} (h : l[i]? = some x) : x ∈ l := List.mem_of_getElem? h
def iOne : InfP := ⟨0, 0, 1, 1⟩
def iGreat : InfP := ⟨1099511627776, 254, 1099511627776, 2⟩
def TelV (q : Bool) (v : Value) (w : World) : Prop := ∃ e : TE, v = e.v ∧ e.Is q w
/-- what the operations of the right tells' region yield -/
def HN14 (j : Nat) (v : Value) (w : World) : Prop :=
  (j = 0 → TelV true v w) ∧ (j = 1 → v = .agg #[.int .i64 0, .int .i64 0, .int .i64 1, .int .u8 1]) ∧ (j = 2 → v = .agg #[.int .i64 1099511627776, .int .i64 254, .int .i64 1099511627776, .int .u8 2]) ∧
  (j = 3 → ∃ g : Nat, v = .slice (some ⟨g, 0, none⟩) 2 2 ∧ IL w (some ⟨g, 0, none⟩) 2 [iOne, iGreat]) ∧ (j = 4 → ∃ g : Nat, v = .slice (some ⟨g, 0, none⟩) 65536 65536) ∧
  (j = 5 → TelV true v w) ∧ (j = 6 → ∃ z : Nat, v = .slice (some ⟨z, 0, none⟩) 2 2 ∧ RowT true w z 2) ∧ (j = 7 → v = .int .i64 2) ∧ (j = 8 → v = .int .i64 0)
theorem tOk0 (bs : List UInt8) (h : bs.length = 0) : decide (RightT ⟨1, 1, 6, 1000, [], bs, 65536⟩) = true := by
  rw [List.length_eq_zero_iff] at h
  rw [decide_eq_true_iff]
  unfold RightT HeadOk
  simp [h]
theorem tOk5 (bs : List UInt8) (h : bs.length = 65536) : decide (RightT ⟨1, 1, 1, 0, [iOne, iGreat], bs, 0⟩) = true := by
  rw [decide_eq_true_iff]
  unfold RightT HeadOk
  simp [h, iOne, iGreat, InfOk, NumOk]
theorem TelV.below {q : Bool} {v : Value} {w w' : World} (h : TelV q v w) (hb : Below w.heap.size w w') : TelV q v w' := by
  obtain ⟨e, h1, h2⟩ := h
  exact ⟨e, h1, h2.below hb⟩
theorem tBad0 (l s o er room : Int) (bs : List UInt8) (h : bs.length = 0) (hn : ¬ (HeadOk l s o ∧ (0 ≤ er ∧ er ≤ 1000) ∧ (0 ≤ room ∧ room ≤ 65536))) : decide (RightT ⟨l, s, o, er, [], bs, room⟩) = false :=
  decide_eq_false fun hr => hn ⟨hr.1, hr.2.1, hr.2.2.1⟩
theorem tBad7 (bs : List UInt8) (h : bs.length = 1) : decide (RightT ⟨1, 1, 1, 1, [], bs, 0⟩) = false :=
  decide_eq_false fun hr => by
    have := (hr.2.2.2.1 (by simp)).2
    simp only at this
    rw [this] at h
    cases h
theorem tBad10 (bs : List UInt8) (h : bs.length = 0) : decide (RightT ⟨1, 1, 1, 1, [iOne], bs, 0⟩) = false :=
  decide_eq_false fun hr => by
    have := (hr.2.2.2.1 (by simp)).1
    cases this
theorem tBad13 (bs : List UInt8) (h : bs.length = 0) : decide (RightT ⟨1, 1, 1, 0, [⟨0, 0, 1, 0⟩], bs, 0⟩) = false :=
  decide_eq_false fun hr => by
    have := (hr.2.2.2.2.2.2 ⟨0, 0, 1, 0⟩ (by simp)).2
    simp at this
theorem tBad16 (bs : List UInt8) (h : bs.length = 0) : decide (RightT ⟨1, 1, 1, 0, [⟨0, 0, 0, 1⟩], bs, 0⟩) = false :=
  decide_eq_false fun hr => by
    have := (hr.2.2.2.2.2.2 ⟨0, 0, 0, 1⟩ (by simp)).1
    simp [NumOk] at this
theorem tBad18 (L : List InfP) (hL : L.length = 51) (bs : List UInt8) (h : bs.length = 0) : decide (RightT ⟨1, 1, 1, 0, L, bs, 0⟩) = false :=
  decide_eq_false fun hr => by
    have := hr.2.2.2.2.1
    simp only at this
    omega
theorem tBad20 (bs : List UInt8) (h : bs.length = 65537) : decide (RightT ⟨1, 1, 1, 0, [], bs, 0⟩) = false :=
  decide_eq_false fun hr => by
    have := hr.2.2.2.2.2.1
    simp only at this
    omega
theorem mk32 (W : World) : (Instr.makeSlice 32 (.int .i64 51) (.int .i64 51)).run Try.prog W = .ok (.slice (some ⟨W.heap.size, 0, none⟩) 51 51) (W.alloc (.cells (ics (List.replicate 51 ⟨0, 0, 0, 0⟩)).toArray 30)) := by
  obtain ⟨i, hi, hz, hs, hb⟩ := info_parts info30
  have := run_make (P := Try.prog) W 32 30 i _ Try.underlying32 hi hz .i64 .i64 51 51 (by omega) (by omega) (by rw [hb]; omega) (by omega)
  have h2 : madeCells (Value.agg #[.int .i64 0, .int .i64 0, .int .i64 0, .int .u8 0]).cells (51 * 4) = (ics (List.replicate 51 ⟨0, 0, 0, 0⟩)).toArray := by kernel_rfl
  rw [hs] at this
  rw [← h2]
  exact this
theorem il51 (W : World) : IL (W.alloc (.cells (ics (List.replicate 51 ⟨0, 0, 0, 0⟩)).toArray 30)) (some ⟨W.heap.size, 0, none⟩) 51 (List.replicate 51 ⟨0, 0, 0, 0⟩) :=
  il_of_rd (by simp) (by
    have := RdV.new W (ics (List.replicate 51 ⟨0, 0, 0, 0⟩)) 30 (0, 0)
    rw [ics_len] at this
    simpa using this)
def HN20 (j : Nat) (v : Value) (w : World) : Prop :=
  (j = 6 → ∃ g : Nat, v = .slice (some ⟨g, 0, none⟩) 1 1) ∧ (j = 8 → v = .agg #[.int .i64 0, .int .i64 0, .int .i64 1, .int .u8 1]) ∧ (j = 9 → ∃ g : Nat, v = .slice (some ⟨g, 0, none⟩) 1 1 ∧ IL w (some ⟨g, 0, none⟩) 1 [iOne]) ∧
  (j = 11 → v = .agg #[.int .i64 0, .int .i64 0, .int .i64 1, .int .u8 0]) ∧ (j = 12 → ∃ g : Nat, v = .slice (some ⟨g, 0, none⟩) 1 1 ∧ IL w (some ⟨g, 0, none⟩) 1 [⟨0, 0, 1, 0⟩]) ∧
  (j = 14 → v = .agg #[.int .i64 0, .int .i64 0, .int .i64 0, .int .u8 1]) ∧ (j = 15 → ∃ g : Nat, v = .slice (some ⟨g, 0, none⟩) 1 1 ∧ IL w (some ⟨g, 0, none⟩) 1 [⟨0, 0, 0, 1⟩]) ∧
  (j = 17 → ∃ (g : Nat) (L : List InfP), v = .slice (some ⟨g, 0, none⟩) 51 51 ∧ IL w (some ⟨g, 0, none⟩) 51 L) ∧ (j = 19 → ∃ g : Nat, v = .slice (some ⟨g, 0, none⟩) 65537 65537) ∧
  (j = 21 → ∃ z : Nat, v = .slice (some ⟨z, 0, none⟩) 12 12 ∧ RowT false w z 12) ∧ (j = 22 → v = .int .i64 12) ∧ (j = 23 → v = .int .i64 0) ∧ (j ∈ [0, 1, 2, 3, 4, 5, 7, 10, 13, 16, 18, 20] → TelV false v w)
theorem hn20_below : ∀ (j : Nat) (v : Value) (w w' : World), HN20 j v w → Below w.heap.size w w' → HN20 j v w' := by
  rintro j v w w' ⟨h0, h1, h2, h3, h4, h5, h6, h7, h8, h9, h10, h11, h12⟩ hb
  refine ⟨h0, h1, fun e => ?_, h3, fun e => ?_, h5, fun e => ?_, fun e => ?_, h8, fun e => ?_, h10, h11, fun e => (h12 e).below hb⟩
  · obtain ⟨g, e1, e2⟩ := h2 e
    exact ⟨g, e1, e2.below hb (Nat.le_refl _)⟩
  · obtain ⟨g, e1, e2⟩ := h4 e
    exact ⟨g, e1, e2.below hb (Nat.le_refl _)⟩
  · obtain ⟨g, e1, e2⟩ := h6 e
    exact ⟨g, e1, e2.below hb (Nat.le_refl _)⟩
  · obtain ⟨g, L, e1, e2⟩ := h7 e
    exact ⟨g, L, e1, e2.below hb (Nat.le_refl _)⟩
  · obtain ⟨g, e1, e2⟩ := h9 e
    exact ⟨g, e1, e2.below hb⟩
theorem hn14_below : ∀ (j : Nat) (v : Value) (w w' : World), HN14 j v w → Below w.heap.size w w' → HN14 j v w' := by
  rintro j v w w' ⟨h0, h1, h2, h3, h4, h5, h6, h7, h8⟩ hb
  refine ⟨fun e => (h0 e).below hb, h1, h2, fun e => ?_, h4, fun e => (h5 e).below hb, fun e => ?_, h7, h8⟩
  · obtain ⟨g, e1, e2⟩ := h3 e
    exact ⟨g, e1, e2.below hb (Nat.le_refl _)⟩
  · obtain ⟨g, e1, e2⟩ := h6 e
    exact ⟨g, e1, e2.below hb⟩
section
variable (w : World)
set_option maxHeartbeats 8000000 in
theorem numbers_law : Calls Try.prog 3 #[] w (Told w true) := by
  obtain ⟨Z1, mk1⟩ := mkA
  obtain ⟨Z2, mk2⟩ := mkB
  obtain ⟨g, hg⟩ : ∃ g, w.heap.size = g := ⟨_, rfl⟩
  obtain ⟨w1, hw1⟩ : ∃ v, w.alloc (.cells Z1 5) = v := ⟨_, rfl⟩
  obtain ⟨hb1, hx1⟩ := box_new hw1
  obtain ⟨z1, hz1⟩ : ∃ z, w1.heap.size = z := ⟨_, rfl⟩
  obtain ⟨w2, hw2⟩ : ∃ v, w1.alloc (.cells ((E1 g).flatMap elv).toArray 25) = v := ⟨_, rfl⟩
  obtain ⟨hb2, hx2⟩ := box_new hw2
  rw [hz1] at hx2
  have hz : w.heap.size + 1 = z1 := by rw [← hz1, ← hw1]; simp
  have HW := Lib.hid (And.intro hz (And.intro hg (And.intro hw1 hw2)))
  have HB := Lib.hid (hb1.trans (hb2.mono hb1.size))
  have HZ := Lib.hid hx2
  clear hz hg hw1 hb1 hx1 hz1 hw2 hb2 hx2
  go_enter Try.func3, Try.ntmps3
  go_wp2
  rw [HW.out.1]
  rw [HW.out.2.1]
  rw [HW.out.2.2.1]
  change Code.wp Try.prog _ _ _ (w1.alloc (.cells ((E1 g).flatMap elv).toArray 25))
  rw [HW.out.2.2.2]
  go_loopw [1, 2, 30] (fun _ _ sC wr => ∃ i : Nat, i ≤ 6 ∧ sC = .int .i64 i ∧ Hid (Below w.heap.size w wr ∧ Row wr z1 ((E1 g).flatMap elv).toArray 25)) (fun _ _ sC _ => 6 - (Go.RowKit.intOf sC).toNat)
  case atStart => exact ⟨0, by omega, rfl, (⟨HB.out, HZ.out⟩ : _ ∧ _)⟩
  case round =>
    clear HB HZ
    obtain ⟨i, hi, rfl, HR⟩ := hrel
    by_cases hlt : i < 6
    · obtain ⟨e, he⟩ : ∃ e, ((E1 g))[i]? = some e := ⟨_, List.getElem?_eq_getElem (by simpa [E1, E2] using hlt)⟩
      have hok := Lib.hid (e1_ok g e (mem_at' he))
      obtain ⟨k0, k1, k2, k3, k4, k5, k6⟩ := el_at HR.out.2 he
      have hi1 : (0 : Int) ≤ (i : Int) := by omega
      have hi2 : (i : Int) < 6 := by omega
      have hwk : IntKind.i64.wrap ((i : Int) + 1) = (i : Int) + 1 := IntWalk.i64_in _ (by omega)
      have HX := Lib.hid hlt
      clear he hlt
      obtain ⟨wa, hwa⟩ : ∃ v, wr.alloc (.cells #[.int .i64 e.l, .int .i64 e.s, .int .u8 e.o, .int .i64 e.st, .int .i64 e.i, .int .i64 e.ve, .slice e.A e.n e.n] 25) = v := ⟨_, rfl⟩
      obtain ⟨hba, hxa⟩ := box_new hwa
      obtain ⟨m0, m1, m2, m3, m4, m5, m6⟩ := arr7 hxa
      rw [← hwa] at m0 m1 m2 m3 m4 m5 m6
      have HBA := Lib.hid (And.intro hba hwa)
      clear hba hxa hwa
      go_wp2_with fail
      (try rw [HBA.out.2])
      refine (el_is _ e hok.out).mono ?_
      rintro e' w2 ⟨rfl, hb2⟩
      have hBa := HBA.out.1.trans (hb2.mono HBA.out.1.size)
      have HB2 := Lib.hid (And.intro (HR.out.1.trans (hBa.mono HR.out.1.size)) (HR.out.2.below hBa (Nat.le_refl _)))
      clear hb2 m0 m1 m2 m3 m4 m5 m6 k0 k1 k2 k3 k4 k5 k6 hBa
      go_wp2
      go_roundw
      case rel => exact ⟨i + 1, by have := HX.out; omega, by go_num, (⟨HB2.out.1, HB2.out.2⟩ : _ ∧ _)⟩
      case measure => have := HX.out; simp [Go.RowKit.intOf]; omega
    · obtain rfl : i = 6 := by omega
      have HF := Lib.hid HR.out.1
      clear HR hlt
      have hcast : ((6 : Nat) : Int) = 6 := rfl
      rw [hcast]
      clear hcast
      obtain ⟨h, hh⟩ : ∃ h, wr.heap.size = h := ⟨_, rfl⟩
      obtain ⟨w3, hw3⟩ : ∃ v, wr.alloc (.cells #[.int .u8 1] 5) = v := ⟨_, rfl⟩
      obtain ⟨hb3, _⟩ := box_new hw3
      obtain ⟨k, hk⟩ : ∃ k, w3.heap.size = k := ⟨_, rfl⟩
      obtain ⟨w4, hw4⟩ : ∃ v, w3.alloc (.cells Z2 5) = v := ⟨_, rfl⟩
      obtain ⟨hb4, _⟩ := box_new hw4
      obtain ⟨z2, hz2⟩ : ∃ z, w4.heap.size = z := ⟨_, rfl⟩
      obtain ⟨w5, hw5⟩ : ∃ v, w4.alloc (.cells ((E2 h k).flatMap elv).toArray 25) = v := ⟨_, rfl⟩
      obtain ⟨hb5, hx5⟩ := box_new hw5
      rw [hz2] at hx5
      have h34 := hb3.trans (hb4.mono hb3.size)
      have h35 := h34.trans (hb5.mono h34.size)
      have HB := Lib.hid (HF.out.trans (h35.mono HF.out.size))
      have HZ := Lib.hid hx5
      have hk1 : wr.heap.size + 1 = k := by rw [← hk, ← hw3]; simp
      have hk2 : wr.heap.size + 2 = z2 := by rw [← hz2, ← hw4, size_alloc, ← hw3]; simp
      have HW2 := Lib.hid (And.intro hk2 (And.intro hk1 (And.intro hh (And.intro hw3 (And.intro hw4 hw5)))))
      clear HW HF hh hw3 hb3 hk hw4 hb4 hz2 hw5 hb5 hx5 h34 h35 hk1 hk2
      go_wp2
      (try simp only [Nat.add_assoc, Nat.reduceAdd])
      rw [HW2.out.1]
      rw [HW2.out.2.1]
      rw [HW2.out.2.2.1]
      rw [HW2.out.2.2.2.1]
      rw [HW2.out.2.2.2.2.1]
      change Code.wp Try.prog _ _ _ (w4.alloc (.cells ((E2 h k).flatMap elv).toArray 25))
      rw [HW2.out.2.2.2.2.2]
      go_loopw [3, 4, 64] (fun _ _ sC wr => ∃ i : Nat, i ≤ 19 ∧ sC = .int .i64 i ∧ Hid (Below w.heap.size w wr ∧ Row wr z2 ((E2 h k).flatMap elv).toArray 25)) (fun _ _ sC _ => 19 - (Go.RowKit.intOf sC).toNat)
      case atStart => exact ⟨0, by omega, rfl, (⟨HB.out, HZ.out⟩ : _ ∧ _)⟩
      case round =>
        clear HB HZ
        obtain ⟨i, hi, rfl, HR⟩ := hrel
        by_cases hlt : i < 19
        · obtain ⟨e, he⟩ : ∃ e, ((E2 h k))[i]? = some e := ⟨_, List.getElem?_eq_getElem (by simpa [E1, E2] using hlt)⟩
          have hok := Lib.hid (e2_no h k e (mem_at' he))
          obtain ⟨k0, k1, k2, k3, k4, k5, k6⟩ := el_at HR.out.2 he
          have hi1 : (0 : Int) ≤ (i : Int) := by omega
          have hi2 : (i : Int) < 19 := by omega
          have hwk : IntKind.i64.wrap ((i : Int) + 1) = (i : Int) + 1 := IntWalk.i64_in _ (by omega)
          have HX := Lib.hid hlt
          clear he hlt
          obtain ⟨wa, hwa⟩ : ∃ v, wr.alloc (.cells #[.int .i64 e.l, .int .i64 e.s, .int .u8 e.o, .int .i64 e.st, .int .i64 e.i, .int .i64 e.ve, .slice e.A e.n e.n] 25) = v := ⟨_, rfl⟩
          obtain ⟨hba, hxa⟩ := box_new hwa
          obtain ⟨m0, m1, m2, m3, m4, m5, m6⟩ := arr7 hxa
          rw [← hwa] at m0 m1 m2 m3 m4 m5 m6
          have HBA := Lib.hid (And.intro hba hwa)
          clear hba hxa hwa
          go_wp2_with fail
          (try rw [HBA.out.2])
          refine (el_is _ e hok.out).mono ?_
          rintro e' w2 ⟨rfl, hb2⟩
          have hBa := HBA.out.1.trans (hb2.mono HBA.out.1.size)
          have HB2 := Lib.hid (And.intro (HR.out.1.trans (hBa.mono HR.out.1.size)) (HR.out.2.below hBa (Nat.le_refl _)))
          clear hb2 m0 m1 m2 m3 m4 m5 m6 k0 k1 k2 k3 k4 k5 k6 hBa
          go_wp2
          go_roundw
          case rel => exact ⟨i + 1, by have := HX.out; omega, by go_num, (⟨HB2.out.1, HB2.out.2⟩ : _ ∧ _)⟩
          case measure => have := HX.out; simp [Go.RowKit.intOf]; omega
        · obtain rfl : i = 19 := by omega
          have HF := Lib.hid HR.out.1
          clear HR hlt
          have hcast : ((19 : Nat) : Int) = 19 := rfl
          rw [hcast]
          clear hcast
          go_wp2
          obtain ⟨p, hp⟩ : ∃ p, wr.heap.size = p := ⟨_, rfl⟩
          obtain ⟨w6, hw6⟩ : ∃ v, wr.alloc (.cells #[.int .i64 0, .int .i64 0, .int .i64 1, .int .u8 1] 30) = v := ⟨_, rfl⟩
          obtain ⟨hb6, hx6⟩ := box_new hw6
          rw [hp] at hx6
          have HB := Lib.hid (And.intro (HF.out.trans (hb6.mono HF.out.size)) (show Row w6 p #[.int .i64 0, .int .i64 0, .int .i64 1, .int .u8 1] 30 from hx6))
          rw [hp, hw6]
          clear hp hw6 hb6 hx6 HF HW2
          refine region_seq (by kernel_rfl) 75 9 rfl (by simp) (fun u => Below w.heap.size w u ∧ Row u p #[.int .i64 0, .int .i64 0, .int .i64 1, .int .u8 1] 30) HN14 ?_ hn14_below ?_ ?_ (by simp) (all_up rfl (edges_back rfl (by kernel_rfl)))
          case refine_1 => exact ⟨HB.out.1.drew, HB.out.2⟩
          case refine_2 =>
            intro a u j hf hS hj hdep
            have h5 : a.tmps[5]? = some (.pointer (some ⟨p, 0, none⟩)) := (hf.out 5 (by omega)).trans rfl
            clear hf
            have cc : u.cell? ⟨p, 0, none⟩ = some (.int .i64 0) ∧ u.cell? ⟨p, 1, none⟩ = some (.int .i64 0) ∧ u.cell? ⟨p, 2, none⟩ = some (.int .i64 1) ∧ u.cell? ⟨p, 3, none⟩ = some (.int .u8 1) := four30 hS.2
            obtain ⟨c0, c1, c2, c3⟩ := cc
            obtain ⟨T, D⟩ := a
            simp only at h5 hdep
            have hS2 := Lib.hid hS
            clear hS HB
            rcases (by omega : j = 0 ∨ j = 1 ∨ j = 2 ∨ j = 3 ∨ j = 4 ∨ j = 5 ∨ j = 6 ∨ j = 7 ∨ j = 8) with rfl | rfl | rfl | rfl | rfl | rfl | rfl | rfl | rfl
            · refine wpOp_step (o := ⟨some 75, _, _, _, _, _⟩) rfl (fun K hK => ?_)
              clear hdep
              go_simp
              have hbb : Below u.heap.size u u := (Below.refl _ _)
              exact hK _ _ ⟨_, rfl, (Below.refl _ _), ⟨hS2.out.1.trans (Below.mono (Below.refl _ _) hS2.out.1.size), Row.below hS2.out.2 (Below.refl _ _) (Nat.le_refl _)⟩, by refine ⟨fun e => ?_, fun e => ?_, fun e => ?_, fun e => ?_, fun e => ?_, fun e => ?_, fun e => ?_, fun e => ?_, fun e => ?_⟩ <;> first | exact absurd e (by decide) | exact (⟨⟨1, 1, 6, 1000, none, 0, none, 0, 65536⟩, rfl, [], IL.nil _ _, (by decide : (0 : Nat) ≤ 1000000), fun bs h => tOk0 bs h⟩)⟩
            · refine wpOp_step (o := ⟨some 76, _, _, _, _, _⟩) rfl (fun K hK => ?_)
              clear hdep
              go_simp
              have hbb : Below u.heap.size u u := (Below.refl _ _)
              exact hK _ _ ⟨_, rfl, (Below.refl _ _), ⟨hS2.out.1.trans (Below.mono (Below.refl _ _) hS2.out.1.size), Row.below hS2.out.2 (Below.refl _ _) (Nat.le_refl _)⟩, by refine ⟨fun e => ?_, fun e => ?_, fun e => ?_, fun e => ?_, fun e => ?_, fun e => ?_, fun e => ?_, fun e => ?_, fun e => ?_⟩ <;> first | exact absurd e (by decide) | exact (rfl)⟩
            · refine wpOp_step (o := ⟨some 77, _, _, _, _, _⟩) rfl (fun K hK => ?_)
              clear hdep
              go_simp
              have hbb : Below u.heap.size u u := (Below.refl _ _)
              exact hK _ _ ⟨_, rfl, (Below.refl _ _), ⟨hS2.out.1.trans (Below.mono (Below.refl _ _) hS2.out.1.size), Row.below hS2.out.2 (Below.refl _ _) (Nat.le_refl _)⟩, by refine ⟨fun e => ?_, fun e => ?_, fun e => ?_, fun e => ?_, fun e => ?_, fun e => ?_, fun e => ?_, fun e => ?_, fun e => ?_⟩ <;> first | exact absurd e (by decide) | exact (rfl)⟩
            · refine wpOp_step (o := ⟨some 78, _, _, _, _, _⟩) rfl (fun K hK => ?_)
              obtain ⟨v1, t1, q1⟩ := hdep _ rfl ⟨1, .data⟩ (by simp) rfl
              replace q1 := q1.2.1 rfl
              simp only [Nat.reduceAdd] at t1
              obtain ⟨v2, t2, q2⟩ := hdep _ rfl ⟨2, .data⟩ (by simp) rfl
              replace q2 := q2.2.2.1 rfl
              simp only [Nat.reduceAdd] at t2
              clear hdep
              subst q1
              subst q2
              go_simp
              skip
              exact hK _ _ ⟨_, rfl, ((Below.refl _ _).alloc (Nat.le_refl _) _), ⟨hS2.out.1.trans (Below.mono ((Below.refl _ _).alloc (Nat.le_refl _) _) hS2.out.1.size), Row.below hS2.out.2 ((Below.refl _ _).alloc (Nat.le_refl _) _) (Nat.le_refl _)⟩, by refine ⟨fun e => ?_, fun e => ?_, fun e => ?_, fun e => ?_, fun e => ?_, fun e => ?_, fun e => ?_, fun e => ?_, fun e => ?_⟩ <;> first | exact absurd e (by decide) | exact (⟨_, rfl, InfP.two_il iOne iGreat⟩)⟩
            · refine wpOp_step (o := ⟨some 79, _, _, _, _, _⟩) rfl (fun K hK => ?_)
              clear hdep
              go_simp
              skip
              exact hK _ _ ⟨_, rfl, ((Below.refl _ _).alloc (Nat.le_refl _) _), ⟨hS2.out.1.trans (Below.mono ((Below.refl _ _).alloc (Nat.le_refl _) _) hS2.out.1.size), Row.below hS2.out.2 ((Below.refl _ _).alloc (Nat.le_refl _) _) (Nat.le_refl _)⟩, by refine ⟨fun e => ?_, fun e => ?_, fun e => ?_, fun e => ?_, fun e => ?_, fun e => ?_, fun e => ?_, fun e => ?_, fun e => ?_⟩ <;> first | exact absurd e (by decide) | exact (⟨_, rfl⟩)⟩
            · refine wpOp_step (o := ⟨some 80, _, _, _, _, _⟩) rfl (fun K hK => ?_)
              obtain ⟨v3, t3, q3⟩ := hdep _ rfl ⟨3, .data⟩ (by simp) rfl
              replace q3 := q3.2.2.2.1 rfl
              simp only [Nat.reduceAdd] at t3
              obtain ⟨v4, t4, q4⟩ := hdep _ rfl ⟨4, .data⟩ (by simp) rfl
              replace q4 := q4.2.2.2.2.1 rfl
              simp only [Nat.reduceAdd] at t4
              clear hdep
              obtain ⟨g3, rfl, q3⟩ := q3
              obtain ⟨g4, rfl⟩ := q4
              go_simp
              have hbb : Below u.heap.size u u := (Below.refl _ _)
              exact hK _ _ ⟨_, rfl, (Below.refl _ _), ⟨hS2.out.1.trans (Below.mono (Below.refl _ _) hS2.out.1.size), Row.below hS2.out.2 (Below.refl _ _) (Nat.le_refl _)⟩, by refine ⟨fun e => ?_, fun e => ?_, fun e => ?_, fun e => ?_, fun e => ?_, fun e => ?_, fun e => ?_, fun e => ?_, fun e => ?_⟩ <;> first | exact absurd e (by decide) | exact (⟨⟨1, 1, 1, 0, some ⟨g3, 0, none⟩, 2, some ⟨g4, 0, none⟩, 65536, 0⟩, rfl, [iOne, iGreat], q3, (by decide : (2 : Nat) ≤ 1000000), fun bs h => tOk5 bs h⟩)⟩
            · refine wpOp_step (o := ⟨some 81, _, _, _, _, _⟩) rfl (fun K hK => ?_)
              obtain ⟨v0, t0, q0⟩ := hdep _ rfl ⟨0, .data⟩ (by simp) rfl
              replace q0 := q0.1 rfl
              simp only [Nat.reduceAdd] at t0
              obtain ⟨v5, t5, q5⟩ := hdep _ rfl ⟨5, .data⟩ (by simp) rfl
              replace q5 := q5.2.2.2.2.2.1 rfl
              simp only [Nat.reduceAdd] at t5
              clear hdep
              obtain ⟨e0, rfl, q0⟩ := q0
              obtain ⟨e5, rfl, q5⟩ := q5
              go_simp
              skip
              exact hK _ _ ⟨_, rfl, ((Below.refl _ _).alloc (Nat.le_refl _) _), ⟨hS2.out.1.trans (Below.mono ((Below.refl _ _).alloc (Nat.le_refl _) _) hS2.out.1.size), Row.below hS2.out.2 ((Below.refl _ _).alloc (Nat.le_refl _) _) (Nat.le_refl _)⟩, by refine ⟨fun e => ?_, fun e => ?_, fun e => ?_, fun e => ?_, fun e => ?_, fun e => ?_, fun e => ?_, fun e => ?_, fun e => ?_⟩ <;> first | exact absurd e (by decide) | exact (⟨_, rfl, RowT.mk' (L := [e0, e5]) (by intro e he; simp at he; rcases he with rfl | rfl <;> first | exact q0 | exact q5)⟩)⟩
            · refine wpOp_step (o := ⟨some 82, _, _, _, _, _⟩) rfl (fun K hK => ?_)
              obtain ⟨v6, t6, q6⟩ := hdep _ rfl ⟨6, .data⟩ (by simp) rfl
              replace q6 := q6.2.2.2.2.2.2.1 rfl
              simp only [Nat.reduceAdd] at t6
              clear hdep
              obtain ⟨z6, rfl, q6⟩ := q6
              go_simp
              have hbb : Below u.heap.size u u := (Below.refl _ _)
              exact hK _ _ ⟨_, rfl, (Below.refl _ _), ⟨hS2.out.1.trans (Below.mono (Below.refl _ _) hS2.out.1.size), Row.below hS2.out.2 (Below.refl _ _) (Nat.le_refl _)⟩, by refine ⟨fun e => ?_, fun e => ?_, fun e => ?_, fun e => ?_, fun e => ?_, fun e => ?_, fun e => ?_, fun e => ?_, fun e => ?_⟩ <;> first | exact absurd e (by decide) | exact (rfl)⟩
            · refine wpOp_step (o := ⟨some 83, _, _, _, _, _⟩) rfl (fun K hK => ?_)
              clear hdep
              go_simp
              have hbb : Below u.heap.size u u := (Below.refl _ _)
              exact hK _ _ ⟨_, rfl, (Below.refl _ _), ⟨hS2.out.1.trans (Below.mono (Below.refl _ _) hS2.out.1.size), Row.below hS2.out.2 (Below.refl _ _) (Nat.le_refl _)⟩, by refine ⟨fun e => ?_, fun e => ?_, fun e => ?_, fun e => ?_, fun e => ?_, fun e => ?_, fun e => ?_, fun e => ?_, fun e => ?_⟩ <;> first | exact absurd e (by decide) | exact (rfl)⟩
          case refine_3 =>
            intro a u hf hS hall
            obtain ⟨v0, t0, q0⟩ := hall 0 (by omega)
            obtain ⟨v1, t1, q1⟩ := hall 1 (by omega)
            obtain ⟨v2, t2, q2⟩ := hall 2 (by omega)
            obtain ⟨v3, t3, q3⟩ := hall 3 (by omega)
            obtain ⟨v4, t4, q4⟩ := hall 4 (by omega)
            obtain ⟨v5, t5, q5⟩ := hall 5 (by omega)
            obtain ⟨v6, t6, q6⟩ := hall 6 (by omega)
            obtain ⟨v7, t7, q7⟩ := hall 7 (by omega)
            obtain ⟨v8, t8, q8⟩ := hall 8 (by omega)
            have ha := hf.eq (by simp) [v0, v1, v2, v3, v4, v5, v6, v7, v8] rfl (fun j hj => by rcases (by omega : j = 0 ∨ j = 1 ∨ j = 2 ∨ j = 3 ∨ j = 4 ∨ j = 5 ∨ j = 6 ∨ j = 7 ∨ j = 8) with rfl | rfl | rfl | rfl | rfl | rfl | rfl | rfl | rfl <;> first | exact t0 | exact t1 | exact t2 | exact t3 | exact t4 | exact t5 | exact t6 | exact t7 | exact t8)
            replace q0 := q0.1 rfl
            replace q1 := q1.2.1 rfl
            replace q2 := q2.2.2.1 rfl
            replace q3 := q3.2.2.2.1 rfl
            replace q4 := q4.2.2.2.2.1 rfl
            replace q5 := q5.2.2.2.2.2.1 rfl
            replace q6 := q6.2.2.2.2.2.2.1 rfl
            replace q7 := q7.2.2.2.2.2.2.2.1 rfl
            replace q8 := q8.2.2.2.2.2.2.2.2 rfl
            obtain ⟨z3, rfl, hrow⟩ := q6
            subst q7
            subst q8
            rw [ha]
            clear ha hf hall
            simp only [putAll, Act.put, List.setIfInBounds_toArray, List.set_cons_zero, List.set_cons_succ]
            go_wp2
            have HB3 := Lib.hid (And.intro hS.1 (And.intro hS.2 hrow))
            clear hS hrow HB q0 q1 q2 q3 q4 q5 t0 t1 t2 t3 t4 t5 t6 t7 t8
            go_loopw [6, 7, 83] (fun _ _ sC wr => ∃ i : Nat, i ≤ 2 ∧ sC = .int .i64 i ∧ Hid (Below w.heap.size w wr ∧ Row wr p #[.int .i64 0, .int .i64 0, .int .i64 1, .int .u8 1] 30 ∧ RowT true wr z3 2)) (fun _ _ sC _ => 2 - (Go.RowKit.intOf sC).toNat)
            case atStart => exact ⟨0, by omega, rfl, (⟨HB3.out.1, HB3.out.2.1, HB3.out.2.2⟩ : _ ∧ _ ∧ _)⟩
            case round =>
              clear HB3
              obtain ⟨i, hi, rfl, HR⟩ := hrel
              by_cases hlt : i < 2
              · obtain ⟨e, hok, _, hcells⟩ := HR.out.2.2 i hlt
                have k0 : wr.cell? ⟨z3, i * 7, none⟩ = some (.int .i64 e.l) := hcells 0 _ rfl
                have k1 : wr.cell? ⟨z3, i * 7 + 1, none⟩ = some (.int .i64 e.s) := hcells 1 _ rfl
                have k2 : wr.cell? ⟨z3, i * 7 + 2, none⟩ = some (.int .u8 e.o) := hcells 2 _ rfl
                have k3 : wr.cell? ⟨z3, i * 7 + 3, none⟩ = some (.int .i64 e.er) := hcells 3 _ rfl
                have k4 : wr.cell? ⟨z3, i * 7 + 4, none⟩ = some (.slice e.I e.m e.m) := hcells 4 _ rfl
                have k5 : wr.cell? ⟨z3, i * 7 + 5, none⟩ = some (.slice e.B e.n e.n) := hcells 5 _ rfl
                have k6 : wr.cell? ⟨z3, i * 7 + 6, none⟩ = some (.int .i64 e.room) := hcells 6 _ rfl
                have hi1 : (0 : Int) ≤ (i : Int) := by omega
                have hi2 : (i : Int) < 2 := by omega
                have hwk : IntKind.i64.wrap ((i : Int) + 1) = (i : Int) + 1 := IntWalk.i64_in _ (by omega)
                have HX := Lib.hid (And.intro hlt hok)
                clear hcells hlt hok
                obtain ⟨wa, hwa⟩ : ∃ v, wr.alloc (.cells #[.int .i64 e.l, .int .i64 e.s, .int .u8 e.o, .int .i64 e.er, .slice e.I e.m e.m, .slice e.B e.n e.n, .int .i64 e.room] 34) = v := ⟨_, rfl⟩
                obtain ⟨hba, hxa⟩ := box_new hwa
                obtain ⟨m0, m1, m2, m3, m4, m5, m6⟩ := arr7 hxa
                rw [← hwa] at m0 m1 m2 m3 m4 m5 m6
                have HBA := Lib.hid (And.intro hba hwa)
                clear hba hxa hwa
                go_wp2_with fail
                (try rw [HBA.out.2])
                refine (te_is wa e (HX.out.2.below HBA.out.1)).mono ?_
                rintro e' w2 ⟨rfl, hb2⟩
                have hBa := HBA.out.1.trans (hb2.mono HBA.out.1.size)
                have HB2 := Lib.hid (And.intro (HR.out.1.trans (hBa.mono HR.out.1.size)) (And.intro (HR.out.2.1.below hBa (Nat.le_refl _)) (HR.out.2.2.below hBa)))
                clear hb2 m0 m1 m2 m3 m4 m5 m6 k0 k1 k2 k3 k4 k5 k6 hBa
                go_wp2
                go_roundw
                case rel => exact ⟨i + 1, by have := HX.out.1; omega, by go_num, (⟨HB2.out.1, HB2.out.2⟩ : _ ∧ _)⟩
                case measure => have := HX.out.1; simp [Go.RowKit.intOf]; omega
              · obtain rfl : i = 2 := by omega
                have HF := Lib.hid HR.out
                clear HR hlt
                have hcast : ((2 : Nat) : Int) = 2 := rfl
                rw [hcast]
                clear hcast
                go_wp2
                refine region_seq (by kernel_rfl) 94 24 rfl (by simp) (fun u => Below w.heap.size w u ∧ Row u p #[.int .i64 0, .int .i64 0, .int .i64 1, .int .u8 1] 30) HN20 ?_ hn20_below ?_ ?_ (by simp) (all_up rfl (edges_back rfl (by kernel_rfl)))
                case refine_1 => exact ⟨HF.out.1.drew, HF.out.2.1⟩
                case refine_2 =>
                  intro a u j hf hS hj hdep
                  have h5 : a.tmps[5]? = some (.pointer (some ⟨p, 0, none⟩)) := (hf.out 5 (by omega)).trans rfl
                  clear hf
                  have cc : u.cell? ⟨p, 0, none⟩ = some (.int .i64 0) ∧ u.cell? ⟨p, 1, none⟩ = some (.int .i64 0) ∧ u.cell? ⟨p, 2, none⟩ = some (.int .i64 1) ∧ u.cell? ⟨p, 3, none⟩ = some (.int .u8 1) := four30 hS.2
                  obtain ⟨c0, c1, c2, c3⟩ := cc
                  obtain ⟨T, D⟩ := a
                  simp only at h5 hdep
                  have hS2 := Lib.hid hS
                  clear hS HF
                  rcases (by omega : j = 0 ∨ j = 1 ∨ j = 2 ∨ j = 3 ∨ j = 4 ∨ j = 5 ∨ j = 6 ∨ j = 7 ∨ j = 8 ∨ j = 9 ∨ j = 10 ∨ j = 11 ∨ j = 12 ∨ j = 13 ∨ j = 14 ∨ j = 15 ∨ j = 16 ∨ j = 17 ∨ j = 18 ∨ j = 19 ∨ j = 20 ∨ j = 21 ∨ j = 22 ∨ j = 23) with rfl | rfl | rfl | rfl | rfl | rfl | rfl | rfl | rfl | rfl | rfl | rfl | rfl | rfl | rfl | rfl | rfl | rfl | rfl | rfl | rfl | rfl | rfl | rfl
                  · refine wpOp_step (o := ⟨some 94, _, _, _, _, _⟩) rfl (fun K hK => ?_)
                    clear hdep
                    go_simp
                    exact hK _ _ ⟨_, rfl, (Below.refl _ _), ⟨hS2.out.1.trans (Below.mono (Below.refl _ _) hS2.out.1.size), Row.below hS2.out.2 (Below.refl _ _) (Nat.le_refl _)⟩, by refine ⟨fun e => ?_, fun e => ?_, fun e => ?_, fun e => ?_, fun e => ?_, fun e => ?_, fun e => ?_, fun e => ?_, fun e => ?_, fun e => ?_, fun e => ?_, fun e => ?_, fun e => ?_⟩ <;> first | exact absurd e (by decide) | exact (⟨⟨0, 0, 0, 0, none, 0, none, 0, 0⟩, rfl, [], IL.nil _ _, (by decide : (0 : Nat) ≤ 1000000), fun bs h => tBad0 _ _ _ _ _ bs h (by decide)⟩)⟩
                  · refine wpOp_step (o := ⟨some 95, _, _, _, _, _⟩) rfl (fun K hK => ?_)
                    clear hdep
                    go_simp
                    exact hK _ _ ⟨_, rfl, (Below.refl _ _), ⟨hS2.out.1.trans (Below.mono (Below.refl _ _) hS2.out.1.size), Row.below hS2.out.2 (Below.refl _ _) (Nat.le_refl _)⟩, by refine ⟨fun e => ?_, fun e => ?_, fun e => ?_, fun e => ?_, fun e => ?_, fun e => ?_, fun e => ?_, fun e => ?_, fun e => ?_, fun e => ?_, fun e => ?_, fun e => ?_, fun e => ?_⟩ <;> first | exact absurd e (by decide) | exact (⟨⟨1, 1, 7, 0, none, 0, none, 0, 0⟩, rfl, [], IL.nil _ _, (by decide : (0 : Nat) ≤ 1000000), fun bs h => tBad0 _ _ _ _ _ bs h (by decide)⟩)⟩
                  · refine wpOp_step (o := ⟨some 96, _, _, _, _, _⟩) rfl (fun K hK => ?_)
                    clear hdep
                    go_simp
                    exact hK _ _ ⟨_, rfl, (Below.refl _ _), ⟨hS2.out.1.trans (Below.mono (Below.refl _ _) hS2.out.1.size), Row.below hS2.out.2 (Below.refl _ _) (Nat.le_refl _)⟩, by refine ⟨fun e => ?_, fun e => ?_, fun e => ?_, fun e => ?_, fun e => ?_, fun e => ?_, fun e => ?_, fun e => ?_, fun e => ?_, fun e => ?_, fun e => ?_, fun e => ?_, fun e => ?_⟩ <;> first | exact absurd e (by decide) | exact (⟨⟨1, 1, 1, 1001, none, 0, none, 0, 0⟩, rfl, [], IL.nil _ _, (by decide : (0 : Nat) ≤ 1000000), fun bs h => tBad0 _ _ _ _ _ bs h (by decide)⟩)⟩
                  · refine wpOp_step (o := ⟨some 97, _, _, _, _, _⟩) rfl (fun K hK => ?_)
                    clear hdep
                    go_simp
                    exact hK _ _ ⟨_, rfl, (Below.refl _ _), ⟨hS2.out.1.trans (Below.mono (Below.refl _ _) hS2.out.1.size), Row.below hS2.out.2 (Below.refl _ _) (Nat.le_refl _)⟩, by refine ⟨fun e => ?_, fun e => ?_, fun e => ?_, fun e => ?_, fun e => ?_, fun e => ?_, fun e => ?_, fun e => ?_, fun e => ?_, fun e => ?_, fun e => ?_, fun e => ?_, fun e => ?_⟩ <;> first | exact absurd e (by decide) | exact (⟨⟨1, 1, 1, -1, none, 0, none, 0, 0⟩, rfl, [], IL.nil _ _, (by decide : (0 : Nat) ≤ 1000000), fun bs h => tBad0 _ _ _ _ _ bs h (by decide)⟩)⟩
                  · refine wpOp_step (o := ⟨some 98, _, _, _, _, _⟩) rfl (fun K hK => ?_)
                    clear hdep
                    go_simp
                    exact hK _ _ ⟨_, rfl, (Below.refl _ _), ⟨hS2.out.1.trans (Below.mono (Below.refl _ _) hS2.out.1.size), Row.below hS2.out.2 (Below.refl _ _) (Nat.le_refl _)⟩, by refine ⟨fun e => ?_, fun e => ?_, fun e => ?_, fun e => ?_, fun e => ?_, fun e => ?_, fun e => ?_, fun e => ?_, fun e => ?_, fun e => ?_, fun e => ?_, fun e => ?_, fun e => ?_⟩ <;> first | exact absurd e (by decide) | exact (⟨⟨1, 1, 1, 0, none, 0, none, 0, -1⟩, rfl, [], IL.nil _ _, (by decide : (0 : Nat) ≤ 1000000), fun bs h => tBad0 _ _ _ _ _ bs h (by decide)⟩)⟩
                  · refine wpOp_step (o := ⟨some 99, _, _, _, _, _⟩) rfl (fun K hK => ?_)
                    clear hdep
                    go_simp
                    exact hK _ _ ⟨_, rfl, (Below.refl _ _), ⟨hS2.out.1.trans (Below.mono (Below.refl _ _) hS2.out.1.size), Row.below hS2.out.2 (Below.refl _ _) (Nat.le_refl _)⟩, by refine ⟨fun e => ?_, fun e => ?_, fun e => ?_, fun e => ?_, fun e => ?_, fun e => ?_, fun e => ?_, fun e => ?_, fun e => ?_, fun e => ?_, fun e => ?_, fun e => ?_, fun e => ?_⟩ <;> first | exact absurd e (by decide) | exact (⟨⟨1, 1, 1, 0, none, 0, none, 0, 65537⟩, rfl, [], IL.nil _ _, (by decide : (0 : Nat) ≤ 1000000), fun bs h => tBad0 _ _ _ _ _ bs h (by decide)⟩)⟩
                  · refine wpOp_step (o := ⟨some 100, _, _, _, _, _⟩) rfl (fun K hK => ?_)
                    clear hdep
                    go_simp
                    exact hK _ _ ⟨_, rfl, ((Below.refl _ _).alloc (Nat.le_refl _) _), ⟨hS2.out.1.trans (Below.mono ((Below.refl _ _).alloc (Nat.le_refl _) _) hS2.out.1.size), Row.below hS2.out.2 ((Below.refl _ _).alloc (Nat.le_refl _) _) (Nat.le_refl _)⟩, by refine ⟨fun e => ?_, fun e => ?_, fun e => ?_, fun e => ?_, fun e => ?_, fun e => ?_, fun e => ?_, fun e => ?_, fun e => ?_, fun e => ?_, fun e => ?_, fun e => ?_, fun e => ?_⟩ <;> first | exact absurd e (by decide) | exact (⟨_, rfl⟩)⟩
                  · refine wpOp_step (o := ⟨some 101, _, _, _, _, _⟩) rfl (fun K hK => ?_)
                    obtain ⟨v6, t6, q6⟩ := hdep _ rfl ⟨6, .data⟩ (by simp) rfl
                    replace q6 := q6.1 (by decide)
                    simp only [Nat.reduceAdd] at t6
                    clear hdep
                    obtain ⟨g6, rfl⟩ := q6
                    go_simp
                    exact hK _ _ ⟨_, rfl, (Below.refl _ _), ⟨hS2.out.1.trans (Below.mono (Below.refl _ _) hS2.out.1.size), Row.below hS2.out.2 (Below.refl _ _) (Nat.le_refl _)⟩, by refine ⟨fun e => ?_, fun e => ?_, fun e => ?_, fun e => ?_, fun e => ?_, fun e => ?_, fun e => ?_, fun e => ?_, fun e => ?_, fun e => ?_, fun e => ?_, fun e => ?_, fun e => ?_⟩ <;> first | exact absurd e (by decide) | exact (⟨⟨1, 1, 1, 1, none, 0, some ⟨g6, 0, none⟩, 1, 0⟩, rfl, [], IL.nil _ _, (by decide : (0 : Nat) ≤ 1000000), fun bs h => tBad7 bs h⟩)⟩
                  · refine wpOp_step (o := ⟨some 102, _, _, _, _, _⟩) rfl (fun K hK => ?_)
                    clear hdep
                    go_simp
                    exact hK _ _ ⟨_, rfl, (Below.refl _ _), ⟨hS2.out.1.trans (Below.mono (Below.refl _ _) hS2.out.1.size), Row.below hS2.out.2 (Below.refl _ _) (Nat.le_refl _)⟩, by refine ⟨fun e => ?_, fun e => ?_, fun e => ?_, fun e => ?_, fun e => ?_, fun e => ?_, fun e => ?_, fun e => ?_, fun e => ?_, fun e => ?_, fun e => ?_, fun e => ?_, fun e => ?_⟩ <;> first | exact absurd e (by decide) | exact (rfl)⟩
                  · refine wpOp_step (o := ⟨some 103, _, _, _, _, _⟩) rfl (fun K hK => ?_)
                    obtain ⟨v8, t8, q8⟩ := hdep _ rfl ⟨8, .data⟩ (by simp) rfl
                    replace q8 := q8.2.1 (by decide)
                    simp only [Nat.reduceAdd] at t8
                    clear hdep
                    subst q8
                    go_simp
                    exact hK _ _ ⟨_, rfl, ((Below.refl _ _).alloc (Nat.le_refl _) _), ⟨hS2.out.1.trans (Below.mono ((Below.refl _ _).alloc (Nat.le_refl _) _) hS2.out.1.size), Row.below hS2.out.2 ((Below.refl _ _).alloc (Nat.le_refl _) _) (Nat.le_refl _)⟩, by refine ⟨fun e => ?_, fun e => ?_, fun e => ?_, fun e => ?_, fun e => ?_, fun e => ?_, fun e => ?_, fun e => ?_, fun e => ?_, fun e => ?_, fun e => ?_, fun e => ?_, fun e => ?_⟩ <;> first | exact absurd e (by decide) | exact (⟨_, rfl, InfP.one_il iOne⟩)⟩
                  · refine wpOp_step (o := ⟨some 104, _, _, _, _, _⟩) rfl (fun K hK => ?_)
                    obtain ⟨v9, t9, q9⟩ := hdep _ rfl ⟨9, .data⟩ (by simp) rfl
                    replace q9 := q9.2.2.1 (by decide)
                    simp only [Nat.reduceAdd] at t9
                    clear hdep
                    obtain ⟨g9, rfl, q9⟩ := q9
                    go_simp
                    exact hK _ _ ⟨_, rfl, (Below.refl _ _), ⟨hS2.out.1.trans (Below.mono (Below.refl _ _) hS2.out.1.size), Row.below hS2.out.2 (Below.refl _ _) (Nat.le_refl _)⟩, by refine ⟨fun e => ?_, fun e => ?_, fun e => ?_, fun e => ?_, fun e => ?_, fun e => ?_, fun e => ?_, fun e => ?_, fun e => ?_, fun e => ?_, fun e => ?_, fun e => ?_, fun e => ?_⟩ <;> first | exact absurd e (by decide) | exact (⟨⟨1, 1, 1, 1, some ⟨g9, 0, none⟩, 1, none, 0, 0⟩, rfl, [iOne], q9, (by decide : (1 : Nat) ≤ 1000000), fun bs h => tBad10 bs h⟩)⟩
                  · refine wpOp_step (o := ⟨some 105, _, _, _, _, _⟩) rfl (fun K hK => ?_)
                    clear hdep
                    go_simp
                    exact hK _ _ ⟨_, rfl, (Below.refl _ _), ⟨hS2.out.1.trans (Below.mono (Below.refl _ _) hS2.out.1.size), Row.below hS2.out.2 (Below.refl _ _) (Nat.le_refl _)⟩, by refine ⟨fun e => ?_, fun e => ?_, fun e => ?_, fun e => ?_, fun e => ?_, fun e => ?_, fun e => ?_, fun e => ?_, fun e => ?_, fun e => ?_, fun e => ?_, fun e => ?_, fun e => ?_⟩ <;> first | exact absurd e (by decide) | exact (rfl)⟩
                  · refine wpOp_step (o := ⟨some 106, _, _, _, _, _⟩) rfl (fun K hK => ?_)
                    obtain ⟨v11, t11, q11⟩ := hdep _ rfl ⟨11, .data⟩ (by simp) rfl
                    replace q11 := q11.2.2.2.1 (by decide)
                    simp only [Nat.reduceAdd] at t11
                    clear hdep
                    subst q11
                    go_simp
                    exact hK _ _ ⟨_, rfl, ((Below.refl _ _).alloc (Nat.le_refl _) _), ⟨hS2.out.1.trans (Below.mono ((Below.refl _ _).alloc (Nat.le_refl _) _) hS2.out.1.size), Row.below hS2.out.2 ((Below.refl _ _).alloc (Nat.le_refl _) _) (Nat.le_refl _)⟩, by refine ⟨fun e => ?_, fun e => ?_, fun e => ?_, fun e => ?_, fun e => ?_, fun e => ?_, fun e => ?_, fun e => ?_, fun e => ?_, fun e => ?_, fun e => ?_, fun e => ?_, fun e => ?_⟩ <;> first | exact absurd e (by decide) | exact (⟨_, rfl, InfP.one_il ⟨0, 0, 1, 0⟩⟩)⟩
                  · refine wpOp_step (o := ⟨some 107, _, _, _, _, _⟩) rfl (fun K hK => ?_)
                    obtain ⟨v12, t12, q12⟩ := hdep _ rfl ⟨12, .data⟩ (by simp) rfl
                    replace q12 := q12.2.2.2.2.1 (by decide)
                    simp only [Nat.reduceAdd] at t12
                    clear hdep
                    obtain ⟨g12, rfl, q12⟩ := q12
                    go_simp
                    exact hK _ _ ⟨_, rfl, (Below.refl _ _), ⟨hS2.out.1.trans (Below.mono (Below.refl _ _) hS2.out.1.size), Row.below hS2.out.2 (Below.refl _ _) (Nat.le_refl _)⟩, by refine ⟨fun e => ?_, fun e => ?_, fun e => ?_, fun e => ?_, fun e => ?_, fun e => ?_, fun e => ?_, fun e => ?_, fun e => ?_, fun e => ?_, fun e => ?_, fun e => ?_, fun e => ?_⟩ <;> first | exact absurd e (by decide) | exact (⟨⟨1, 1, 1, 0, some ⟨g12, 0, none⟩, 1, none, 0, 0⟩, rfl, [⟨0, 0, 1, 0⟩], q12, (by decide : (1 : Nat) ≤ 1000000), fun bs h => tBad13 bs h⟩)⟩
                  · refine wpOp_step (o := ⟨some 108, _, _, _, _, _⟩) rfl (fun K hK => ?_)
                    clear hdep
                    go_simp
                    exact hK _ _ ⟨_, rfl, (Below.refl _ _), ⟨hS2.out.1.trans (Below.mono (Below.refl _ _) hS2.out.1.size), Row.below hS2.out.2 (Below.refl _ _) (Nat.le_refl _)⟩, by refine ⟨fun e => ?_, fun e => ?_, fun e => ?_, fun e => ?_, fun e => ?_, fun e => ?_, fun e => ?_, fun e => ?_, fun e => ?_, fun e => ?_, fun e => ?_, fun e => ?_, fun e => ?_⟩ <;> first | exact absurd e (by decide) | exact (rfl)⟩
                  · refine wpOp_step (o := ⟨some 109, _, _, _, _, _⟩) rfl (fun K hK => ?_)
                    obtain ⟨v14, t14, q14⟩ := hdep _ rfl ⟨14, .data⟩ (by simp) rfl
                    replace q14 := q14.2.2.2.2.2.1 (by decide)
                    simp only [Nat.reduceAdd] at t14
                    clear hdep
                    subst q14
                    go_simp
                    exact hK _ _ ⟨_, rfl, ((Below.refl _ _).alloc (Nat.le_refl _) _), ⟨hS2.out.1.trans (Below.mono ((Below.refl _ _).alloc (Nat.le_refl _) _) hS2.out.1.size), Row.below hS2.out.2 ((Below.refl _ _).alloc (Nat.le_refl _) _) (Nat.le_refl _)⟩, by refine ⟨fun e => ?_, fun e => ?_, fun e => ?_, fun e => ?_, fun e => ?_, fun e => ?_, fun e => ?_, fun e => ?_, fun e => ?_, fun e => ?_, fun e => ?_, fun e => ?_, fun e => ?_⟩ <;> first | exact absurd e (by decide) | exact (⟨_, rfl, InfP.one_il ⟨0, 0, 0, 1⟩⟩)⟩
                  · refine wpOp_step (o := ⟨some 110, _, _, _, _, _⟩) rfl (fun K hK => ?_)
                    obtain ⟨v15, t15, q15⟩ := hdep _ rfl ⟨15, .data⟩ (by simp) rfl
                    replace q15 := q15.2.2.2.2.2.2.1 (by decide)
                    simp only [Nat.reduceAdd] at t15
                    clear hdep
                    obtain ⟨g15, rfl, q15⟩ := q15
                    go_simp
                    exact hK _ _ ⟨_, rfl, (Below.refl _ _), ⟨hS2.out.1.trans (Below.mono (Below.refl _ _) hS2.out.1.size), Row.below hS2.out.2 (Below.refl _ _) (Nat.le_refl _)⟩, by refine ⟨fun e => ?_, fun e => ?_, fun e => ?_, fun e => ?_, fun e => ?_, fun e => ?_, fun e => ?_, fun e => ?_, fun e => ?_, fun e => ?_, fun e => ?_, fun e => ?_, fun e => ?_⟩ <;> first | exact absurd e (by decide) | exact (⟨⟨1, 1, 1, 0, some ⟨g15, 0, none⟩, 1, none, 0, 0⟩, rfl, [⟨0, 0, 0, 1⟩], q15, (by decide : (1 : Nat) ≤ 1000000), fun bs h => tBad16 bs h⟩)⟩
                  · refine wpOp_step (o := ⟨some 111, _, _, _, _, _⟩) rfl (fun K hK => ?_)
                    clear hdep
                    have mk3 := mk32 u
                    go_simp
                    exact hK _ _ ⟨_, rfl, ((Below.refl _ _).alloc (Nat.le_refl _) _), ⟨hS2.out.1.trans (Below.mono ((Below.refl _ _).alloc (Nat.le_refl _) _) hS2.out.1.size), Row.below hS2.out.2 ((Below.refl _ _).alloc (Nat.le_refl _) _) (Nat.le_refl _)⟩, by refine ⟨fun e => ?_, fun e => ?_, fun e => ?_, fun e => ?_, fun e => ?_, fun e => ?_, fun e => ?_, fun e => ?_, fun e => ?_, fun e => ?_, fun e => ?_, fun e => ?_, fun e => ?_⟩ <;> first | exact absurd e (by decide) | exact (⟨_, _, rfl, il51 _⟩)⟩
                  · refine wpOp_step (o := ⟨some 112, _, _, _, _, _⟩) rfl (fun K hK => ?_)
                    obtain ⟨v17, t17, q17⟩ := hdep _ rfl ⟨17, .data⟩ (by simp) rfl
                    replace q17 := q17.2.2.2.2.2.2.2.1 (by decide)
                    simp only [Nat.reduceAdd] at t17
                    clear hdep
                    obtain ⟨g17, L17, rfl, q17⟩ := q17
                    go_simp
                    exact hK _ _ ⟨_, rfl, (Below.refl _ _), ⟨hS2.out.1.trans (Below.mono (Below.refl _ _) hS2.out.1.size), Row.below hS2.out.2 (Below.refl _ _) (Nat.le_refl _)⟩, by refine ⟨fun e => ?_, fun e => ?_, fun e => ?_, fun e => ?_, fun e => ?_, fun e => ?_, fun e => ?_, fun e => ?_, fun e => ?_, fun e => ?_, fun e => ?_, fun e => ?_, fun e => ?_⟩ <;> first | exact absurd e (by decide) | exact (⟨⟨1, 1, 1, 0, some ⟨g17, 0, none⟩, 51, none, 0, 0⟩, rfl, L17, q17, (by decide : (51 : Nat) ≤ 1000000), fun bs h => tBad18 L17 q17.len bs h⟩)⟩
                  · refine wpOp_step (o := ⟨some 113, _, _, _, _, _⟩) rfl (fun K hK => ?_)
                    clear hdep
                    go_simp
                    exact hK _ _ ⟨_, rfl, ((Below.refl _ _).alloc (Nat.le_refl _) _), ⟨hS2.out.1.trans (Below.mono ((Below.refl _ _).alloc (Nat.le_refl _) _) hS2.out.1.size), Row.below hS2.out.2 ((Below.refl _ _).alloc (Nat.le_refl _) _) (Nat.le_refl _)⟩, by refine ⟨fun e => ?_, fun e => ?_, fun e => ?_, fun e => ?_, fun e => ?_, fun e => ?_, fun e => ?_, fun e => ?_, fun e => ?_, fun e => ?_, fun e => ?_, fun e => ?_, fun e => ?_⟩ <;> first | exact absurd e (by decide) | exact (⟨_, rfl⟩)⟩
                  · refine wpOp_step (o := ⟨some 114, _, _, _, _, _⟩) rfl (fun K hK => ?_)
                    obtain ⟨v19, t19, q19⟩ := hdep _ rfl ⟨19, .data⟩ (by simp) rfl
                    replace q19 := q19.2.2.2.2.2.2.2.2.1 (by decide)
                    simp only [Nat.reduceAdd] at t19
                    clear hdep
                    obtain ⟨g19, rfl⟩ := q19
                    go_simp
                    exact hK _ _ ⟨_, rfl, (Below.refl _ _), ⟨hS2.out.1.trans (Below.mono (Below.refl _ _) hS2.out.1.size), Row.below hS2.out.2 (Below.refl _ _) (Nat.le_refl _)⟩, by refine ⟨fun e => ?_, fun e => ?_, fun e => ?_, fun e => ?_, fun e => ?_, fun e => ?_, fun e => ?_, fun e => ?_, fun e => ?_, fun e => ?_, fun e => ?_, fun e => ?_, fun e => ?_⟩ <;> first | exact absurd e (by decide) | exact (⟨⟨1, 1, 1, 0, none, 0, some ⟨g19, 0, none⟩, 65537, 0⟩, rfl, [], IL.nil _ _, (by decide : (0 : Nat) ≤ 1000000), fun bs h => tBad20 bs h⟩)⟩
                  · refine wpOp_step (o := ⟨some 115, _, _, _, _, _⟩) rfl (fun K hK => ?_)
                    obtain ⟨v0, t0, q0⟩ := hdep _ rfl ⟨0, .data⟩ (by simp) rfl
                    replace q0 := q0.2.2.2.2.2.2.2.2.2.2.2.2 (by decide)
                    simp only [Nat.reduceAdd] at t0
                    obtain ⟨v1, t1, q1⟩ := hdep _ rfl ⟨1, .data⟩ (by simp) rfl
                    replace q1 := q1.2.2.2.2.2.2.2.2.2.2.2.2 (by decide)
                    simp only [Nat.reduceAdd] at t1
                    obtain ⟨v2, t2, q2⟩ := hdep _ rfl ⟨2, .data⟩ (by simp) rfl
                    replace q2 := q2.2.2.2.2.2.2.2.2.2.2.2.2 (by decide)
                    simp only [Nat.reduceAdd] at t2
                    obtain ⟨v3, t3, q3⟩ := hdep _ rfl ⟨3, .data⟩ (by simp) rfl
                    replace q3 := q3.2.2.2.2.2.2.2.2.2.2.2.2 (by decide)
                    simp only [Nat.reduceAdd] at t3
                    obtain ⟨v4, t4, q4⟩ := hdep _ rfl ⟨4, .data⟩ (by simp) rfl
                    replace q4 := q4.2.2.2.2.2.2.2.2.2.2.2.2 (by decide)
                    simp only [Nat.reduceAdd] at t4
                    obtain ⟨v5, t5, q5⟩ := hdep _ rfl ⟨5, .data⟩ (by simp) rfl
                    replace q5 := q5.2.2.2.2.2.2.2.2.2.2.2.2 (by decide)
                    simp only [Nat.reduceAdd] at t5
                    obtain ⟨v7, t7, q7⟩ := hdep _ rfl ⟨7, .data⟩ (by simp) rfl
                    replace q7 := q7.2.2.2.2.2.2.2.2.2.2.2.2 (by decide)
                    simp only [Nat.reduceAdd] at t7
                    obtain ⟨v10, t10, q10⟩ := hdep _ rfl ⟨10, .data⟩ (by simp) rfl
                    replace q10 := q10.2.2.2.2.2.2.2.2.2.2.2.2 (by decide)
                    simp only [Nat.reduceAdd] at t10
                    obtain ⟨v13, t13, q13⟩ := hdep _ rfl ⟨13, .data⟩ (by simp) rfl
                    replace q13 := q13.2.2.2.2.2.2.2.2.2.2.2.2 (by decide)
                    simp only [Nat.reduceAdd] at t13
                    obtain ⟨v16, t16, q16⟩ := hdep _ rfl ⟨16, .data⟩ (by simp) rfl
                    replace q16 := q16.2.2.2.2.2.2.2.2.2.2.2.2 (by decide)
                    simp only [Nat.reduceAdd] at t16
                    obtain ⟨v18, t18, q18⟩ := hdep _ rfl ⟨18, .data⟩ (by simp) rfl
                    replace q18 := q18.2.2.2.2.2.2.2.2.2.2.2.2 (by decide)
                    simp only [Nat.reduceAdd] at t18
                    obtain ⟨v20, t20, q20⟩ := hdep _ rfl ⟨20, .data⟩ (by simp) rfl
                    replace q20 := q20.2.2.2.2.2.2.2.2.2.2.2.2 (by decide)
                    simp only [Nat.reduceAdd] at t20
                    clear hdep
                    obtain ⟨e0, rfl, q0⟩ := q0
                    obtain ⟨e1, rfl, q1⟩ := q1
                    obtain ⟨e2, rfl, q2⟩ := q2
                    obtain ⟨e3, rfl, q3⟩ := q3
                    obtain ⟨e4, rfl, q4⟩ := q4
                    obtain ⟨e5, rfl, q5⟩ := q5
                    obtain ⟨e7, rfl, q7⟩ := q7
                    obtain ⟨e10, rfl, q10⟩ := q10
                    obtain ⟨e13, rfl, q13⟩ := q13
                    obtain ⟨e16, rfl, q16⟩ := q16
                    obtain ⟨e18, rfl, q18⟩ := q18
                    obtain ⟨e20, rfl, q20⟩ := q20
                    go_simp
                    exact hK _ _ ⟨_, rfl, ((Below.refl _ _).alloc (Nat.le_refl _) _), ⟨hS2.out.1.trans (Below.mono ((Below.refl _ _).alloc (Nat.le_refl _) _) hS2.out.1.size), Row.below hS2.out.2 ((Below.refl _ _).alloc (Nat.le_refl _) _) (Nat.le_refl _)⟩, by refine ⟨fun e => ?_, fun e => ?_, fun e => ?_, fun e => ?_, fun e => ?_, fun e => ?_, fun e => ?_, fun e => ?_, fun e => ?_, fun e => ?_, fun e => ?_, fun e => ?_, fun e => ?_⟩ <;> first | exact absurd e (by decide) | exact (⟨_, rfl, RowT.mk' (L := [e0, e1, e2, e3, e4, e5, e7, e10, e13, e16, e18, e20]) (by intro e he; simp only [List.mem_cons, List.not_mem_nil, or_false] at he; rcases he with rfl | rfl | rfl | rfl | rfl | rfl | rfl | rfl | rfl | rfl | rfl | rfl <;> first | exact q0 | exact q1 | exact q2 | exact q3 | exact q4 | exact q5 | exact q7 | exact q10 | exact q13 | exact q16 | exact q18 | exact q20)⟩)⟩
                  · refine wpOp_step (o := ⟨some 116, _, _, _, _, _⟩) rfl (fun K hK => ?_)
                    obtain ⟨v21, t21, q21⟩ := hdep _ rfl ⟨21, .data⟩ (by simp) rfl
                    replace q21 := q21.2.2.2.2.2.2.2.2.2.1 (by decide)
                    simp only [Nat.reduceAdd] at t21
                    clear hdep
                    obtain ⟨z21, rfl, q21⟩ := q21
                    go_simp
                    exact hK _ _ ⟨_, rfl, (Below.refl _ _), ⟨hS2.out.1.trans (Below.mono (Below.refl _ _) hS2.out.1.size), Row.below hS2.out.2 (Below.refl _ _) (Nat.le_refl _)⟩, by refine ⟨fun e => ?_, fun e => ?_, fun e => ?_, fun e => ?_, fun e => ?_, fun e => ?_, fun e => ?_, fun e => ?_, fun e => ?_, fun e => ?_, fun e => ?_, fun e => ?_, fun e => ?_⟩ <;> first | exact absurd e (by decide) | exact (rfl)⟩
                  · refine wpOp_step (o := ⟨some 117, _, _, _, _, _⟩) rfl (fun K hK => ?_)
                    clear hdep
                    go_simp
                    exact hK _ _ ⟨_, rfl, (Below.refl _ _), ⟨hS2.out.1.trans (Below.mono (Below.refl _ _) hS2.out.1.size), Row.below hS2.out.2 (Below.refl _ _) (Nat.le_refl _)⟩, by refine ⟨fun e => ?_, fun e => ?_, fun e => ?_, fun e => ?_, fun e => ?_, fun e => ?_, fun e => ?_, fun e => ?_, fun e => ?_, fun e => ?_, fun e => ?_, fun e => ?_, fun e => ?_⟩ <;> first | exact absurd e (by decide) | exact (rfl)⟩
                case refine_3 =>
                  intro a u hf hS hall
                  obtain ⟨v0, t0, q0⟩ := hall 0 (by omega)
                  obtain ⟨v1, t1, q1⟩ := hall 1 (by omega)
                  obtain ⟨v2, t2, q2⟩ := hall 2 (by omega)
                  obtain ⟨v3, t3, q3⟩ := hall 3 (by omega)
                  obtain ⟨v4, t4, q4⟩ := hall 4 (by omega)
                  obtain ⟨v5, t5, q5⟩ := hall 5 (by omega)
                  obtain ⟨v6, t6, q6⟩ := hall 6 (by omega)
                  obtain ⟨v7, t7, q7⟩ := hall 7 (by omega)
                  obtain ⟨v8, t8, q8⟩ := hall 8 (by omega)
                  obtain ⟨v9, t9, q9⟩ := hall 9 (by omega)
                  obtain ⟨v10, t10, q10⟩ := hall 10 (by omega)
                  obtain ⟨v11, t11, q11⟩ := hall 11 (by omega)
                  obtain ⟨v12, t12, q12⟩ := hall 12 (by omega)
                  obtain ⟨v13, t13, q13⟩ := hall 13 (by omega)
                  obtain ⟨v14, t14, q14⟩ := hall 14 (by omega)
                  obtain ⟨v15, t15, q15⟩ := hall 15 (by omega)
                  obtain ⟨v16, t16, q16⟩ := hall 16 (by omega)
                  obtain ⟨v17, t17, q17⟩ := hall 17 (by omega)
                  obtain ⟨v18, t18, q18⟩ := hall 18 (by omega)
                  obtain ⟨v19, t19, q19⟩ := hall 19 (by omega)
                  obtain ⟨v20, t20, q20⟩ := hall 20 (by omega)
                  obtain ⟨v21, t21, q21⟩ := hall 21 (by omega)
                  obtain ⟨v22, t22, q22⟩ := hall 22 (by omega)
                  obtain ⟨v23, t23, q23⟩ := hall 23 (by omega)
                  have ha := hf.eq (by simp) [v0, v1, v2, v3, v4, v5, v6, v7, v8, v9, v10, v11, v12, v13, v14, v15, v16, v17, v18, v19, v20, v21, v22, v23] rfl (fun j hj => by rcases (by omega : j = 0 ∨ j = 1 ∨ j = 2 ∨ j = 3 ∨ j = 4 ∨ j = 5 ∨ j = 6 ∨ j = 7 ∨ j = 8 ∨ j = 9 ∨ j = 10 ∨ j = 11 ∨ j = 12 ∨ j = 13 ∨ j = 14 ∨ j = 15 ∨ j = 16 ∨ j = 17 ∨ j = 18 ∨ j = 19 ∨ j = 20 ∨ j = 21 ∨ j = 22 ∨ j = 23) with rfl | rfl | rfl | rfl | rfl | rfl | rfl | rfl | rfl | rfl | rfl | rfl | rfl | rfl | rfl | rfl | rfl | rfl | rfl | rfl | rfl | rfl | rfl | rfl <;> first | exact t0 | exact t1 | exact t2 | exact t3 | exact t4 | exact t5 | exact t6 | exact t7 | exact t8 | exact t9 | exact t10 | exact t11 | exact t12 | exact t13 | exact t14 | exact t15 | exact t16 | exact t17 | exact t18 | exact t19 | exact t20 | exact t21 | exact t22 | exact t23)
                  replace q21 := q21.2.2.2.2.2.2.2.2.2.1 (by decide)
                  replace q22 := q22.2.2.2.2.2.2.2.2.2.2.1 (by decide)
                  replace q23 := q23.2.2.2.2.2.2.2.2.2.2.2.1 (by decide)
                  obtain ⟨z4, rfl, hrow⟩ := q21
                  subst q22
                  subst q23
                  rw [ha]
                  clear ha hf hall
                  simp only [putAll, Act.put, List.setIfInBounds_toArray, List.set_cons_zero, List.set_cons_succ]
                  go_wp2
                  have HB4 := Lib.hid (And.intro hS.1 (And.intro hS.2 hrow))
                  clear hS hrow HF
                  go_loopw [8, 9, 117] (fun _ _ sC wr => ∃ i : Nat, i ≤ 12 ∧ sC = .int .i64 i ∧ Hid (Below w.heap.size w wr ∧ Row wr p #[.int .i64 0, .int .i64 0, .int .i64 1, .int .u8 1] 30 ∧ RowT false wr z4 12)) (fun _ _ sC _ => 12 - (Go.RowKit.intOf sC).toNat)
                  case atStart => exact ⟨0, by omega, rfl, (⟨HB4.out.1, HB4.out.2.1, HB4.out.2.2⟩ : _ ∧ _ ∧ _)⟩
                  case round =>
                    clear HB4
                    obtain ⟨i, hi, rfl, HR⟩ := hrel
                    by_cases hlt : i < 12
                    · obtain ⟨e, hok, _, hcells⟩ := HR.out.2.2 i hlt
                      have k0 : wr.cell? ⟨z4, i * 7, none⟩ = some (.int .i64 e.l) := hcells 0 _ rfl
                      have k1 : wr.cell? ⟨z4, i * 7 + 1, none⟩ = some (.int .i64 e.s) := hcells 1 _ rfl
                      have k2 : wr.cell? ⟨z4, i * 7 + 2, none⟩ = some (.int .u8 e.o) := hcells 2 _ rfl
                      have k3 : wr.cell? ⟨z4, i * 7 + 3, none⟩ = some (.int .i64 e.er) := hcells 3 _ rfl
                      have k4 : wr.cell? ⟨z4, i * 7 + 4, none⟩ = some (.slice e.I e.m e.m) := hcells 4 _ rfl
                      have k5 : wr.cell? ⟨z4, i * 7 + 5, none⟩ = some (.slice e.B e.n e.n) := hcells 5 _ rfl
                      have k6 : wr.cell? ⟨z4, i * 7 + 6, none⟩ = some (.int .i64 e.room) := hcells 6 _ rfl
                      have hi1 : (0 : Int) ≤ (i : Int) := by omega
                      have hi2 : (i : Int) < 12 := by omega
                      have hwk : IntKind.i64.wrap ((i : Int) + 1) = (i : Int) + 1 := IntWalk.i64_in _ (by omega)
                      have HX := Lib.hid (And.intro hlt hok)
                      clear hcells hlt hok
                      obtain ⟨wa, hwa⟩ : ∃ v, wr.alloc (.cells #[.int .i64 e.l, .int .i64 e.s, .int .u8 e.o, .int .i64 e.er, .slice e.I e.m e.m, .slice e.B e.n e.n, .int .i64 e.room] 34) = v := ⟨_, rfl⟩
                      obtain ⟨hba, hxa⟩ := box_new hwa
                      obtain ⟨m0, m1, m2, m3, m4, m5, m6⟩ := arr7 hxa
                      rw [← hwa] at m0 m1 m2 m3 m4 m5 m6
                      have HBA := Lib.hid (And.intro hba hwa)
                      clear hba hxa hwa
                      go_wp2_with fail
                      (try rw [HBA.out.2])
                      refine (te_is wa e (HX.out.2.below HBA.out.1)).mono ?_
                      rintro e' w2 ⟨rfl, hb2⟩
                      have hBa := HBA.out.1.trans (hb2.mono HBA.out.1.size)
                      have HB2 := Lib.hid (And.intro (HR.out.1.trans (hBa.mono HR.out.1.size)) (And.intro (HR.out.2.1.below hBa (Nat.le_refl _)) (HR.out.2.2.below hBa)))
                      clear hb2 m0 m1 m2 m3 m4 m5 m6 k0 k1 k2 k3 k4 k5 k6 hBa
                      go_wp2
                      go_roundw
                      case rel => exact ⟨i + 1, by have := HX.out.1; omega, by go_num, (⟨HB2.out.1, HB2.out.2⟩ : _ ∧ _)⟩
                      case measure => have := HX.out.1; simp [Go.RowKit.intOf]; omega
                    · obtain rfl : i = 12 := by omega
                      have HF := Lib.hid HR.out
                      clear HR hlt
                      have hcast : ((12 : Nat) : Int) = 12 := rfl
                      rw [hcast]
                      clear hcast
                      have HB := Lib.hid HF.out.1
                      clear HF
                      obtain ⟨Z, hZs, hz⟩ := zero39
                      have HZ := Lib.hid hZs
                      clear hZs
                      have hz25 := (zero_of_info zero25).1
                      have hz34 := (zero_of_info zero34).1
                      go_wp2_with (first
                        | (go_at_call 12; refine (table_any _).mono ?_; rintro e w1 ⟨rfl, hb1⟩; rw [show tarr ((List.range 256).map entry) = T0 from rfl])
                        | ((with_reducible refine wpList_store_new (o := ⟨none, .store 39 (.tmp 10) (.tmp 127), _, _, _, _⟩) ?_ 39 (.tmp 10) (.tmp 127) ?_ T0 Z ?_ ?_ 39 size39' HZ.out T0_one ?_)
                           case refine_1 => rfl
                           case refine_2 => rfl
                           case refine_3 => rfl
                           case refine_4 => rfl))
                      have hW : Below wr.heap.size wr w1 := hb1
                      clear hb1
                      replace HB := Lib.hid (HB.out.trans (hW.mono HB.out.size))
                      clear hW
                      obtain ⟨p2, hp⟩ : ∃ p, w1.heap.size = p := ⟨_, rfl⟩
                      obtain ⟨wT, e⟩ : ∃ x, w1.alloc (.cells T0 39) = x := ⟨_, rfl⟩
                      obtain ⟨hW, hx⟩ := box_new e
                      rw [hp] at hx
                      have EwT := Lib.hid e
                      have SwT := size_of_alloc e
                      clear e
                      replace HB := Lib.hid (HB.out.trans (hW.mono HB.out.size))
                      clear hW
                      clear hx
                      have hTb : Tb wT p2 entry := by rw [← EwT.out, ← hp]; exact ⟨tab_new w1 (0, 0), by rw [size_alloc]; simp⟩
                      have HT := Lib.hid (hTb)
                      clear hTb
                      rw [EwT.out]
                      clear EwT
                      rw [hp]
                      clear SwT hz
                      go_wp2_with fail
                      refine (getA_is wT HT.out.1 HT.out.2 (Rd.nil wT none) (by omega) (Nat.le_refl 0)).mono ?_
                      rintro e w12 ⟨A1, n1, c1, rfl, ho1, hb⟩
                      rw [nuA] at ho1 ⊢
                      simp only [zeroA] at ho1 ⊢
                      clear ho1
                      have hW : Below wT.heap.size wT w12 := hb
                      replace HT := Lib.hid (HT.out.below hW (Nat.le_refl _))
                      replace HB := Lib.hid (HB.out.trans (hW.mono HB.out.size))
                      clear hW
                      clear hb
                      obtain ⟨g_w13, h_w13⟩ : ∃ g, w12.heap.size = g := ⟨_, rfl⟩
                      obtain ⟨w13, e⟩ : ∃ x, w12.alloc (.cells #[.int .i64 0, .int .i64 0, .int .u8 0, .int .i64 0, .int .i64 0, .int .i64 0, .slice A1 n1 c1] 25) = x := ⟨_, rfl⟩
                      obtain ⟨hW, hx⟩ := box_new e
                      rw [h_w13] at hx
                      have Ew13 := Lib.hid e
                      have Sw13 := size_of_alloc e
                      clear e
                      replace HT := Lib.hid (HT.out.below hW (Nat.le_refl _))
                      replace HB := Lib.hid (HB.out.trans (hW.mono HB.out.size))
                      clear hW
                      clear hx
                      have hl4 : Rd (w13.alloc (.cells #[.int .u8 0, .int .u8 0, .int .u8 0, .int .u8 0] 5)) (some ⟨w13.heap.size, 0, none⟩) 4 [0, 0, 0, 0] := rd_lit4 w13 0 0 0 0
                      have sw13 : w13.heap.size = g_w13 + 1 := by rw [Sw13, h_w13]
                      obtain ⟨w14, e⟩ : ∃ x, w13.alloc (.cells #[.int .u8 0, .int .u8 0, .int .u8 0, .int .u8 0] 5) = x := ⟨_, rfl⟩
                      obtain ⟨hW, hx⟩ := box_new e
                      rw [sw13] at hx
                      have Ew14 := Lib.hid e
                      clear e
                      replace HT := Lib.hid (HT.out.below hW (Nat.le_refl _))
                      replace HB := Lib.hid (HB.out.trans (hW.mono HB.out.size))
                      clear hW
                      clear hx
                      rw [Ew14.out, sw13] at hl4
                      clear Sw13 sw13
                      have HL := Lib.hid (hl4)
                      clear hl4
                      go_wp2_with fail
                      rw [Ew13.out]
                      rw [Ew14.out]
                      clear Ew13 Ew14
                      refine (getA_is w14 HT.out.1 HT.out.2 HL.out (by omega) (Nat.le_refl 4)).mono ?_
                      rintro e w15 ⟨A2, n2, c2, rfl, ho1, hb⟩
                      rw [nuB] at ho1 ⊢
                      simp only [zeroA] at ho1 ⊢
                      clear ho1
                      have hW : Below w14.heap.size w14 w15 := hb
                      replace HT := Lib.hid (HT.out.below hW (Nat.le_refl _))
                      replace HL := Lib.hid (HL.out.below hW (Nat.le_refl _))
                      replace HB := Lib.hid (HB.out.trans (hW.mono HB.out.size))
                      clear hW
                      clear hb
                      clear HL
                      obtain ⟨g_w16, h_w16⟩ : ∃ g, w15.heap.size = g := ⟨_, rfl⟩
                      obtain ⟨w16, e⟩ : ∃ x, w15.alloc (.cells #[.int .i64 0, .int .i64 0, .int .u8 0, .int .i64 0, .int .i64 0, .int .i64 0, .slice A2 n2 c2] 25) = x := ⟨_, rfl⟩
                      obtain ⟨hW, hx⟩ := box_new e
                      rw [h_w16] at hx
                      have Ew16 := Lib.hid e
                      have Sw16 := size_of_alloc e
                      clear e
                      replace HT := Lib.hid (HT.out.below hW (Nat.le_refl _))
                      replace HB := Lib.hid (HB.out.trans (hW.mono HB.out.size))
                      clear hW
                      clear hx
                      have hl4 : Rd (w16.alloc (.cells #[.int .u8 0, .int .u8 0, .int .u8 0, .int .u8 0] 5)) (some ⟨w16.heap.size, 0, none⟩) 4 [0, 0, 0, 0] := rd_lit4 w16 0 0 0 0
                      have sw16 : w16.heap.size = g_w16 + 1 := by rw [Sw16, h_w16]
                      obtain ⟨w17, e⟩ : ∃ x, w16.alloc (.cells #[.int .u8 0, .int .u8 0, .int .u8 0, .int .u8 0] 5) = x := ⟨_, rfl⟩
                      obtain ⟨hW, hx⟩ := box_new e
                      rw [sw16] at hx
                      have Ew17 := Lib.hid e
                      clear e
                      replace HT := Lib.hid (HT.out.below hW (Nat.le_refl _))
                      replace HB := Lib.hid (HB.out.trans (hW.mono HB.out.size))
                      clear hW
                      clear hx
                      rw [Ew17.out, sw16] at hl4
                      clear Sw16 sw16
                      have HL := Lib.hid (hl4)
                      clear hl4
                      go_wp2_with fail
                      rw [Ew16.out]
                      rw [Ew17.out]
                      clear Ew16 Ew17
                      refine (getT_is w17 HT.out.1 HT.out.2 HL.out (by omega) (Nat.le_refl 4)).mono ?_
                      rintro e w18 ⟨I3, m3, mc3, A3, n3, c3, rfl, hi3, hm3, ho3, hb⟩
                      rw [nuC] at hi3 ho3 ⊢
                      simp only [zeroT] at hi3 ho3 ⊢
                      clear hi3 hm3 ho3
                      have hW : Below w17.heap.size w17 w18 := hb
                      replace HT := Lib.hid (HT.out.below hW (Nat.le_refl _))
                      replace HL := Lib.hid (HL.out.below hW (Nat.le_refl _))
                      replace HB := Lib.hid (HB.out.trans (hW.mono HB.out.size))
                      clear hW
                      clear hb
                      clear HL
                      obtain ⟨g_w19, h_w19⟩ : ∃ g, w18.heap.size = g := ⟨_, rfl⟩
                      obtain ⟨w19, e⟩ : ∃ x, w18.alloc (.cells #[.int .i64 0, .int .i64 0, .int .u8 0, .int .i64 0, .slice I3 m3 mc3, .slice A3 n3 c3, .int .i64 0] 34) = x := ⟨_, rfl⟩
                      obtain ⟨hW, hx⟩ := box_new e
                      rw [h_w19] at hx
                      have Ew19 := Lib.hid e
                      clear e
                      replace HT := Lib.hid (HT.out.below hW (Nat.le_refl _))
                      replace HB := Lib.hid (HB.out.trans (hW.mono HB.out.size))
                      clear hW
                      clear hx
                      go_wp2_with fail
                      rw [Ew19.out]
                      clear Ew19
                      refine (putA_is w19 HT.out.1 HT.out.2 0 0 0 0 0 0 [] (Rd.nil w19 none) (by omega)).mono ?_
                      rintro e w20 ⟨A4, n4, c4, rfl, ho4, hb⟩
                      rw [show putA entry ⟨0, 0, 0, 0, 0, 0, []⟩ = ([], 110) from nuD] at ho4 ⊢
                      simp only at ho4 ⊢
                      clear ho4
                      have hW : Below w19.heap.size w19 w20 := hb
                      replace HT := Lib.hid (HT.out.below hW (Nat.le_refl _))
                      replace HB := Lib.hid (HB.out.trans (hW.mono HB.out.size))
                      clear hW
                      clear hb
                      go_wp2_with fail
                      refine (putT_is w20 HT.out.1 HT.out.2 0 0 0 0 0 (IL.nil w20 none) (by omega) [] (Rd.nil w20 none) (by omega)).mono ?_
                      rintro e w21 ⟨A5, n5, c5, rfl, ho5, hb⟩
                      rw [show putT entry ⟨0, 0, 0, 0, [], [], 0⟩ = ([], 110) from nuE] at ho5 ⊢
                      simp only at ho5 ⊢
                      clear ho5
                      have hW : Below w20.heap.size w20 w21 := hb
                      replace HT := Lib.hid (HT.out.below hW (Nat.le_refl _))
                      replace HB := Lib.hid (HB.out.trans (hW.mono HB.out.size))
                      clear hW
                      clear hb
                      go_wp2_with fail
                      refine (awake_is _).mono ?_
                      rintro e w22 ⟨rfl, hb⟩
                      have hW : Below w21.heap.size w21 w22 := hb
                      replace HT := Lib.hid (HT.out.below hW (Nat.le_refl _))
                      replace HB := Lib.hid (HB.out.trans (hW.mono HB.out.size))
                      clear hW
                      clear hb
                      go_wp2
                      go_ret
                      exact told_mk (by simp) HB.out
end
end Go.Proofs.Ytmiapegecoaccaa
