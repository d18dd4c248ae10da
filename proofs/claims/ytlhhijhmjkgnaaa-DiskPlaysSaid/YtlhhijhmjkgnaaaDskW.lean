/- A disk whose blocks all lie from a block on: its methods, each as a step. -/
import Derived.Test.YtlhhijhmjkgnaaaDskH
import Derived.IntWalk
namespace Go.Proofs.Ytlhhijhmjkgnaaa
open Go.RowKit Go.Coop
set_option maxRecDepth 100000

/-- a disk lies at block g, and all that it has from B on -/
def Dk (w : World) (B g : Nat) (S : DS) : Prop := B ≤ w.heap.size ∧ B ≤ g ∧ ∃ m c, B ≤ m ∧ B ≤ c ∧ DiskAt w g m c S
/-- a step -/
def DkP (B g : Nat) (S : DS) (r : Value) (w : World) (e : Ending) (w' : World) : Prop := e = .returned r ∧ Dk w' B g S ∧ Below B w w'
section
variable {w w' : World} {B g : Nat} {S : DS}
theorem Dk.below (h : Dk w B g S) (hb : Below w.heap.size w w') : Dk w' B g S := by
  obtain ⟨h0, h1, m, c, h2, h3, h4⟩ := h
  exact ⟨Nat.le_trans h0 hb.size, h1, m, c, h2, h3, h4.below hb (Nat.le_refl _)⟩
theorem Dk.alloc (h : Dk w B g S) (o : Obj) : Dk (w.alloc o) B g S := h.below ((Below.refl _ _).alloc (Nat.le_refl _) o)
theorem Dk.drewN (h : Dk w B g S) (n : Nat) : Dk (w.drewN n) B g S := h.below ⟨rfl, rfl, rfl, Nat.le_refl _, fun _ _ => rfl⟩
theorem Dk.ok (h : Dk w B g S) : S.Ok := by obtain ⟨_, _, m, c, _, _, h⟩ := h; exact h.ok
theorem Dk.lt (h : Dk w B g S) : g < w.heap.size := by obtain ⟨_, _, m, c, _, _, h⟩ := h; exact h.g_lt
end
section
variable (w : World) {B g : Nat} {S : DS}
theorem did {w w' : World} {m c c' : Nat} {S' : DS} (hB : B ≤ w.heap.size) (hg : B ≤ g) (hm : B ≤ m) (hc : B ≤ c) (hc' : B ≤ c') {gs : List Nat} (hgs : ∀ i, i ∈ gs → i = g ∨ i = m ∨ i = c) (h : DiskAt w' g m c' S') (hb : But gs w w') : Dk w' B g S' ∧ Below B w w' :=
  ⟨⟨Nat.le_trans hB hb.size, hg, m, c', hm, hc', h⟩, hb.below hB fun i hi => by rcases hgs i hi with rfl | rfl | rfl <;> assumption⟩
theorem dk_new (n : Nat) (h1 : 1 ≤ n) (h2 : n ≤ 65536) : Calls Try.prog 11 #[.int .i64 (n : Int)] w fun e w' => ∃ g, e = .returned (.tuple #[.pointer (some ⟨g, 0, none⟩), .int .i64 0]) ∧ Dk w' w.heap.size g (DS.new n) ∧ Below w.heap.size w w' :=
  (new_yes n h1 h2 w).mono fun _ _ ⟨g, m, c, he, hd, hg, hm, hc, hb⟩ => ⟨g, he, ⟨hb.size, hg, m, c, hm, hc, hd⟩, hb⟩
theorem Dk.lower {w : World} {B B' : Nat} (h : Dk w B g S) (hB : B' ≤ B) : Dk w B' g S := by
  obtain ⟨h0, h1, m, c, h2, h3, h4⟩ := h
  exact ⟨by omega, by omega, m, c, by omega, by omega, h4⟩
theorem dk_write (h : Dk w B g S) (hd : S.down = false) (hf : S.fails = false) (i : Nat) (hi : i < S.n) {A : Option Addr} {l : List UInt8} (hr : Rd w A 64 l) (cap : Nat) : Calls Try.prog 13 #[.pointer (some ⟨g, 0, none⟩), .int .i64 (i : Int), .slice A 64 cap] w (DkP B g (S.took.put i l) (.int .i64 0) w) := by
  obtain ⟨h0, h1, m, c, h2, h3, h4⟩ := h
  exact (write_goes w h4 hd hf hi hr cap).mono fun e w' ⟨he, hD, hB⟩ => ⟨he, did h0 h1 h2 h3 h3 (by simp; try omega) hD hB⟩
theorem dk_write_fails (h : Dk w B g S) (hd : S.down = false) (hf : S.fails = true) (i : Nat) (hi : i < S.n) (A : Option Addr) (cap : Nat) : Calls Try.prog 13 #[.pointer (some ⟨g, 0, none⟩), .int .i64 (i : Int), .slice A 64 cap] w (DkP B g S.failed (.int .i64 15) w) := by
  obtain ⟨h0, h1, m, c, h2, h3, h4⟩ := h
  exact (write_fails w h4 hd hf hi A cap).mono fun e w' ⟨he, hD, hB⟩ => ⟨he, did h0 h1 h2 h3 h3 (by simp) hD hB⟩
theorem dk_write_down (h : Dk w B g S) (hd : S.down = true) (i : Int) (b : Value) : Calls Try.prog 13 #[.pointer (some ⟨g, 0, none⟩), .int .i64 i, b] w (DkP B g S (.int .i64 15) w) := by
  have h' := h
  obtain ⟨h0, h1, m, c, h2, h3, h4⟩ := h
  exact (write_down w h4 hd i b).mono fun e w' ⟨he, hw⟩ => ⟨he, hw ▸ h', hw ▸ Below.refl _ _⟩
theorem dk_write_sector (h : Dk w B g S) (hd : S.down = false) {i : Int} (hi : i < 0 ∨ (S.n : Int) ≤ i) (b : Value) : Calls Try.prog 13 #[.pointer (some ⟨g, 0, none⟩), .int .i64 i, b] w (DkP B g S (.int .i64 50) w) := by
  have h' := h
  obtain ⟨h0, h1, m, c, h2, h3, h4⟩ := h
  exact (write_sector w h4 hd hi b).mono fun e w' ⟨he, hw⟩ => ⟨he, hw ▸ h', hw ▸ Below.refl _ _⟩
theorem dk_write_arg (h : Dk w B g S) (hd : S.down = false) {i : Nat} (hi : i < S.n) (A : Option Addr) (n cap : Nat) (hn : n ≠ 64) : Calls Try.prog 13 #[.pointer (some ⟨g, 0, none⟩), .int .i64 (i : Int), .slice A n cap] w (DkP B g S (.int .i64 2) w) := by
  have h' := h
  obtain ⟨h0, h1, m, c, h2, h3, h4⟩ := h
  exact (write_arg w h4 hd hi A n cap hn).mono fun e w' ⟨he, hw⟩ => ⟨he, hw ▸ h', hw ▸ Below.refl _ _⟩
theorem dk_flush (h : Dk w B g S) (hd : S.down = false) (hf : S.fails = false) : Calls Try.prog 20 #[.pointer (some ⟨g, 0, none⟩)] w (DkP B g S.took.flushed (.int .i64 0) w) := by
  obtain ⟨h0, h1, m, c, h2, h3, h4⟩ := h
  exact (flush_goes w h4 hd hf).mono fun e w' ⟨he, c', hD, hB, hc'⟩ => ⟨he, did h0 h1 h2 h3 (by omega) (by simp; try omega) hD hB⟩
theorem dk_flush_fails (h : Dk w B g S) (hd : S.down = false) (hf : S.fails = true) : Calls Try.prog 20 #[.pointer (some ⟨g, 0, none⟩)] w (DkP B g S.failed (.int .i64 15) w) := by
  obtain ⟨h0, h1, m, c, h2, h3, h4⟩ := h
  exact (flush_fails w h4 hd hf).mono fun e w' ⟨he, hD, hB⟩ => ⟨he, did h0 h1 h2 h3 h3 (by simp) hD hB⟩
theorem dk_flush_down (h : Dk w B g S) (hd : S.down = true) : Calls Try.prog 20 #[.pointer (some ⟨g, 0, none⟩)] w (DkP B g S (.int .i64 15) w) := by
  have h' := h
  obtain ⟨h0, h1, m, c, h2, h3, h4⟩ := h
  exact (flush_down w h4 hd).mono fun e w' ⟨he, hw⟩ => ⟨he, hw ▸ h', hw ▸ Below.refl _ _⟩
theorem dk_crash (h : Dk w B g S) (A : Option Addr) (n cap : Nat) (ks : List Bool) (hk : RdV w A n (bools ks)) (hn : n ≤ 9223372036854775807) : Calls Try.prog 18 #[.pointer (some ⟨g, 0, none⟩), .slice A n cap] w (DkP B g (S.crashed ks) (.tuple #[]) w) := by
  obtain ⟨h0, h1, m, c, h2, h3, h4⟩ := h
  exact (crash_yes w h4 A n cap ks hk hn).mono fun e w' ⟨he, c', hD, hB, hc'⟩ => ⟨he, did h0 h1 h2 h3 (by omega) (by simp; try omega) hD hB⟩
theorem dk_arm (h : Dk w B g S) (hd : S.down = false) (n : Int) (hn : n ≤ 9223372036854775807) : Calls Try.prog 19 #[.pointer (some ⟨g, 0, none⟩), .int .i64 n] w (DkP B g (S.armedBy n.toNat) (.tuple #[]) w) := by
  obtain ⟨h0, h1, m, c, h2, h3, h4⟩ := h
  exact (arm_up w h4 hd n hn).mono fun e w' ⟨he, hD, hB⟩ => ⟨he, did h0 h1 h2 h3 h3 (by simp) hD hB⟩
theorem dk_arm_down (h : Dk w B g S) (hd : S.down = true) (n : Int) : Calls Try.prog 19 #[.pointer (some ⟨g, 0, none⟩), .int .i64 n] w (DkP B g S (.tuple #[]) w) := by
  have h' := h
  obtain ⟨h0, h1, m, c, h2, h3, h4⟩ := h
  exact (arm_down w h4 hd n).mono fun e w' ⟨he, hw⟩ => ⟨he, hw ▸ h', hw ▸ Below.refl _ _⟩
theorem dk_spoil (h : Dk w B g S) (i : Nat) (hi : i < S.n) (k : Nat) (hk : k < 64) (t : UInt8) : Calls Try.prog 15 #[.pointer (some ⟨g, 0, none⟩), .int .i64 (i : Int), .int .i64 (k : Int), .int .u8 (t.toNat : Int)] w (DkP B g (S.spoilt i (turn (S.med i) k t)) (.int .i64 0) w) := by
  obtain ⟨h0, h1, m, c, h2, h3, h4⟩ := h
  exact (spoil_yes w h4 hi hk t).mono fun e w' ⟨he, hD, hB⟩ => ⟨he, did h0 h1 h2 h3 h3 (by simp) hD hB⟩
theorem dk_spoil_sector (h : Dk w B g S) {i : Int} (hi : i < 0 ∨ (S.n : Int) ≤ i) (a t : Int) : Calls Try.prog 15 #[.pointer (some ⟨g, 0, none⟩), .int .i64 i, .int .i64 a, .int .u8 t] w (DkP B g S (.int .i64 50) w) := by
  have h' := h
  obtain ⟨h0, h1, m, c, h2, h3, h4⟩ := h
  exact (spoil_sector w h4 hi a t).mono fun e w' ⟨he, hw⟩ => ⟨he, hw ▸ h', hw ▸ Below.refl _ _⟩
theorem dk_spoil_arg (h : Dk w B g S) {i : Nat} (hi : i < S.n) {a : Int} (ha : a < 0 ∨ 64 ≤ a) (t : Int) : Calls Try.prog 15 #[.pointer (some ⟨g, 0, none⟩), .int .i64 (i : Int), .int .i64 a, .int .u8 t] w (DkP B g S (.int .i64 2) w) := by
  have h' := h
  obtain ⟨h0, h1, m, c, h2, h3, h4⟩ := h
  exact (spoil_arg w h4 hi ha t).mono fun e w' ⟨he, hw⟩ => ⟨he, hw ▸ h', hw ▸ Below.refl _ _⟩
theorem dk_down (h : Dk w B g S) {q : Bool} (hq : S.down = q) : Calls Try.prog 31 #[.pointer (some ⟨g, 0, none⟩)] w fun e w' => e = .returned (.bool q) ∧ w = w' := by
  obtain ⟨h0, h1, m, c, h2, h3, h4⟩ := h
  rw [← hq]
  exact down_yes w h4
theorem dk_size (h : Dk w B g S) : Calls Try.prog 12 #[.pointer (some ⟨g, 0, none⟩)] w fun e w' => e = .returned (.int .i64 (S.n : Int)) ∧ w = w' := by
  obtain ⟨h0, h1, m, c, h2, h3, h4⟩ := h
  exact size_yes w h4
theorem dk_cached (h : Dk w B g S) : Calls Try.prog 32 #[.pointer (some ⟨g, 0, none⟩)] w (CachedIs S w) := by
  obtain ⟨h0, h1, m, c, h2, h3, h4⟩ := h
  exact cached_yes w h4
/-- what Read answers: bytes of the call's own, and the error -/
def ReadIs (l : List UInt8) (w : World) (e : Ending) (w' : World) : Prop := e = .returned (.tuple #[.slice (some ⟨w.heap.size, 0, none⟩) 64 64, .int .i64 0]) ∧ w' = w.alloc (.cells (bvs l).toArray 77)
theorem dk_read (h : Dk w B g S) (hd : S.down = false) (i : Nat) (hi : i < S.n) : Calls Try.prog 16 #[.pointer (some ⟨g, 0, none⟩), .int .i64 (i : Int)] w (ReadIs (S.at_ i) w) := by
  obtain ⟨h0, h1, m, c, h2, h3, h4⟩ := h
  exact read_yes w h4 hd hi
theorem dk_read_down (h : Dk w B g S) (hd : S.down = true) (i : Int) : Calls Try.prog 16 #[.pointer (some ⟨g, 0, none⟩), .int .i64 i] w fun e w' => e = .returned (.tuple #[.slice none 0 0, .int .i64 15]) ∧ w = w' := by
  obtain ⟨h0, h1, m, c, h2, h3, h4⟩ := h
  exact read_down w h4 hd i
theorem dk_read_sector (h : Dk w B g S) (hd : S.down = false) {i : Int} (hi : i < 0 ∨ (S.n : Int) ≤ i) : Calls Try.prog 16 #[.pointer (some ⟨g, 0, none⟩), .int .i64 i] w fun e w' => e = .returned (.tuple #[.slice none 0 0, .int .i64 50]) ∧ w = w' := by
  obtain ⟨h0, h1, m, c, h2, h3, h4⟩ := h
  exact read_sector w h4 hd hi
theorem dk_reads (h : Dk w B g S) (hd : S.down = false) (i : Nat) (hi : i < S.n) (b : UInt8) {q : Bool} (hq : (S.at_ i == ofB b) = q) : Calls Try.prog 17 #[.pointer (some ⟨g, 0, none⟩), .int .i64 (i : Int), .int .u8 (b.toNat : Int)] w fun e w' => e = .returned (.bool q) ∧ Below w.heap.size w w' := by
  obtain ⟨h0, h1, m, c, h2, h3, h4⟩ := h
  exact reads_k w h4 hd hi b hq
theorem dk_reads_down (h : Dk w B g S) (hd : S.down = true) (i : Int) (b : UInt8) : Calls Try.prog 17 #[.pointer (some ⟨g, 0, none⟩), .int .i64 i, .int .u8 (b.toNat : Int)] w fun e w' => e = .returned (.bool false) ∧ Below w.heap.size w w' := by
  obtain ⟨h0, h1, m, c, h2, h3, h4⟩ := h
  exact reads_down w h4 hd i b
end
theorem drewN_two (w : World) (a b : Nat) : (w.drewN a).drewN b = w.drewN (a + b) := by unfold World.drewN; simp only [Nat.add_assoc]
def SameP (q : Bool) (w : World) (e : Ending) (w' : World) : Prop := e = .returned (.bool q) ∧ ∃ n, w' = w.drewN n
/-- two slices of ints -/
theorem sameints_k (A : Option Addr) (n c : Nat) (l : List Nat) (E : Option Addr) (m d : Nat) (k : List Nat) (w : World) (ha : RdV w A n (ints l)) (hb : RdV w E m (ints k)) (hn : n ≤ 1000000) (hm : m ≤ 1000000) {q : Bool} (hq : (l == k) = q) :
    Calls Try.prog 36 #[.slice A n c, .slice E m d] w (SameP q w) := by
  have hln : l.length = n := by have := ha.len; simpa [ints] using this
  have hlm : k.length = m := by have := hb.len; simpa [ints] using this
  by_cases hnm : n = m
  · subst hnm
    have HA := Lib.hid ha
    have HE := Lib.hid hb
    have HL := Lib.hid (And.intro hln (And.intro hlm hq))
    clear ha hb hln hlm hq
    go_enter Try.func36, Try.ntmps36
    go_wp2
    go_loopw [5] (fun i wr => ∃ j n0 : Nat, j ≤ n ∧ i = .int .i64 j ∧ Hid (l.take j = k.take j) ∧ wr = w.drewN n0) (fun i _ => n - (Go.RowKit.intOf i).toNat)
    case atStart => exact ⟨0, 0, by omega, rfl, rfl, rfl⟩
    case round =>
      obtain ⟨j, n0, hj, rfl, HT, rfl⟩ := hrel
      by_cases hlt : j < n
      · obtain ⟨ad, v, rfl, _, hv, hc1⟩ := HA.out.at_ hlt
        obtain ⟨ae, u, rfl, _, hu, hc2⟩ := HE.out.at_ hlt
        obtain ⟨x, hx⟩ : ∃ x, l[j]? = some x := ⟨_, List.getElem?_eq_getElem (by rw [HL.out.1]; exact hlt)⟩
        obtain ⟨y, hy⟩ : ∃ y, k[j]? = some y := ⟨_, List.getElem?_eq_getElem (by rw [HL.out.2.1]; exact hlt)⟩
        obtain rfl : v = .int .i64 (x : Int) := by
          unfold ints at hv
          rw [List.getElem?_map, hx] at hv
          injection hv with hv
          exact hv.symm
        obtain rfl : u = .int .i64 (y : Int) := by
          unfold ints at hu
          rw [List.getElem?_map, hy] at hu
          injection hu with hu
          exact hu.symm
        have HXY := Lib.hid (And.intro hx hy)
        have hw1 : IntKind.i64.wrap ((j : Int) + 1) = (j : Int) + 1 := IntWalk.i64_in _ (by omega)
        clear hv hu hx hy
        have hi1 : (0 : Int) ≤ (j : Int) := by omega
        have hi2 : (j : Int) < (n : Int) := by omega
        by_cases hxy : x = y
        · subst hxy
          clear hw1
          go_wp2
          go_quiet (fail)
          go_wp2
          go_roundw
          case rel =>
            refine ⟨j + 1, _, by omega, by go_num, ?_, rfl⟩
            show l.take (j + 1) = k.take (j + 1)
            rw [List.take_add_one, List.take_add_one, HT.out, HXY.out.1, HXY.out.2]
          case measure => simp [Go.RowKit.intOf]; omega
        · have hne : ((x : Int) != (y : Int)) = true := by simp; omega
          have hq : q = false := by
            rw [← HL.out.2.2, beq_eq_false_iff_ne]
            rintro rfl
            have := HXY.out.1.symm.trans HXY.out.2
            injection this with this
            exact hxy this
          clear hw1
          go_wp2
          go_quiet (fail)
          go_wp2
          go_ret
          subst hq
          exact ⟨rfl, _, drewN_two _ _ _⟩
      · obtain rfl : j = n := by omega
        have hq : q = true := by
          rw [← HL.out.2.2, beq_iff_eq]
          have := HT.out
          rwa [List.take_of_length_le (by rw [HL.out.1]; exact Nat.le_refl _), List.take_of_length_le (by rw [HL.out.2.1]; exact Nat.le_refl _)] at this
        go_wp2
        go_ret
        subst hq
        exact ⟨rfl, _, rfl⟩
  · have hq' : q = false := by
      rw [← hq, beq_eq_false_iff_ne]
      rintro rfl
      omega
    subst hq'
    clear hq
    have hd : ((n : Int) != (m : Int)) = true := by simp; omega
    go_enter Try.func36, Try.ntmps36
    go_wp2
    go_ret
    exact ⟨rfl, 0, rfl⟩
end Go.Proofs.Ytlhhijhmjkgnaaa
