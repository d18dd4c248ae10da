import Derived.Test.YtfibkpjodhcppaaAwake
import Derived.Test.YtfibkpjodhcppaaUnseal
import Derived.Test.YtfibkpjodhcppaaBlobs
import Derived.Test.YtfibkpjodhcppaaEntry
import Derived.Deep.QuietTactic
import Derived.BigQuiet
namespace Go.Proofs.Ytfibkpjodhcppaa
open Go.RowKit Go.Coop

def c1 (i : Nat) : Nat := min i 32768
def c2 (i : Nat) : Nat := 127 * ((i - 32768) / 256) + min ((i - 32768) % 256 - 1) 127
def c10 (i : Nat) : Nat := (i - 32768 + 255) / 256
def c11 (i : Nat) : Nat := 128 * ((i - 32768) / 256) + ((i - 32768) % 256 - 128)
def I64 (n : Nat) : Value := .int .i64 (n : Int)
/-- how many there have been of each kind -/
def marr (a b c d : Nat) : Array Value := #[.int .i64 0, I64 a, I64 b, .int .i64 0, .int .i64 0, .int .i64 0, .int .i64 0, .int .i64 0, .int .i64 0, .int .i64 0, I64 c, I64 d]

theorem marr_1 (a b c d : Nat) : (marr a b c d).setIfInBounds 1 (.int .i64 ((a : Int) + 1)) = marr (a + 1) b c d := rfl
theorem marr_2 (a b c d : Nat) : (marr a b c d).setIfInBounds 2 (.int .i64 ((b : Int) + 1)) = marr a (b + 1) c d := rfl
theorem marr_10 (a b c d : Nat) : (marr a b c d).setIfInBounds 10 (.int .i64 ((c : Int) + 1)) = marr a b (c + 1) d := rfl
theorem marr_11 (a b c d : Nat) : (marr a b c d).setIfInBounds 11 (.int .i64 ((d : Int) + 1)) = marr a b c (d + 1) := rfl
/-- what a round leaves -/
theorem nround {w0 wr : World} {B1 g k : Nat} {a b c d a' b' c' d' : Nat} {x : Value} (hg : wr.heap[g]? = some (.cells (marr a b c d) 26 (0, 0))) (hset : (marr a b c d).setIfInBounds k x = marr a' b' c' d') (hgB : w0.heap.size ≤ g) (h1 : B1 < g)
    (ht : TabAt wr ⟨B1, 0, none⟩ entry) (hb : Below w0.heap.size w0 wr) (o : Obj) (n : Nat) :
    (((wr.setCell ⟨g, k, none⟩ x).alloc o).drewN n).heap[g]? = some (.cells (marr a' b' c' d') 26 (0, 0)) ∧ TabAt (((wr.setCell ⟨g, k, none⟩ x).alloc o).drewN n) ⟨B1, 0, none⟩ entry ∧ Below w0.heap.size w0 (((wr.setCell ⟨g, k, none⟩ x).alloc o).drewN n) := by
  have hgl : g < wr.heap.size := (Array.getElem?_eq_some_iff.1 hg).1
  have hsz : (wr.setCell ⟨g, k, none⟩ x).heap.size = wr.heap.size := by simp [World.setCell]
  have h2 : (wr.setCell ⟨g, k, none⟩ x).heap[g]? = some (.cells (marr a' b' c' d') 26 (0, 0)) := by rw [heap_setCell_same wr g k _ 26 x hg, hset]
  have hb2 : Below g wr ((wr.setCell ⟨g, k, none⟩ x).alloc o) := ((Below.refl g wr).setCell (p := ⟨g, k, none⟩) (Nat.le_refl _) x).alloc (by rw [hsz]; omega) o
  refine ⟨?_, ?_, ?_⟩
  · show ((wr.setCell ⟨g, k, none⟩ x).alloc o).heap[g]? = _
    rw [Below.heap_alloc _ o g (by rw [hsz]; exact hgl)]
    exact h2
  · exact fun i hi => ((ht.below h1 hb2) i hi)
  · have := hb.trans (hb2.mono hgB)
    exact ⟨this.os, this.tape, this.output, this.size, this.block⟩

theorem getU2 (a b : UInt8) : getU [a, b] 0 = if a.toNat < 128 then (a.toNat, 1, 0) else if b.toNat = 0 then (0, 0, 10) else if b.toNat < 128 then (a.toNat % 128 + b.toNat * 128, 2, 0) else (0, 0, 11) := by
  have ha := a.toNat_lt
  have hb := b.toNat_lt
  have e := getU_of (l := [a, b]) (x := 0) (by simp) (s := scan [a, b] 0 0) rfl
  have e0 : ((0 : Nat) : Int) = 0 := rfl
  rw [e0] at e
  rw [e]
  by_cases h1 : a.toNat < 128
  · have : scan [a, b] 0 0 = (a.toNat, 1, 0) := by
      simp [scan, h1]
    rw [this, if_pos h1]; rfl
  · by_cases h2 : b.toNat = 0
    · have : scan [a, b] 0 0 = (0, 0, 10) := by simp [scan, h1, h2]
      rw [this, if_neg h1, if_pos h2]; rfl
    · by_cases h3 : b.toNat < 128
      · have : scan [a, b] 0 0 = (a.toNat % 128 + b.toNat * 128, 2, 0) := by
          simp [scan, h1, h2, h3]; omega
        rw [this, if_neg h1, if_neg h2, if_pos h3]; rfl
      · have : scan [a, b] 0 0 = (0, 0, 11) := by simp [scan, h1, h2, h3]
        rw [this, if_neg h1, if_neg h2, if_neg h3]; rfl

theorem size26 : (Try.prog.info? 26).map (·.size) = some 12 := by kernel_rfl

theorem rd_const (w : World) (l : List UInt8) (fr : Nat × Nat) : Rd (w.alloc (.cells (bvs l).toArray 5 fr)) (some ⟨w.heap.size, 0, none⟩) l.length l :=
  Rd.new w l _ 5 fr fun j c hj => by simpa using bvs_at' hj

theorem rd_two (w : World) (x y : Int) (hx : 0 ≤ x) (hx2 : x < 256) (hy : 0 ≤ y) (hy2 : y < 256) (fr : Nat × Nat) : Rd (w.alloc (.cells #[.int .u8 x, .int .u8 y] 5 fr)) (some ⟨w.heap.size, 0, none⟩) 2 [UInt8.ofNat x.toNat, UInt8.ofNat y.toNat] :=
  Rd.new w [UInt8.ofNat x.toNat, UInt8.ofNat y.toNat] _ 5 fr fun j c hj => by
    match j, hj with
    | 0, hj => simp at hj; subst hj; simp [bv_of x hx hx2]
    | 1, hj => simp at hj; subst hj; simp [bv_of y hy hy2]
theorem ofNat_val (x : Int) (hx : 0 ≤ x) (hx2 : x < 256) : (UInt8.ofNat x.toNat).toNat = x.toNat := by rw [UInt8.toNat_ofNat']; omega

set_option maxHeartbeats 4000000 in
set_option maxRecDepth 100000 in
theorem numbers_any (w : World) : Calls Try.prog 3 #[] w fun e w' => e = .returned (.bool true) ∧ Below w.heap.size w w' := by
  obtain ⟨Z, hZs, hz⟩ := zero24
  have HZ := Lib.hid hZs
  clear hZs
  go_enter Try.func3, Try.ntmps3
  go_wp2_with (first
    | (go_at_call 10; refine (table_any _).mono ?_; rintro e w1 ⟨rfl, hb1⟩; rw [show tarr ((List.range 256).map entry) = T0 from rfl])
    | ((with_reducible refine wpList_store_new (o := ⟨none, .store 24 (.tmp 1) (.tmp 26), _, _, _, _⟩) ?_ 24 (.tmp 1) (.tmp 26) ?_ T0 Z ?_ ?_ 24 size24' HZ.out T0_one ?_)
       case refine_1 => rfl
       case refine_2 => rfl
       case refine_3 => rfl
       case refine_4 => rfl))
  have HT0 := Lib.hid (tab_new w1 (0, 0))
  have HB0 := Lib.hid hb1
  have hs1 := hb1.size
  clear hz hb1
  go_loopw [3] (fun v wr => ∃ i : Nat, i ≤ 65536 ∧ v = .int .i64 i ∧ wr.heap[w1.heap.size + 1]? = some (.cells (marr (c1 i) (c2 i) (c10 i) (c11 i)) 26 (0, 0)) ∧ TabAt wr ⟨w1.heap.size, 0, none⟩ entry ∧ Below w.heap.size w wr) (fun v _ => 65536 - (intOf v).toNat)
  case atStart =>
    refine ⟨0, by omega, rfl, heap_alloc2_new w1 _ _, ?_, (HB0.out.alloc hs1 _).alloc (by rw [size_alloc]; omega) _⟩
    exact HT0.out.below (B := w1.heap.size + 1) (by simp) ((Below.refl _ _).alloc (by simp) _)
  case round =>
    obtain ⟨i, hi, rfl, hblk, htab, hbel⟩ := hrel
    have hbk : w1.heap.size + 1 < wr.heap.size := (Array.getElem?_eq_some_iff.1 hblk).1
    have HBK := Lib.hid hblk
    have HTB := Lib.hid htab
    have HBL := Lib.hid hbel
    have hsr := hbel.size
    clear hblk htab hbel
    by_cases hlt : i < 65536
    · have hcase : i < 256 ∨ (256 ≤ i ∧ i < 32768) ∨ (32768 ≤ i ∧ i % 256 = 0) ∨ (32768 ≤ i ∧ 1 ≤ i % 256 ∧ i % 256 < 128) ∨ (32768 ≤ i ∧ 128 ≤ i % 256) := by omega
      rcases hcase with h | ⟨h, h'⟩ | ⟨h, h'⟩ | ⟨h, h', h''⟩ | ⟨h, h'⟩
      · have hG := getUint_any _ _ 2 _ 0 _ (rd_two wr ((i : Int) / 256) ((i : Int) % 256) (by omega) (by omega) (by omega) (by omega) (0, 0)) (by omega) (by omega)
        rw [getU2, ofNat_val _ (by omega) (by omega), ofNat_val _ (by omega) (by omega), if_pos (show ((i : Int) / 256).toNat < 128 by omega)] at hG
        have HG := Lib.hid hG
        have hcell : ∀ o, (wr.alloc o).cell? ⟨w1.heap.size + 1, 1, none⟩ = some (.int .i64 ((c1 i : Nat) : Int)) := fun o => by
          rw [World.cell?_alloc_lt wr o _ (by exact hbk), cell_of_row wr _ 1 _ 26 (0, 0) HBK.out]; rfl
        have hfz : ∀ o, (wr.alloc o).frozen? ⟨w1.heap.size + 1, 1, none⟩ = false := fun o => frozen_of_row (wr.alloc o) _ 1 _ 26 (by rw [Below.heap_alloc wr o _ hbk]; exact HBK.out)
        have hcb : c1 i ≤ 65536 := by unfold c1; omega
        have HCs : Hid (c1 (i + 1) = c1 i + 1 ∧ c2 (i + 1) = c2 i ∧ c10 (i + 1) = c10 i ∧ c11 (i + 1) = c11 i) := by unfold Hid c1 c2 c10 c11; omega
        obtain ⟨C, hC⟩ : ∃ C, c1 i = C := ⟨_, rfl⟩
        rw [hC] at hcell hcb
        have HC := Lib.hid hC
        have hd : decide ((i : Int) < 65536) = true := by simp; omega
        have hI : (i : Int) ≤ 65535 := by omega
        have hI0 : (0 : Int) ≤ (i : Int) := by omega
        have hCI : (C : Int) ≤ 65536 := by omega
        have hd2 : decide ((i : Int) < 256) = true := by simp; omega
        have HH := Lib.hid (And.intro hlt h)
        clear hG hC hlt hi hcb h 
        go_wp2_with fail
        refine HG.out.mono ?_
        rintro e w' ⟨rfl, rfl⟩
        go_wp2_with fail
        clear hcell hfz
        have hlt := HH.out.1
        have h := HH.out.2
        have hcl : ∀ o n, (((wr.setCell ⟨w1.heap.size + 1, 1, none⟩ (.int .i64 ((C : Int) + 1))).alloc o).drewN n).cell? ⟨w1.heap.size, i, none⟩ = some (.int .u32 ((entry i : Nat) : Int)) := fun o n => by
          have := ((nround HBK.out (k := 1) (marr_1 _ _ _ _) (by omega) (by omega) HTB.out HBL.out o n).2.1 i (by omega)).2
          have hadd : (⟨w1.heap.size, 0, none⟩ : Addr).add i = ⟨w1.heap.size, i, none⟩ := by unfold Addr.add; split <;> simp_all
          rwa [hadd, HC.out] at this
        have hcl0 : ∀ o, ((wr.setCell ⟨w1.heap.size + 1, 1, none⟩ (.int .i64 ((C : Int) + 1))).alloc o).cell? ⟨w1.heap.size, i, none⟩ = some (.int .u32 ((entry i : Nat) : Int)) := fun o => hcl o 0
        have hI256 : (i : Int) < 256 := by omega
        have HE := Lib.hid (fun W => entry_any i W (by omega))
        generalize entry i = En at *
        clear hcl
        go_quiet ((go_at_call 12; exact Calls.quiet_of_same ((HE.out _).mono fun _ _ ⟨h1, h2⟩ => ⟨h1, h2.symm⟩)))
        clear hlt h
        go_wp2
        go_roundw
        case rel =>
          obtain ⟨e1, e2, e3, e4⟩ := HCs.out
          have hn := fun o n => nround HBK.out (k := 1) (x := .int .i64 ((C : Int) + 1)) (by rw [← HC.out]; exact marr_1 _ _ _ _) (by omega) (by omega) HTB.out HBL.out o n
          rw [← e1, ← e2, ← e3, ← e4] at hn
          refine ⟨i + 1, by have := HH.out.1; omega, by go_num, (hn _ _).1, (hn _ _).2.1, (hn _ _).2.2⟩
        case measure => simp [intOf]; have := HH.out.1; omega
      · have hG := getUint_any _ _ 2 _ 0 _ (rd_two wr ((i : Int) / 256) ((i : Int) % 256) (by omega) (by omega) (by omega) (by omega) (0, 0)) (by omega) (by omega)
        rw [getU2, ofNat_val _ (by omega) (by omega), ofNat_val _ (by omega) (by omega), if_pos (show ((i : Int) / 256).toNat < 128 by omega)] at hG
        have HG := Lib.hid hG
        have hcell : ∀ o, (wr.alloc o).cell? ⟨w1.heap.size + 1, 1, none⟩ = some (.int .i64 ((c1 i : Nat) : Int)) := fun o => by
          rw [World.cell?_alloc_lt wr o _ (by exact hbk), cell_of_row wr _ 1 _ 26 (0, 0) HBK.out]; rfl
        have hfz : ∀ o, (wr.alloc o).frozen? ⟨w1.heap.size + 1, 1, none⟩ = false := fun o => frozen_of_row (wr.alloc o) _ 1 _ 26 (by rw [Below.heap_alloc wr o _ hbk]; exact HBK.out)
        have hcb : c1 i ≤ 65536 := by unfold c1; omega
        have HCs : Hid (c1 (i + 1) = c1 i + 1 ∧ c2 (i + 1) = c2 i ∧ c10 (i + 1) = c10 i ∧ c11 (i + 1) = c11 i) := by unfold Hid c1 c2 c10 c11; omega
        obtain ⟨C, hC⟩ : ∃ C, c1 i = C := ⟨_, rfl⟩
        rw [hC] at hcell hcb
        have HC := Lib.hid hC
        have hd : decide ((i : Int) < 65536) = true := by simp; omega
        have hI : (i : Int) ≤ 65535 := by omega
        have hI0 : (0 : Int) ≤ (i : Int) := by omega
        have hCI : (C : Int) ≤ 65536 := by omega
        have hd2 : decide ((i : Int) < 256) = false := by simp; omega
        have HH := Lib.hid (And.intro hlt h)
        clear hG hC hlt hi hcb h h'
        go_wp2_with fail
        refine HG.out.mono ?_
        rintro e w' ⟨rfl, rfl⟩
        go_wp2_with fail
        clear hcell hfz
        have hlt := HH.out.1
        have h := HH.out.2
        go_quiet (fail)
        clear hlt h
        go_wp2
        go_roundw
        case rel =>
          obtain ⟨e1, e2, e3, e4⟩ := HCs.out
          have hn := fun o n => nround HBK.out (k := 1) (x := .int .i64 ((C : Int) + 1)) (by rw [← HC.out]; exact marr_1 _ _ _ _) (by omega) (by omega) HTB.out HBL.out o n
          rw [← e1, ← e2, ← e3, ← e4] at hn
          refine ⟨i + 1, by have := HH.out.1; omega, by go_num, (hn _ _).1, (hn _ _).2.1, (hn _ _).2.2⟩
        case measure => simp [intOf]; have := HH.out.1; omega
      · have hG := getUint_any _ _ 2 _ 0 _ (rd_two wr ((i : Int) / 256) ((i : Int) % 256) (by omega) (by omega) (by omega) (by omega) (0, 0)) (by omega) (by omega)
        rw [getU2, ofNat_val _ (by omega) (by omega), ofNat_val _ (by omega) (by omega), if_neg (show ¬ ((i : Int) / 256).toNat < 128 by omega), if_pos (show ((i : Int) % 256).toNat = 0 by omega)] at hG
        have HG := Lib.hid hG
        have hcell : ∀ o, (wr.alloc o).cell? ⟨w1.heap.size + 1, 10, none⟩ = some (.int .i64 ((c10 i : Nat) : Int)) := fun o => by
          rw [World.cell?_alloc_lt wr o _ (by exact hbk), cell_of_row wr _ 10 _ 26 (0, 0) HBK.out]; rfl
        have hfz : ∀ o, (wr.alloc o).frozen? ⟨w1.heap.size + 1, 10, none⟩ = false := fun o => frozen_of_row (wr.alloc o) _ 10 _ 26 (by rw [Below.heap_alloc wr o _ hbk]; exact HBK.out)
        have hcb : c10 i ≤ 65536 := by unfold c10; omega
        have HCs : Hid (c1 (i + 1) = c1 i ∧ c2 (i + 1) = c2 i ∧ c10 (i + 1) = c10 i + 1 ∧ c11 (i + 1) = c11 i) := by unfold Hid c1 c2 c10 c11; omega
        obtain ⟨C, hC⟩ : ∃ C, c10 i = C := ⟨_, rfl⟩
        rw [hC] at hcell hcb
        have HC := Lib.hid hC
        have hd : decide ((i : Int) < 65536) = true := by simp; omega
        have hI : (i : Int) ≤ 65535 := by omega
        have hI0 : (0 : Int) ≤ (i : Int) := by omega
        have hCI : (C : Int) ≤ 65536 := by omega
        have hd2 : decide ((i : Int) < 256) = false := by simp; omega
        have HH := Lib.hid (And.intro hlt h)
        clear hG hC hlt hi hcb h h'
        go_wp2_with fail
        refine HG.out.mono ?_
        rintro e w' ⟨rfl, rfl⟩
        go_wp2_with fail
        clear hcell hfz
        have hlt := HH.out.1
        have h := HH.out.2
        go_quiet (fail)
        clear hlt h
        go_wp2
        go_roundw
        case rel =>
          obtain ⟨e1, e2, e3, e4⟩ := HCs.out
          have hn := fun o n => nround HBK.out (k := 10) (x := .int .i64 ((C : Int) + 1)) (by rw [← HC.out]; exact marr_10 _ _ _ _) (by omega) (by omega) HTB.out HBL.out o n
          rw [← e1, ← e2, ← e3, ← e4] at hn
          refine ⟨i + 1, by have := HH.out.1; omega, by go_num, (hn _ _).1, (hn _ _).2.1, (hn _ _).2.2⟩
        case measure => simp [intOf]; have := HH.out.1; omega
      · have hG := getUint_any _ _ 2 _ 0 _ (rd_two wr ((i : Int) / 256) ((i : Int) % 256) (by omega) (by omega) (by omega) (by omega) (0, 0)) (by omega) (by omega)
        rw [getU2, ofNat_val _ (by omega) (by omega), ofNat_val _ (by omega) (by omega), if_neg (show ¬ ((i : Int) / 256).toNat < 128 by omega), if_neg (show ¬ ((i : Int) % 256).toNat = 0 by omega), if_pos (show ((i : Int) % 256).toNat < 128 by omega)] at hG
        have HG := Lib.hid hG
        have hcell : ∀ o, (wr.alloc o).cell? ⟨w1.heap.size + 1, 2, none⟩ = some (.int .i64 ((c2 i : Nat) : Int)) := fun o => by
          rw [World.cell?_alloc_lt wr o _ (by exact hbk), cell_of_row wr _ 2 _ 26 (0, 0) HBK.out]; rfl
        have hfz : ∀ o, (wr.alloc o).frozen? ⟨w1.heap.size + 1, 2, none⟩ = false := fun o => frozen_of_row (wr.alloc o) _ 2 _ 26 (by rw [Below.heap_alloc wr o _ hbk]; exact HBK.out)
        have hcb : c2 i ≤ 65536 := by unfold c2; omega
        have HCs : Hid (c1 (i + 1) = c1 i ∧ c2 (i + 1) = c2 i + 1 ∧ c10 (i + 1) = c10 i ∧ c11 (i + 1) = c11 i) := by unfold Hid c1 c2 c10 c11; omega
        obtain ⟨C, hC⟩ : ∃ C, c2 i = C := ⟨_, rfl⟩
        rw [hC] at hcell hcb
        have HC := Lib.hid hC
        have hd : decide ((i : Int) < 65536) = true := by simp; omega
        have hI : (i : Int) ≤ 65535 := by omega
        have hI0 : (0 : Int) ≤ (i : Int) := by omega
        have hCI : (C : Int) ≤ 65536 := by omega
        have hd2 : decide ((i : Int) < 256) = false := by simp; omega
        have HH := Lib.hid (And.intro hlt h)
        clear hG hC hlt hi hcb h h' h''
        go_wp2_with fail
        refine HG.out.mono ?_
        rintro e w' ⟨rfl, rfl⟩
        go_wp2_with fail
        clear hcell hfz
        have hlt := HH.out.1
        have h := HH.out.2
        go_quiet (fail)
        clear hlt h
        go_wp2
        go_roundw
        case rel =>
          obtain ⟨e1, e2, e3, e4⟩ := HCs.out
          have hn := fun o n => nround HBK.out (k := 2) (x := .int .i64 ((C : Int) + 1)) (by rw [← HC.out]; exact marr_2 _ _ _ _) (by omega) (by omega) HTB.out HBL.out o n
          rw [← e1, ← e2, ← e3, ← e4] at hn
          refine ⟨i + 1, by have := HH.out.1; omega, by go_num, (hn _ _).1, (hn _ _).2.1, (hn _ _).2.2⟩
        case measure => simp [intOf]; have := HH.out.1; omega
      · have hG := getUint_any _ _ 2 _ 0 _ (rd_two wr ((i : Int) / 256) ((i : Int) % 256) (by omega) (by omega) (by omega) (by omega) (0, 0)) (by omega) (by omega)
        rw [getU2, ofNat_val _ (by omega) (by omega), ofNat_val _ (by omega) (by omega), if_neg (show ¬ ((i : Int) / 256).toNat < 128 by omega), if_neg (show ¬ ((i : Int) % 256).toNat = 0 by omega), if_neg (show ¬ ((i : Int) % 256).toNat < 128 by omega)] at hG
        have HG := Lib.hid hG
        have hcell : ∀ o, (wr.alloc o).cell? ⟨w1.heap.size + 1, 11, none⟩ = some (.int .i64 ((c11 i : Nat) : Int)) := fun o => by
          rw [World.cell?_alloc_lt wr o _ (by exact hbk), cell_of_row wr _ 11 _ 26 (0, 0) HBK.out]; rfl
        have hfz : ∀ o, (wr.alloc o).frozen? ⟨w1.heap.size + 1, 11, none⟩ = false := fun o => frozen_of_row (wr.alloc o) _ 11 _ 26 (by rw [Below.heap_alloc wr o _ hbk]; exact HBK.out)
        have hcb : c11 i ≤ 65536 := by unfold c11; omega
        have HCs : Hid (c1 (i + 1) = c1 i ∧ c2 (i + 1) = c2 i ∧ c10 (i + 1) = c10 i ∧ c11 (i + 1) = c11 i + 1) := by unfold Hid c1 c2 c10 c11; omega
        obtain ⟨C, hC⟩ : ∃ C, c11 i = C := ⟨_, rfl⟩
        rw [hC] at hcell hcb
        have HC := Lib.hid hC
        have hd : decide ((i : Int) < 65536) = true := by simp; omega
        have hI : (i : Int) ≤ 65535 := by omega
        have hI0 : (0 : Int) ≤ (i : Int) := by omega
        have hCI : (C : Int) ≤ 65536 := by omega
        have hd2 : decide ((i : Int) < 256) = false := by simp; omega
        have HH := Lib.hid (And.intro hlt h)
        clear hG hC hlt hi hcb h h'
        go_wp2_with fail
        refine HG.out.mono ?_
        rintro e w' ⟨rfl, rfl⟩
        go_wp2_with fail
        clear hcell hfz
        have hlt := HH.out.1
        have h := HH.out.2
        go_quiet (fail)
        clear hlt h
        go_wp2
        go_roundw
        case rel =>
          obtain ⟨e1, e2, e3, e4⟩ := HCs.out
          have hn := fun o n => nround HBK.out (k := 11) (x := .int .i64 ((C : Int) + 1)) (by rw [← HC.out]; exact marr_11 _ _ _ _) (by omega) (by omega) HTB.out HBL.out o n
          rw [← e1, ← e2, ← e3, ← e4] at hn
          refine ⟨i + 1, by have := HH.out.1; omega, by go_num, (hn _ _).1, (hn _ _).2.1, (hn _ _).2.2⟩
        case measure => simp [intOf]; have := HH.out.1; omega
    · obtain rfl : i = 65536 := by omega
      have hblk : wr.heap[w1.heap.size + 1]? = some (.cells (marr 32768 16256 128 16384) 26 (0, 0)) := HBK.out
      have HK2 := Lib.hid hblk
      have hneq : ∀ w, (binOp .neq 26 (.agg (marr 32768 16256 128 16384)) (.agg #[.int .i64 0, .int .i64 32768, .int .i64 16256, .int .i64 0, .int .i64 0, .int .i64 0, .int .i64 0, .int .i64 0, .int .i64 0, .int .i64 0, .int .i64 128, .int .i64 16384])).run Try.prog w = .ok (.bool false) w := fun _ => by kernel_rfl
      clear hblk hi hlt HBK
      generalize hMe : marr 32768 16256 128 16384 = M at *
      have HM : Hid (M.size = 12) := by rw [← hMe]; rfl
      clear hMe
      have hd : decide (((65536 : Nat) : Int) < 65536) = false := by decide
      have kcc := fun (w : World) (C : Array Value) (n c : Nat) => Lib.run_convert_bytes_const (P := Try.prog) w 32 5 C n c Try.underlying32 Try.underlying5
      go_wp2_with (
        (with_reducible refine wpList_load_row (o := ⟨some 67, .load 26 (.tmp 2), _, _, _, _⟩) ?_ 26 (.tmp 2) ?_ (w1.heap.size + 1) ?_ 26 M (0, 0) _ HK2.out Try.underlying26 ?_ ?_ ?_)
        case refine_1 => rfl
        case refine_2 => rfl
        case refine_3 => rfl
        case refine_4 => rfl
        case refine_5 => rw [HM.out]; exact size26)
      clear hneq hd
      have hU := uint_nil 18446744073709551615 wr (by omega)
      rw [show (dig 18446744073709551615).length = 10 from by decide, show dig 18446744073709551615 = [255, 255, 255, 255, 255, 255, 255, 255, 255, 1] from by decide] at hU
      refine hU.mono ?_
      rintro e wa ⟨Aa, ca, rfl, hoa, hbwa⟩
      clear hU
      have ka := conv_str (P := Try.prog) Try.underlying32 Try.underlying5 Try.underlying9 hoa.rd ca
      go_wp2_with fail
      clear ka hoa
      refine (comes_k [255, 255, 255, 255, 255, 255, 255, 255, 255, 1] [255, 255, 255, 255, 255, 255, 255, 255, 255, 1, 32, 10] (0) _ (by decide) (by decide)).mono ?_
      rintro e wb ⟨rfl, hbwb⟩
      go_wp2_with fail
      refine (comes_k [255, 255, 255, 255, 255, 255, 255, 255, 255, 2] [101, 114, 114, 111, 114, 32, 10] (0) _ (by decide) (by decide)).mono ?_
      rintro e wc ⟨rfl, hbwc⟩
      go_wp2_with fail
      refine (comes_k [255, 255, 255, 255, 255, 255, 255, 255, 255, 129, 1] [101, 114, 114, 111, 114, 32, 10] (0) _ (by decide) (by decide)).mono ?_
      rintro e wd ⟨rfl, hbwd⟩
      go_wp2_with fail
      refine (comes_k [255, 255, 255, 255, 255, 255, 255, 255, 255] [101, 114, 114, 111, 114, 32, 11] (0) _ (by decide) (by decide)).mono ?_
      rintro e we ⟨rfl, hbwe⟩
      go_wp2_with fail
      refine (comes_k [] [101, 114, 114, 111, 114, 32, 11] (0) _ (by decide) (by decide)).mono ?_
      rintro e wf ⟨rfl, hbwf⟩
      go_wp2_with fail
      refine (comes_k [97] [101, 114, 114, 111, 114, 32, 11] (1) _ (by decide) (by decide)).mono ?_
      rintro e wg ⟨rfl, hbwg⟩
      go_wp2_with fail
      refine (comes_k [97] [101, 114, 114, 111, 114, 32, 2] (2) _ (by decide) (by decide)).mono ?_
      rintro e wh ⟨rfl, hbwh⟩
      go_wp2_with fail
      refine (comes_k [97] [101, 114, 114, 111, 114, 32, 2] (-1) _ (by decide) (by decide)).mono ?_
      rintro e wi ⟨rfl, hbwi⟩
      go_wp2_with fail
      have HBi : Hid (Below wr.heap.size wr wi) := ((((((((((((((((hbwa).trans (hbwb.mono (hbwa.size)))).trans (hbwc.mono (Nat.le_trans (hbwa.size) hbwb.size)))).trans (hbwd.mono (Nat.le_trans (Nat.le_trans (hbwa.size) hbwb.size) hbwc.size)))).trans (hbwe.mono (Nat.le_trans (Nat.le_trans (Nat.le_trans (hbwa.size) hbwb.size) hbwc.size) hbwd.size)))).trans (hbwf.mono (Nat.le_trans (Nat.le_trans (Nat.le_trans (Nat.le_trans (hbwa.size) hbwb.size) hbwc.size) hbwd.size) hbwe.size)))).trans (hbwg.mono (Nat.le_trans (Nat.le_trans (Nat.le_trans (Nat.le_trans (Nat.le_trans (hbwa.size) hbwb.size) hbwc.size) hbwd.size) hbwe.size) hbwf.size)))).trans (hbwh.mono (Nat.le_trans (Nat.le_trans (Nat.le_trans (Nat.le_trans (Nat.le_trans (Nat.le_trans (hbwa.size) hbwb.size) hbwc.size) hbwd.size) hbwe.size) hbwf.size) hbwg.size)))).trans (hbwi.mono (Nat.le_trans (Nat.le_trans (Nat.le_trans (Nat.le_trans (Nat.le_trans (Nat.le_trans (Nat.le_trans (hbwa.size) hbwb.size) hbwc.size) hbwd.size) hbwe.size) hbwf.size) hbwg.size) hbwh.size)))
      have hti := Lib.hid (HTB.out.below (Nat.lt_trans (Nat.lt_succ_self _) hbk) HBi.out)
      have hbki : w1.heap.size < wi.heap.size := Nat.lt_of_lt_of_le (Nat.lt_trans (Nat.lt_succ_self _) hbk) HBi.out.size
      clear hbwa hbwb hbwc hbwd hbwe hbwf hbwg hbwh hbwi
      have hrwj : Rd (wi.alloc (.cells #[.int .u8 3, .int .u8 97, .int .u8 98] 5 (3, 4))) (some ⟨wi.heap.size, 0, none⟩) 3 [3, 97, 98] := rd_const wi [3, 97, 98] (3, 4)
      have hU := getBlob_any _ _ 3 _ (0) (9) _ hrwj (by omega) (by omega) (by omega)
      rw [show getB [3, 97, 98] (getU [3, 97, 98] (0)) (9) = ([], 0, 11) from by decide] at hU
      refine hU.mono ?_
      rintro e wj ⟨Awj, nwj, cwj, rfl, hqwj, hcwj, hzwj⟩
      have hbwj : Below wi.heap.size wi wj := ((Below.refl _ _).alloc (Nat.le_refl _) _).trans (hzwj.mono (by simp))
      clear hU hrwj hzwj hcwj
      clear hqwj
      go_wp2_with fail
      have hrwk : Rd (wj.alloc (.cells #[.int .u8 3, .int .u8 97, .int .u8 98, .int .u8 99] 5 (4, 5))) (some ⟨wj.heap.size, 0, none⟩) 4 [3, 97, 98, 99] := rd_const wj [3, 97, 98, 99] (4, 5)
      have hU := getBlob_any _ _ 4 _ (0) (2) _ hrwk (by omega) (by omega) (by omega)
      rw [show getB [3, 97, 98, 99] (getU [3, 97, 98, 99] (0)) (2) = ([], 0, 3) from by decide] at hU
      refine hU.mono ?_
      rintro e wk ⟨Awk, nwk, cwk, rfl, hqwk, hcwk, hzwk⟩
      have hbwk : Below wj.heap.size wj wk := ((Below.refl _ _).alloc (Nat.le_refl _) _).trans (hzwk.mono (by simp))
      clear hU hrwk hzwk hcwk
      clear hqwk
      go_wp2_with fail
      have hrwl : Rd (wk.alloc (.cells #[.int .u8 0] 5 (0, 0))) (some ⟨wk.heap.size, 0, none⟩) 1 [0] := rd_const wk [0] (0, 0)
      have hU := getBlob_any _ _ 1 _ (0) (-1) _ hrwl (by omega) (by omega) (by omega)
      rw [show getB [0] (getU [0] (0)) (-1) = ([], 0, 3) from by decide] at hU
      refine hU.mono ?_
      rintro e wl ⟨Awl, nwl, cwl, rfl, hqwl, hcwl, hzwl⟩
      have hbwl : Below wk.heap.size wk wl := ((Below.refl _ _).alloc (Nat.le_refl _) _).trans (hzwl.mono (by simp))
      clear hU hrwl hzwl hcwl
      clear hqwl
      go_wp2_with fail
      have hrwm : Rd (wl.alloc (.cells #[.int .u8 9, .int .u8 0, .int .u8 9] 5 (0, 0))) (some ⟨wl.heap.size, 0, none⟩) 3 [9, 0, 9] := rd_const wl [9, 0, 9] (0, 0)
      have hU := getBlob_any _ _ 3 _ (1) (0) _ hrwm (by omega) (by omega) (by omega)
      rw [show getB [9, 0, 9] (getU [9, 0, 9] (1)) (0) = ([], 2, 0) from by decide] at hU
      refine hU.mono ?_
      rintro e wm ⟨Awm, nwm, cwm, rfl, hqwm, hcwm, hzwm⟩
      have hbwm : Below wl.heap.size wl wm := ((Below.refl _ _).alloc (Nat.le_refl _) _).trans (hzwm.mono (by simp))
      clear hU hrwm hzwm hcwm
      have hnm : nwm = 0 := hqwm.len.symm
      subst hnm
      clear hqwm
      have HBm : Hid (Below wi.heap.size wi wm) := ((((((hbwj).trans (hbwk.mono (hbwj.size)))).trans (hbwl.mono (Nat.le_trans (hbwj.size) hbwk.size)))).trans (hbwm.mono (Nat.le_trans (Nat.le_trans (hbwj.size) hbwk.size) hbwl.size)))
      have htm := Lib.hid (hti.out.below hbki HBm.out)
      have hbkm : w1.heap.size < wm.heap.size := Nat.lt_of_lt_of_le hbki HBm.out.size
      clear hbwj hbwk hbwl hbwm
      go_wp2_with fail
      have hrwn : Rd (wm.alloc (.cells #[.int .u8 0, .int .u8 0, .int .u8 0] 5 (0, 0))) (some ⟨wm.heap.size, 0, none⟩) 3 [0, 0, 0] := rd_const wm [0, 0, 0] (0, 0)
      have hU := unseal_any _ _ _ _ 3 _ _ (htm.out.below (B := wm.heap.size) hbkm ((Below.refl _ _).alloc (Nat.le_refl _) _)) hrwn (by omega) (by omega)
      rw [show unsealed (crc entry (([0, 0, 0] : List UInt8).take (3 - 4))) [0, 0, 0] = ([], 11) from by decide +kernel] at hU
      refine hU.mono ?_
      rintro e wn ⟨Awn, nwn, cwn, rfl, hqwn, hcwn, hzwn⟩
      have hbwn : Below wm.heap.size wm wn := ((Below.refl _ _).alloc (Nat.le_refl _) _).trans (hzwn.mono (by simp))
      clear hU hrwn hzwn hcwn
      have htn := Lib.hid (htm.out.below hbkm hbwn)
      have hbkn : w1.heap.size < wn.heap.size := Nat.lt_of_lt_of_le hbkm hbwn.size
      clear hqwn
      go_wp2_with fail
      have hrwo : Rd (wn.alloc (.cells #[.int .u8 0, .int .u8 0, .int .u8 0, .int .u8 1] 5 (0, 0))) (some ⟨wn.heap.size, 0, none⟩) 4 [0, 0, 0, 1] := rd_const wn [0, 0, 0, 1] (0, 0)
      have hU := unseal_any _ _ _ _ 4 _ _ (htn.out.below (B := wn.heap.size) hbkn ((Below.refl _ _).alloc (Nat.le_refl _) _)) hrwo (by omega) (by omega)
      rw [show unsealed (crc entry (([0, 0, 0, 1] : List UInt8).take (4 - 4))) [0, 0, 0, 1] = ([], 12) from by decide +kernel] at hU
      refine hU.mono ?_
      rintro e wo ⟨Awo, nwo, cwo, rfl, hqwo, hcwo, hzwo⟩
      have hbwo : Below wn.heap.size wn wo := ((Below.refl _ _).alloc (Nat.le_refl _) _).trans (hzwo.mono (by simp))
      clear hU hrwo hzwo hcwo
      clear hqwo
      go_wp2_with fail
      have hrwp : Rd (wo.alloc (.cells #[.int .u8 97, .int .u8 98, .int .u8 0, .int .u8 0, .int .u8 0, .int .u8 0] 5 (6, 7))) (some ⟨wo.heap.size, 0, none⟩) 6 [97, 98, 0, 0, 0, 0] := rd_const wo [97, 98, 0, 0, 0, 0] (6, 7)
      have hU := unseal_none _ _ 6 _ _ hrwp (by omega) (by omega)
      rw [show unsealed 0 [97, 98, 0, 0, 0, 0] = ([97, 98], 0) from by decide] at hU
      refine hU.mono ?_
      rintro e wp ⟨Awp, nwp, cwp, rfl, hqwp, hcwp, hzwp⟩
      have hbwp : Below wo.heap.size wo wp := ((Below.refl _ _).alloc (Nat.le_refl _) _).trans (hzwp.mono (by simp))
      clear hU hrwp hzwp hcwp
      have kp := conv_str (P := Try.prog) Try.underlying32 Try.underlying5 Try.underlying9 hqwp cwp
      have hnp : nwp = 2 := hqwp.len.symm
      subst hnp
      clear hqwp
      have HBp : Hid (Below wm.heap.size wm wp) := ((((hbwn).trans (hbwo.mono (hbwn.size)))).trans (hbwp.mono (Nat.le_trans (hbwn.size) hbwo.size)))
      clear hbwn hbwo hbwp
      go_wp2_with fail
      refine (sum_nil _ _ _ _).mono ?_
      rintro e w' ⟨rfl, rfl⟩
      go_wp2_with fail
      refine (awake_any _).mono ?_
      rintro e wz ⟨rfl, hbz⟩
      go_wp2
      go_ret
      have HA : Below wr.heap.size wr wp := (HBi.out.trans (HBm.out.mono HBi.out.size)).trans (HBp.out.mono (Nat.le_trans HBi.out.size HBm.out.size))
      have HB : Below w.heap.size w wp := HBL.out.trans (HA.mono hsr)
      exact ⟨rfl, (HB.alloc HB.size _).trans (hbz.mono (by rw [size_alloc]; have := HB.size; omega))⟩
end Go.Proofs.Ytfibkpjodhcppaa
