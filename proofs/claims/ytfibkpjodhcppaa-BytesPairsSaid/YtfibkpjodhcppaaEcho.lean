import Derived.Test.YtfibkpjodhcppaaAwake
import Derived.Test.YtfibkpjodhcppaaFlips
import Derived.Test.YtfibkpjodhcppaaTails
namespace Go.Proofs.Ytfibkpjodhcppaa
open Go.RowKit Go.Coop

theorem info57 : (Try.prog.info? 57).map (fun i => (i.zero, i.size, i.bytes)) = some (some (.int .u16 0), 1, 2) := by kernel_rfl

set_option maxRecDepth 100000 in
theorem echo_out (A B C : Option Addr) (n c m d p q : Nat) (w : World) (h : n = 0 ∨ m = 0 ∨ 300 < n ∨ 300 < m) :
    Calls Try.prog 6 #[.slice A n c, .slice B m d, .slice C p q] w (Holds w) := by
  by_cases h1 : n = 0
  · have b1 : ((n : Int) == 0) = true := beq_iff_eq.2 (by omega)
    have H := Lib.hid h1
    clear h1 h
    go_enter Try.func6, Try.ntmps6
    go_wp2_with (go_at_call 18; refine (awake_any _).mono ?_; rintro e w1 ⟨rfl, hb1⟩)
    go_ret
    exact ⟨rfl, hb1⟩
  · have b1 : ((n : Int) == 0) = false := beq_eq_false_iff_ne.2 (by omega)
    by_cases h2 : m = 0
    · have b2 : ((m : Int) == 0) = true := beq_iff_eq.2 (by omega)
      have H := Lib.hid h2
      clear h2 h h1
      go_enter Try.func6, Try.ntmps6
      go_wp2_with (go_at_call 18; refine (awake_any _).mono ?_; rintro e w1 ⟨rfl, hb1⟩)
      go_ret
      exact ⟨rfl, hb1⟩
    · have b2 : ((m : Int) == 0) = false := beq_eq_false_iff_ne.2 (by omega)
      by_cases h3 : 300 < n
      · clear h h1 h2
        go_enter Try.func6, Try.ntmps6
        go_wp2_with (go_at_call 18; refine (awake_any _).mono ?_; rintro e w1 ⟨rfl, hb1⟩)
        go_ret
        exact ⟨rfl, hb1⟩
      · have h4 : 300 < m := by omega
        clear h h1 h2
        go_enter Try.func6, Try.ntmps6
        go_wp2_with (go_at_call 18; refine (awake_any _).mono ?_; rintro e w1 ⟨rfl, hb1⟩)
        go_ret
        exact ⟨rfl, hb1⟩

set_option maxHeartbeats 1000000 in
set_option maxRecDepth 100000 in
theorem echo_in (A B C : Option Addr) (n c m d p q : Nat) (a b : List UInt8) (ks : List Nat) (w : World) (h1 : 0 < n) (h2 : 0 < m) (h3 : n ≤ 300) (h4 : m ≤ 300) (hr1 : Rd w A n a) (hr2 : Rd w B m b) (hr3 : RdV w C p (ks.map V16)) (h16 : ∀ k ∈ ks, k < 65536) (hp : p ≤ 9223372036854775807) :
    Calls Try.prog 6 #[.slice A n c, .slice B m d, .slice C p q] w (Holds w) := by
  obtain ⟨Z, hZs, hz⟩ := zero24
  have HZ := Lib.hid hZs
  clear hZs
  obtain ⟨s, hs0, hs1, hs2, hs3⟩ : ∃ s : Nat, 0 < s ∧ s ≤ n ∧ s ≤ m ∧ min (n : Int) (m : Int) = (s : Int) := ⟨min n m, by omega, by omega, by omega, by omega⟩
  have b1 : ((n : Int) == 0) = false := beq_eq_false_iff_ne.2 (by omega)
  have b2 : ((m : Int) == 0) = false := beq_eq_false_iff_ne.2 (by omega)
  have b3 : decide (300 < (n : Int)) = false := by simp; omega
  have b4 : decide (300 < (m : Int)) = false := by simp; omega
  have HR1 := Lib.hid hr1
  have HR2 := Lib.hid hr2
  have HR3 := Lib.hid hr3
  have H16 := Lib.hid h16
  clear hr1 hr2 hr3 h16
  go_enter Try.func6, Try.ntmps6
  go_wp2_with (first
    | (go_at_call 10; refine (table_any _).mono ?_; rintro e w1 ⟨rfl, hb1⟩; rw [show tarr ((List.range 256).map entry) = T0 from rfl])
    | ((with_reducible refine wpList_store_new (o := ⟨none, .store 24 (.tmp 7) (.tmp 32), _, _, _, _⟩) ?_ 24 (.tmp 7) (.tmp 32) ?_ T0 Z ?_ ?_ 24 size24' HZ.out T0_one ?_)
       case refine_1 => rfl
       case refine_2 => rfl
       case refine_3 => rfl
       case refine_4 => rfl))
  have HB2 : Hid (Below w.heap.size w (w1.alloc (.cells T0 24))) := hb1.alloc hb1.size _
  have HT := Lib.hid (tab_new w1 (0, 0))
  have hltw : w1.heap.size < (w1.alloc (.cells T0 24)).heap.size := by rw [size_alloc]; omega
  clear b1 b2 b3 b4 hs3 hz hb1
  generalize w1.alloc (.cells T0 24) = w2 at *
  go_loopw [9, 10] (fun v i wr => ∃ (j : Nat) (D : Option Addr) (e : Nat), j ≤ p ∧ j ≤ 10 ∧ i = .int .i64 j ∧ v = .slice D j e ∧ OwnV wr w2.heap.size 57 D j e (((ks.take j).map (· % (8 * s))).map V16) ∧ Below w2.heap.size w2 wr) (fun _ i _ => 10 - (intOf i).toNat)
  case atStart => exact ⟨0, none, 0, by omega, by omega, rfl, rfl, OwnV.nil _ _ _, Below.refl _ _⟩
  case round =>
    obtain ⟨j, D, e, hj1, hj2, rfl, rfl, hown, hbel⟩ := hrel
    by_cases hlt : j < p ∧ j < 10
    · obtain ⟨hlt1, hlt2⟩ := hlt
      obtain ⟨ad, v, rfl, hab, hv, hcell⟩ := ((HR3.out.below HB2.out (Nat.le_refl _)).below hbel (Nat.le_refl _)).at_ hlt1
      obtain ⟨k, hk, rfl⟩ : ∃ k, ks[j]? = some k ∧ v = V16 k := by
        simp only [List.getElem?_map, Option.map_eq_some_iff] at hv
        obtain ⟨k, hk, e⟩ := hv
        exact ⟨k, hk, e.symm⟩
      have hk16 := H16.out k (List.mem_of_getElem? hk)
      unfold V16 at hcell
      have HK := Lib.hid hk
      have hbs := hbel.size
      clear hk hv
      have hne0 : ((8 * (s : Int)) == 0) = false := beq_eq_false_iff_ne.2 (by omega)
      go_wp2_with (at_builtin; refine wpList_appV _ rfl (.tmp 50) (.tmp 57) _ rfl w2.heap.size 57 (.int .u16 0) 2 Try.underlying56 info57 rfl rfl (hown.alloc _) rfl (RdV.one wr _ 57 _) (by intro u hu; simp at hu; subst hu; rfl) (by omega) (by omega) (by simp; omega) (j + 1) rfl ?_; intro D' e' w' ho hg hat)
      go_roundw
      case rel =>
        refine ⟨j + 1, D', e', by omega, by omega, by go_num, rfl, ?_, (hbel.alloc hbs _).grown hg (by simp; omega) (fun k hk => (hown.block k hk).1)⟩
        have hh : ((ks.take (j + 1)).map (· % (8 * s))).map V16 = ((ks.take j).map (· % (8 * s))).map V16 ++ [Value.int .u16 ((k : Int) % (8 * (s : Int)))] := by
          rw [List.take_add_one, HK.out]
          simp [V16]
        rw [hh]
        exact ho
      case measure => simp [intOf]; omega
    · obtain ⟨ks', hks'⟩ : ∃ ks', ks' = (ks.take j).map (· % (8 * s)) := ⟨_, rfl⟩
      rw [← hks'] at hown
      have hk1 : ∀ k ∈ ks', k < 8 * s := by
        intro k hk
        rw [hks', List.mem_map] at hk
        obtain ⟨k0, _, rfl⟩ := hk
        exact Nat.mod_lt _ (by omega)
      have H1 := Lib.hid hk1
      have HO := Lib.hid hown
      have HBL := Lib.hid hbel
      have HRA := Lib.hid ((HR1.out.below HB2.out (Nat.le_refl _)).below hbel (Nat.le_refl _))
      have HRB := Lib.hid ((HR2.out.below HB2.out (Nat.le_refl _)).below hbel (Nat.le_refl _))
      have HTR := Lib.hid (HT.out.below hltw hbel)
      clear hks' hk1 hown hbel
      have hX : crc entry a ^^^ crc entry (turnF a ks') = crc entry b ^^^ crc entry (turnF b ks') :=
        echo (fun k hk => by have := H1.out k hk; have := HRA.out.len; omega) (fun k hk => by have := H1.out k hk; have := HRB.out.len; omega)
      obtain ⟨X, eX⟩ : ∃ X, crc entry b ^^^ crc entry (turnF b ks') = X := ⟨_, rfl⟩
      have x1 := xor_u32 (crc_lt entry a) (crc_lt entry (turnF a ks')) (hX.trans eX)
      have x2 := xor_u32 (crc_lt entry b) (crc_lt entry (turnF b ks')) eX
      clear hX eX
      have hd : ¬ j < p ∨ (j < p ∧ ¬ j < 10) := by omega
      clear hlt
      rcases hd with hd | ⟨hd1, hd2⟩
      all_goals
        go_wp2_with fail
        refine (sum_any _ _ A n c a _ HTR.out HRA.out (by omega)).mono ?_
        rintro e w' ⟨rfl, rfl⟩
        go_wp2_with fail
        refine (turned_any A n c a D j _ ks' _ HRA.out HO.out.rd (fun k hk => by have := H1.out k hk; omega) h1 (by omega) (by omega)).mono ?_
        rintro e w3 ⟨A3, c3, rfl, ho3, hb3⟩
        have ht3 := Lib.hid (HTR.out.below (Nat.lt_of_lt_of_le hltw HBL.out.size) hb3)
        go_wp2_with fail
        refine (sum_any _ _ A3 n c3 _ _ ht3.out ho3.rd (by omega)).mono ?_
        rintro e w' ⟨rfl, rfl⟩
        go_wp2_with fail
        refine (sum_any _ _ B m d b _ ht3.out (HRB.out.below hb3 (Nat.le_refl _)) (by omega)).mono ?_
        rintro e w' ⟨rfl, rfl⟩
        go_wp2_with fail
        refine (turned_any B m d b D j _ ks' _ (HRB.out.below hb3 (Nat.le_refl _)) (HO.out.rd.below hb3 (Nat.le_refl _)) (fun k hk => by have := H1.out k hk; omega) h2 (by omega) (by omega)).mono ?_
        rintro e w4 ⟨A4, c4, rfl, ho4, hb4⟩
        have ht4 := Lib.hid (ht3.out.below (Nat.lt_of_lt_of_le (Nat.lt_of_lt_of_le hltw HBL.out.size) hb3.size) hb4)
        go_wp2_with fail
        refine (sum_any _ _ A4 m c4 _ _ ht4.out ho4.rd (by omega)).mono ?_
        rintro e w' ⟨rfl, rfl⟩
        have HF : Hid (Below w.heap.size w w4) := ((HB2.out.trans (HBL.out.mono HB2.out.size)).trans (hb3.mono (Nat.le_trans HB2.out.size HBL.out.size))).trans (hb4.mono (Nat.le_trans (Nat.le_trans HB2.out.size HBL.out.size) hb3.size))
        clear ho3 hb3 ho4 hb4
        go_wp2_with fail
        refine (awake_any _).mono ?_
        rintro e w5 ⟨rfl, hb5⟩
        go_wp2
        go_ret
        exact ⟨rfl, HF.out.trans (hb5.mono HF.out.size)⟩
end Go.Proofs.Ytfibkpjodhcppaa
