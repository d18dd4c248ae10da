import Derived.Test.YtkkpfehgobanbaaMakes
import Derived.Test.YtkkpfehgobanbaaLists
import Derived.Lib.MinMax
import Derived.Deep.RegionWith
import Derived.BigRegion
import Derived.RegionTactic
namespace Go.Proofs.Ytkkpfehgobanbaa
open Go.RowKit Go.Coop
set_option maxRecDepth 100000

theorem mul_q (g a b : Nat) (w : World) (h : FldAt w g) (ha : a < 256) (hb : b < 256) (n : Nat) :
    Calls Try.prog 88 #[.pointer (some ⟨g, 0, none⟩), .int .u8 (a : Int), .int .u8 (b : Int)] (w.drewN n) fun e w'' => e = .returned (.int .u8 (mul a b : Int)) ∧ ∃ m, w'' = w.drewN m :=
  (mul_any g a b (w.drewN n) (h.drewN n) ha hb).mono fun _ _ ⟨he, m, hw⟩ => ⟨he, n + m, by rw [hw, World.drewN_drewN]⟩
theorem add_q (g a b : Nat) (w : World) (h : FldAt w g) (ha : a < 256) (hb : b < 256) (n : Nat) :
    Calls Try.prog 58 #[.pointer (some ⟨g, 0, none⟩), .int .u8 (a : Int), .int .u8 (b : Int)] (w.drewN n) fun e w'' => e = .returned (.int .u8 ((a ^^^ b : Nat) : Int)) ∧ ∃ m, w'' = w.drewN m :=
  (add_any g a b (w.drewN n) (h.drewN n) ha hb).mono fun _ _ ⟨he, hw⟩ => ⟨he, n, hw.symm⟩

theorem parts_one (w : World) (A : Option Addr) (n c : Nat) (l : List UInt8) (h : Rd w A n l) (fr : Nat × Nat) : Parts (w.alloc (.cells #[.slice A n c] 35 fr)) ⟨w.heap.size, 0, none⟩ [(A, n, c, l)] := by
  refine ⟨by simp, fun i p hp => ?_⟩
  match i, hp with
  | 0, hp =>
    simp at hp
    subst hp
    exact ⟨cell_of_row _ w.heap.size 0 _ 35 fr (heap_alloc_new w _), h.alloc _⟩

set_option maxHeartbeats 1000000 in
set_option maxRecDepth 100000 in
theorem lay_any (g : Nat) (A : Option Addr) (n ca : Nat) (lo : List UInt8) (c : Nat) (B : Option Addr) (m d : Nat) (lx : List UInt8) (w : World) (h : FldAt w g) (ha : Rd w A n lo) (hb : Rd w B m lx) (hc : c < 256) (hn : n ≤ 140737488355328) :
    Calls Try.prog 71 #[.pointer (some ⟨g, 0, none⟩), .slice A n ca, .int .u8 (c : Int), .slice B m d] w (Fresh w n (lay c lo lx)) := by
  obtain ⟨s, hs1, hs2, hs3, hs4⟩ : ∃ s : Nat, s ≤ n ∧ s ≤ m ∧ min (n : Int) (m : Int) = (s : Int) ∧ (n ≤ s ∨ m ≤ s) := ⟨min n m, by omega, by omega, by omega, by omega⟩
  have HF := Lib.hid h
  have HA := Lib.hid ha
  have HB := Lib.hid hb
  have H4 := Lib.hid hs4
  have hp1 := parts_one w A n ca lo ha (0, 0)
  have HP := Lib.hid hp1
  have hlt := h.lt
  clear h ha hb hs4 hp1
  go_enter Try.func71, Try.ntmps71
  go_wp2_with (first
    | (go_at_call 66; refine (made_yes _ _ HF.out).mono ?_; rintro e w' ⟨rfl, rfl⟩)
    | (go_at_call 85; refine (concat_any _ [(A, n, ca, lo)] 1 1 _ rfl HP.out (by omega) (by simp [tot]; omega)).mono ?_; rintro e w1 ⟨A1, c1, rfl, ho1, hb1⟩))
  rw [show tot [(A, n, ca, lo)] = n from by simp [tot], show cat [(A, n, ca, lo)] = lo from by simp [cat]] at ho1
  rw [show tot [(A, n, ca, lo)] = n from by simp [tot]]
  have HO1 := Lib.hid ho1
  have HB1 := Lib.hid (((Below.refl w.heap.size w).alloc (Nat.le_refl _) (.cells #[.slice A n ca] 35)).trans (hb1.mono (by simp)))
  clear ho1 hb1
  go_wp2
  clear hs3
  go_loopw [22] (fun i wr => ∃ (k : Nat) (l' : List UInt8), k ≤ s ∧ i = .int .i64 k ∧ Own wr w.heap.size 5 A1 n c1 l' ∧ Below w.heap.size w wr ∧ Hid (l' = lay c lo (lx.take k))) (fun i _ => s - (intOf i).toNat)
  case atStart => exact ⟨0, lo, by omega, rfl, HO1.out.lower (by simp), HB1.out, by show lo = _; rw [List.take_zero, lay_nil]⟩
  case round =>
    obtain ⟨k, l', hk, rfl, hown, hbel, HE⟩ := hrel
    by_cases hks : k < s
    · obtain ⟨gl, rfl, hgl1, hgl2, hfz⟩ := hown.addr (by omega)
      obtain ⟨ad, x, rfl, hab, hx, hcx⟩ := (HB.out.below hbel (Nat.le_refl _)).at_ (k := k) (by omega)
      obtain ⟨gl', o, e', _, ho, hco⟩ := hown.rd.at_ (k := k) (by omega)
      injection e' with e'
      subst e'
      have hadd : (⟨gl, 0, none⟩ : Addr).add k = ⟨gl, k, none⟩ := by unfold Addr.add; split <;> simp_all
      rw [hadd] at hco
      have hlo : lo[k]? = some o := by rw [HE.out, lay_here _ _ _ _ (by rw [List.length_take]; omega)] at ho; exact ho
      have HSet := Lib.hid (lay_set (c := c) hlo hx)
      unfold BV at hcx hco
      obtain ⟨X, hX⟩ : ∃ X, x.toNat = X := ⟨_, rfl⟩
      obtain ⟨O, hO⟩ : ∃ O, o.toNat = O := ⟨_, rfl⟩
      have hX' := x.toNat_lt
      have hO' := o.toNat_lt
      rw [hX] at hcx hX'
      rw [hO] at hco hO'
      have HX := Lib.hid hX
      have HOO := Lib.hid hO
      have HC := Lib.hid (And.intro hco (And.intro hcx (hfz k)))
      have HW := Lib.hid (HF.out.below hbel HF.out.lt)
      have HOW := Lib.hid hown
      have HBE := Lib.hid hbel
      have hkn : (k : Int) < n := by omega
      have hkm : (k : Int) < m := by omega
      have hk0 : (0 : Int) ≤ k := by omega
      clear hX hO hco hcx hfz hown hbel hx ho hlo hadd
      go_wp2_with fail
      obtain ⟨hco, hcx, hfz⟩ := HC.out
      go_region_with (first
        | (go_at_call 88; refine (mul_any g c X _ (by exact ⟨HW.out.lt, HW.out.pow, HW.out.log⟩) hc (by omega)).mono ?_; rintro e w2 ⟨rfl, nm, rfl⟩)
        | (go_at_call 58; refine (add_any g O (mul c X) _ (by exact ⟨HW.out.lt, HW.out.pow, HW.out.log⟩) (by omega) (mul_lt _ _)).mono ?_; rintro e w2 ⟨rfl, rfl⟩))
      all_goals
        go_wp2
        go_roundw
        case rel =>
          have hbv : Value.int .u8 ((O ^^^ mul c X : Nat) : Int) = BV (lay1 c o x) := by unfold BV; rw [lay1_nat, HX.out, HOO.out]
          rw [hbv]
          refine ⟨k + 1, l'.set k (lay1 c o x), by omega, by go_num, (HOW.out.drewN _).set rfl _, ?_, ?_⟩
          · exact (show Below w.heap.size w (wr.drewN (1 + nm)) from ⟨HBE.out.os, HBE.out.tape, HBE.out.output, HBE.out.size, HBE.out.block⟩).setCell hgl1 _
          · show l'.set k _ = _
            rw [HE.out]
            exact HSet.out
        case measure => simp [intOf]; omega
    · have hkk : k = s := by omega
      have HK := Lib.hid hkk
      clear hkk
      go_wp2
      go_ret
      refine ⟨A1, c1, rfl, ?_, hbel⟩
      have e : l' = lay c lo lx := by
        rw [HE.out, HK.out]
        rcases H4.out with h | h
        · exact lay_take c lo lx s (by rw [HA.out.len]; exact h)
        · rw [List.take_of_length_le (by rw [HB.out.len]; exact h)]
      rw [← e]
      exact hown
end Go.Proofs.Ytkkpfehgobanbaa
