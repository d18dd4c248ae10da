/- What is unsealed: Equal, Clip, Unseal. -/
import Derived.Test.YtmiapegecoaccaaSeal
import Derived.Deep.QuietTactic
import Derived.BigQuiet
namespace Go.Proofs.Ytmiapegecoaccaa
open Go.RowKit Go.Coop

def Quiet (w : World) (v : Value) (e : Ending) (w' : World) : Prop := e = .returned v ∧ ∃ n, w' = w.drewN n

theorem equal_ne (A : Option Addr) (n c : Nat) (B : Option Addr) (m d : Nat) (w : World) (h : n ≠ m) :
    Calls Try.prog 65 #[.slice A n c, .slice B m d] w (Quiet w (.bool false)) := by
  have hb : ((n : Int) != (m : Int)) = true := by simp; omega
  go_enter Try.func65, Try.ntmps65
  go_wp2
  go_ret
  exact ⟨rfl, 0, rfl⟩

set_option maxRecDepth 100000 in
theorem equal_len (A : Option Addr) (n c : Nat) (l : List UInt8) (B : Option Addr) (d : Nat) (k : List UInt8) (w : World) (ha : Rd w A n l) (hb : Rd w B n k) (hn : n ≤ 140737488355328) :
    Calls Try.prog 65 #[.slice A n c, .slice B n d] w (Quiet w (.bool (decide (l = k)))) := by
  have hbn : ((n : Int) != (n : Int)) = false := by simp
  go_enter Try.func65, Try.ntmps65
  go_wp2
  clear hbn
  go_loopw [13] (fun i wr => ∃ (j q : Nat), j ≤ n ∧ i = .int .i64 j ∧ wr = w.drewN q ∧ Hid (l.take j = k.take j)) (fun i _ => n - (intOf i).toNat)
  case atStart => exact ⟨0, 0, by omega, rfl, rfl, by simp [Hid]⟩
  case round =>
    obtain ⟨j, q, hj, rfl, rfl, HE⟩ := hrel
    by_cases hlt : j < n
    · obtain ⟨ad, x, rfl, _, hx, hcx⟩ := ha.at_ hlt
      obtain ⟨bd, y, rfl, _, hy, hcy⟩ := hb.at_ hlt
      unfold BV at hcx hcy
      have HX := Lib.hid hx
      have HY := Lib.hid hy
      have HA := Lib.hid ha
      have HB := Lib.hid hb
      clear hx hy ha hb
      by_cases hxy : x = y
      · have hq : ((x.toNat : Int) != (y.toNat : Int)) = false := by subst hxy; simp
        have HXY := Lib.hid hxy
        clear hxy
        go_wp2
        go_quiet (fail)
        go_wp2
        go_roundw
        case rel => exact ⟨j + 1, _, by omega, by go_num, rfl, by show _ = _; rw [List.take_add_one, List.take_add_one, HX.out, HY.out, HXY.out, HE.out]⟩
        case measure => simp [intOf]; omega
      · have hq : ((x.toNat : Int) != (y.toNat : Int)) = true := by
          have : x.toNat ≠ y.toNat := fun e => hxy (UInt8.toNat_inj.1 e)
          simp; omega
        have HXY := Lib.hid hxy
        clear hxy
        go_wp2
        go_quiet (fail)
        go_wp2
        go_ret
        have hne : ¬ l = k := by
          intro e
          have h1 := HX.out
          rw [e, HY.out] at h1
          injection h1 with h1
          exact HXY.out h1.symm
        rw [show decide (l = k) = false from decide_eq_false hne]
        exact ⟨rfl, _, World.drewN_drewN _ _ _⟩
    · obtain rfl : j = n := by omega
      go_wp2
      go_ret
      have he : l = k := by
        have := HE.out
        rwa [List.take_of_length_le (by have := ha.len; omega), List.take_of_length_le (by have := hb.len; omega)] at this
      rw [show decide (l = k) = true from decide_eq_true he]
      exact ⟨rfl, _, rfl⟩

theorem equal_any (A : Option Addr) (n c : Nat) (l : List UInt8) (B : Option Addr) (m d : Nat) (k : List UInt8) (w : World) (ha : Rd w A n l) (hb : Rd w B m k) (hn : n ≤ 140737488355328) :
    Calls Try.prog 65 #[.slice A n c, .slice B m d] w (Quiet w (.bool (decide (l = k)))) := by
  by_cases h : n = m
  · subst h
    exact equal_len A n c l B d k w ha hb hn
  · have hne : ¬ l = k := fun e => h (by rw [← ha.len, ← hb.len, e])
    rw [show decide (l = k) = false from decide_eq_false hne]
    exact equal_ne A n c B m d w h

theorem clip_any (A : Option Addr) (n c : Nat) (w : World) (hc : n ≤ c) : Calls Try.prog 66 #[.slice A n c] w fun e w' => e = .returned (.slice A n n) ∧ w = w' := by
  go_enter Try.func66, Try.ntmps66
  go_wp2
  go_ret
  exact ⟨rfl, rfl⟩

/-- what Unseal tells -/
def unsealed (S : Nat) (l : List UInt8) : List UInt8 × Nat :=
  if l.length < 4 then ([], 11) else if l.take (l.length - 4) ++ four S = l then (l.take (l.length - 4), 0) else ([], 12)

/-- the results of Unseal -/
def Opened (w : World) (r : List UInt8 × Nat) (e : Ending) (w' : World) : Prop :=
  ∃ A n c, e = .returned (.tuple #[.slice A n c, .int .i64 (r.2 : Int)]) ∧ Rd w' A n r.1 ∧ n ≤ c ∧ (∀ j, A.map (·.block) = some j → w.heap.size ≤ j ∧ j < w'.heap.size) ∧ Below w.heap.size w w'

theorem unseal_short (p : Option Addr) (A : Option Addr) (n c : Nat) (w : World) (hn : n < 4) : Calls Try.prog 53 #[.pointer p, .slice A n c] w (Opened w ([], 11)) := by
  go_enter Try.func53, Try.ntmps53
  go_wp2
  go_ret2
  exact ⟨none, 0, 0, rfl, Rd.nil _ _, by omega, by simp, Below.refl _ _⟩

set_option maxRecDepth 100000 in
theorem unseal_long (p : Option Addr) (S : Nat) (A : Option Addr) (m c : Nat) (l : List UInt8) (w : World) (hr : Rd w A (m + 4) l) (hn : m ≤ 70368744177664) (hc : m + 4 ≤ c)
    (hseal : Calls Try.prog 24 #[.pointer p, .slice A m c] w (Fresh w (m + 4) (l.take m ++ four S))) :
    Calls Try.prog 53 #[.pointer p, .slice A (m + 4) c] w (Opened w (unsealed S l)) := by
  have hu : unsealed S l = if l.take m ++ four S = l then (l.take m, 0) else ([], 12) := by
    unfold unsealed
    rw [hr.len, if_neg (by omega), Nat.add_sub_cancel]
  rw [hu]
  clear hu
  have HS := Lib.hid hseal
  have HR := Lib.hid hr
  clear hseal hr
  have hb0 : decide ((m : Int) < 0) = false := by simp
  by_cases hq : l.take m ++ four S = l
  · rw [if_pos hq]
    have HQ := Lib.hid hq
    clear hq
    go_enter Try.func53, Try.ntmps53
    go_wp2_with fail
    refine HS.out.mono ?_
    rintro e w2 ⟨A2, c2, rfl, ho2, hb2⟩
    have hc2 := ho2.cap
    have hE := equal_any A2 (m + 4) c2 _ A (m + 4) c _ w2 ho2.rd (HR.out.below hb2 (Nat.le_refl _)) (by omega)
    rw [decide_eq_true HQ.out] at hE
    have HE := Lib.hid hE
    have HO := Lib.hid ho2
    clear hE ho2
    go_wp2_with fail
    refine HE.out.mono ?_
    rintro e w3 ⟨rfl, q, rfl⟩
    go_wp2_with fail
    refine (clip_any _ _ _ _ (by omega)).mono ?_
    rintro e w3 ⟨rfl, rfl⟩
    go_wp2
    go_ret2
    have hrd := (HO.out.rd.take (k := m) (by omega)).drewN q
    rw [HQ.out] at hrd
    exact ⟨A2, m, m, rfl, hrd, by omega, HO.out.block, ⟨hb2.os, hb2.tape, hb2.output, hb2.size, hb2.block⟩⟩
  · rw [if_neg hq]
    have HQ := Lib.hid hq
    clear hq
    go_enter Try.func53, Try.ntmps53
    go_wp2_with fail
    refine HS.out.mono ?_
    rintro e w2 ⟨A2, c2, rfl, ho2, hb2⟩
    have hc2 := ho2.cap
    have hE := equal_any A2 (m + 4) c2 _ A (m + 4) c _ w2 ho2.rd (HR.out.below hb2 (Nat.le_refl _)) (by omega)
    rw [decide_eq_false HQ.out] at hE
    have HE := Lib.hid hE
    clear hE ho2
    go_wp2_with fail
    refine HE.out.mono ?_
    rintro e w3 ⟨rfl, q, rfl⟩
    go_wp2
    go_ret2
    exact ⟨none, 0, 0, rfl, Rd.nil _ _, by omega, by simp, ⟨hb2.os, hb2.tape, hb2.output, hb2.size, hb2.block⟩⟩

theorem unseal_any (a : Addr) (t : Nat → Nat) (A : Option Addr) (n c : Nat) (l : List UInt8) (w : World) (ht : TabAt w a t) (hr : Rd w A n l) (hn : n ≤ 70368744177664) (hc : n ≤ c) :
    Calls Try.prog 53 #[.pointer (some a), .slice A n c] w (Opened w (unsealed (crc t (l.take (n - 4))) l)) := by
  by_cases h4 : n < 4
  · have e : unsealed (crc t (l.take (n - 4))) l = ([], 11) := by unfold unsealed; rw [if_pos (by rw [hr.len]; exact h4)]
    rw [e]
    exact unseal_short _ A n c w h4
  · obtain ⟨m, rfl⟩ : ∃ m, n = m + 4 := ⟨n - 4, by omega⟩
    rw [Nat.add_sub_cancel]
    exact unseal_long _ _ A m c l w hr (by omega) hc (seal_any a t A m c (l.take m) w ht (hr.take (by omega)) (by omega))
theorem unseal_none (A : Option Addr) (n c : Nat) (l : List UInt8) (w : World) (hr : Rd w A n l) (hn : n ≤ 70368744177664) (hc : n ≤ c) :
    Calls Try.prog 53 #[.pointer none, .slice A n c] w (Opened w (unsealed 0 l)) := by
  by_cases h4 : n < 4
  · have e : unsealed 0 l = ([], 11) := by unfold unsealed; rw [if_pos (by rw [hr.len]; exact h4)]
    rw [e]
    exact unseal_short _ A n c w h4
  · obtain ⟨m, rfl⟩ : ∃ m, n = m + 4 := ⟨n - 4, by omega⟩
    exact unseal_long _ _ A m c l w hr (by omega) hc (seal_nil A m c (l.take m) w (hr.take (by omega)) (by omega))
end Go.Proofs.Ytmiapegecoaccaa
