import Derived.Test.YtmiapegecoaccaaRefGet
import Derived.Test.YtmiapegecoaccaaBlobs
namespace Go.Proofs.Ytmiapegecoaccaa
open Go.RowKit Go.Coop

/-- the results of the reference's GetBlob -/
def RBlobbed (w : World) (r : List UInt8 × Nat × Nat) (e : Ending) (w' : World) : Prop :=
  ∃ A m c, e = .returned (.tuple #[.slice A m c, .int .i64 (r.2.1 : Int), .int .i64 (r.2.2 : Int)]) ∧ Rd w' A m r.1 ∧ (∀ j, A.map (·.block) = some j → w.heap.size ≤ j) ∧ Below w.heap.size w w'

theorem rgetUint_any (A : Option Addr) (n c : Nat) (l : List UInt8) (x : Int) (w : World) (hr : Rd w A n l) (hn : n ≤ 140737488355328) :
    Calls Try.prog 64 #[.slice A n c, .int .i64 x] w (Trip w (getU l x)) := by
  by_cases hx : 0 ≤ x ∧ x ≤ n
  · obtain ⟨y, rfl⟩ := Int.eq_ofNat_of_zero_le hx.1
    exact rgetUint_in A n c l y w hr hn (by omega)
  · have : getU l x = (0, 0, 2) := by unfold getU; rw [hr.len, if_neg hx]
    rw [this]
    exact rgetUint_out A n c x w hx

set_option maxRecDepth 100000 in
theorem rgetBlob_err (A : Option Addr) (n c : Nat) (x most : Int) (E : Nat) (w : World) (hE : E ≠ 0)
    (hG : Calls Try.prog 64 #[.slice A n c, .int .i64 x] w (Trip w (0, 0, E))) :
    Calls Try.prog 51 #[.slice A n c, .int .i64 x, .int .i64 most] w (RBlobbed w ([], 0, E)) := by
  have HG := Lib.hid hG
  have hne : ((E : Int) != 0) = true := by simp; omega
  clear hG hE
  go_enter Try.func51, Try.ntmps51
  go_wp2_with fail
  refine HG.out.mono ?_
  rintro e w' ⟨rfl, rfl⟩
  go_wp2
  go_ret3
  exact ⟨none, 0, 0, rfl, Rd.nil _ _, (fun j hj => by cases hj), Below.refl _ _⟩

set_option maxRecDepth 100000 in
theorem rgetBlob_long (A : Option Addr) (n c : Nat) (x most : Int) (N nx : Nat) (w : World) (hm : most ≤ 9223372036854775807) (h : most < 0 ∨ most < (N : Int))
    (hG : Calls Try.prog 64 #[.slice A n c, .int .i64 x] w (Trip w (N, nx, 0))) :
    Calls Try.prog 51 #[.slice A n c, .int .i64 x, .int .i64 most] w (RBlobbed w ([], 0, 3)) := by
  have HG := Lib.hid hG
  clear hG
  by_cases h0 : most < 0
  · clear h
    go_enter Try.func51, Try.ntmps51
    go_wp2_with fail
    refine HG.out.mono ?_
    rintro e w' ⟨rfl, rfl⟩
    go_wp2
    go_ret3
    exact ⟨none, 0, 0, rfl, Rd.nil _ _, (fun j hj => by cases hj), Below.refl _ _⟩
  · have h1 : most < (N : Int) := by omega
    have h2 : 0 ≤ most := by omega
    clear h h0
    go_enter Try.func51, Try.ntmps51
    go_wp2_with fail
    refine HG.out.mono ?_
    rintro e w' ⟨rfl, rfl⟩
    go_wp2
    go_ret3
    exact ⟨none, 0, 0, rfl, Rd.nil _ _, (fun j hj => by cases hj), Below.refl _ _⟩

set_option maxRecDepth 100000 in
theorem rgetBlob_short (A : Option Addr) (n c : Nat) (x most : Int) (N nx : Nat) (w : World) (hm : most ≤ 9223372036854775807) (h0 : 0 ≤ most) (h1 : (N : Int) ≤ most) (hn : n ≤ 140737488355328) (hnx : nx ≤ n) (h2 : n - nx < N)
    (hG : Calls Try.prog 64 #[.slice A n c, .int .i64 x] w (Trip w (N, nx, 0))) :
    Calls Try.prog 51 #[.slice A n c, .int .i64 x, .int .i64 most] w (RBlobbed w ([], 0, 11)) := by
  have HG := Lib.hid hG
  clear hG
  by_cases hN : (n : Int) < (N : Int)
  · clear h2
    go_enter Try.func51, Try.ntmps51
    go_wp2_with fail
    refine HG.out.mono ?_
    rintro e w' ⟨rfl, rfl⟩
    go_wp2
    go_ret3
    exact ⟨none, 0, 0, rfl, Rd.nil _ _, (fun j hj => by cases hj), Below.refl _ _⟩
  · have h2' : (n : Int) < (nx : Int) + (N : Int) := by omega
    have h3 : (N : Int) ≤ n := by omega
    have h4 : (nx : Int) + (N : Int) ≤ 281474976710656 := by omega
    clear h2 hN
    go_enter Try.func51, Try.ntmps51
    go_wp2_with fail
    refine HG.out.mono ?_
    rintro e w' ⟨rfl, rfl⟩
    go_wp2
    go_ret3
    exact ⟨none, 0, 0, rfl, Rd.nil _ _, (fun j hj => by cases hj), Below.refl _ _⟩

set_option maxRecDepth 100000 in
theorem rgetBlob_fits (A : Option Addr) (n c : Nat) (l : List UInt8) (x most : Int) (N nx : Nat) (w : World) (hr : Rd w A n l) (hc : n ≤ c) (hm : most ≤ 9223372036854775807) (h0 : 0 ≤ most) (h1 : (N : Int) ≤ most) (hnx : nx + N ≤ n) (hn : n ≤ 140737488355328)
    (hG : Calls Try.prog 64 #[.slice A n c, .int .i64 x] w (Trip w (N, nx, 0))) :
    Calls Try.prog 51 #[.slice A n c, .int .i64 x, .int .i64 most] w (RBlobbed w ((l.drop nx).take N, nx + N, 0)) := by
  have HG := Lib.hid hG
  have h2' : (nx : Int) + (N : Int) ≤ (n : Int) := by omega
  have h3' : (N : Int) ≤ (n : Int) := by omega
  have hcut : ∀ w, (Instr.slice 23 (.slice A n c) (some (.int .i64 (nx : Int))) (some (.int .i64 ((nx : Int) + (N : Int)))) none).run Try.prog w = .ok (.slice (cutA A c nx) N (c - nx)) w := by
    intro w
    have := slice_lh (P := Try.prog) 23 Try.underlying23 info5 A n c nx (nx + N) (by omega) (by omega) w
    rw [show nx + N - nx = N by omega] at this
    simpa using this
  have HRD := Lib.hid ((hr.drop (cap := c) (k := nx) (by omega) hc).take (k := N) (by omega))
  clear hG hr
  generalize cutA A c nx = A' at *
  go_enter Try.func51, Try.ntmps51
  go_wp2_with fail
  refine HG.out.mono ?_
  rintro e w' ⟨rfl, rfl⟩
  go_wp2_with (go_at_call 60; refine (joined_eq _ _ _ _ _ _ _ _ _ (Rd.nil _ none) HRD.out (by omega)).mono ?_; rintro e w2 ⟨A2, c2, rfl, hr2, _, hj2, hb2⟩)
  go_ret3
  refine ⟨A2, N, c2, by simp, ?_, hj2, hb2⟩
  simpa using hr2

theorem rgetBlob_any (A : Option Addr) (n c : Nat) (l : List UInt8) (x most : Int) (w : World) (hr : Rd w A n l) (hc : n ≤ c) (hn : n ≤ 140737488355328) (hm : most ≤ 9223372036854775807) :
    Calls Try.prog 51 #[.slice A n c, .int .i64 x, .int .i64 most] w (RBlobbed w (getB l (getU l x) most)) := by
  have hG := rgetUint_any A n c l x w hr hn
  have hok := getU_ok l x
  obtain ⟨⟨N, nx, E⟩, hre⟩ : ∃ r, getU l x = r := ⟨_, rfl⟩
  rw [hre] at hG hok ⊢
  obtain ⟨o1, o2, o3, o4⟩ := hok
  simp only at o1 o2 o3 o4
  unfold getB
  simp only
  by_cases hE : E = 0
  · subst hE
    rw [if_neg (by simp)]
    by_cases hL : most < 0 ∨ most < (N : Int)
    · rw [if_pos hL]
      exact rgetBlob_long A n c x most N nx w hm hL hG
    · rw [if_neg hL]
      by_cases hS : l.length - nx < N
      · rw [if_pos hS]
        exact rgetBlob_short A n c x most N nx w hm (by omega) (by omega) hn (by rw [hr.len] at o2; exact o2) (by rw [hr.len] at hS; exact hS) hG
      · rw [if_neg hS]
        exact rgetBlob_fits A n c l x most N nx w hr hc hm (by omega) (by omega) (by rw [hr.len] at hS o2; omega) hn hG
  · rw [if_pos hE]
    obtain ⟨z1, z2⟩ := o4 hE
    subst z1 z2
    exact rgetBlob_err A n c x most E w hE hG
end Go.Proofs.Ytmiapegecoaccaa
