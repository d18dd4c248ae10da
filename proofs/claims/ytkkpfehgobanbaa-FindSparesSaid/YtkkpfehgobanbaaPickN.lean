/- Rows that are picked by numbers. -/
import Derived.Test.YtkkpfehgobanbaaMtxO
import Derived.Test.YtkkpfehgobanbaaMtxD
namespace Go.Proofs.Ytkkpfehgobanbaa
open Go.RowKit Go.Coop
set_option maxRecDepth 100000

/-- rows that are picked -/
def pickF (ls : List Nat) (F : Fn2) : Fn2 := fun i j => F (ls.getD i 0) j
theorem nvs_ivs (ls : List Nat) : nvs ls = ivs (ls.map fun x : Nat => (x : Int)) := by simp [nvs, ivs]
theorem pickL_tab {n k m : Nat} {F : Fn2} {ls : List Nat} (hm : ls.length = m) (h : ∀ x ∈ ls, x < n) : pickL (tabM n k F) (ls.map fun x : Nat => (x : Int)) = tabM m k (pickF ls F) := by
  apply List.ext_getElem?
  intro i
  unfold pickL
  by_cases hi : i < m
  · rw [tabM_at k _ hi]
    have hil : i < ls.length := by omega
    have hx := h _ (List.getElem_mem hil)
    simp only [List.getElem?_map, List.getElem?_eq_getElem hil, Option.map_some, Int.toNat_natCast]
    congr 1
    rw [List.getD_eq_getElem?_getD, tabM_at k F hx]
    show rowL k (F ls[i]) = rowL k (pickF ls F i)
    congr 1
    funext j
    unfold pickF
    rw [List.getD_eq_getElem?_getD, List.getElem?_eq_getElem hil]
    rfl
  · rw [List.getElem?_eq_none (by simp; omega), List.getElem?_eq_none (by rw [tabM_len]; omega)]
theorem pick_nat {bo br : Nat} (A : Option Addr) (n c k : Nat) (F : Fn2) (R : Option Addr) (m d : Nat) (ls : List Nat) (w : World) (h : MO w bo br A n c (tabM n k F)) (hn1 : 1 ≤ n) (hn2 : n ≤ 255) (hk1 : 1 ≤ k) (hk2 : k ≤ 255) (hR : RdV w R m (nvs ls)) (hm1 : 1 ≤ m) (hm2 : m ≤ 255) (hls : ∀ x ∈ ls, x < n) :
    Calls Try.prog 69 #[.slice A n c, .slice R m d] w (GotM w m (tabM m k (pickF ls F))) := by
  have hl : ls.length = m := by have := hR.len; rwa [nvs_len] at this
  rw [nvs_ivs] at hR
  refine (pick_any A n c _ R m d _ w h (right_tab hn1 hn2 hk1 hk2) hR hm1 hm2 (fun x hx => ?_)).mono ?_
  · simp at hx
    obtain ⟨y, hy, rfl⟩ := hx
    have := hls y hy
    omega
  · rintro e w' (⟨_, hg⟩ | ⟨hno, _⟩)
    · rwa [pickL_tab hl hls] at hg
    · exact absurd (fun x hx => by
        simp at hx
        obtain ⟨y, hy, rfl⟩ := hx
        have := hls y hy
        rw [tabM_len]
        omega) hno
theorem rank_mono {k k' n : Nat} {F F' : Fn2} (h : ∀ i, i < k → ∃ i', i' < k' ∧ F' i' = F i) : rankF k n F unitF ≤ rankF k' n F' unitF :=
  (rankF_is k n F unitF).le_of (rankF_is k' n F' unitF) fun i hi => by
    obtain ⟨i', hi', e⟩ := h i hi
    have := Span.self (m := n) hi' (nf_lt F')
    exact this.congr fun j _ => by unfold nf; rw [e]
theorem getD_at {ls : List Nat} {i : Nat} (h : i < ls.length) : ls.getD i 0 = ls[i] := by rw [List.getD_eq_getElem?_getD, List.getElem?_eq_getElem h]; rfl
theorem rowL_snoc (j : Nat) (f : Nat → UInt8) : rowL (j + 1) f = rowL j f ++ [f j] := by simp [rowL, List.range_succ]
end Go.Proofs.Ytkkpfehgobanbaa
