/- A region that draws its order, within a fence that lets everything by, in a round or not: by the walk outside of fences. -/
import Derived.Test.YtobbjeephmfdeaaSplA
import Derived.RangeFuncNested
import Derived.RangeFuncBound
import Derived.RangeFuncCalls
import Derived.RangeFuncLeaves
import Derived.Shelf.Abstract
import Derived.Shelf.RegionOpen
import Derived.OwnWalkIn
import Derived.TacticsInMore
import Derived.LoopNIn
import Derived.LoopIn
namespace Go.Proofs.Ytobbjeephmfdeaa
open Go.RowKit Go.Coop Go.Shelf
set_option maxRecDepth 100000

/-- the fence that lets everything by, in a round or not -/
def openF (r : Option Nat) : Fence := { Fence.wide with round := r }
theorem openF_fenced (r : Option Nat) (m : Machine) : m.fenced Try.prog (openF r) := fenced_wide Try.prog m
theorem callsOpen {r : Option Nat} {n f : Nat} {args : Array Value} {w : World} {R : Ending → World → Prop} (h : Calls Try.prog f args w R) : CallsIn (openF r) n Try.prog f args w R :=
  ⟨trivial, (callsIn_wide (n := n).2 h).2⟩
theorem rowsOpen {r : Option Nat} {n : Nat} {row : String} {args : Array Value} {w : World} {R : Value → World → Prop} (h : Rows Try.prog row args w R) : RowsIn (openF r) n Try.prog row args w R :=
  fun c cs _ => let ⟨v, w', hr, s⟩ := h c cs; ⟨v, w', hr, stepsIn_wide.2 s⟩
/-- a walk that never runs out of room -/
def noOut (Q : Exit → Act → World → Prop) : Exit → Act → World → Prop
  | .outgrown, _, _ => False
  | .panic _, _, _ => False
  | e, a, w => Q e a w
theorem noOut_not (Q : Exit → Act → World → Prop) : ¬ LetsOut (noOut Q) := fun ⟨_, _, h⟩ => h
theorem noOut_norm {Q : Exit → Act → World → Prop} {a : Act} {w : World} (h : Q .normal a w) : noOut Q .normal a w := h
theorem opsOpen {r : Option Nat} {n : Nat} {ops : Array Oper} {Q : Exit → Act → World → Prop} (hd : ∀ (i : Nat) (o : Oper), ops[i]? = some o → ∀ c, o.op ≠ Op.defer c) :
    ∀ (js : List Nat) (a : Act) (w : World), wpOps Try.prog ops (noOut Q) js a w → wpOpsIn (openF r) n Try.prog ops Q js a w := by
  intro js
  induction js with
  | nil => intro a w h; exact h
  | cons i js ih =>
    intro a w h
    simp only [wpOps] at h
    simp only [wpOpsIn]
    cases ho : ops[i]? with
    | none => simp only [ho] at h ⊢; exact ih a w h
    | some o =>
      simp only [ho] at h ⊢
      by_cases hw : Region.wanted o (yielded ops a.tmps) = true
      · simp only [hw, if_true] at h ⊢
        have h := h.resolve_right (fun e => noOut_not Q e.2)
        unfold Oper.wp at h
        refine ⟨fun _ _ => trivial, ?_⟩
        rw [Oper.semAt_plain (openF r) _ _ (hd i o ho)]
        generalize (execOp a.eval o).run Try.prog w = q at *
        cases q with
        | ok x w' =>
          cases x <;> simp only [Oper.upon, Oper.uponIn] at h ⊢
          case value => exact ih _ _ h
          case skip => exact ih _ _ h
          case defer => exact ih _ _ h
          case enter f args =>
            refine ⟨fun e => (by cases e), callsOpen (h.mono fun e w'' he => ?_)⟩
            cases e with
            | returned v => exact ih _ _ he
            | panicked c => exact he.elim
            | outgrown => exact (noOut_not Q he).elim
          case row row args => exact ⟨fun e => (by cases e), rowsOpen (h.mono fun v w'' he => ih _ _ he)⟩
        | halt x w' =>
          cases x <;> simp only [Oper.upon, Oper.uponIn] at h ⊢
          case panic v => exact h.elim
      · simp only [hw, if_false, Bool.false_eq_true] at h ⊢
        exact ⟨fun _ _ => trivial, ih _ _ h⟩
def noDefer (ops : Array Oper) : Bool := ops.toList.all fun o => match o.op with | .defer _ => false | _ => true
theorem noDefer_spec {ops : Array Oper} (h : noDefer ops = true) : ∀ (i : Nat) (o : Oper), ops[i]? = some o → ∀ c, o.op ≠ Op.defer c := by
  intro i o ho c e
  unfold noDefer at h
  rw [List.all_eq_true] at h
  have := h o (Array.mem_toList_iff.2 (Array.mem_of_getElem? ho))
  rw [e] at this
  cases this
/-- the beginning of a region that draws its order -/
theorem heldOpen {S : World → Prop} {r : Option Nat} {n id : Nat} {ops : Array Oper} {Q : Exit → Act → World → Prop} {a : Act} {w : World} (hd : noDefer ops = true)
    (hS : S w.drew) (h : S w.drew → wpAnyH Try.prog .any ops (noOut Q) S ops.size (Array.replicate ops.size false) a w.drew) : (Code.region id ops true).wpIn (openF r) n Try.prog Q a w :=
  wpIn_region_draw fun t => by
    have hm : Try.prog.follows .mixedOrders = true := by kernel_rfl
    simp only [Region.schedule, hm, Bool.true_or, if_true]
    exact opsOpen (noDefer_spec hd) _ _ _ (wpAny_sound ops.size t _ a _ (wpAny_of_held _ _ _ _ (h hS)))
end Go.Proofs.Ytobbjeephmfdeaa
