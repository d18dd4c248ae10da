/- What a law's walk keeps from world to world. -/
import Derived.Test.YtmiapegecoaccaaWirL
import Derived.Deep.CutBlock
import Derived.Deep.CutRange
import Derived.Deep.RegionHeld3
import Derived.BigRegion
import Derived.RegionTactic
namespace Go.Proofs.Ytmiapegecoaccaa
open Go.RowKit Go.Coop
set_option maxRecDepth 100000
/-- blocks, bytes, infos, tables that stay -/
structure Keep (u : World) (R : List (Nat × Array Value × TypeId)) (B : List (Option Addr × Nat × List UInt8)) (I : List (Option Addr × Nat × List InfP)) (T : List (Nat × (Nat → Nat))) : Prop where
  rows : ∀ p ∈ R, Row u p.1 p.2.1 p.2.2
  reads : ∀ p ∈ B, Rd u p.1 p.2.1 p.2.2
  ils : ∀ p ∈ I, IL u p.1 p.2.1 p.2.2
  tabs : ∀ p ∈ T, Tb u p.1 p.2
section
variable {u u' : World} {R : List (Nat × Array Value × TypeId)} {B : List (Option Addr × Nat × List UInt8)} {I : List (Option Addr × Nat × List InfP)} {T : List (Nat × (Nat → Nat))}
theorem Keep.below {Z : Nat} (h : Keep u R B I T) (hb : Below Z u u') (hB : u.heap.size ≤ Z) : Keep u' R B I T :=
  ⟨fun p hp => (h.rows p hp).below hb hB, fun p hp => (h.reads p hp).below hb hB, fun p hp => (h.ils p hp).below hb hB, fun p hp => (h.tabs p hp).below hb hB⟩
theorem Keep.drew (h : Keep u R B I T) : Keep u.drew R B I T :=
  h.below (Z := u.heap.size) (Below.refl _ _).drew (Nat.le_refl _)
theorem Keep.start (u : World) : Keep u [] [] [] [] := ⟨by simp, by simp, by simp, by simp⟩
theorem Keep.row (h : Keep u R B I T) {g : Nat} {cs : Array Value} {t : TypeId} (hr : Row u g cs t) : Keep u ((g, cs, t) :: R) B I T :=
  ⟨fun p hp => (List.mem_cons.1 hp).elim (fun e => e ▸ hr) (fun hp => h.rows p hp), h.reads, h.ils, h.tabs⟩
theorem Keep.read (h : Keep u R B I T) {A : Option Addr} {n : Nat} {l : List UInt8} (hr : Rd u A n l) : Keep u R ((A, n, l) :: B) I T :=
  ⟨h.rows, fun p hp => (List.mem_cons.1 hp).elim (fun e => e ▸ hr) (fun hp => h.reads p hp), h.ils, h.tabs⟩
theorem Keep.il (h : Keep u R B I T) {A : Option Addr} {n : Nat} {l : List InfP} (hr : IL u A n l) : Keep u R B ((A, n, l) :: I) T :=
  ⟨h.rows, h.reads, fun p hp => (List.mem_cons.1 hp).elim (fun e => e ▸ hr) (fun hp => h.ils p hp), h.tabs⟩
theorem Keep.tab (h : Keep u R B I T) {p : Nat} {t : Nat → Nat} (hr : Tb u p t) : Keep u R B I ((p, t) :: T) :=
  ⟨h.rows, h.reads, h.ils, fun q hq => (List.mem_cons.1 hq).elim (fun e => e ▸ hr) (fun hq => h.tabs q hq)⟩
end
theorem sealed_inj {t : Nat → Nat} {a b : List UInt8} (h : sealed t a = sealed t b) : a = b := by
  have hl := congrArg List.length h
  rw [sealed_length, sealed_length] at hl
  unfold sealed at h
  exact List.append_inj_left h (by omega)
theorem putA_same {t : Nat → Nat} {a b : AskP} (ha : RightA a) (hb : RightA b) : decide (sealed t (encA a) = sealed t (encA b)) = decide (a = b) :=
  decide_eq_decide.2 ⟨fun h => encA_inj ha hb (sealed_inj h), fun h => by rw [h]⟩
theorem putT_same {t : Nat → Nat} {a b : TelP} (ha : RightT a) (hb : RightT b) : decide (sealed t (encT a) = sealed t (encT b)) = decide (a = b) :=
  decide_eq_decide.2 ⟨fun h => encT_inj ha hb (sealed_inj h), fun h => by rw [h]⟩
/-- a table of noughts -/
def Z0 : Array Value := Array.replicate 256 (Value.int .u32 0)
theorem zeroT39 : ∀ w, (zeroValue 39).run Try.prog w = .ok (.agg Z0) w := (zero_of_info info39).1
theorem tab_nought (w : World) {p : Nat} (hp : w.heap.size = p) : Tb (w.alloc (.cells Z0 39)) p (fun _ => 0) := by
  subst hp
  refine ⟨fun i hi => ⟨(by decide : (0 : Nat) < 4294967296), ?_⟩, by rw [size_alloc]; omega⟩
  have hadd : (⟨w.heap.size, 0, none⟩ : Addr).add i = ⟨w.heap.size, i, none⟩ := by unfold Addr.add; split <;> simp_all
  rw [hadd, cell_of_row _ w.heap.size i Z0 39 (0, 0) (heap_alloc_new w _), Z0]
  simp [hi]
end Go.Proofs.Ytmiapegecoaccaa
