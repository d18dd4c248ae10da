/- The table as a law makes it. -/
import Derived.Test.YtmiapegecoaccaaTable
import Derived.Test.YtmiapegecoaccaaUnseal
namespace Go.Proofs.Ytmiapegecoaccaa
open Go.RowKit Go.Coop
theorem wpList_store_new {P : Program} {ops : Array Oper} {rest : List Oper} {o : Oper} {a : Act} {w : World} {Q : Exit → Act → World → Prop} (hgd : o.guard = none) (ty : TypeId) (x y : Operand) (ho : o.op = .store ty x y)
    (cells Z : Array Value) (hx : a.eval x = .pointer (some ⟨w.heap.size, 0, none⟩)) (hy : a.eval y = .agg cells) (t : TypeId)
    (hi : (P.info? ty).map (·.size) = some cells.size) (hold : Z.size = cells.size) (h1 : cells.all (·.oneCell') = true)
    (h : wpList P ops Q rest (a.put o.dst undef) (w.alloc (.cells cells t))) : wpList P ops Q (o :: rest) a (w.alloc (.cells Z t)) := by
  refine wpList_store_row hgd ty x y ho w.heap.size cells hx hy t Z (heap_alloc_new w _) hi hold h1 ?_
  rw [World.setRow_alloc_new]
  exact h

/-- the table as the program makes it -/
def T0 : Array Value := tarr ((List.range 256).map entry)
theorem T0_size : T0.size = 256 := by rw [T0, tarr_size]; simp
theorem T0_one : T0.all (·.oneCell') = true := by simp [T0, tarr]; intro x _; rfl
theorem size39' : (Try.prog.info? 39).map (·.size) = some T0.size := by rw [T0_size]; exact size39
theorem zero39 : ∃ Z : Array Value, Z.size = T0.size ∧ ∀ w, (zeroValue 39).run Try.prog w = .ok (.agg Z) w := ⟨_, by rw [T0_size]; simp, (zero_of_info info39).1⟩
theorem tab_new (w : World) (fr : Nat × Nat) : TabAt (w.alloc (.cells T0 39 fr)) ⟨w.heap.size, 0, none⟩ entry := by
  intro i hi
  refine ⟨entry_lt (by omega), ?_⟩
  have hadd : (⟨w.heap.size, 0, none⟩ : Addr).add i = ⟨w.heap.size, i, none⟩ := by unfold Addr.add; split <;> simp_all
  rw [hadd, cell_of_row _ w.heap.size i T0 39 fr (heap_alloc_new w _), T0, tarr_at (by simpa using hi)]
  simp [List.getD_eq_getElem?_getD, hi]
theorem TabAt.below {w w' : World} {a : Addr} {t : Nat → Nat} {B : Nat} (h : TabAt w a t) (ha : a.block < B) (hb : Below B w w') : TabAt w' a t := fun i hi =>
  ⟨(h i hi).1, (hb.cell (by rw [addr_add_block]; exact ha)).trans (h i hi).2⟩

end Go.Proofs.Ytmiapegecoaccaa
