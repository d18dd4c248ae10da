/- What the walk of BytesTells needs besides the contracts: a condition that grows within a drawn region, whole tables, and what a pointer to a table answers. -/
import Derived.Test.YtfibkpjodhcppaaRefBits
import Derived.Test.YtfibkpjodhcppaaRefUns
import Derived.Test.YtfibkpjodhcppaaRefTab
import Derived.Test.YtfibkpjodhcppaaRefBlob
import Derived.Test.YtfibkpjodhcppaaBlobs
import Derived.Test.YtfibkpjodhcppaaAwake
import Derived.Deep.RegionHeld3
import Derived.Laws.StructEq
namespace Go.Proofs.Ytfibkpjodhcppaa
open Go.RowKit Go.Coop

theorem wpAnyH_stronger {P : Program} {ops : Array Oper} {Q : Exit → Act → World → Prop} {md : Region.Mode} {S S' : World → Prop} (h : ∀ w, S' w → S w) :
    ∀ (fuel : Nat) (listed : Array Bool) (a : Act) (w : World), wpAnyH P md ops Q S' fuel listed a w → wpAnyH P md ops Q S fuel listed a w
  | 0, _, _, _, h' => h'
  | fuel + 1, _, _, _, h' => ⟨h'.1, fun i hi => wpOp_mono (fun a' w' h3 => ⟨h w' h3.1, wpAnyH_stronger h fuel _ a' w' h3.2⟩) (h'.2 i hi)⟩

theorem yieldsIf_load_row {P : Program} {ops : Array Oper} {S : World → Prop} {op : Oper} {a : Act} (hw : Region.wanted op (yielded ops a.tmps) = true) (ty : TypeId) (x : Operand) (ho : op.op = .load ty x)
    (g : Nat) (hx : a.eval x = .pointer (some ⟨g, 0, none⟩)) (t : TypeId) (cs : Array Value) (fr : Nat × Nat) (d : TypeDesc) (hS : ∀ w : World, S w → w.heap[g]? = some (.cells cs t fr))
    (hu : P.underlying ty = some d) (hd : (match d with | .struct _ | .array _ _ => true | _ => false) = true) (hi : (P.info? ty).map (·.size) = some cs.size) : YieldsIf P ops S op (.agg cs) a :=
  Or.inl ⟨hw, fun w h => by
    unfold execOp
    simp only [ho, hx, Instr.loadAt, Instr.sureAddr, Sem.run_bind, Sem.run_pure, Result.andThen_ok, run_loadVar_row w g t ty cs fr d (hS w h) hu hd hi]⟩

theorem run_equalIn_same {P : Program} (w : World) (d : Nat) (t e : TypeId) (n : Nat) (ht : P.underlying t = some (.array n e)) (he : P.underlying e = some (.int .u32)) (hsz : ∀ w, (sizeOf e).run P w = .ok 1 w)
    (cs : Array Value) (hc : ∀ i, i < n → ∃ x : Int, cs[i]? = some (.int .u32 x)) : (Op.equalIn (d + 2) t (.agg cs) (.agg cs)).run P w = .ok true w := by
  rw [Op.equalIn]
  simp only [Sem.run_bind, run_underlying ht, Result.andThen_ok, hsz, Std.Legacy.Range.forIn_eq_forIn_range', Std.Legacy.Range.size, Nat.sub_zero, Nat.add_sub_cancel, Nat.div_one]
  have hl : ∀ i ∈ List.range' 0 n 1, i < n := fun i hi => by simpa using (List.mem_range'_1.1 hi).2
  generalize List.range' 0 n 1 = l at hl ⊢
  induction l with
  | nil => simp
  | cons i l ih =>
    obtain ⟨x, hx⟩ := hc i (hl i (by simp))
    have px : (part e cs (i * 1)).run P w = .ok (.int .u32 x) w := by
      simp [part, isAgg, run_underlying he, hx]
    have pe : (Op.equalIn (d + 1) e (.int .u32 x) (.int .u32 x)).run P w = .ok true w := by
      rw [run_equalIn_int w d e .u32 .u32 _ _ he]
      simp
    simp only [List.forIn_cons, Sem.run_bind, px, pe, Result.andThen_ok, Bool.not_true, Bool.false_eq_true, if_false, Sem.run_pure]
    exact ih fun j hj => hl j (by simp [hj])
theorem eq_T0 (w : World) : (Op.equalIn 10000 24 (.agg T0) (.agg T0)).run Try.prog w = .ok true w := by
  refine run_equalIn_same w 9998 24 22 256 Try.underlying24 Try.underlying22 (fun w => ?_) T0 (fun i hi => ?_)
  · have h : (Try.prog.info? 22).map (·.size) = some 1 := by kernel_rfl
    cases hq : Try.prog.info? 22 with
    | none => simp [hq] at h
    | some i => simp [sizeOf, typeInfo, hq]; simpa [hq] using h
  · exact ⟨_, tarr_at (by simpa using hi)⟩

/-- a table lies whole at block g -/
structure TabBlk (w : World) (g : Nat) (f : Nat → Nat) : Prop where
  at_ : ∃ cs : Array Value, w.heap[g]? = some (.cells cs 24 (0, 0)) ∧ ∀ j, j < 256 → f j < 4294967296 ∧ cs[j]? = some (.int .u32 (f j : Int))
theorem TabBlk.cell {w : World} {g : Nat} {f : Nat → Nat} (h : TabBlk w g f) {j : Nat} (hj : j < 256) : f j < 4294967296 ∧ w.cell? ⟨g, j, none⟩ = some (.int .u32 (f j : Int)) := by
  obtain ⟨cs, h1, h2⟩ := h.at_
  exact ⟨(h2 j hj).1, by rw [cell_of_row w g j cs 24 (0, 0) h1, (h2 j hj).2]⟩
theorem TabBlk.frozen {w : World} {g : Nat} {f : Nat → Nat} (h : TabBlk w g f) (j : Nat) : w.frozen? ⟨g, j, none⟩ = false := by
  obtain ⟨cs, h1, h2⟩ := h.at_
  simp [World.frozen?, h1]
theorem TabBlk.lt {w : World} {g : Nat} {f : Nat → Nat} (h : TabBlk w g f) : g < w.heap.size := by
  obtain ⟨cs, h1, _⟩ := h.at_
  exact (Array.getElem?_eq_some_iff.1 h1).1
theorem TabBlk.tab {w : World} {g : Nat} {f : Nat → Nat} (h : TabBlk w g f) : TabAt w ⟨g, 0, none⟩ f := fun i hi => by
  have hadd : (⟨g, 0, none⟩ : Addr).add i = ⟨g, i, none⟩ := by unfold Addr.add; split <;> simp_all
  rw [hadd]; exact h.cell hi
theorem TabBlk.set_ {w : World} {g : Nat} {f f' : Nat → Nat} (h : TabBlk w g f) (k X : Nat) (hX : X < 4294967296) (hf : ∀ j, f' j = if j = k then X else f j) : TabBlk (w.setCell ⟨g, k, none⟩ (.int .u32 (X : Int))) g f' := by
  obtain ⟨cs, h1, h2⟩ := h.at_
  refine ⟨cs.setIfInBounds k (.int .u32 (X : Int)), ?_, fun j hj => ?_⟩
  · simp [World.setCell, Array.getElem?_modify, h1]
  · have hl : j < cs.size := (Array.getElem?_eq_some_iff.1 (h2 j hj).2).1
    by_cases e : k = j
    · subst e; rw [hf, if_pos rfl, Array.getElem?_setIfInBounds_self_of_lt hl]; exact ⟨hX, rfl⟩
    · rw [hf, if_neg (fun h => e h.symm), Array.getElem?_setIfInBounds_ne e]; exact h2 j hj
theorem TabBlk.below {w w' : World} {g B : Nat} {f : Nat → Nat} (h : TabBlk w g f) (hb : Below B w w') (hg : g < B) : TabBlk w' g f := by
  obtain ⟨cs, h1, h2⟩ := h.at_
  exact ⟨cs, (hb.block g hg).trans h1, h2⟩
theorem TabBlk.new (w : World) : TabBlk (w.alloc (.cells T0 24)) w.heap.size entry :=
  ⟨T0, heap_alloc_new w _, fun j hj => ⟨entry_lt (by omega), by rw [T0, tarr_at (by simpa using hj)]; simp [List.getD_eq_getElem?_getD, hj]⟩⟩
/-- the odd table behind k rounds -/
def od (s k j : Nat) : Nat := if j < k then (entry j + (s * j) % 4294967296) % 4294967296 else entry j
theorem od_step (s k X : Nat) (h : (entry k + (s * k) % 4294967296) % 4294967296 = X) (j : Nat) : od s (k + 1) j = if j = k then X else od s k j := by
  unfold od
  by_cases e : j = k
  · subst e; rw [if_pos (by omega), if_pos rfl, h]
  · rw [if_neg e]
    by_cases hj : j < k
    · rw [if_pos (by omega), if_pos hj]
    · rw [if_neg (by omega), if_neg hj]

/-- what a pointer to a table, or to none, answers -/
def PtrOk (w : World) (p : Option Addr) : Prop := p = none ∨ ∃ a t, p = some a ∧ a.block < w.heap.size ∧ TabAt w a t
structure Six (p : Option Addr) (n : Nat) (l : List UInt8) (r : List UInt8 × Nat) (S : Nat) (L : List UInt8) (w : World) : Prop where
  un : ∀ A c, Rd w A n l → n ≤ c → Calls Try.prog 16 #[.pointer p, .slice A n c] w (Opened w r)
  run : ∀ A c, Rd w A n l → n ≤ c → Calls Try.prog 26 #[.pointer p, .slice A n c] w (ROpened w r)
  sum : ∀ A c, Rd w A n l → Calls Try.prog 17 #[.pointer p, .slice A n c] w fun e w' => e = .returned (.int .u32 (S : Int)) ∧ w = w'
  rsum : ∀ A c, Rd w A n l → Calls Try.prog 27 #[.pointer p, .slice A n c] w fun e w' => e = .returned (.int .u32 (S : Int)) ∧ w = w'
  sl : ∀ A c, Rd w A n l → Calls Try.prog 28 #[.pointer p, .slice A n c] w (Fresh w (n + 4) L)
  rsl : ∀ A c, Rd w A n l → Calls Try.prog 29 #[.pointer p, .slice A n c] w (Given w (n + 4) L)
theorem ptr_all (w : World) (p : Option Addr) (n : Nat) (l : List UInt8) (h : PtrOk w p) (hn : n ≤ 800) : ∃ r S L, ∀ w', Below w.heap.size w w' → Six p n l r S L w' := by
  rcases h with rfl | ⟨a, t, rfl, ha, ht⟩
  · exact ⟨_, 0, _, fun w' _ => ⟨fun A c hr hc => unseal_none A n c l w' hr (by omega) hc, fun A c hr hc => runseal_none A n c l w' hr (by omega) hc, fun A c _ => sum_nil A n c w', fun A c _ => rsum_nil A n c w', fun A c hr => seal_nil A n c l w' hr (by omega), fun A c hr => rseal_nil A n c l w' hr (by omega)⟩⟩
  · refine ⟨unsealed (crc t (l.take (n - 4))) l, crc t l, sealed t l, fun w' hb => ?_⟩
    have ht' := ht.below ha hb
    have ha' : a.block < w'.heap.size := Nat.lt_of_lt_of_le ha hb.size
    exact ⟨fun A c hr hc => unseal_any a t A n c l w' ht' hr (by omega) hc, fun A c hr hc => runseal_any a t A n c l w' ht' ha' hr (by omega) hc, fun A c hr => sum_any a t A n c l w' ht' hr (by omega), fun A c hr => rsum_any a t A n c l w' ht' hr (by omega), fun A c hr => seal_any a t A n c l w' ht' hr (by omega), fun A c hr => rseal_any a t A n c l w' ht' hr (by omega)⟩
end Go.Proofs.Ytfibkpjodhcppaa
