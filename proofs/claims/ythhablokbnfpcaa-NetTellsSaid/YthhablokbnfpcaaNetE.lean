/- slices.Delete of one datagram; Drop. -/
import Derived.Test.YthhablokbnfpcaaNetD
import Derived.Deep.RegionLaw
namespace Go.Coop
open Go.RowKit
set_option maxRecDepth 100000
section
variable {P : Program}
theorem step_app_run {ops : Array Oper} {o : Oper} {a : Act} {w w' : World} {K : Act → World → Prop} {Q : Exit → Act → World → Prop} {Z : Prop} (hgd : o.guard = none) (s x : Operand) (t : TypeId)
    (ho : o.op = .call { callee := .builtin .append, args := #[s, x], argTypes := #[t, t] }) {vs vx v : Value} (hs : a.eval s = vs) (hx : a.eval x = vx) (hrun : (Builtin.append_ #[t, t] o.type #[vs, vx]).run P w = .ok v w')
    (h : K (a.put o.dst v) w') : if Region.wanted o (yielded ops a.tmps) = true then Oper.wp P o a w K Q else Z := by
  have hw : Region.wanted o (yielded ops a.tmps) = true := by simp [Region.wanted, hgd]
  rw [if_pos hw]
  unfold Oper.wp execOp
  simp only [ho, resolve, invoke, builtin, Sem.run_bind, Sem.run_pure, Result.andThen_ok, List.map_toArray, List.map_cons, List.map_nil, hs, hx, hrun]
  exact h
/-- slices of a slice whose elements have k cells -/
theorem slice_lhk {E k : Nat} (t : TypeId) (ht : P.underlying t = some (.slice E)) (hi : (P.info? E).map (·.size) = some k) (A : Option Addr) (n c x y : Nat) (hxy : x ≤ y) (hyc : y ≤ c) (w : World) :
    (Instr.slice t (.slice A n c) (some (.int .i64 (x : Int))) (some (.int .i64 (y : Int))) none).run P w = .ok (.slice (if c = x then A else A.map (·.add (x * k))) (y - x) (c - x)) w := by
  have he : P.elem t = E := by simp [Program.elem, ht]
  have hb : (Instr.sliceBounds true n c (some (.int .i64 (x : Int))) (some (.int .i64 (y : Int))) none).run P w = .ok (x, y, c) w := by
    simp [Instr.sliceBounds, run_sliceBound, *]
  obtain ⟨i, hi2, rfl⟩ : ∃ i, P.info? E = some i ∧ i.size = k := by
    cases hq : P.info? E with
    | none => simp [hq] at hi
    | some i => exact ⟨i, rfl, by simpa [hq] using hi⟩
  rw [run_slice_any w t A n c (by rw [he]; exact ht), hb, he]
  simp [sizeOf, typeInfo, hi2, sliced, Result.andThen]
theorem slice_lhmk {E k : Nat} (t : TypeId) (ht : P.underlying t = some (.slice E)) (hi : (P.info? E).map (·.size) = some k) (A : Option Addr) (n c x y z : Nat) (hxy : x ≤ y) (hyz : y ≤ z) (hzc : z ≤ c) (w : World) :
    (Instr.slice t (.slice A n c) (some (.int .i64 (x : Int))) (some (.int .i64 (y : Int))) (some (.int .i64 (z : Int)))).run P w = .ok (.slice (if z = x then A else A.map (·.add (x * k))) (y - x) (z - x)) w := by
  have he : P.elem t = E := by simp [Program.elem, ht]
  have hb : (Instr.sliceBounds true n c (some (.int .i64 (x : Int))) (some (.int .i64 (y : Int))) (some (.int .i64 (z : Int)))).run P w = .ok (x, y, z) w := by
    simp [Instr.sliceBounds, run_sliceBound, *]
  obtain ⟨i, hi2, rfl⟩ : ∃ i, P.info? E = some i ∧ i.size = k := by
    cases hq : P.info? E with
    | none => simp [hq] at hi
    | some i => exact ⟨i, rfl, by simpa [hq] using hi⟩
  rw [run_slice_any w t A n c (by rw [he]; exact ht), hb, he]
  simp [sizeOf, typeInfo, hi2, sliced, Result.andThen]
theorem slice_lk {E k : Nat} (t : TypeId) (ht : P.underlying t = some (.slice E)) (hi : (P.info? E).map (·.size) = some k) (A : Option Addr) (n c x : Nat) (hx : x ≤ n) (w : World) :
    (Instr.slice t (.slice A n c) (some (.int .i64 (x : Int))) none none).run P w = .ok (.slice (if c = x then A else A.map (·.add (x * k))) (n - x) (c - x)) w := by
  have he : P.elem t = E := by simp [Program.elem, ht]
  have hb : (Instr.sliceBounds true n c (some (.int .i64 (x : Int))) none none).run P w = .ok (x, n, c) w := by
    simp [Instr.sliceBounds, run_sliceBound, *]
  obtain ⟨i, hi2, rfl⟩ : ∃ i, P.info? E = some i ∧ i.size = k := by
    cases hq : P.info? E with
    | none => simp [hq] at hi
    | some i => exact ⟨i, rfl, by simpa [hq] using hi⟩
  rw [run_slice_any w t A n c (by rw [he]; exact ht), hb, he]
  simp [sizeOf, typeInfo, hi2, sliced, Result.andThen]
theorem slice_hk {E k : Nat} (t : TypeId) (ht : P.underlying t = some (.slice E)) (hi : (P.info? E).map (·.size) = some k) (r n c y : Nat) (hyc : y ≤ c) (w : World) :
    (Instr.slice t (.slice (some ⟨r, 0, none⟩) n c) none (some (.int .i64 (y : Int))) none).run P w = .ok (.slice (some ⟨r, 0, none⟩) y c) w := by
  have he : P.elem t = E := by simp [Program.elem, ht]
  have hb : (Instr.sliceBounds true n c none (some (.int .i64 (y : Int))) none).run P w = .ok (0, y, c) w := by
    simp [Instr.sliceBounds, run_sliceBound, *]
  obtain ⟨i, hi2, rfl⟩ : ∃ i, P.info? E = some i ∧ i.size = k := by
    cases hq : P.info? E with
    | none => simp [hq] at hi
    | some i => exact ⟨i, rfl, by simpa [hq] using hi⟩
  rw [run_slice_any w t _ n c (by rw [he]; exact ht), hb, he]
  simp [sizeOf, typeInfo, hi2, sliced, Result.andThen, Addr.add]
end
end Go.Coop
namespace Go.Proofs.Ythhablokbnfpcaa
open Go.RowKit Go.Coop Go.Maps
set_option maxRecDepth 100000
theorem setRow_but (w : World) (r : Nat) (cs : Array Value) : But [r] w (w.setRow r cs) := (But.refl _ _).setRow (by simp) cs
set_option maxHeartbeats 1000000 in
theorem delete_is (w : World) {B r n cap i j m : Nat} {l : List Dt} {d : Dt} (hl : l.length = n) (h : OwnK w B 80 3 (some ⟨r, 0, none⟩) n cap (dvs l)) (hd : l[i]? = some d) (hm : n ≤ 1000000) (hj : j = i + 1) (hn : n = m + 1) :
    Calls Try.prog 42 #[.slice (some ⟨r, 0, none⟩) n cap, .int .i64 (i : Int), .int .i64 (j : Int)] w fun e w' => e = .returned (.slice (some ⟨r, 0, none⟩) m cap) ∧ OwnK w' B 80 3 (some ⟨r, 0, none⟩) m cap (dvs (l.eraseIdx i)) ∧ But [r] w w' := by
  have hi : i < n := by have := (List.getElem?_eq_some_iff.1 hd).1; omega
  obtain ⟨r', sp, hr', hbr, hrl, hblk, hnc, hcm, hlen⟩ := h.head (by omega)
  injection hr' with hr'
  injection hr' with hr' _ _
  subst hr'
  have hT : (dvs (l.take i)).length = i * 3 := by rw [dvs_len, List.length_take]; omega
  have hD : (dvs (l.drop (i + 1))).length = (n - j) * 3 := by rw [dvs_len, List.length_drop, hl, hj]
  have hE : l.eraseIdx i = l.take i ++ l.drop (i + 1) := List.eraseIdx_eq_take_drop_succ l i
  have hlenD := dvs_len l
  have hv3 : d.vs.length = 3 := rfl
  rw [dvs_split hd] at hblk
  have s1 := fun W => slice_lhmk (P := Try.prog) 56 Try.underlying56 size80 (some ⟨r, 0, none⟩) n cap i j n (by omega) (by omega) hnc W
  rw [if_neg (by omega : ¬ n = i)] at s1
  rw [show (some (⟨r, 0, none⟩ : Addr)).map (·.add (i * 3)) = some ⟨r, i * 3, none⟩ by simp [addr_at]] at s1
  have s2 := fun W => slice_hk (P := Try.prog) 56 Try.underlying56 size80 r n cap i (by omega) W
  have s3 := fun W => slice_lk (P := Try.prog) 56 Try.underlying56 size80 (some ⟨r, 0, none⟩) n cap j (by omega) W
  obtain ⟨X, hX, hX2⟩ : ∃ X : Addr, (if cap = j then (some ⟨r, 0, none⟩ : Option Addr) else (some ⟨r, 0, none⟩ : Option Addr).map (·.add (j * 3))) = some X ∧ (0 < (dvs (l.drop (i + 1))).length → X = ⟨r, (dvs (l.take i)).length + d.vs.length, none⟩) := by
    by_cases hc : cap = j
    · exact ⟨_, by rw [if_pos hc], fun h0 => by omega⟩
    · refine ⟨⟨r, j * 3, none⟩, by rw [if_neg hc]; simp [addr_at], fun _ => ?_⟩
      rw [hT, hv3]
      congr 1
      omega
  rw [hX] at s3
  have happ := fun ty => run_app_over (P := Try.prog) w.drew 56 ty 80 3 _ 32 Try.underlying56 info80 r 80 cap i (n - j) (cap - j) (dvs (l.take i)) d.vs (dvs (l.drop (i + 1))) sp hblk hT hD X hX2 (by omega) (dvs_one _)
  obtain ⟨rest, hrest⟩ : ∃ rest, (d.vs ++ dvs (l.drop (i + 1))).drop (dvs (l.drop (i + 1))).length = rest := ⟨_, rfl⟩
  have hrl3 : rest.length = 1 * 3 := by rw [← hrest]; simp [hv3]
  obtain ⟨w1, hw1⟩ : ∃ w1, w.drew.setRow r (dvs (l.take i) ++ dvs (l.drop (i + 1)) ++ ((d.vs ++ dvs (l.drop (i + 1))).drop (dvs (l.drop (i + 1))).length ++ sp)).toArray = w1 := ⟨_, rfl⟩
  rw [hw1] at happ
  have hblk1 : w1.heap[r]? = some (.cells (dvs (l.take i) ++ dvs (l.drop (i + 1)) ++ (rest ++ sp)).toArray 80 (0, 0)) := by
    rw [← hw1, ← hrest]
    exact setRow_heap w.drew r _ _ 80 _ hblk
  rw [← List.append_assoc] at hblk1
  have hN : i + (n - j) = m := by omega
  rw [hN] at happ
  have s4 := fun W => slice_lhk (P := Try.prog) 56 Try.underlying56 size80 (some ⟨r, 0, none⟩) m cap m n (by omega) hnc W
  rw [if_neg (by omega : ¬ cap = m)] at s4
  have hcl := run_clearK (P := Try.prog) w1 56 80 3 (.agg #[.int .i64 0, .int .i64 0, .string ⟨#[]⟩]) Try.underlying56 zero80 rfl (by simp [Value.cells, Value.oneCell']) (by omega) r 80 (cap - m) 1 _ rest sp hblk1 hrl3
  obtain ⟨zs, hzs, hcl0⟩ := hcl
  have hoff : (dvs (l.take i) ++ dvs (l.drop (i + 1))).length = m * 3 := by rw [List.length_append, hT, hD]; omega
  have hcl := fun ty => hcl0 ty (some ⟨r, m * 3, none⟩) (fun _ => by rw [hoff]) (fun e => by cases e)
  rw [show (some (⟨r, 0, none⟩ : Addr)).map (·.add (m * 3)) = some ⟨r, m * 3, none⟩ by simp [addr_at]] at s4
  rw [show n - m = 1 by omega] at s4
  have HE : Hid (B ≤ r ∧ m ≤ cap ∧ cap ≤ maxLen ∧ zs.length = 1 * 3 ∧ (dvs (l.take i) ++ dvs (l.drop (i + 1))).length = m * 3 ∧ (dvs l).length + sp.length = cap * 3 ∧ (dvs l).length = n * 3 ∧ n = m + 1 ∧ w1.heap[r]? = some (.cells (dvs (l.take i) ++ dvs (l.drop (i + 1)) ++ rest ++ sp).toArray 80 (0, 0)) ∧ l.eraseIdx i = l.take i ++ l.drop (i + 1) ∧ But [r] w w1) := ⟨hbr, by omega, hcm, hzs, hoff, hlen, by rw [dvs_len, hl], hn, hblk1, hE, hw1 ▸ (But.refl [r] w).drew.trans (setRow_but _ _ _)⟩
  have hne : ((i : Int) == (j : Int)) = false := by simp; omega
  have hne2 : decide ((i : Int) = (j : Int)) = false := by simp; omega
  clear hd h hblk hnc hcm hlen hrl hT hD hE hlenD hv3 hX hX2 hrest hrl3 hw1 hblk1 hzs hoff hl hcl0 hj hn hN hm hi
  go_enter Try.func42, Try.ntmps42
  go_wp2
  go_region_law (refine step_app_run rfl (.tmp 22) (.tmp 25) 56 rfl (by simp [Act.eval]; rfl) (by simp [Act.eval]; rfl) (happ 56) ?_)
  go_wp2
  go_ret
  obtain ⟨q1, q2, q3, q4, q5, q6, q7, q8, q9, q10, q11⟩ := HE.out
  have e : dvs (l.eraseIdx i) ++ (zs ++ sp) = dvs (l.take i) ++ (dvs (l.drop (i + 1)) ++ (zs ++ sp)) := by rw [q10, dvs_append, List.append_assoc]
  have el : (dvs (l.eraseIdx i)).length = m * 3 := by rw [q10, dvs_append]; exact q5
  refine ⟨rfl, OwnK.mk' (sp := zs ++ sp) q1 ?_ q2 q3 el ?_, q11.trans (setRow_but _ _ _)⟩
  · rw [e]
    exact setRow_heap w1 r _ _ 80 _ q9
  · rw [el, List.length_append, q4]
    omega
theorem delete_one (w : World) {B r n cap i m : Nat} {l : List Dt} {d : Dt} (hl : l.length = n) (h : OwnK w B 80 3 (some ⟨r, 0, none⟩) n cap (dvs l)) (hd : l[i]? = some d) (hm : n ≤ 1000000) (hn : n = m + 1) :
    Calls Try.prog 42 #[.slice (some ⟨r, 0, none⟩) n cap, .int .i64 (i : Int), .int .i64 ((i : Int) + 1)] w fun e w' => e = .returned (.slice (some ⟨r, 0, none⟩) m cap) ∧ OwnK w' B 80 3 (some ⟨r, 0, none⟩) m cap (dvs (l.eraseIdx i)) ∧ But [r] w w' := by
  have := delete_is w hl h hd hm (j := i + 1) rfl hn
  rwa [show ((i + 1 : Nat) : Int) = (i : Int) + 1 by omega] at this
end Go.Proofs.Ythhablokbnfpcaa
