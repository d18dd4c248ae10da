/- The reference's New, Send, Copy, Drop, Forget. -/
import Derived.Test.YthhablokbnfpcaaRfD
namespace Go.Proofs.Ythhablokbnfpcaa
open Go.RowKit Go.Coop Go.Maps
set_option maxRecDepth 100000
/-- the net as it is, and an answer -/
def RSm (ends most : Nat) (A : Option Addr) (n c : Nat) (r : Value) (w : World) (e : Ending) (w' : World) : Prop := e = .returned (.tuple #[.agg #[.int .i64 (ends : Int), .int .i64 (most : Int), .slice A n c], r]) ∧ Below w.heap.size w w'
theorem boxes2 {w w3 : World} {b2 b3 : Nat} {X Y : Array Value} {T U : TypeId} (h2 : w.heap.size = b2) (h3 : b2 + 1 = b3) (hw : (w.alloc (.cells X T)).alloc (.cells Y U) = w3) :
    Below w.heap.size w w3 ∧ w3.heap[b2]? = some (.cells X T (0, 0)) ∧ w3.heap[b3]? = some (.cells Y U (0, 0)) ∧ b2 = w.heap.size ∧ b3 = b2 + 1 := by
  subst h2 h3 hw
  exact ⟨below_two _ _ _, (Below.heap_alloc _ _ _ (by simp)).trans (heap_alloc_new w _), heap_second w _ _, rfl, rfl⟩
theorem rnew_yes (w : World) (ends most : Nat) (h1 : 1 ≤ ends) (h2 : ends ≤ 300) (h3 : 1 ≤ most) (h4 : most ≤ 10000) : Calls Try.prog 21 #[.int .i64 (ends : Int), .int .i64 (most : Int)] w (RSm ends most none 0 0 (.int .i64 0) w) := by
  have g1 : (1 : Int) ≤ (ends : Int) := by omega
  have g2 : (ends : Int) ≤ 300 := by omega
  have g3 : (1 : Int) ≤ (most : Int) := by omega
  have g4 : (most : Int) ≤ 10000 := by omega
  go_enter Try.func21, Try.ntmps21
  go_wp2
  refine bodyPost_ret (v := .tuple #[.agg #[.int .i64 (ends : Int), .int .i64 (most : Int), .slice none 0 0], .int .i64 0]) ?_ rfl ⟨rfl, (Below.refl _ _).alloc (Nat.le_refl _) _⟩
  rw [results_cell_tmp rfl]
  simp [asAddr, Result.andThen, load42 (heap_alloc_new w (.cells #[.int .i64 (ends : Int), .int .i64 (most : Int), .slice none 0 0] 42)) rfl]
theorem rnew_no (w : World) {ends most : Int} (h : ends < 1 ∨ 300 < ends ∨ most < 1 ∨ 10000 < most) : Calls Try.prog 21 #[.int .i64 ends, .int .i64 most] w (RSm 0 0 none 0 0 (.int .i64 2) w) := by
  by_cases g1 : ends < 1
  · clear h
    go_enter Try.func21, Try.ntmps21
    go_wp2
    refine bodyPost_ret (v := .tuple #[.agg #[.int .i64 0, .int .i64 0, .slice none 0 0], .int .i64 2]) ?_ rfl ⟨rfl, (Below.refl _ _).alloc (Nat.le_refl _) _⟩
    rw [results_cell_tmp rfl]
    simp [asAddr, Result.andThen, load42 (heap_alloc_new w (.cells #[.int .i64 0, .int .i64 0, .slice none 0 0] 42)) rfl]
  by_cases g2 : 300 < ends
  · have g1' : (1 : Int) ≤ ends := by omega
    clear h
    go_enter Try.func21, Try.ntmps21
    go_wp2
    refine bodyPost_ret (v := .tuple #[.agg #[.int .i64 0, .int .i64 0, .slice none 0 0], .int .i64 2]) ?_ rfl ⟨rfl, (Below.refl _ _).alloc (Nat.le_refl _) _⟩
    rw [results_cell_tmp rfl]
    simp [asAddr, Result.andThen, load42 (heap_alloc_new w (.cells #[.int .i64 0, .int .i64 0, .slice none 0 0] 42)) rfl]
  by_cases g3 : most < 1
  · have g1' : (1 : Int) ≤ ends := by omega
    have g2' : ends ≤ 300 := by omega
    clear h
    go_enter Try.func21, Try.ntmps21
    go_wp2
    refine bodyPost_ret (v := .tuple #[.agg #[.int .i64 0, .int .i64 0, .slice none 0 0], .int .i64 2]) ?_ rfl ⟨rfl, (Below.refl _ _).alloc (Nat.le_refl _) _⟩
    rw [results_cell_tmp rfl]
    simp [asAddr, Result.andThen, load42 (heap_alloc_new w (.cells #[.int .i64 0, .int .i64 0, .slice none 0 0] 42)) rfl]
  have g1' : (1 : Int) ≤ ends := by omega
  have g2' : ends ≤ 300 := by omega
  have g3' : (1 : Int) ≤ most := by omega
  have g4 : 10000 < most := by omega
  clear h
  go_enter Try.func21, Try.ntmps21
  go_wp2
  refine bodyPost_ret (v := .tuple #[.agg #[.int .i64 0, .int .i64 0, .slice none 0 0], .int .i64 2]) ?_ rfl ⟨rfl, (Below.refl _ _).alloc (Nat.le_refl _) _⟩
  rw [results_cell_tmp rfl]
  simp [asAddr, Result.andThen, load42 (heap_alloc_new w (.cells #[.int .i64 0, .int .i64 0, .slice none 0 0] 42)) rfl]
theorem Bk.but42 {w w' : World} {lo n c b : Nat} {A : Option Addr} {L : List EV} {cs : Array Value} {fr : Nat × Nat} (h : Bk w lo A n c L) (hb : w.heap[b]? = some (.cells cs 42 fr)) (hbt : But [b] w w') : Bk w' lo A n c L := by
  refine ⟨h.row.but hbt fun j hj hm => ?_, fun o ho => (h.its o ho).but hbt (ne5 hb (by decide))⟩
  simp at hm
  subst hm
  rcases h.row.row.2 with ⟨hv, h0⟩ | ⟨g, cap, cur, hv, hbg, hg, _⟩
  · injection hv with hA _ _
    subst hA
    cases hj
  · injection hv with hA _ _
    subst hA
    injection hj with hj
    subst hj
    have := hb.symm.trans hg
    injection this with e
    injection e with _ e _
    cases e
theorem rwrite_full (w : World) {lo n c ends most f t lx cx q z : Nat} {A X : Option Addr} {L : List EV} {l : List UInt8} (h : Bk w lo A n c L) (hr : Rd w X lx l) (hq : forL (live L) (t : Int) = q) (hz : (live L).length = z) (he : ends ≤ 300) (hin : ∀ d ∈ live L, d.to < ends) (hF : most ≤ q ∨ 10000 ≤ z) : Calls Try.prog 46 #[.agg #[.int .i64 (ends : Int), .int .i64 (most : Int), .slice A n c], DV (f : Int) (t : Int) X lx cx] w (RSm ends most A n c (.int .i64 5) w) := by
  by_cases h1 : most ≤ q
  · exact rwrite_fullA w h hr hq hz he hin h1
  · exact rwrite_fullB w h hr hq hz he hin h1 (by omega)
theorem Bk.lies {w : World} {lo n c : Nat} {A : Option Addr} {L : List EV} (h : Bk w lo A n c L) : (A = none ∧ n = 0 ∧ c = 0) ∨ ∃ g, A = some ⟨g, 0, none⟩ := by
  rcases h.row.row.2 with ⟨hv, h0⟩ | ⟨g, cap, cur, hv, _⟩
  · injection hv with hA hn hc
    exact .inl ⟨hA, hn, hc⟩
  · injection hv with hA _ _
    exact .inr ⟨g, hA⟩
/-- append([]Entry{}, book...) -/
theorem run_app_book (w : World) {b base lo n c : Nat} {A : Option Addr} {L : List EV} (hb : w.heap[b]? = some (.cells #[] 87 (0, 0))) (hbase : base ≤ b) (h : Bk w lo A n c L) (hn : n ≤ 1000000) (ty : TypeId) :
    ∃ A' c' w', (Builtin.append_ #[40, 40] ty #[.slice (some ⟨b, 0, none⟩) 0 0, .slice A n c]).run Try.prog w = .ok (.slice A' n c') w' ∧ OwnK w' base 87 4 A' n c' (ecs L) ∧ Below base w w' := by
  have hlt := (Array.getElem?_eq_some_iff.1 hb).1
  have hown : OwnK w base 87 4 (some ⟨b, 0, none⟩) 0 0 [] := OwnK.mk' (sp := []) hbase (by simpa using hb) (Nat.le_refl _) (by decide) rfl rfl
  obtain ⟨i, hi, hz, hs1, hs2⟩ := info_parts info87z
  rcases h.lies with ⟨rfl, rfl, rfl⟩ | ⟨g, rfl⟩
  · have hL : L = [] := List.eq_nil_of_length_eq_zero h.len
    subst hL
    refine ⟨some ⟨b, 0, none⟩, 0, w, ?_, hown, Below.refl _ _⟩
    simp [Builtin.append_, run_underlying Try.underlying40, sizeOf, typeInfo, zeroValue, hi, hz, Builtin.lenOf]
    rw [run_firstCells_none]
    rfl
  · obtain ⟨v', w', hrun, h2', h3, _, h5⟩ := run_append_own_at (P := Try.prog) w base 40 ty 87 i _ 4 48 Try.underlying40 hi hz hs1 hs2 rfl (by omega) (.slice (some ⟨b, 0, none⟩) 0 0) 0 [] hown.row ⟨g, 0, none⟩ n c (ecs L) (by rw [ecs_len, h.len]) (fun j u hj => by
      have h0 : 0 < n := by have := (List.getElem?_eq_some_iff.1 hj).1; rw [ecs_len, h.len] at this; omega
      obtain ⟨ad, ea, _, hc⟩ := h.row.rd.cells (by omega)
      injection ea with ea
      subst ea
      exact hc j u hj) (ecs_one L) (by simp only [maxLen]; omega) (by omega) (by omega)
    obtain ⟨A', c', rfl⟩ : ∃ A' c', v' = .slice A' n c' := by
      rcases h2'.2 with ⟨rfl, h0⟩ | ⟨g, cap, cur, rfl, _⟩
      · exact ⟨none, 0, by simp at h0; rw [h0]⟩
      · exact ⟨some ⟨g, 0, none⟩, cap, by simp⟩
    refine ⟨A', c', w', hrun, ⟨by simpa using h2'⟩, (Below.refl base w).grown h3 (by omega) (fun k hk => ?_)⟩
    simp [Value.ownBlock] at hk
    omega
theorem wpList_app_run {P : Program} {ops : Array Oper} {rest : List Oper} {o : Oper} {a : Act} {w w' : World} {Q : Exit → Act → World → Prop} (hgd : o.guard = none) (s x : Operand) (t : TypeId)
    (ho : o.op = .call { callee := .builtin .append, args := #[s, x], argTypes := #[t, t] }) {vs vx r : Value} (hs : a.eval s = vs) (hx : a.eval x = vx) (hrun : (Builtin.append_ #[t, t] o.type #[vs, vx]).run P w = .ok r w')
    (h : wpList P ops Q rest (a.put o.dst r) w') : wpList P ops Q (o :: rest) a w :=
  wpList_plain hgd fun _ hK => by
    unfold Oper.wp execOp
    simp only [ho, resolve, invoke, builtin, Sem.run_bind, Sem.run_pure, Result.andThen_ok, List.map_toArray, List.map_cons, List.map_nil, hs, hx, hrun]
    exact hK _ _ h
theorem its_set {w : World} {lo p : Nat} {L : List EV} {o : EV} {b : Bool} (h : ∀ o ∈ L, Nw w lo o.X o.d.b) (hp : L[p]? = some o) : ∀ o2 ∈ L.set p { o with gone := b }, Nw w lo o2.X o2.d.b := by
  intro o2 ho2
  rcases List.mem_or_eq_of_mem_set ho2 with h2 | h2
  · exact h o2 h2
  · subst h2
    exact h o (List.mem_of_getElem? hp)
theorem its_mark {w : World} {lo : Nat} {L : List EV} {t : Int} (h : ∀ o ∈ L, Nw w lo o.X o.d.b) : ∀ o2 ∈ L.map (EV.mark t), Nw w lo o2.X o2.d.b := by
  intro o2 ho2
  obtain ⟨o, ho, rfl⟩ := List.mem_map.1 ho2
  exact h o ho
theorem own_get {w : World} {lo n c : Nat} {A : Option Addr} {M : List EV} (h : OwnK w lo 87 4 A n c (ecs M)) {i : Nat} {o : EV} (hi : M[i]? = some o) : ∃ r, A = some ⟨r, 0, none⟩ ∧ lo ≤ r ∧ r < w.heap.size ∧ w.cell? ⟨r, i * 4 + 1, none⟩ = some (.int .i64 (o.d.to : Int)) ∧ w.cell? ⟨r, i * 4 + 3, none⟩ = some (.bool o.gone) ∧ w.frozen? ⟨r, i * 4 + 3, none⟩ = false := by
  have hlt := (List.getElem?_eq_some_iff.1 hi).1
  have hl := h.len
  rw [ecs_len] at hl
  obtain ⟨r, sp, rfl, hlo, hlt2, hr, _⟩ := h.head (by omega)
  have hx : ∀ j v, o.cells[j]? = some v → w.cell? ⟨r, i * 4 + j, none⟩ = some v := fun j v hj => by
    have := ecs_get hi hj
    simp only [World.cell?, hr]
    simp only [List.getElem?_toArray]
    rw [List.getElem?_append_left (List.getElem?_eq_some_iff.1 this).1, this]
    rfl
  exact ⟨r, rfl, hlo, hlt2, hx 1 _ rfl, hx 3 _ rfl, frozen_of_row w r _ _ 87 hr⟩
theorem ecs_flag {M : List EV} {i : Nat} {o : EV} (h : M[i]? = some o) (b : Bool) : (ecs M).set (i * 4 + 3) (.bool b) = ecs (M.set i { o with gone := b }) := by
  have hi := (List.getElem?_eq_some_iff.1 h).1
  have hl : (ecs (M.take i)).length = i * 4 := by rw [ecs_len, List.length_take]; omega
  rw [ecs_split h, ecs_set hi, List.append_assoc, List.append_assoc, List.set_append_right (i * 4 + 3) _ (by omega), hl, Nat.add_sub_cancel_left]
  rfl
theorem own_flag {w : World} {lo n c r : Nat} {M : List EV} (h : OwnK w lo 87 4 (some ⟨r, 0, none⟩) n c (ecs M)) {i : Nat} {o : EV} (hi : M[i]? = some o) (b : Bool) : OwnK (w.setCell ⟨r, i * 4 + 3, none⟩ (.bool b)) lo 87 4 (some ⟨r, 0, none⟩) n c (ecs (M.set i { o with gone := b })) := by
  have := (World.ownsRow.stored h.row (i * 4 + 3) (.bool b)).1
  rw [ecs_flag hi] at this
  exact ⟨this⟩
theorem mark_step {L : List EV} {t : Int} {j : Nat} {o : EV} (h : L[j]? = some o) : (((L.take j).map (EV.mark t) ++ L.drop j).set j (o.mark t)) = (L.take (j + 1)).map (EV.mark t) ++ L.drop (j + 1) := by
  have hj := (List.getElem?_eq_some_iff.1 h).1
  have hl : ((L.take j).map (EV.mark t)).length = j := by rw [List.length_map, List.length_take]; omega
  rw [List.set_append_right j _ (by omega), hl, Nat.sub_self, List.drop_eq_getElem_cons hj, (List.getElem?_eq_some_iff.1 h).2, List.take_add_one, h]
  simp
theorem mark_at {L : List EV} {t : Int} {j : Nat} {o : EV} (h : L[j]? = some o) : ((L.take j).map (EV.mark t) ++ L.drop j)[j]? = some o := by
  have hj := (List.getElem?_eq_some_iff.1 h).1
  have hl : ((L.take j).map (EV.mark t)).length = j := by rw [List.length_map, List.length_take]; omega
  rw [List.getElem?_append_right (by omega), hl, Nat.sub_self, List.getElem?_drop]
  exact h
section
variable (w : World) {lo n c ends most lx cx q z : Nat} {A X : Option Addr} {L : List EV} {l : List UInt8}
theorem rsend_bad {f t : Int} (h : f < 0 ∨ t < 0 ∨ (ends : Int) ≤ f ∨ (ends : Int) ≤ t) : Calls Try.prog 22 #[.agg #[.int .i64 (ends : Int), .int .i64 (most : Int), .slice A n c], .int .i64 f, .int .i64 t, .slice X lx cx] w (RSm ends most A n c (.int .i64 2) w) := by
  by_cases g1 : f < 0
  · clear h
    go_enter Try.func22, Try.ntmps22
    go_wp2
    refine bodyPost_ret (v := .tuple #[.agg #[.int .i64 (ends : Int), .int .i64 (most : Int), .slice A n c], .int .i64 2]) ?_ rfl ⟨rfl, below_two _ _ _⟩
    rw [results_cell_tmp rfl]
    simp [asAddr, Result.andThen, load42 (heap_second w (.cells #[.int .i64 (ends : Int), .int .i64 (most : Int), .slice A n c] 42) (.cells #[.int .i64 (ends : Int), .int .i64 (most : Int), .slice A n c] 42)) rfl]
  by_cases g2 : t < 0
  · have g1' : (0 : Int) ≤ f := by omega
    clear h
    go_enter Try.func22, Try.ntmps22
    go_wp2
    refine bodyPost_ret (v := .tuple #[.agg #[.int .i64 (ends : Int), .int .i64 (most : Int), .slice A n c], .int .i64 2]) ?_ rfl ⟨rfl, below_two _ _ _⟩
    rw [results_cell_tmp rfl]
    simp [asAddr, Result.andThen, load42 (heap_second w (.cells #[.int .i64 (ends : Int), .int .i64 (most : Int), .slice A n c] 42) (.cells #[.int .i64 (ends : Int), .int .i64 (most : Int), .slice A n c] 42)) rfl]
  by_cases g3 : (ends : Int) ≤ f
  · have g1' : (0 : Int) ≤ f := by omega
    have g2' : (0 : Int) ≤ t := by omega
    clear h
    go_enter Try.func22, Try.ntmps22
    go_wp2
    refine bodyPost_ret (v := .tuple #[.agg #[.int .i64 (ends : Int), .int .i64 (most : Int), .slice A n c], .int .i64 2]) ?_ rfl ⟨rfl, below_two _ _ _⟩
    rw [results_cell_tmp rfl]
    simp [asAddr, Result.andThen, load42 (heap_second w (.cells #[.int .i64 (ends : Int), .int .i64 (most : Int), .slice A n c] 42) (.cells #[.int .i64 (ends : Int), .int .i64 (most : Int), .slice A n c] 42)) rfl]
  have g1' : (0 : Int) ≤ f := by omega
  have g2' : (0 : Int) ≤ t := by omega
  have g3' : f < (ends : Int) := by omega
  have g4 : (ends : Int) ≤ t := by omega
  clear h
  go_enter Try.func22, Try.ntmps22
  go_wp2
  refine bodyPost_ret (v := .tuple #[.agg #[.int .i64 (ends : Int), .int .i64 (most : Int), .slice A n c], .int .i64 2]) ?_ rfl ⟨rfl, below_two _ _ _⟩
  rw [results_cell_tmp rfl]
  simp [asAddr, Result.andThen, load42 (heap_second w (.cells #[.int .i64 (ends : Int), .int .i64 (most : Int), .slice A n c] 42) (.cells #[.int .i64 (ends : Int), .int .i64 (most : Int), .slice A n c] 42)) rfl]
theorem rsend_long {f t : Nat} (hf : f < ends) (ht : t < ends) (hl : 131072 < lx) : Calls Try.prog 22 #[.agg #[.int .i64 (ends : Int), .int .i64 (most : Int), .slice A n c], .int .i64 (f : Int), .int .i64 (t : Int), .slice X lx cx] w (RSm ends most A n c (.int .i64 3) w) := by
  have g1 : (0 : Int) ≤ (f : Int) := by omega
  have g2 : (0 : Int) ≤ (t : Int) := by omega
  have g3 : (f : Int) < (ends : Int) := by omega
  have g4 : (t : Int) < (ends : Int) := by omega
  have g5 : (131072 : Int) < (lx : Int) := by omega
  clear hf ht hl
  go_enter Try.func22, Try.ntmps22
  go_wp2
  refine bodyPost_ret (v := .tuple #[.agg #[.int .i64 (ends : Int), .int .i64 (most : Int), .slice A n c], .int .i64 3]) ?_ rfl ⟨rfl, below_two _ _ _⟩
  rw [results_cell_tmp rfl]
  simp [asAddr, Result.andThen, load42 (heap_second w (.cells #[.int .i64 (ends : Int), .int .i64 (most : Int), .slice A n c] 42) (.cells #[.int .i64 (ends : Int), .int .i64 (most : Int), .slice A n c] 42)) rfl]
theorem rsend_full (h : Bk w lo A n c L) (hr : Rd w X lx l) {f t : Nat} (hf : f < ends) (ht : t < ends) (hl : lx ≤ 131072) (hq : forL (live L) (t : Int) = q) (hz : (live L).length = z) (he : ends ≤ 300) (hin : ∀ d ∈ live L, d.to < ends) (hF : most ≤ q ∨ 10000 ≤ z) : Calls Try.prog 22 #[.agg #[.int .i64 (ends : Int), .int .i64 (most : Int), .slice A n c], .int .i64 (f : Int), .int .i64 (t : Int), .slice X lx cx] w (RSm ends most A n c (.int .i64 5) w) := by
  have g1 : (0 : Int) ≤ (f : Int) := by omega
  have g2 : (0 : Int) ≤ (t : Int) := by omega
  have g3 : (f : Int) < (ends : Int) := by omega
  have g4 : (t : Int) < (ends : Int) := by omega
  have g5 : (lx : Int) ≤ 131072 := by omega
  have HA := Lib.hid (And.intro h (And.intro hr (And.intro hq (And.intro hz (And.intro he hin)))))
  have HF := Lib.hid hF
  clear hF
  clear h hr hf ht hl hq hz he hin
  go_enter Try.func22, Try.ntmps22
  go_wp2_with fail
  obtain ⟨b2, hb2⟩ : ∃ b, w.heap.size = b := ⟨_, rfl⟩
  obtain ⟨b3, hb3⟩ : ∃ b, b2 + 1 = b := ⟨_, rfl⟩
  obtain ⟨w3, hw3⟩ : ∃ v, (w.alloc (.cells #[.int .i64 (ends : Int), .int .i64 (most : Int), .slice A n c] 42)).alloc (.cells #[.int .i64 0, .int .i64 0, .slice none 0 0] 42) = v := ⟨_, rfl⟩
  have HB := Lib.hid (boxes2 hb2 hb3 hw3)
  rw [hw3, hb2, hb3]
  clear hw3 hb2 hb3
  refine (rwrite_full w3 (HA.out.1.below HB.out.1) (HA.out.2.1.below HB.out.1 (Nat.le_refl _)) HA.out.2.2.1 HA.out.2.2.2.1 HA.out.2.2.2.2.1 HA.out.2.2.2.2.2 HF.out).mono ?_
  rintro _ v ⟨rfl, hb⟩
  have g4 := rowk2 hb HB.out.2.2.1
  obtain ⟨⟨d0, d1, d2⟩, f0, f1, f2⟩ := three g4
  have HQ := Lib.hid (And.intro g4 (HB.out.1.trans (hb.mono HB.out.1.size)))
  clear g4 hb
  go_wp2
  have hE6 := row3 (v0 := .int .i64 (ends : Int)) (v1 := .int .i64 (most : Int)) (v2 := .slice A n c) HQ.out.1
  obtain ⟨w8, hw8⟩ : ∃ zz, ((v.setCell ⟨b3, 0, none⟩ (.int .i64 (ends : Int))).setCell ⟨b3, 1, none⟩ (.int .i64 (most : Int))).setCell ⟨b3, 2, none⟩ (.slice A n c) = zz := ⟨_, rfl⟩
  have hbt8 : But [b3] v w8 := hw8 ▸ (((But.refl [b3] v).setCell (p := ⟨b3, 0, none⟩) (by simp) _).setCell (p := ⟨b3, 1, none⟩) (by simp) _).setCell (p := ⟨b3, 2, none⟩) (by simp) _
  rw [hw8] at hE6 ⊢
  have hE := HQ.out.2.trans (hbt8.below HQ.out.2.size (by have := HB.out.2.2.2; simp; omega))
  refine bodyPost_ret (v := .tuple #[.agg #[.int .i64 (ends : Int), .int .i64 (most : Int), .slice A n c], .int .i64 5]) ?_ rfl ⟨rfl, hE⟩
  rw [results_cell_tmp rfl]
  simp [asAddr, Result.andThen, load42 hE6 rfl]
theorem rsend_room (h : Bk w lo A n c L) (hr : Rd w X lx l) {f t : Nat} (hf : f < ends) (ht : t < ends) (hl : lx ≤ 131072) (hq : forL (live L) (t : Int) = q) (hz : (live L).length = z) (he : ends ≤ 300) (hin : ∀ d ∈ live L, d.to < ends) (hF : ¬ (most ≤ q ∨ 10000 ≤ z)) (hn : n ≤ 1000000) (hlo : lo ≤ w.heap.size) : Calls Try.prog 22 #[.agg #[.int .i64 (ends : Int), .int .i64 (most : Int), .slice A n c], .int .i64 (f : Int), .int .i64 (t : Int), .slice X lx cx] w (fun e w' => ∃ A' c' o, e = .returned (.tuple #[.agg #[.int .i64 (ends : Int), .int .i64 (most : Int), .slice A' (n + 1) c'], .int .i64 0]) ∧ Bk w' lo A' (n + 1) c' (L ++ [o]) ∧ o.d = ⟨f, t, l⟩ ∧ o.gone = false ∧ Below w.heap.size w w') := by
  have g1 : (0 : Int) ≤ (f : Int) := by omega
  have g2 : (0 : Int) ≤ (t : Int) := by omega
  have g3 : (f : Int) < (ends : Int) := by omega
  have g4 : (t : Int) < (ends : Int) := by omega
  have g5 : (lx : Int) ≤ 131072 := by omega
  have HA := Lib.hid (And.intro h (And.intro hr (And.intro hq (And.intro hz (And.intro he hin)))))
  have HF := Lib.hid (And.intro hF (And.intro hn hlo))
  clear hF hn hlo
  clear h hr hf ht hl hq hz he hin
  go_enter Try.func22, Try.ntmps22
  go_wp2_with fail
  obtain ⟨b2, hb2⟩ : ∃ b, w.heap.size = b := ⟨_, rfl⟩
  obtain ⟨b3, hb3⟩ : ∃ b, b2 + 1 = b := ⟨_, rfl⟩
  obtain ⟨w3, hw3⟩ : ∃ v, (w.alloc (.cells #[.int .i64 (ends : Int), .int .i64 (most : Int), .slice A n c] 42)).alloc (.cells #[.int .i64 0, .int .i64 0, .slice none 0 0] 42) = v := ⟨_, rfl⟩
  have HB := Lib.hid (boxes2 hb2 hb3 hw3)
  rw [hw3, hb2, hb3]
  clear hw3 hb2 hb3
  refine (rwrite_room w3 (HA.out.1.below HB.out.1) (HA.out.2.1.below HB.out.1 (Nat.le_refl _)) HA.out.2.2.1 HA.out.2.2.2.1 HA.out.2.2.2.2.1 HA.out.2.2.2.2.2 (by have := HF.out.1; omega) (by have := HF.out.1; omega) HF.out.2.1 (Nat.le_trans HF.out.2.2 HB.out.1.size)).mono ?_
  rintro _ v ⟨A', c', o, rfl, hk, ho1, ho2, hb⟩
  have HO := Lib.hid (And.intro hk (And.intro ho1 ho2))
  clear hk ho1 ho2
  have g4 := rowk2 hb HB.out.2.2.1
  obtain ⟨⟨d0, d1, d2⟩, f0, f1, f2⟩ := three g4
  have HQ := Lib.hid (And.intro g4 (HB.out.1.trans (hb.mono HB.out.1.size)))
  clear g4 hb
  go_wp2
  have hE6 := row3 (v0 := .int .i64 (ends : Int)) (v1 := .int .i64 (most : Int)) (v2 := .slice A' (n + 1) c') HQ.out.1
  obtain ⟨w8, hw8⟩ : ∃ zz, ((v.setCell ⟨b3, 0, none⟩ (.int .i64 (ends : Int))).setCell ⟨b3, 1, none⟩ (.int .i64 (most : Int))).setCell ⟨b3, 2, none⟩ (.slice A' (n + 1) c') = zz := ⟨_, rfl⟩
  have hbt8 : But [b3] v w8 := hw8 ▸ (((But.refl [b3] v).setCell (p := ⟨b3, 0, none⟩) (by simp) _).setCell (p := ⟨b3, 1, none⟩) (by simp) _).setCell (p := ⟨b3, 2, none⟩) (by simp) _
  rw [hw8] at hE6 ⊢
  have hE := HQ.out.2.trans (hbt8.below HQ.out.2.size (by have := HB.out.2.2.2; simp; omega))
  have hbk : Bk w8 lo A' (n + 1) c' (L ++ [o]) := HO.out.1.but42 HQ.out.1 hbt8
  refine bodyPost_ret (v := .tuple #[.agg #[.int .i64 (ends : Int), .int .i64 (most : Int), .slice A' (n + 1) c'], .int .i64 0]) ?_ rfl ⟨A', c', o, rfl, hbk, HO.out.2.1, HO.out.2.2, hE⟩
  rw [results_cell_tmp rfl]
  simp [asAddr, Result.andThen, load42 hE6 rfl]
theorem rcopy_none (h : Bk w lo A n c L) {i : Int} (hi : i < 0 ∨ ((live L).length : Int) ≤ i) (hi2 : i ≤ 9223372036854775807) : Calls Try.prog 23 #[.agg #[.int .i64 (ends : Int), .int .i64 (most : Int), .slice A n c], .int .i64 i] w (RSm ends most A n c (.int .i64 2) w) := by
  have H := Lib.hid (And.intro h (And.intro hi hi2))
  clear h hi hi2
  go_enter Try.func23, Try.ntmps23
  go_wp2_with fail
  obtain ⟨b2, hb2⟩ : ∃ b, w.heap.size = b := ⟨_, rfl⟩
  obtain ⟨b3, hb3⟩ : ∃ b, b2 + 1 = b := ⟨_, rfl⟩
  obtain ⟨w3, hw3⟩ : ∃ v, (w.alloc (.cells #[.int .i64 (ends : Int), .int .i64 (most : Int), .slice A n c] 42)).alloc (.cells #[.int .i64 0, .int .i64 0, .slice none 0 0] 42) = v := ⟨_, rfl⟩
  have HB := Lib.hid (boxes2 hb2 hb3 hw3)
  rw [hw3, hb2, hb3]
  clear hw3 hb2 hb3
  refine (rlook_none _ (H.out.1.below HB.out.1) _ _ H.out.2.1 H.out.2.2).mono ?_
  rintro _ v1 ⟨rfl, hb1⟩
  obtain ⟨v, hv⟩ : ∃ zz, v1.alloc (.cells #[.int .i64 0, .int .i64 0, .slice none 0 0] 34) = zz := ⟨_, rfl⟩
  have hb : Below w3.heap.size w3 v := hb1.trans ((hv ▸ (Below.refl _ _).alloc (Nat.le_refl _) _ : Below v1.heap.size v1 v).mono hb1.size)
  have HV := Lib.hid hv
  clear hv
  go_upto_region 2 with (fail)
  rw [HV.out]
  have r2 := rowk2 hb HB.out.2.1
  have g4 := rowk2 hb HB.out.2.2.1
  obtain ⟨⟨c0, c1, c2⟩, fc0, fc1, fc2⟩ := three r2
  obtain ⟨⟨d0, d1, d2⟩, f0, f1, f2⟩ := three g4
  have HQ := Lib.hid (And.intro g4 (HB.out.1.trans (hb.mono HB.out.1.size)))
  clear g4 r2 hb hb1
  go_wp2
  have hE6 := row3 (v0 := .int .i64 (ends : Int)) (v1 := .int .i64 (most : Int)) (v2 := .slice A n c) HQ.out.1
  obtain ⟨w8, hw8⟩ : ∃ zz, ((v.setCell ⟨b3, 0, none⟩ (.int .i64 (ends : Int))).setCell ⟨b3, 1, none⟩ (.int .i64 (most : Int))).setCell ⟨b3, 2, none⟩ (.slice A n c) = zz := ⟨_, rfl⟩
  have hbt8 : But [b3] v w8 := hw8 ▸ (((But.refl [b3] v).setCell (p := ⟨b3, 0, none⟩) (by simp) _).setCell (p := ⟨b3, 1, none⟩) (by simp) _).setCell (p := ⟨b3, 2, none⟩) (by simp) _
  rw [hw8] at hE6 ⊢
  have hE := HQ.out.2.trans (hbt8.below HQ.out.2.size (by have := HB.out.2.2.2; simp; omega))
  refine bodyPost_ret (v := .tuple #[.agg #[.int .i64 (ends : Int), .int .i64 (most : Int), .slice A n c], .int .i64 2]) ?_ rfl ⟨rfl, hE⟩
  rw [results_cell_tmp rfl]
  simp [asAddr, Result.andThen, load42 hE6 rfl]
set_option maxHeartbeats 1000000 in
theorem rcopy_full (h : Bk w lo A n c L) {p i : Nat} {o : EV} (hp : L[p]? = some o) (hg : o.gone = false) (hi : (live (L.take p)).length = i) (hq : forL (live L) (o.d.to : Int) = q) (hz : (live L).length = z) (he : ends ≤ 300) (hin : ∀ d ∈ live L, d.to < ends) (hF : most ≤ q ∨ 10000 ≤ z) : Calls Try.prog 23 #[.agg #[.int .i64 (ends : Int), .int .i64 (most : Int), .slice A n c], .int .i64 (i : Int)] w (RSm ends most A n c (.int .i64 5) w) := by
  have HA := Lib.hid (And.intro h (And.intro hp (And.intro hg (And.intro hi (And.intro hq (And.intro hz (And.intro he hin)))))))
  have HF := Lib.hid hF
  clear hF
  clear h hp hg hi hq hz he hin
  go_enter Try.func23, Try.ntmps23
  go_wp2_with fail
  obtain ⟨b2, hb2⟩ : ∃ b, w.heap.size = b := ⟨_, rfl⟩
  obtain ⟨b3, hb3⟩ : ∃ b, b2 + 1 = b := ⟨_, rfl⟩
  obtain ⟨w3, hw3⟩ : ∃ v, (w.alloc (.cells #[.int .i64 (ends : Int), .int .i64 (most : Int), .slice A n c] 42)).alloc (.cells #[.int .i64 0, .int .i64 0, .slice none 0 0] 42) = v := ⟨_, rfl⟩
  have HB := Lib.hid (boxes2 hb2 hb3 hw3)
  rw [hw3, hb2, hb3]
  clear hw3 hb2 hb3
  refine (rlook_some _ (HA.out.1.below HB.out.1) _ _ HA.out.2.1 HA.out.2.2.1 HA.out.2.2.2.1).mono ?_
  rintro _ v1 ⟨rfl, hb1⟩
  obtain ⟨f, hf⟩ : ∃ x, o.d.fr = x := ⟨_, rfl⟩
  obtain ⟨t, ht⟩ : ∃ x, o.d.to = x := ⟨_, rfl⟩
  rw [hf, ht]
  obtain ⟨v, hv⟩ : ∃ zz, v1.alloc (.cells #[.int .i64 (f : Int), .int .i64 (t : Int), .slice o.X o.d.b.length o.c] 34) = zz := ⟨_, rfl⟩
  have hbv : Below v1.heap.size v1 v := hv ▸ (Below.refl _ _).alloc (Nat.le_refl _) _
  have hb : Below w3.heap.size w3 v := hb1.trans (hbv.mono hb1.size)
  have r6 : v.heap[v1.heap.size]? = some (.cells #[.int .i64 (f : Int), .int .i64 (t : Int), .slice o.X o.d.b.length o.c] 34 (0, 0)) := hv ▸ heap_alloc_new _ _
  obtain ⟨⟨k0, k1, k2⟩, _, _, _⟩ := three r6
  have hBv := HB.out.1.trans (hb.mono HB.out.1.size)
  have hbkv := HA.out.1.below hBv
  have r2 := rowk2 hb HB.out.2.1
  have g4 := rowk2 hb HB.out.2.2.1
  obtain ⟨⟨c0, c1, c2⟩, fc0, fc1, fc2⟩ := three r2
  obtain ⟨⟨d0, d1, d2⟩, f0, f1, f2⟩ := three g4
  have HQ := Lib.hid (And.intro g4 (And.intro hBv (And.intro hbkv (And.intro (hbkv.its o (List.mem_of_getElem? HA.out.2.1)).rd (And.intro hf ht)))))
  clear g4 r2 r6 hb hb1 hbv hBv hbkv hf ht
  go_wp2_with fail
  try rw [hv]
  refine (rwrite_full v HQ.out.2.2.1 HQ.out.2.2.2.1 (by have := HA.out.2.2.2.2.1; rw [HQ.out.2.2.2.2.2] at this; exact this) HA.out.2.2.2.2.2.1 HA.out.2.2.2.2.2.2.1 HA.out.2.2.2.2.2.2.2 HF.out).mono ?_
  rintro _ x ⟨rfl, hb9⟩
  have g5 := rowk2 hb9 HQ.out.1
  clear d0 d1 d2 f0 f1 f2
  obtain ⟨⟨d0, d1, d2⟩, f0, f1, f2⟩ := three g5
  have HZ := Lib.hid (And.intro g5 (HQ.out.2.1.trans (hb9.mono HQ.out.2.1.size)))
  clear g5 hb9 c0 c1 c2 fc0 fc1 fc2 k0 k1 k2
  go_wp2
  have hE6 := row3 (v0 := .int .i64 (ends : Int)) (v1 := .int .i64 (most : Int)) (v2 := .slice A n c) HZ.out.1
  obtain ⟨w8, hw8⟩ : ∃ zz, ((x.setCell ⟨b3, 0, none⟩ (.int .i64 (ends : Int))).setCell ⟨b3, 1, none⟩ (.int .i64 (most : Int))).setCell ⟨b3, 2, none⟩ (.slice A n c) = zz := ⟨_, rfl⟩
  have hbt8 : But [b3] x w8 := hw8 ▸ (((But.refl [b3] x).setCell (p := ⟨b3, 0, none⟩) (by simp) _).setCell (p := ⟨b3, 1, none⟩) (by simp) _).setCell (p := ⟨b3, 2, none⟩) (by simp) _
  rw [hw8] at hE6 ⊢
  have hE := HZ.out.2.trans (hbt8.below HZ.out.2.size (by have := HB.out.2.2.2; simp; omega))
  refine bodyPost_ret (v := .tuple #[.agg #[.int .i64 (ends : Int), .int .i64 (most : Int), .slice A n c], .int .i64 5]) ?_ rfl ⟨rfl, hE⟩
  rw [results_cell_tmp rfl]
  simp [asAddr, Result.andThen, load42 hE6 rfl]
set_option maxHeartbeats 1000000 in
theorem rcopy_room (h : Bk w lo A n c L) {p i : Nat} {o : EV} (hp : L[p]? = some o) (hg : o.gone = false) (hi : (live (L.take p)).length = i) (hq : forL (live L) (o.d.to : Int) = q) (hz : (live L).length = z) (he : ends ≤ 300) (hin : ∀ d ∈ live L, d.to < ends) (hF : ¬ (most ≤ q ∨ 10000 ≤ z)) (hn : n ≤ 1000000) (hlo : lo ≤ w.heap.size) : Calls Try.prog 23 #[.agg #[.int .i64 (ends : Int), .int .i64 (most : Int), .slice A n c], .int .i64 (i : Int)] w (fun e w' => ∃ A' c' o', e = .returned (.tuple #[.agg #[.int .i64 (ends : Int), .int .i64 (most : Int), .slice A' (n + 1) c'], .int .i64 0]) ∧ Bk w' lo A' (n + 1) c' (L ++ [o']) ∧ o'.d = o.d ∧ o'.gone = false ∧ Below w.heap.size w w') := by
  have HA := Lib.hid (And.intro h (And.intro hp (And.intro hg (And.intro hi (And.intro hq (And.intro hz (And.intro he hin)))))))
  have HF := Lib.hid (And.intro hF (And.intro hn hlo))
  clear hF hn hlo
  clear h hp hg hi hq hz he hin
  go_enter Try.func23, Try.ntmps23
  go_wp2_with fail
  obtain ⟨b2, hb2⟩ : ∃ b, w.heap.size = b := ⟨_, rfl⟩
  obtain ⟨b3, hb3⟩ : ∃ b, b2 + 1 = b := ⟨_, rfl⟩
  obtain ⟨w3, hw3⟩ : ∃ v, (w.alloc (.cells #[.int .i64 (ends : Int), .int .i64 (most : Int), .slice A n c] 42)).alloc (.cells #[.int .i64 0, .int .i64 0, .slice none 0 0] 42) = v := ⟨_, rfl⟩
  have HB := Lib.hid (boxes2 hb2 hb3 hw3)
  rw [hw3, hb2, hb3]
  clear hw3 hb2 hb3
  refine (rlook_some _ (HA.out.1.below HB.out.1) _ _ HA.out.2.1 HA.out.2.2.1 HA.out.2.2.2.1).mono ?_
  rintro _ v1 ⟨rfl, hb1⟩
  obtain ⟨f, hf⟩ : ∃ x, o.d.fr = x := ⟨_, rfl⟩
  obtain ⟨t, ht⟩ : ∃ x, o.d.to = x := ⟨_, rfl⟩
  rw [hf, ht]
  obtain ⟨v, hv⟩ : ∃ zz, v1.alloc (.cells #[.int .i64 (f : Int), .int .i64 (t : Int), .slice o.X o.d.b.length o.c] 34) = zz := ⟨_, rfl⟩
  have hbv : Below v1.heap.size v1 v := hv ▸ (Below.refl _ _).alloc (Nat.le_refl _) _
  have hb : Below w3.heap.size w3 v := hb1.trans (hbv.mono hb1.size)
  have r6 : v.heap[v1.heap.size]? = some (.cells #[.int .i64 (f : Int), .int .i64 (t : Int), .slice o.X o.d.b.length o.c] 34 (0, 0)) := hv ▸ heap_alloc_new _ _
  obtain ⟨⟨k0, k1, k2⟩, _, _, _⟩ := three r6
  have hBv := HB.out.1.trans (hb.mono HB.out.1.size)
  have hbkv := HA.out.1.below hBv
  have r2 := rowk2 hb HB.out.2.1
  have g4 := rowk2 hb HB.out.2.2.1
  obtain ⟨⟨c0, c1, c2⟩, fc0, fc1, fc2⟩ := three r2
  obtain ⟨⟨d0, d1, d2⟩, f0, f1, f2⟩ := three g4
  have HQ := Lib.hid (And.intro g4 (And.intro hBv (And.intro hbkv (And.intro (hbkv.its o (List.mem_of_getElem? HA.out.2.1)).rd (And.intro hf ht)))))
  clear g4 r2 r6 hb hb1 hbv hBv hbkv hf ht
  go_wp2_with fail
  try rw [hv]
  refine (rwrite_room (q := q) (z := z) v HQ.out.2.2.1 HQ.out.2.2.2.1 (by have := HA.out.2.2.2.2.1; rw [HQ.out.2.2.2.2.2] at this; exact this) HA.out.2.2.2.2.2.1 HA.out.2.2.2.2.2.2.1 HA.out.2.2.2.2.2.2.2 (by have := HF.out.1; omega) (by have := HF.out.1; omega) HF.out.2.1 (Nat.le_trans HF.out.2.2 HQ.out.2.1.size)).mono ?_
  rintro _ x ⟨A', c', o', rfl, hk, ho1, ho2, hb9⟩
  have HO := Lib.hid (And.intro hk (And.intro ho1 ho2))
  clear hk ho1 ho2
  have g5 := rowk2 hb9 HQ.out.1
  clear d0 d1 d2 f0 f1 f2
  obtain ⟨⟨d0, d1, d2⟩, f0, f1, f2⟩ := three g5
  have HZ := Lib.hid (And.intro g5 (HQ.out.2.1.trans (hb9.mono HQ.out.2.1.size)))
  clear g5 hb9 c0 c1 c2 fc0 fc1 fc2 k0 k1 k2
  go_wp2
  have hE6 := row3 (v0 := .int .i64 (ends : Int)) (v1 := .int .i64 (most : Int)) (v2 := .slice A' (n + 1) c') HZ.out.1
  obtain ⟨w8, hw8⟩ : ∃ zz, ((x.setCell ⟨b3, 0, none⟩ (.int .i64 (ends : Int))).setCell ⟨b3, 1, none⟩ (.int .i64 (most : Int))).setCell ⟨b3, 2, none⟩ (.slice A' (n + 1) c') = zz := ⟨_, rfl⟩
  have hbt8 : But [b3] x w8 := hw8 ▸ (((But.refl [b3] x).setCell (p := ⟨b3, 0, none⟩) (by simp) _).setCell (p := ⟨b3, 1, none⟩) (by simp) _).setCell (p := ⟨b3, 2, none⟩) (by simp) _
  rw [hw8] at hE6 ⊢
  have hE := HZ.out.2.trans (hbt8.below HZ.out.2.size (by have := HB.out.2.2.2; simp; omega))
  have hbk : Bk w8 lo A' (n + 1) c' (L ++ [o']) := HO.out.1.but42 HZ.out.1 hbt8
  refine bodyPost_ret (v := .tuple #[.agg #[.int .i64 (ends : Int), .int .i64 (most : Int), .slice A' (n + 1) c'], .int .i64 0]) ?_ rfl ⟨A', c', o', rfl, hbk, by rw [HO.out.2.1, ← HQ.out.2.2.2.2.1, ← HQ.out.2.2.2.2.2], HO.out.2.2, hE⟩
  rw [results_cell_tmp rfl]
  simp [asAddr, Result.andThen, load42 hE6 rfl]
theorem rdrop_none (h : Bk w lo A n c L) {i : Int} (hi : i < 0 ∨ ((live L).length : Int) ≤ i) (hi2 : i ≤ 9223372036854775807) : Calls Try.prog 25 #[.agg #[.int .i64 (ends : Int), .int .i64 (most : Int), .slice A n c], .int .i64 i] w (RSm ends most A n c (.bool false) w) := by
  have H := Lib.hid (And.intro h (And.intro hi hi2))
  clear h hi hi2
  go_enter Try.func25, Try.ntmps25
  go_wp2_with fail
  obtain ⟨b2, hb2⟩ : ∃ b, w.heap.size = b := ⟨_, rfl⟩
  obtain ⟨b3, hb3⟩ : ∃ b, b2 + 1 = b := ⟨_, rfl⟩
  obtain ⟨w3, hw3⟩ : ∃ v, (w.alloc (.cells #[.int .i64 (ends : Int), .int .i64 (most : Int), .slice A n c] 42)).alloc (.cells #[.int .i64 0, .int .i64 0, .slice none 0 0] 42) = v := ⟨_, rfl⟩
  have HB := Lib.hid (boxes2 hb2 hb3 hw3)
  rw [hw3, hb2, hb3]
  clear hw3 hb2 hb3
  refine (rplace_none _ (H.out.1.below HB.out.1) _ _ H.out.2.1 H.out.2.2).mono ?_
  rintro _ v ⟨rfl, hb⟩
  have r2 := rowk2 hb HB.out.2.1
  have g4 := rowk2 hb HB.out.2.2.1
  obtain ⟨⟨c0, c1, c2⟩, fc0, fc1, fc2⟩ := three r2
  obtain ⟨⟨d0, d1, d2⟩, f0, f1, f2⟩ := three g4
  have HQ := Lib.hid (And.intro g4 (HB.out.1.trans (hb.mono HB.out.1.size)))
  clear g4 r2 hb
  go_wp2
  have hE6 := row3 (v0 := .int .i64 (ends : Int)) (v1 := .int .i64 (most : Int)) (v2 := .slice A n c) HQ.out.1
  obtain ⟨w8, hw8⟩ : ∃ zz, ((v.setCell ⟨b3, 0, none⟩ (.int .i64 (ends : Int))).setCell ⟨b3, 1, none⟩ (.int .i64 (most : Int))).setCell ⟨b3, 2, none⟩ (.slice A n c) = zz := ⟨_, rfl⟩
  have hbt8 : But [b3] v w8 := hw8 ▸ (((But.refl [b3] v).setCell (p := ⟨b3, 0, none⟩) (by simp) _).setCell (p := ⟨b3, 1, none⟩) (by simp) _).setCell (p := ⟨b3, 2, none⟩) (by simp) _
  rw [hw8] at hE6 ⊢
  have hE := HQ.out.2.trans (hbt8.below HQ.out.2.size (by have := HB.out.2.2.2; simp; omega))
  refine bodyPost_ret (v := .tuple #[.agg #[.int .i64 (ends : Int), .int .i64 (most : Int), .slice A n c], .bool false]) ?_ rfl ⟨rfl, hE⟩
  rw [results_cell_tmp rfl]
  simp [asAddr, Result.andThen, load42 hE6 rfl]
set_option maxHeartbeats 1000000 in
theorem rdrop_some (h : Bk w lo A n c L) {p i : Nat} {o : EV} (hp : L[p]? = some o) (hg : o.gone = false) (hi : (live (L.take p)).length = i) (hn : n ≤ 1000000) (hlo : lo ≤ w.heap.size) : Calls Try.prog 25 #[.agg #[.int .i64 (ends : Int), .int .i64 (most : Int), .slice A n c], .int .i64 (i : Int)] w (fun e w' => ∃ A' c', e = .returned (.tuple #[.agg #[.int .i64 (ends : Int), .int .i64 (most : Int), .slice A' n c'], .bool true]) ∧ Bk w' lo A' n c' (L.set p { o with gone := true }) ∧ Below w.heap.size w w') := by
  have hpn : p < n := by have := (List.getElem?_eq_some_iff.1 hp).1; have := h.len; omega
  have hpi : (p : Int) < (n : Int) := by omega
  have hp0 : ¬ (p : Int) < 0 := by omega
  have hp1 : (0 : Int) ≤ (p : Int) := by omega
  have HN := Lib.hid (And.intro hn hlo)
  have HA := Lib.hid (And.intro h (And.intro hp (And.intro hg hi)))
  clear h hp hg hi hn hlo
  go_enter Try.func25, Try.ntmps25
  go_wp2_with fail
  obtain ⟨b2, hb2⟩ : ∃ b, w.heap.size = b := ⟨_, rfl⟩
  obtain ⟨b3, hb3⟩ : ∃ b, b2 + 1 = b := ⟨_, rfl⟩
  obtain ⟨w3, hw3⟩ : ∃ v, (w.alloc (.cells #[.int .i64 (ends : Int), .int .i64 (most : Int), .slice A n c] 42)).alloc (.cells #[.int .i64 0, .int .i64 0, .slice none 0 0] 42) = v := ⟨_, rfl⟩
  have HB := Lib.hid (boxes2 hb2 hb3 hw3)
  rw [hw3, hb2, hb3]
  clear hw3 hb2 hb3
  refine (rplace_some _ (HA.out.1.below HB.out.1) _ _ HA.out.2.1 HA.out.2.2.1 HA.out.2.2.2).mono ?_
  rintro _ v ⟨rfl, hb⟩
  obtain ⟨va, hva⟩ : ∃ zz, v.alloc (.cells #[] 87) = zz := ⟨_, rfl⟩
  have hva1 : Below v.heap.size v va := hva ▸ (Below.refl _ _).alloc (Nat.le_refl _) _
  have hva2 : va.heap[v.heap.size]? = some (.cells #[] 87 (0, 0)) := hva ▸ heap_alloc_new _ _
  have hBv := HB.out.1.trans (hb.mono HB.out.1.size)
  have hBa := hBv.trans (hva1.mono hBv.size)
  obtain ⟨A', c', w5, hrun, hown, hbel⟩ := run_app_book va hva2 (Nat.le_refl _) (HA.out.1.below hBa) HN.out.1 40
  have r2 := rowk2 hva1 (rowk2 hb HB.out.2.1)
  have g4 := rowk2 hva1 (rowk2 hb HB.out.2.2.1)
  have hlt2 : b2 < v.heap.size := (Array.getElem?_eq_some_iff.1 (rowk2 hb HB.out.2.1)).1
  have hlt3 : b3 < v.heap.size := (Array.getElem?_eq_some_iff.1 (rowk2 hb HB.out.2.2.1)).1
  have r25 := (hbel.block b2 hlt2).trans r2
  have g45 := (hbel.block b3 hlt3).trans g4
  have hB5 : Below w.heap.size w w5 := hBa.trans (hbel.mono hBv.size)
  obtain ⟨vb, hvb⟩ : ∃ b, v.heap.size = b := ⟨_, rfl⟩
  rw [hvb] at hrun hown hlt2 hlt3 hbel
  have hvs : w.heap.size ≤ vb := by rw [← hvb]; exact hBv.size
  obtain ⟨⟨c0, c1, c2⟩, fc0, fc1, fc2⟩ := three r2
  obtain ⟨g, rfl, hg1, hg2, _, k3, fk3⟩ := own_get hown HA.out.2.1
  rw [HA.out.2.2.1] at k3
  obtain ⟨w6, hw6⟩ : ∃ zz, w5.setCell ⟨g, p * 4 + 3, none⟩ (.bool true) = zz := ⟨_, rfl⟩
  have hbt6 : But [g] w5 w6 := hw6 ▸ (But.refl _ _).setCell (by simp) _
  have g2 := hbt6.cells r25 (by simp; omega)
  have g46 := hbt6.cells g45 (by simp; omega)
  have hB6 : Below w.heap.size w w6 := hB5.trans (hbt6.below hB5.size (by simp; omega))
  have ho6 := own_flag hown HA.out.2.1 true
  rw [hw6] at ho6
  have HQ := Lib.hid (And.intro g2 (And.intro g46 (And.intro hB6 (own34_lower (base' := lo) ho6 (Nat.le_trans HN.out.2 hvs)))))
  have HV := Lib.hid (And.intro hva (And.intro hvb hw6))
  clear hva1 hva2 hBv hBa hown hbel r2 g4 r25 g45 hB5 hbt6 g2 g46 hB6 ho6 hg1 hg2 hlt2 hlt3 hvs hb hw6
  go_upto_region 5 with (first
    | (at_builtin; refine wpList_app_run rfl (.tmp 14) (.tmp 16) 40 rfl rfl rfl hrun ?_))
  clear hrun c0 c1 c2 fc0 fc1 fc2 hva hvb
  go_upto_region 6 with (fail)
  rw [HV.out.2.2]
  clear k3 fk3
  have g2 := HQ.out.1
  have g4 := HQ.out.2.1
  have hB6 := HQ.out.2.2.1
  have hbk0 := (HA.out.1.below hB6).its
  obtain ⟨⟨c0, c1, c2⟩, fc0, fc1, fc2⟩ := three g2
  obtain ⟨w7, hw7⟩ : ∃ zz, w6.setCell ⟨b2, 2, none⟩ (.slice (some ⟨g, 0, none⟩) n c') = zz := ⟨_, rfl⟩
  have hbt7 : But [b2] w6 w7 := hw7 ▸ (But.refl _ _).setCell (by simp) _
  have r2 : w7.heap[b2]? = some (.cells #[.int .i64 (ends : Int), .int .i64 (most : Int), .slice (some ⟨g, 0, none⟩) n c'] 42 (0, 0)) := by rw [← hw7]; exact heap_setCell_same w6 b2 2 _ 42 _ g2
  have r4 := hbt7.cells g4 (by have := HB.out.2.2.2; simp; omega)
  have hB7 : Below w.heap.size w w7 := hB6.trans (hbt7.below hB6.size (by have := HB.out.2.2.2; simp; omega))
  have hk7 : Bk w7 lo (some ⟨g, 0, none⟩) n c' (L.set p { o with gone := true }) := (⟨HQ.out.2.2.2, fun o2 ho2 => its_set hbk0 HA.out.2.1 o2 ho2⟩ : Bk w6 lo (some ⟨g, 0, none⟩) n c' (L.set p { o with gone := true })).but42 g2 hbt7
  obtain ⟨⟨k0, k1, k2⟩, _, _, _⟩ := three r2
  obtain ⟨⟨m0, m1, m2⟩, fm0, fm1, fm2⟩ := three r4
  have HZ := Lib.hid (And.intro r4 (And.intro hB7 hk7))
  clear g2 g4 hB6 hbt7 r2 r4 hB7 hk7
  go_upto_region 7 with (fail)
  clear hw7 c0 c1 c2 fc0 fc1 fc2
  go_wp2
  have hE6 := row3 (v0 := .int .i64 (ends : Int)) (v1 := .int .i64 (most : Int)) (v2 := .slice (some ⟨g, 0, none⟩) n c') HZ.out.1
  obtain ⟨w8, hw8⟩ : ∃ zz, ((w7.setCell ⟨b3, 0, none⟩ (.int .i64 (ends : Int))).setCell ⟨b3, 1, none⟩ (.int .i64 (most : Int))).setCell ⟨b3, 2, none⟩ (.slice (some ⟨g, 0, none⟩) n c') = zz := ⟨_, rfl⟩
  have hbt8 : But [b3] w7 w8 := hw8 ▸ (((But.refl [b3] w7).setCell (p := ⟨b3, 0, none⟩) (by simp) _).setCell (p := ⟨b3, 1, none⟩) (by simp) _).setCell (p := ⟨b3, 2, none⟩) (by simp) _
  rw [hw8] at hE6 ⊢
  have hE := HZ.out.2.1.trans (hbt8.below HZ.out.2.1.size (by have := HB.out.2.2.2; simp; omega))
  have hbk := HZ.out.2.2.but42 HZ.out.1 hbt8
  refine bodyPost_ret (v := .tuple #[.agg #[.int .i64 (ends : Int), .int .i64 (most : Int), .slice (some ⟨g, 0, none⟩) n c'], .bool true]) ?_ rfl ⟨_, _, rfl, hbk, hE⟩
  rw [results_cell_tmp rfl]
  simp [asAddr, Result.andThen, load42 hE6 rfl]
set_option maxHeartbeats 2000000 in
theorem rforget_is (h : Bk w lo A n c L) (hn : n ≤ 1000000) (hlo : lo ≤ w.heap.size) (k : Int) {y : Int} (hy : (forL (live L) k : Int) = y) : Calls Try.prog 26 #[.agg #[.int .i64 (ends : Int), .int .i64 (most : Int), .slice A n c], .int .i64 k] w (fun e w' => ∃ A' c', e = .returned (.tuple #[.agg #[.int .i64 (ends : Int), .int .i64 (most : Int), .slice A' n c'], .int .i64 y]) ∧ Bk w' lo A' n c' (L.map (EV.mark k)) ∧ Below w.heap.size w w') := by
  have HN := Lib.hid (And.intro hn hlo)
  have hn1 : (n : Int) ≤ 1000000 := by omega
  have HA := Lib.hid (And.intro h (And.intro hy h.len))
  clear h hn hlo hy
  go_enter Try.func26, Try.ntmps26
  go_wp2_with fail
  obtain ⟨b2, hb2⟩ : ∃ b, w.heap.size = b := ⟨_, rfl⟩
  obtain ⟨b3, hb3⟩ : ∃ b, b2 + 1 = b := ⟨_, rfl⟩
  obtain ⟨w3, hw3⟩ : ∃ v, (w.alloc (.cells #[.int .i64 (ends : Int), .int .i64 (most : Int), .slice A n c] 42)).alloc (.cells #[.int .i64 0, .int .i64 0, .slice none 0 0] 42) = v := ⟨_, rfl⟩
  have HB := Lib.hid (boxes2 hb2 hb3 hw3)
  rw [hw3, hb2, hb3]
  clear hw3 hb2 hb3
  refine (rwaiting_is _ (HA.out.1.below HB.out.1) _ _ k (q := y) HA.out.2.1).mono ?_
  rintro _ v ⟨rfl, hb⟩
  obtain ⟨va, hva⟩ : ∃ zz, v.alloc (.cells #[] 87) = zz := ⟨_, rfl⟩
  have hva1 : Below v.heap.size v va := hva ▸ (Below.refl _ _).alloc (Nat.le_refl _) _
  have hva2 : va.heap[v.heap.size]? = some (.cells #[] 87 (0, 0)) := hva ▸ heap_alloc_new _ _
  have hBv := HB.out.1.trans (hb.mono HB.out.1.size)
  have hBa := hBv.trans (hva1.mono hBv.size)
  obtain ⟨A', c', w5, hrun, hown, hbel⟩ := run_app_book va hva2 (Nat.le_refl _) (HA.out.1.below hBa) HN.out.1 40
  have r2 := rowk2 hva1 (rowk2 hb HB.out.2.1)
  have g4 := rowk2 hva1 (rowk2 hb HB.out.2.2.1)
  have hlt2 : b2 < v.heap.size := (Array.getElem?_eq_some_iff.1 (rowk2 hb HB.out.2.1)).1
  have hlt3 : b3 < v.heap.size := (Array.getElem?_eq_some_iff.1 (rowk2 hb HB.out.2.2.1)).1
  have r25 := (hbel.block b2 hlt2).trans r2
  have g45 := (hbel.block b3 hlt3).trans g4
  have hB5 : Below w.heap.size w w5 := hBa.trans (hbel.mono hBv.size)
  obtain ⟨vb, hvb⟩ : ∃ b, v.heap.size = b := ⟨_, rfl⟩
  rw [hvb] at hrun hown hlt2 hlt3 hbel
  have hvs : w.heap.size ≤ vb := by rw [← hvb]; exact hBv.size
  obtain ⟨⟨c0, c1, c2⟩, fc0, fc1, fc2⟩ := three r2
  have H0 : Hid (OwnK w5 vb 87 4 A' n c' (ecs ((L.take 0).map (EV.mark k) ++ L.drop 0)) ∧ Below vb w5 w5) := Lib.hid ⟨by simpa using hown, Below.refl _ _⟩
  have hvb5 : vb ≤ w5.heap.size := by have := hbel.size; have := hva1.size; omega
  have HV := Lib.hid (And.intro r25 (And.intro g45 (And.intro hB5 (And.intro hlt2 (And.intro hlt3 hvs)))))
  have HVB := Lib.hid hvb5
  clear hva1 hva2 hBv hBa hown hbel r2 g4 r25 g45 hB5 hlt2 hlt3 hvs hb hvb5
  go_upto_region 3 with (first
    | (at_builtin; refine wpList_app_run rfl (.tmp 12) (.tmp 14) 40 rfl rfl rfl hrun ?_))
  clear hrun c0 c1 c2 fc0 fc1 fc2 hva hvb
  go_wp2
  go_loopw [8] (fun i wr => ∃ j : Nat, j ≤ n ∧ i = .int .i64 j ∧ Hid (OwnK wr vb 87 4 A' n c' (ecs ((L.take j).map (EV.mark k) ++ L.drop j)) ∧ Below vb w5 wr)) (fun i _ => n - (Go.RowKit.intOf i).toNat)
  case atStart => exact ⟨0, by omega, rfl, H0⟩
  case round =>
    obtain ⟨j, hj, rfl, HR⟩ := hrel
    clear H0
    by_cases hlt : j < n
    · obtain ⟨o, ho⟩ : ∃ o, L[j]? = some o := ⟨_, List.getElem?_eq_getElem (by have := HA.out.2.2; omega)⟩
      obtain ⟨g, rfl, hg1, hg2, k1, k3, fk3⟩ := own_get HR.out.1 (mark_at (t := k) ho)
      have hji : (0 : Int) ≤ (j : Int) := by omega
      have hjn : (j : Int) < (n : Int) := by omega
      have hw1 : IntKind.i64.wrap ((j : Int) + 1) = (j : Int) + 1 := IntWalk.i64_in _ (by omega)
      have HJ := Lib.hid hlt
      have HG := Lib.hid hg1
      clear hlt hj hg2
      cases hg0 : o.gone with
      | true =>
        rw [hg0] at k3
        have hstep := own_flag HR.out.1 (mark_at (t := k) ho) true
        rw [show ({ o with gone := true } : EV) = o.mark k from by simp [EV.mark, hg0], mark_step ho] at hstep
        have HE := Lib.hid (And.intro hstep (HR.out.2.trans ((((But.refl [g] wr).setCell (p := ⟨g, j * 4 + 3, none⟩) (by simp) (.bool true))).below (Nat.le_trans HVB.out HR.out.2.size) (by simp; exact HG.out))))
        clear hstep hg0 ho hg1
        go_wp2
        go_roundw
        case rel => exact ⟨j + 1, by have := HJ.out; omega, by go_num, HE⟩
        case measure => have := HJ.out; simp [Go.RowKit.intOf]; omega
      | false =>
        rw [hg0] at k3
        by_cases hk : (o.d.to : Int) = k
        · have hstep := own_flag HR.out.1 (mark_at (t := k) ho) true
          rw [show ({ o with gone := true } : EV) = o.mark k from by simp [EV.mark, hk], mark_step ho] at hstep
          have HE := Lib.hid (And.intro hstep (HR.out.2.trans ((((But.refl [g] wr).setCell (p := ⟨g, j * 4 + 3, none⟩) (by simp) (.bool true))).below (Nat.le_trans HVB.out HR.out.2.size) (by simp; exact HG.out))))
          rw [hk] at k1
          clear hstep hg0 ho hg1 hk
          go_wp2
          go_roundw
          case rel => exact ⟨j + 1, by have := HJ.out; omega, by go_num, HE⟩
          case measure => have := HJ.out; simp [Go.RowKit.intOf]; omega
        · have hstep := own_flag HR.out.1 (mark_at (t := k) ho) false
          rw [show ({ o with gone := false } : EV) = o.mark k from by simp [EV.mark, hg0, hk], mark_step ho] at hstep
          have HE := Lib.hid (And.intro hstep (HR.out.2.trans ((((But.refl [g] wr).setCell (p := ⟨g, j * 4 + 3, none⟩) (by simp) (.bool false))).below (Nat.le_trans HVB.out HR.out.2.size) (by simp; exact HG.out))))
          obtain ⟨t, ht⟩ : ∃ t : Int, (o.d.to : Int) = t := ⟨_, rfl⟩
          rw [ht] at k1 hk
          have hk' : (t == k) = false := by simpa using hk
          clear hstep hg0 ho hg1 hk ht
          go_wp2
          go_roundw
          case rel => exact ⟨j + 1, by have := HJ.out; omega, by go_num, HE⟩
          case measure => have := HJ.out; simp [Go.RowKit.intOf]; omega
    · obtain rfl : j = n := by omega
      have hL1 : L.take j = L := List.take_of_length_le (by have := HA.out.2.2; omega)
      have hL2 : L.drop j = [] := List.drop_eq_nil_of_le (by have := HA.out.2.2; omega)
      have ho6 : OwnK wr lo 87 4 A' j c' (ecs (L.map (EV.mark k))) := by
        have := HR.out.1
        rw [hL1, hL2, List.append_nil] at this
        exact own34_lower this (Nat.le_trans HN.out.2 HV.out.2.2.2.2.2)
      have g2 := (HR.out.2.block b2 HV.out.2.2.2.1).trans HV.out.1
      have g4 := (HR.out.2.block b3 HV.out.2.2.2.2.1).trans HV.out.2.1
      have hB6 : Below w.heap.size w wr := HV.out.2.2.1.trans (HR.out.2.mono HV.out.2.2.2.2.2)
      have hbk0 := (HA.out.1.below hB6).its
      clear hlt hj hL1 hL2
      go_upto_region 7 with (fail)
      obtain ⟨⟨c0, c1, c2⟩, fc0, fc1, fc2⟩ := three g2
      obtain ⟨w7, hw7⟩ : ∃ zz, wr.setCell ⟨b2, 2, none⟩ (.slice A' j c') = zz := ⟨_, rfl⟩
      have hbt7 : But [b2] wr w7 := hw7 ▸ (But.refl _ _).setCell (by simp) _
      have r2 : w7.heap[b2]? = some (.cells #[.int .i64 (ends : Int), .int .i64 (most : Int), .slice A' j c'] 42 (0, 0)) := by rw [← hw7]; exact heap_setCell_same wr b2 2 _ 42 _ g2
      have r4 := hbt7.cells g4 (by have := HB.out.2.2.2; simp; omega)
      have hB7 : Below w.heap.size w w7 := hB6.trans (hbt7.below hB6.size (by have := HB.out.2.2.2; simp; omega))
      have hk7 : Bk w7 lo A' j c' (L.map (EV.mark k)) := (⟨ho6, its_mark hbk0⟩ : Bk wr lo A' j c' (L.map (EV.mark k))).but42 g2 hbt7
      obtain ⟨⟨k0, k1, k2⟩, _, _, _⟩ := three r2
      obtain ⟨⟨m0, m1, m2⟩, fm0, fm1, fm2⟩ := three r4
      have HZ := Lib.hid (And.intro r4 (And.intro hB7 hk7))
      clear g2 g4 hB6 hbt7 r2 r4 hB7 hk7
      go_upto_region 8 with (fail)
      clear hw7 c0 c1 c2 fc0 fc1 fc2
      go_wp2
      have hE6 := row3 (v0 := .int .i64 (ends : Int)) (v1 := .int .i64 (most : Int)) (v2 := .slice A' j c') HZ.out.1
      obtain ⟨w8, hw8⟩ : ∃ zz, ((w7.setCell ⟨b3, 0, none⟩ (.int .i64 (ends : Int))).setCell ⟨b3, 1, none⟩ (.int .i64 (most : Int))).setCell ⟨b3, 2, none⟩ (.slice A' j c') = zz := ⟨_, rfl⟩
      have hbt8 : But [b3] w7 w8 := hw8 ▸ (((But.refl [b3] w7).setCell (p := ⟨b3, 0, none⟩) (by simp) _).setCell (p := ⟨b3, 1, none⟩) (by simp) _).setCell (p := ⟨b3, 2, none⟩) (by simp) _
      rw [hw8] at hE6 ⊢
      have hE := HZ.out.2.1.trans (hbt8.below HZ.out.2.1.size (by have := HB.out.2.2.2; simp; omega))
      have hbk := HZ.out.2.2.but42 HZ.out.1 hbt8
      refine bodyPost_ret (v := .tuple #[.agg #[.int .i64 (ends : Int), .int .i64 (most : Int), .slice A' j c'], .int .i64 y]) ?_ rfl ⟨_, _, rfl, hbk, hE⟩
      rw [results_cell_tmp rfl]
      simp [asAddr, Result.andThen, load42 hE6 rfl]
end
end Go.Proofs.Ythhablokbnfpcaa
