/- The reference's net: a book of all that ever was, by value: plain, and how it lies in memory. -/
import Derived.Test.YthhablokbnfpcaaOthE
import Derived.Laws.ResultCell
namespace Go.Proofs.Ythhablokbnfpcaa
open Go.RowKit Go.Coop Go.Maps
set_option maxRecDepth 100000
/-- an entry of the book: a datagram, where its bytes lie, has it gone? -/
structure EV where
  d : Dt
  X : Option Addr
  c : Nat
  gone : Bool
def EV.cells (o : EV) : List Value := [.int .i64 (o.d.fr : Int), .int .i64 (o.d.to : Int), .slice o.X o.d.b.length o.c, .bool o.gone]
def ecs (l : List EV) : List Value := l.flatMap EV.cells
theorem ecs_nil : ecs [] = [] := rfl
theorem ecs_cons (d : EV) (l : List EV) : ecs (d :: l) = d.cells ++ ecs l := rfl
theorem ecs_append (a b : List EV) : ecs (a ++ b) = ecs a ++ ecs b := List.flatMap_append
theorem ecs_len (l : List EV) : (ecs l).length = l.length * 4 := by
  induction l with
  | nil => rfl
  | cons a l ih => rw [ecs_cons, List.length_append, ih, List.length_cons]; simp [EV.cells]; omega
theorem ev_one (o : EV) : ∀ u ∈ o.cells, u.oneCell' = true := by
  intro u hu
  simp [EV.cells] at hu
  rcases hu with rfl | rfl | rfl | rfl <;> rfl
theorem ecs_one (l : List EV) : ∀ u ∈ ecs l, u.oneCell' = true := by
  intro u hu
  obtain ⟨c, _, hc⟩ := List.mem_flatMap.1 hu
  exact ev_one c u hc
theorem ev_split {l : List EV} {i : Nat} {o : EV} (h : l[i]? = some o) : l = l.take i ++ ([o] ++ l.drop (i + 1)) := by
  have hi := (List.getElem?_eq_some_iff.1 h).1
  have := List.take_append_drop i l
  rw [List.drop_eq_getElem_cons hi, (List.getElem?_eq_some_iff.1 h).2] at this
  simpa using this.symm
theorem ecs_split {l : List EV} {i : Nat} {o : EV} (h : l[i]? = some o) : ecs l = ecs (l.take i) ++ o.cells ++ ecs (l.drop (i + 1)) := by
  conv => lhs; rw [ev_split h]
  rw [ecs_append, ecs_append, List.append_assoc]
  simp [ecs]
theorem ecs_get {l : List EV} {i : Nat} {o : EV} (h : l[i]? = some o) {j : Nat} {v : Value} (hj : o.cells[j]? = some v) : (ecs l)[i * 4 + j]? = some v := by
  have hi := (List.getElem?_eq_some_iff.1 h).1
  have hl : (ecs (l.take i)).length = i * 4 := by rw [ecs_len, List.length_take]; omega
  have hj' := (List.getElem?_eq_some_iff.1 hj).1
  rw [ecs_split h, List.append_assoc, List.getElem?_append_right (by omega), hl, Nat.add_sub_cancel_left, List.getElem?_append_left hj', hj]
theorem ecs_set {l : List EV} {i : Nat} (hi : i < l.length) (o : EV) : ecs (l.set i o) = ecs (l.take i) ++ o.cells ++ ecs (l.drop (i + 1)) := by
  have h : (l.set i o)[i]? = some o := List.getElem?_set_self hi
  rw [ecs_split h]
  congr 2
  · rw [List.take_set_of_le (Nat.le_refl _)]
  · rw [List.drop_set_of_lt (by omega)]
/-- those that have not gone -/
def live (l : List EV) : List Dt := (l.filter fun o => !o.gone).map EV.d
theorem live_append (a b : List EV) : live (a ++ b) = live a ++ live b := by simp [live, List.filter_append]
theorem live_yes {o : EV} (h : o.gone = false) : live [o] = [o.d] := by simp [live, h]
theorem live_no {o : EV} (h : o.gone = true) : live [o] = [] := by simp [live, h]
theorem live_split {l : List EV} {i : Nat} {o : EV} (h : l[i]? = some o) : live l = live (l.take i) ++ (live [o] ++ live (l.drop (i + 1))) := by
  conv => lhs; rw [ev_split h]
  rw [live_append, live_append]
theorem live_take {l : List EV} {i : Nat} {o : EV} (h : l[i]? = some o) : live (l.take (i + 1)) = live (l.take i) ++ live [o] := by
  rw [List.take_add_one, h, live_append]
  rfl
theorem live_len (l : List EV) : (live l).length ≤ l.length := by
  unfold live
  rw [List.length_map]
  exact List.length_filter_le _ _
theorem live_find {l : List EV} : ∀ {i : Nat} {d : Dt}, (live l)[i]? = some d → ∃ k o, l[k]? = some o ∧ o.gone = false ∧ o.d = d ∧ (live (l.take k)).length = i := by
  induction l with
  | nil => intro i d h; simp [live] at h
  | cons a l ih =>
    intro i d h
    have e : live (a :: l) = live [a] ++ live l := live_append [a] l
    cases hg : a.gone with
    | true =>
      rw [e, live_no hg, List.nil_append] at h
      obtain ⟨k, o, h1, h2, h3, h4⟩ := ih h
      refine ⟨k + 1, o, h1, h2, h3, ?_⟩
      have : live ((a :: l).take (k + 1)) = live [a] ++ live (l.take k) := live_append [a] (l.take k)
      rw [this, live_no hg, List.nil_append, h4]
    | false =>
      rw [e, live_yes hg] at h
      cases i with
      | zero =>
        simp at h
        exact ⟨0, a, rfl, hg, h, rfl⟩
      | succ i =>
        simp at h
        obtain ⟨k, o, h1, h2, h3, h4⟩ := ih h
        refine ⟨k + 1, o, h1, h2, h3, ?_⟩
        have : live ((a :: l).take (k + 1)) = live [a] ++ live (l.take k) := live_append [a] (l.take k)
        rw [this, live_yes hg, List.length_append, h4]
        simp
        omega
theorem live_erase {l : List EV} {k : Nat} {o : EV} (h : l[k]? = some o) (hg : o.gone = false) : live (l.set k { o with gone := true }) = (live l).eraseIdx (live (l.take k)).length := by
  have hk := (List.getElem?_eq_some_iff.1 h).1
  have h2 : (l.set k { o with gone := true })[k]? = some { o with gone := true } := List.getElem?_set_self hk
  rw [live_split h2, live_split h, live_no rfl, live_yes hg, List.take_set_of_le (Nat.le_refl _), List.drop_set_of_lt (by omega), List.eraseIdx_append_of_length_le (Nat.le_refl _), Nat.sub_self]
  rfl
/-- marked, if it is for t -/
def EV.mark (t : Int) (o : EV) : EV := { o with gone := o.gone || decide ((o.d.to : Int) = t) }
theorem live_mark (t : Int) (l : List EV) : live (l.map (EV.mark t)) = (live l).filter fun d => !decide ((d.to : Int) = t) := by
  induction l with
  | nil => rfl
  | cons a l ih =>
    have e : live (a :: l) = live [a] ++ live l := live_append [a] l
    have e2 : live ((a :: l).map (EV.mark t)) = live [a.mark t] ++ live (l.map (EV.mark t)) := live_append [a.mark t] _
    rw [e, e2, ih, List.filter_append]
    congr 1
    cases hg : a.gone <;> by_cases ht : (a.d.to : Int) = t <;> simp [live, EV.mark, hg, ht]
/-- how many are for a station -/
def forL (l : List Dt) (k : Int) : Nat := (l.filter fun d => decide ((d.to : Int) = k)).length
theorem forL_append (a b : List Dt) (k : Int) : forL (a ++ b) k = forL a k + forL b k := by simp [forL, List.filter_append]
theorem forL_one (d : Dt) (k : Int) : forL [d] k = if (d.to : Int) = k then 1 else 0 := by by_cases h : (d.to : Int) = k <;> simp [forL, h]
theorem forL_le (l : List Dt) (k : Int) : forL l k ≤ l.length := List.length_filter_le _ _
/-- how many are for stations below j -/
def below_ (l : List Dt) (j : Nat) : Nat := (l.filter fun d => decide (d.to < j)).length
theorem below_zero (l : List Dt) : below_ l 0 = 0 := by simp [below_]
theorem below_succ (l : List Dt) (j : Nat) : below_ l (j + 1) = below_ l j + forL l (j : Int) := by
  induction l with
  | nil => rfl
  | cons a l ih =>
    unfold below_ forL at *
    by_cases h1 : a.to < j
    · rw [List.filter_cons_of_pos (by simpa using (show a.to < j + 1 by omega)), List.filter_cons_of_pos (by simpa using h1), List.filter_cons_of_neg (by simp; omega), List.length_cons, List.length_cons]
      omega
    · by_cases h2 : a.to = j
      · rw [List.filter_cons_of_pos (by simpa using (show a.to < j + 1 by omega)), List.filter_cons_of_neg (by simpa using h1), List.filter_cons_of_pos (by simp; omega), List.length_cons, List.length_cons]
        omega
      · rw [List.filter_cons_of_neg (by simp; omega), List.filter_cons_of_neg (by simpa using h1), List.filter_cons_of_neg (by simp; omega)]
        exact ih
theorem below_all (l : List Dt) (j : Nat) (h : ∀ d ∈ l, d.to < j) : below_ l j = l.length := by
  unfold below_
  rw [List.filter_eq_self.2 fun d hd => by simpa using h d hd]
theorem below_le (l : List Dt) (j : Nat) : below_ l j ≤ l.length := List.length_filter_le _ _
/-- a book in memory -/
structure Bk (w : World) (lo : Nat) (A : Option Addr) (n c : Nat) (L : List EV) : Prop where
  row : OwnK w lo 87 4 A n c (ecs L)
  its : ∀ o ∈ L, Nw w lo o.X o.d.b
section
variable {w w' : World} {lo n c : Nat} {A : Option Addr} {L : List EV}
theorem Bk.len (h : Bk w lo A n c L) : L.length = n := by
  have := h.row.len
  rw [ecs_len] at this
  omega
theorem Bk.below (h : Bk w lo A n c L) (hb : Below w.heap.size w w') : Bk w' lo A n c L := ⟨h.row.below hb (Nat.le_refl _), fun o ho => (h.its o ho).below hb⟩
theorem OwnK.kp {E k cc base : Nat} {vs : List Value} (h : OwnK w base E k A n c vs) (hk : Kp cc w w') (h1 : E ≠ 59) (h2 : E ≠ 80) : OwnK w' base E k A n c vs := by
  refine ⟨h.row.1, ?_⟩
  rcases h.row.2 with h0 | ⟨g, cap, cur, hv, hbg, hg, r⟩
  · exact .inl h0
  · exact .inr ⟨g, cap, cur, hv, hbg, hk.cells _ _ _ _ hg h1 h2, r⟩
theorem Bk.kp {cc : Nat} (h : Bk w lo A n c L) (hk : Kp cc w w') : Bk w' lo A n c L := ⟨OwnK.kp h.row hk (by decide) (by decide), fun o ho => (h.its o ho).kp hk⟩
theorem Bk.drew (h : Bk w lo A n c L) : Bk w.drew lo A n c L := h.below (Below.refl _ _).drew
theorem Bk.lower {lo' : Nat} (h : Bk w lo A n c L) (hl : lo' ≤ lo) : Bk w lo' A n c L := by
  refine ⟨⟨h.row.row.1, ?_⟩, fun o ho => (h.its o ho).lower hl⟩
  rcases h.row.row.2 with h0 | ⟨g, cap, cur, hv, hbg, r⟩
  · exact .inl h0
  · exact .inr ⟨g, cap, cur, hv, by omega, r⟩
theorem Bk.nil (w : World) (lo : Nat) : Bk w lo none 0 0 [] := ⟨OwnK.nil _ _ _ _, by simp⟩
/-- an entry of the book -/
theorem Bk.get (h : Bk w lo A n c L) {i : Nat} {o : EV} (hi : L[i]? = some o) : ∃ r, A = some ⟨r, 0, none⟩ ∧ r < w.heap.size ∧ w.cell? ⟨r, i * 4, none⟩ = some (.int .i64 (o.d.fr : Int)) ∧ w.cell? ⟨r, i * 4 + 1, none⟩ = some (.int .i64 (o.d.to : Int)) ∧ w.cell? ⟨r, i * 4 + 2, none⟩ = some (.slice o.X o.d.b.length o.c) ∧ w.cell? ⟨r, i * 4 + 3, none⟩ = some (.bool o.gone) := by
  have hlt := (List.getElem?_eq_some_iff.1 hi).1
  have hl := h.len
  obtain ⟨r, sp, rfl, _, hlt2, hr, _⟩ := h.row.head (by omega)
  have hx : ∀ j v, o.cells[j]? = some v → w.cell? ⟨r, i * 4 + j, none⟩ = some v := fun j v hj => by
    have := ecs_get hi hj
    simp only [World.cell?, hr]
    simp only [List.getElem?_toArray]
    rw [List.getElem?_append_left (List.getElem?_eq_some_iff.1 this).1, this]
    rfl
  exact ⟨r, rfl, hlt2, hx 0 _ rfl, hx 1 _ rfl, hx 2 _ rfl, hx 3 _ rfl⟩
theorem Bk.cap (h : Bk w lo A n c L) : n ≤ 9223372036854775807 := by
  by_cases h0 : 0 < n
  · obtain ⟨_, _, _, _, _, _, h1, h2, _⟩ := h.row.head h0
    unfold maxLen at h2
    omega
  · omega
end
theorem info87 : (Try.prog.info? 87).map (·.size) = some 4 := by kernel_rfl
theorem load42 {w : World} {g : Nat} {cs : Array Value} (hg : w.heap[g]? = some (.cells cs 42 (0, 0))) (hs : cs.size = 3) : (loadVar 42 ⟨g, 0, none⟩).run Try.prog w = .ok (.agg cs) w :=
  run_loadVar_row w g 42 42 cs _ _ hg Try.underlying42 rfl (by rw [hs]; kernel_rfl)
theorem heap_second (w : World) (o o' : Obj) : ((w.alloc o).alloc o').heap[w.heap.size + 1]? = some o' := by
  have := heap_alloc_new (w.alloc o) o'
  rwa [World.size_alloc] at this
theorem below_two (w : World) (o o' : Obj) : Below w.heap.size w ((w.alloc o).alloc o') := ((Below.refl _ _).alloc (Nat.le_refl _) o).alloc (by simp) o'
end Go.Proofs.Ythhablokbnfpcaa
