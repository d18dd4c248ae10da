/- A clock whose blocks all lie from a block on: its methods, each as a step; what the laws call besides: ids, SameTimers, Pick, does. -/
import Derived.Test.YtncjbohpaanpaaaClkH
import Derived.Laws.StructEq
namespace Go.Proofs.Ytncjbohpaanpaaa
open Go.RowKit Go.Coop Go.Maps
set_option maxRecDepth 100000
/-- what a call upon the clock at g (its map at c, its row in the block a, behind it in a') leaves as it was -/
structure Kp (g c : Nat) (a a' : Option Nat) (w w' : World) : Prop where
  but : But (g :: c :: a.toList) w w'
  cells : ∀ (k : Nat) (cs : Array Value) (T : TypeId) (fr : Nat × Nat), w.heap[k]? = some (Obj.cells cs T fr) → T ≠ 57 → T ≠ 36 → w'.heap[k]? = some (Obj.cells cs T fr)
  maps : ∀ (k : Nat) (es : Array MapEntry) (cl : Nat), k ≠ c → w.heap[k]? = some (Obj.map es cl) → w'.heap[k]? = some (Obj.map es cl)
  clks : ∀ (k : Nat) (cs : Array Value) (fr : Nat × Nat), k ≠ g → w.heap[k]? = some (Obj.cells cs 57 fr) → w'.heap[k]? = some (Obj.cells cs 57 fr)
  rows : ∀ (k : Nat) (cs : Array Value) (fr : Nat × Nat), a ≠ some k → w.heap[k]? = some (Obj.cells cs 36 fr) → w'.heap[k]? = some (Obj.cells cs 36 fr)
  nxt : a' = a ∨ ∃ k, w.heap.size ≤ k ∧ a' = some k
theorem Kp.size {g c : Nat} {a a' : Option Nat} {w w' : World} (h : Kp g c a a' w w') : w.heap.size ≤ w'.heap.size := h.but.size
theorem Kp.of_below (g c : Nat) (a : Option Nat) {w w' : World} (h : Below w.heap.size w w') : Kp g c a a w w' :=
  ⟨But.of_below h, fun k cs T fr hk _ _ => (h.block k (Array.getElem?_eq_some_iff.1 hk).1).trans hk, fun k es cl _ hk => (h.block k (Array.getElem?_eq_some_iff.1 hk).1).trans hk, fun k cs fr _ hk => (h.block k (Array.getElem?_eq_some_iff.1 hk).1).trans hk, fun k cs fr _ hk => (h.block k (Array.getElem?_eq_some_iff.1 hk).1).trans hk, .inl rfl⟩
theorem Kp.trans {g c : Nat} {a a' a'' : Option Nat} {x y z : World} (h : Kp g c a a' x y) (k : Kp g c a' a'' y z) : Kp g c a a'' x z := by
  refine ⟨h.but.trans' k.but (fun i hi => ?_), fun i cs T fr hi h1 h2 => k.cells i cs T fr (h.cells i cs T fr hi h1 h2) h1 h2, fun i es cl hi hk => k.maps i es cl hi (h.maps i es cl hi hk), fun i cs fr hi hk => k.clks i cs fr hi (h.clks i cs fr hi hk), fun i cs fr hi hk => k.rows i cs fr (fun e => ?_) (h.rows i cs fr hi hk), ?_⟩
  · simp only [List.mem_cons, Option.mem_toList] at hi ⊢
    rcases hi with e | e | e
    · exact .inl (.inl e)
    · exact .inl (.inr (.inl e))
    · rcases h.nxt with n | ⟨j, hj, n⟩
      · exact .inl (.inr (.inr (n ▸ e)))
      · rw [n] at e; injection e with e; exact .inr (e ▸ hj)
  · rcases h.nxt with n | ⟨j, hj, n⟩
    · exact hi (n ▸ e)
    · rw [n] at e
      injection e with e
      have := (Array.getElem?_eq_some_iff.1 hk).1
      omega
  · rcases k.nxt with n | ⟨j, hj, n⟩
    · rw [n]; exact h.nxt
    · exact .inr ⟨j, Nat.le_trans h.size hj, n⟩
/-- a clock, its row in the block a -/
def Ck (w : World) (B g c : Nat) (a : Option Nat) (S : CS) : Prop := B ≤ w.heap.size ∧ ∃ A cap, A.map (·.block) = a ∧ ClkAt w B g A cap c S
/-- a step of a clock -/
def CkP (w : World) (B g c : Nat) (a : Option Nat) (S' : CS) (r : Value) (e : Ending) (w' : World) : Prop := e = .returned r ∧ ∃ a', Ck w' B g c a' S' ∧ Below B w w' ∧ Kp g c a a' w w'
/-- a list at r, apart from the block a -/
def Ls (w : World) (a : Option Nat) (r : Value) (l : List Tm) : Prop := ∃ A c, r = .slice A l.length c ∧ Tl w 0 A l.length c l ∧ ∀ k, A.map (·.block) = some k → a ≠ some k
section
variable {w w' : World} {B g c cap : Nat} {A : Option Addr} {a a' : Option Nat} {S : CS} {r : Value} {l : List Tm}
theorem ClkAt.nbT (h : ClkAt w B g A cap c S) {k : Nat} {cs : Array Value} {T : TypeId} {fr : Nat × Nat} (hk : w.heap[k]? = some (.cells cs T fr)) (h1 : T ≠ 57 ∨ k ≠ g) (h2 : T ≠ 36 ∨ A.map (·.block) ≠ some k) : k ∉ Nb g A c := by
  obtain ⟨D, hr, _⟩ := h.raw
  rw [mem_nb]
  rintro (e | e | e)
  · rcases h1 with h1 | h1
    · subst e
      have := hk.symm.trans hr.blk
      injection this with e
      injection e with _ e _
      exact h1 e
    · exact h1 e
  · subst e
    obtain ⟨es, clock, hm, _⟩ := hr.map
    have := hk.symm.trans hm
    injection this with e
    cases e
  · rcases h2 with h2 | h2
    · obtain ⟨cur, hc⟩ := hr.row.typ e
      have := hk.symm.trans hc
      injection this with e
      injection e with _ e _
      exact h2 e
    · exact h2 e
theorem ClkAt.kp {A' : Option Addr} (h : ClkAt w B g A cap c S) (hb : But (Nb g A c) w w') (hA : A'.map (·.block) = A.map (·.block) ∨ ∃ k, w.heap.size ≤ k ∧ A'.map (·.block) = some k) : Kp g c (A.map (·.block)) (A'.map (·.block)) w w' := by
  refine ⟨hb, fun k cs T fr hk h1 h2 => hb.cells hk (h.nbT hk (.inl h1) (.inl h2)), fun k es cl hne hk => hb.cells hk fun hm => ?_, fun k cs fr hne hk => hb.cells hk (h.nbT hk (.inr hne) (.inl (by decide))), fun k cs fr hne hk => hb.cells hk (h.nbT hk (.inl (by decide)) (.inr hne)), hA⟩
  obtain ⟨D, hr, _⟩ := h.raw
  rcases mem_nb.1 hm with e | e | e
  · subst e
    have := hk.symm.trans hr.blk
    injection this with e
    cases e
  · exact hne e
  · obtain ⟨cur, hc⟩ := hr.row.typ e
    have := hk.symm.trans hc
    injection this with e
    cases e
theorem Ck.below (h : Ck w B g c a S) (hb : Below w.heap.size w w') : Ck w' B g c a S := by
  obtain ⟨h0, A, cap, hA, h1⟩ := h
  exact ⟨Nat.le_trans h0 hb.size, A, cap, hA, h1.below hb⟩
theorem Ck.drewN (h : Ck w B g c a S) (n : Nat) : Ck (w.drewN n) B g c a S := h.below ⟨rfl, rfl, rfl, Nat.le_refl _, fun _ _ => rfl⟩
theorem Ck.alloc (h : Ck w B g c a S) (o : Obj) : Ck (w.alloc o) B g c a S := h.below ((Below.refl _ _).alloc (Nat.le_refl _) o)
theorem Ck.ok (h : Ck w B g c a S) : S.Ok := by obtain ⟨_, A, cap, _, h⟩ := h; exact h.ok
theorem ClkAt.lo (h : ClkAt w B g A cap c S) : ∀ k, k ∈ Nb g A c → B ≤ k := by
  obtain ⟨D, hr, _⟩ := h.raw
  intro k hk
  rcases mem_nb.1 hk with rfl | rfl | e
  · exact hr.hg
  · exact hr.hc
  · exact (hr.row.block k e).1
theorem Ck.a_lt (h : Ck w B g c a S) : ∀ k, a = some k → k < w.heap.size := by
  obtain ⟨_, A, cap, rfl, h⟩ := h
  intro k hk
  exact (h.row.block k hk).2
theorem ckp_of {S' : CS} {e : Ending} (h0 : B ≤ w.heap.size) (h : ClkAt w B g A cap c S) (hd : CkDid w B g A c S' r e w') : CkP w B g c (A.map (·.block)) S' r e w' := by
  obtain ⟨he, hb, A', cap', hN, hA⟩ := hd
  exact ⟨he, A'.map (·.block), ⟨Nat.le_trans h0 hb.size, A', cap', rfl, hN⟩, hb.below h0 h.lo, h.kp hb hA⟩
theorem Ls.below (h : Ls w a r l) (hb : Below w.heap.size w w') : Ls w' a r l := by
  obtain ⟨A, c, rfl, h1, h2⟩ := h
  exact ⟨A, c, rfl, h1.below hb, h2⟩
theorem Ls.kp {g c : Nat} (h : Ls w a r l) (hk : Kp g c a a' w w') : Ls w' a' r l := by
  obtain ⟨A, cp, rfl, h1, h2⟩ := h
  refine ⟨A, cp, rfl, ⟨h1.len, ?_⟩, fun k e he => ?_⟩
  · rcases h1.at_ with h0 | ⟨g', pre, sp, rfl, hbg, hg, r⟩
    · exact .inl h0
    · exact .inr ⟨g', pre, sp, rfl, hbg, hk.rows _ _ _ (h2 g' rfl) hg, r⟩
  · rcases hk.nxt with n | ⟨j, hj, n⟩
    · exact h2 k e (n ▸ he)
    · rw [n] at he
      injection he with he
      have := (h1.block k e).2
      omega
theorem Ls.tl (h : Ls w a r l) : ∃ A c, r = .slice A l.length c ∧ Tl w 0 A l.length c l := by
  obtain ⟨A, c, e, h1, _⟩ := h
  exact ⟨A, c, e, h1⟩
theorem Ls.nil (w : World) (a : Option Nat) : Ls w a (.slice none 0 0) [] := ⟨none, 0, rfl, RowW.nil _ _ _ _, by simp⟩
theorem Nl.ls {B : Nat} (h : Nl w B r l) (ha : ∀ k, a = some k → k < B) : Ls w a r l := by
  obtain ⟨A, c, e, h1⟩ := h
  exact ⟨A, c, e, h1.lower (Nat.zero_le _), fun k hk he => by have := (h1.block k hk).1; have := ha k he; omega⟩
/-- what Tick and Skip leave -/
def TkP (w : World) (B g c : Nat) (a : Option Nat) (S' : CS) (l : List Tm) (e : Ending) (w' : World) : Prop := ∃ r, e = .returned r ∧ Nl w' w.heap.size r l ∧ Ck w' B g c a S' ∧ Below B w w' ∧ Kp g c a a w w'
theorem tkp_of {S' : CS} {e : Ending} (h0 : B ≤ w.heap.size) (h : ClkAt w B g A cap c S) (hd : TkDid w B g A c S' l e w') : TkP w B g c (A.map (·.block)) S' l e w' := by
  obtain ⟨r, A', cap', he, hN, hC, hA, hb⟩ := hd
  exact ⟨r, he, hN, ⟨Nat.le_trans h0 hb.size, A', cap', hA, hC⟩, hb.below h0 h.lo, by have := h.kp hb (.inl hA); rwa [hA] at this⟩
end
section
variable (w : World) {B g c : Nat} {a : Option Nat} {S : CS}
theorem ck_new (most : Nat) (h1 : 1 ≤ most) (h2 : most ≤ 65536) : Calls Try.prog 10 #[.int .i64 (most : Int)] w fun e w' => ∃ g c, e = .returned (.tuple #[.pointer (some ⟨g, 0, none⟩), .int .i64 0]) ∧ Ck w' w.heap.size g c none (CS.new most) ∧ Below w.heap.size w w' ∧ w.heap.size ≤ g ∧ g < w'.heap.size ∧ w.heap.size ≤ c ∧ c < w'.heap.size :=
  (new_yes w most h1 h2).mono fun _ w' ⟨he, hn, hb⟩ => by
    obtain ⟨D, hr, _⟩ := hn.raw
    exact ⟨_, _, he, ⟨hb.size, none, 0, rfl, hn⟩, hb, by omega, hr.g_lt, by omega, hr.map.lt⟩
theorem ck_set (h : Ck w B g c a S) {i : Int} (hi1 : -9223372036854775808 ≤ i) (hi2 : i ≤ 9223372036854775807) (d : Int) {q : Int} (hq : S.setE i d = q) {S' : CS} (hS : S.set i d = S') : Calls Try.prog 11 #[.pointer (some ⟨g, 0, none⟩), .int .i64 i, .int .i64 d] w (CkP w B g c a S' (.int .i64 q)) := by
  subst hq hS
  obtain ⟨h0, A, cap, rfl, h1⟩ := h
  exact (set_any w h1 hi1 hi2).mono fun e w' hd => ckp_of h0 h1 hd
theorem ck_unset (h : Ck w B g c a S) {i : Int} (hi1 : -9223372036854775808 ≤ i) (hi2 : i ≤ 9223372036854775807) {q : Bool} (hq : (S.find i).isSome = q) {S' : CS} (hS : S.unset i = S') : Calls Try.prog 12 #[.pointer (some ⟨g, 0, none⟩), .int .i64 i] w (CkP w B g c a S' (.bool q)) := by
  subst hq hS
  obtain ⟨h0, A, cap, rfl, h1⟩ := h
  exact (unset_any w h1 hi1 hi2).mono fun e w' hd => ckp_of h0 h1 hd
theorem ck_due (h : Ck w B g c a S) {i : Int} (hi1 : -9223372036854775808 ≤ i) (hi2 : i ≤ 9223372036854775807) {o : Option Int} (ho : S.find i = o) : Calls Try.prog 18 #[.pointer (some ⟨g, 0, none⟩), .int .i64 i] w fun e w' => e = .returned (.tuple #[.int .i64 (o.getD 0), .bool o.isSome]) ∧ w = w' := by
  subst ho
  obtain ⟨h0, A, cap, rfl, h1⟩ := h
  exact due_is w h1 hi1 hi2
theorem ck_now (h : Ck w B g c a S) {n : Int} (hn : S.now = n) : Calls Try.prog 15 #[.pointer (some ⟨g, 0, none⟩)] w fun e w' => e = .returned (.int .i64 n) ∧ w = w' := by
  subst hn
  obtain ⟨h0, A, cap, rfl, h1⟩ := h
  exact now_is w h1
theorem ck_next (h : Ck w B g c a S) {o : Option Tm} (ho : S.L.head? = o) : Calls Try.prog 19 #[.pointer (some ⟨g, 0, none⟩)] w (NextP w (o.getD noT) o.isSome) := by
  subst ho
  obtain ⟨h0, A, cap, rfl, h1⟩ := h
  exact next_is w h1
theorem ck_all (h : Ck w B g c a S) {l : List Tm} (hl : S.L = l) : Calls Try.prog 16 #[.pointer (some ⟨g, 0, none⟩)] w fun e w' => ∃ r, e = .returned r ∧ Nl w' w.heap.size r l ∧ Below w.heap.size w w' := by
  subst hl
  obtain ⟨h0, A, cap, rfl, h1⟩ := h
  exact all_is w h1
theorem ck_tick (h : Ck w B g c a S) {S' : CS} (hS : S.tick = S') {l : List Tm} (hl : S.tickL = l) : Calls Try.prog 17 #[.pointer (some ⟨g, 0, none⟩)] w (TkP w B g c a S' l) := by
  subst hS hl
  obtain ⟨h0, A, cap, rfl, h1⟩ := h
  exact (tick_is w h1).mono fun e w' hd => tkp_of h0 h1 hd
theorem ck_skip (h : Ck w B g c a S) {S' : CS} (hS : S.skip = S') {l : List Tm} (hl : S.skipL = l) : Calls Try.prog 14 #[.pointer (some ⟨g, 0, none⟩)] w (TkP w B g c a S' l) := by
  subst hS hl
  obtain ⟨h0, A, cap, rfl, h1⟩ := h
  exact (skip_is w h1).mono fun e w' hd => tkp_of h0 h1 hd
end
/-- are two timers one? -/
def tmB (a b : Tm) : Bool := decide (a.due = b.due) && decide (a.id = b.id)
theorem tmB_iff {a b : Tm} : tmB a b = true ↔ a = b := by
  unfold tmB
  simp
  exact ⟨fun ⟨h1, h2⟩ => Tm.ext' h1 h2, fun h => by subst h; exact ⟨rfl, rfl⟩⟩
theorem eqg36 : Try.prog.eqGuardType Try.prog.depth 36 = false := by kernel_rfl
theorem neq36 (w : World) (a b : Tm) : (binOp .neq 36 (TV a) (TV b)).run Try.prog w = .ok (.bool (!tmB a b)) w := by
  have u3 := Try.underlying3
  have u2 := Try.underlying2
  have hS : Try.prog.underlying 36 = some (.struct (Try.prog.fieldsOf 36)) := by kernel_rfl
  have hp : Try.prog.stoodInHeld 36 = false := by kernel_rfl
  rw [run_neq_struct, show (10000 : Nat) = 9999 + 1 from rfl, run_equalIn_agg w 9999 36 _ _ hS hp]
  simp only [Program.fieldsOf, Try.underlying36]
  go_simp
  unfold tmB
  by_cases h1 : a.due = b.due <;> by_cases h2 : a.id = b.id <;> simp [h1, h2]
/-- are two lists one? -/
def sameL : List Tm → List Tm → Bool
  | [], [] => true
  | a :: l, b :: m => tmB a b && sameL l m
  | _, _ => false
theorem sameL_iff : ∀ {l m : List Tm}, sameL l m = true ↔ l = m
  | [], [] => by simp [sameL]
  | [], b :: m => by simp [sameL]
  | a :: l, [] => by simp [sameL]
  | a :: l, b :: m => by simp [sameL, tmB_iff, sameL_iff (l := l) (m := m)]
theorem sameL_self (l : List Tm) : sameL l l = true := sameL_iff.2 rfl
abbrev IV (k : Int) : Value := .int .i64 k
section
variable (w : World)
theorem same_is {A X : Option Addr} {n m ca cx : Nat} {l k : List Tm} (hA : Tl w 0 A n ca l) (hX : Tl w 0 X m cx k) (hn : n ≤ 1000000) {q : Bool} (hq : sameL l k = q) : Calls Try.prog 27 #[.slice A n ca, .slice X m cx] w fun e w' => e = .returned (.bool q) ∧ Below w.heap.size w w' := by
  have hln : l.length = n := by have := hA.len; rw [tvs_len] at this; omega
  have hlm : k.length = m := by have := hX.len; rw [tvs_len] at this; omega
  by_cases hnm : n = m
  · subst hnm
    have mixed : Try.prog.follows Departure.mixedOrders = true := by kernel_rfl
    have H := Lib.hid (And.intro hA (And.intro hX (And.intro hln (And.intro hlm hq))))
    clear hA hX hln hlm hq
    go_enter Try.func27, Try.ntmps27
    go_wp2
    go_loopw [5] (fun s5 wr => ∃ j : Nat, j ≤ n ∧ s5 = .int .i64 j ∧ Hid (Below w.heap.size w wr) ∧ Hid (l.take j = k.take j)) (fun s5 _ => n - (Go.RowKit.intOf s5).toNat)
    case atStart => exact ⟨0, by omega, rfl, Below.refl _ _, (by simp : l.take 0 = k.take 0)⟩
    case round =>
      obtain ⟨j, hj, rfl, HB, HT⟩ := hrel
      by_cases hlt : j < n
      · obtain ⟨x, hx⟩ : ∃ x, l[j]? = some x := ⟨_, List.getElem?_eq_getElem (by rw [H.out.2.2.1]; exact hlt)⟩
        obtain ⟨y, hy⟩ : ∃ y, k[j]? = some y := ⟨_, List.getElem?_eq_getElem (by rw [H.out.2.2.2.1]; exact hlt)⟩
        obtain ⟨r, o, rfl, d0, d1, _⟩ := row_get (H.out.1.below HB.out) hx
        obtain ⟨r', o', rfl, e0, e1, _⟩ := row_get (H.out.2.1.below HB.out) hy
        have hi1 : (0 : Int) ≤ (j : Int) := by omega
        have hi2 : (j : Int) < (n : Int) := by omega
        have hw1 : IntKind.i64.wrap ((j : Int) + 1) = (j : Int) + 1 := IntWalk.i64_in _ (by omega)
        have hne := fun W => neq36 W x y
        have hg := eqg36
        cases hb : tmB x y with
        | true =>
          simp only [hb] at hne
          have HX := Lib.hid (And.intro hx (And.intro hy (tmB_iff.1 hb)))
          clear hx hy hb hlt
          go_wp2
          go_quiet (fail)
          go_wp2
          go_roundw
          case rel =>
            refine ⟨j + 1, by omega, by go_num, HB.out.trans ⟨rfl, rfl, rfl, Nat.le_refl _, fun _ _ => rfl⟩, ?_⟩
            show l.take (j + 1) = k.take (j + 1)
            rw [List.take_add_one, List.take_add_one, HX.out.1, HX.out.2.1, HX.out.2.2, HT.out]
          case measure => simp [Go.RowKit.intOf]; omega
        | false =>
          simp only [hb] at hne
          have HX : Hid (q = false) := by
            show q = false
            rw [← H.out.2.2.2.2]
            cases hs : sameL l k with
            | false => rfl
            | true =>
              rw [sameL_iff] at hs
              subst hs
              rw [hx] at hy
              injection hy with hy
              subst hy
              rw [tmB_iff.2 rfl] at hb
              cases hb
          clear hx hy hb hlt
          go_wp2
          go_quiet (fail)
          go_wp2
          go_ret
          rw [HX.out]
          exact ⟨rfl, HB.out.trans ⟨rfl, rfl, rfl, Nat.le_refl _, fun _ _ => rfl⟩⟩
      · obtain rfl : j = n := by omega
        go_wp2
        go_ret
        have e : l = k := by
          have := HT.out
          rwa [List.take_of_length_le (by rw [H.out.2.2.1]; exact Nat.le_refl _), List.take_of_length_le (by rw [H.out.2.2.2.1]; exact Nat.le_refl _)] at this
        rw [← H.out.2.2.2.2, e, sameL_self]
        exact ⟨rfl, HB.out⟩
  · have hq' : q = false := by
      rw [← hq]
      cases hs : sameL l k with
      | false => rfl
      | true =>
        rw [sameL_iff] at hs
        subst hs
        omega
    subst hq'
    have hb : ((n : Int) == (m : Int)) = false := by simp; omega
    clear hA hX hln hlm hq hnm
    go_enter Try.func27, Try.ntmps27
    go_wp2
    go_ret
    exact ⟨rfl, Below.refl _ _⟩
/-- ids -/
def idsB : List Tm → List Int → Bool
  | [], [] => true
  | a :: l, b :: m => decide (a.id = b) && idsB l m
  | _, _ => false
theorem idsB_iff : ∀ {l : List Tm} {m : List Int}, idsB l m = true ↔ l.map Tm.id = m
  | [], [] => by simp [idsB]
  | [], b :: m => by simp [idsB]
  | a :: l, [] => by simp [idsB]
  | a :: l, b :: m => by simp [idsB, idsB_iff (l := l) (m := m)]
theorem ids_is {A X : Option Addr} {n m ca cx : Nat} {l : List Tm} {k : List Int} (hA : Tl w 0 A n ca l) (hX : RdV w X m (k.map IV)) (hn : n ≤ 1000000) {q : Bool} (hq : idsB l k = q) : Calls Try.prog 13 #[.slice A n ca, .slice X m cx] w fun e w' => e = .returned (.bool q) ∧ Below w.heap.size w w' := by
  have hln : l.length = n := by have := hA.len; rw [tvs_len] at this; omega
  have hlm : k.length = m := by have := hX.len; simpa using this
  by_cases hnm : n = m
  · subst hnm
    have mixed : Try.prog.follows Departure.mixedOrders = true := by kernel_rfl
    have H := Lib.hid (And.intro hA (And.intro hX (And.intro hln (And.intro hlm hq))))
    clear hA hX hln hlm hq
    go_enter Try.func13, Try.ntmps13
    go_wp2
    go_loopw [5, 13] (fun _ s5 wr => ∃ j : Nat, j ≤ n ∧ s5 = .int .i64 j ∧ Hid (Below w.heap.size w wr) ∧ Hid ((l.take j).map Tm.id = k.take j)) (fun _ s5 _ => n - (Go.RowKit.intOf s5).toNat)
    case atStart => exact ⟨0, by omega, rfl, Below.refl _ _, (by simp : (l.take 0).map Tm.id = k.take 0)⟩
    case round =>
      obtain ⟨j, hj, rfl, HB, HT⟩ := hrel
      by_cases hlt : j < n
      · obtain ⟨x, hx⟩ : ∃ x, l[j]? = some x := ⟨_, List.getElem?_eq_getElem (by rw [H.out.2.2.1]; exact hlt)⟩
        obtain ⟨y, hy⟩ : ∃ y, k[j]? = some y := ⟨_, List.getElem?_eq_getElem (by rw [H.out.2.2.2.1]; exact hlt)⟩
        obtain ⟨r, o, rfl, d0, d1, _⟩ := row_get (H.out.1.below HB.out) hx
        obtain ⟨ad, rfl, hadl, hxc⟩ := (H.out.2.1.below HB.out (Nat.le_refl _)).cells (by omega)
        have e0 := hxc j (IV y) (by rw [List.getElem?_map, hy]; rfl)
        have hi1 : (0 : Int) ≤ (j : Int) := by omega
        have hi2 : (j : Int) < (n : Int) := by omega
        have hw1 : IntKind.i64.wrap ((j : Int) + 1) = (j : Int) + 1 := IntWalk.i64_in _ (by omega)
        by_cases hb : x.id = y
        · subst hb
          have HX := Lib.hid (And.intro hx hy)
          clear hx hy hlt hxc hadl
          go_wp2
          go_quiet (fail)
          go_wp2
          go_roundw
          case rel =>
            refine ⟨j + 1, by omega, by go_num, HB.out.trans ⟨rfl, rfl, rfl, Nat.le_refl _, fun _ _ => rfl⟩, ?_⟩
            show (l.take (j + 1)).map Tm.id = k.take (j + 1)
            rw [List.take_add_one, List.take_add_one, HX.out.1, HX.out.2, List.map_append, HT.out]
            rfl
          case measure => simp [Go.RowKit.intOf]; omega
        · have hbb : (x.id == y) = false := by simpa using hb
          have HX : Hid (q = false) := by
            show q = false
            rw [← H.out.2.2.2.2]
            cases hs : idsB l k with
            | false => rfl
            | true =>
              rw [idsB_iff] at hs
              rw [← hs, List.getElem?_map, hx] at hy
              injection hy with hy
              exact absurd hy hb
          clear hx hy hlt hb hxc hadl
          go_wp2
          go_quiet (fail)
          go_wp2
          go_ret
          rw [HX.out]
          exact ⟨rfl, HB.out.trans ⟨rfl, rfl, rfl, Nat.le_refl _, fun _ _ => rfl⟩⟩
      · obtain rfl : j = n := by omega
        go_wp2
        go_ret
        have e : l.map Tm.id = k := by
          have := HT.out
          rwa [List.take_of_length_le (by rw [H.out.2.2.1]; exact Nat.le_refl _), List.take_of_length_le (by rw [H.out.2.2.2.1]; exact Nat.le_refl _)] at this
        rw [← H.out.2.2.2.2, idsB_iff.2 e]
        exact ⟨rfl, HB.out⟩
  · have hq' : q = false := by
      rw [← hq]
      cases hs : idsB l k with
      | false => rfl
      | true =>
        rw [idsB_iff] at hs
        rw [← hs, List.length_map] at hlm
        omega
    subst hq'
    have hb : ((n : Int) == (m : Int)) = false := by simp; omega
    clear hA hX hln hlm hq hnm
    go_enter Try.func13, Try.ntmps13
    go_wp2
    go_ret
    exact ⟨rfl, Below.refl _ _⟩
end
end Go.Proofs.Ytncjbohpaanpaaa
