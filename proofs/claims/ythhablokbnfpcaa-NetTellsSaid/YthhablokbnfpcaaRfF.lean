/- The reference's net and the program's, side by side; heaped. -/
import Derived.Test.YthhablokbnfpcaaRfE
import Derived.Test.YthhablokbnfpcaaLedL
namespace Go.Proofs.Ythhablokbnfpcaa
open Go.RowKit Go.Coop Go.Maps
set_option maxRecDepth 100000
/-- the reference's book tells this net -/
def RA (w : World) (lo : Nat) (A : Option Addr) (n c : Nat) (S : NS) : Prop := ∃ L, Bk w lo A n c L ∧ live L = S.heap
/-- what a call of the reference's leaves -/
def RefP (w : World) (lo n : Nat) (S' : NS) (r : Value) (e : Ending) (w' : World) : Prop := ∃ A' n' c', e = .returned (.tuple #[.agg #[.int .i64 (S'.ends : Int), .int .i64 (S'.most : Int), .slice A' n' c'], r]) ∧ RA w' lo A' n' c' S' ∧ n' ≤ n + 1 ∧ Below w.heap.size w w'
theorem RA.below {w w' : World} {lo n c : Nat} {A : Option Addr} {S : NS} (h : RA w lo A n c S) (hb : Below w.heap.size w w') : RA w' lo A n c S := by
  obtain ⟨L, h1, h2⟩ := h
  exact ⟨L, h1.below hb, h2⟩
theorem RA.kp {w w' : World} {lo n c cc : Nat} {A : Option Addr} {S : NS} (h : RA w lo A n c S) (hk : Kp cc w w') : RA w' lo A n c S := by
  obtain ⟨L, h1, h2⟩ := h
  exact ⟨L, h1.kp hk, h2⟩
theorem RA.but42 {w w' : World} {lo n c b : Nat} {A : Option Addr} {S : NS} {cs : Array Value} {fr : Nat × Nat} (h : RA w lo A n c S) (hb : w.heap[b]? = some (.cells cs 42 fr)) (hbt : But [b] w w') : RA w' lo A n c S := by
  obtain ⟨L, h1, h2⟩ := h
  exact ⟨L, h1.but42 hb hbt, h2⟩
theorem RA.lower {w : World} {lo lo' n c : Nat} {A : Option Addr} {S : NS} (h : RA w lo A n c S) (hl : lo' ≤ lo) : RA w lo' A n c S := by
  obtain ⟨L, h1, h2⟩ := h
  exact ⟨L, h1.lower hl, h2⟩
theorem RSm.ref {w w' : World} {lo n c : Nat} {A : Option Addr} {S : NS} {r : Value} {e : Ending} (h : RA w lo A n c S) (hp : RSm S.ends S.most A n c r w e w') : RefP w lo n S r e w' :=
  ⟨A, n, c, hp.1, h.below hp.2, by omega, hp.2⟩
theorem full_iff {S : NS} {t : Nat} : S.full t = true ↔ (S.most ≤ forL S.heap (t : Int) ∨ 10000 ≤ S.heap.length) := by
  unfold NS.full
  rw [Bool.or_eq_true, decide_eq_true_eq, decide_eq_true_eq]
  exact Iff.rfl
theorem not_full {S : NS} {t : Nat} (h : ¬ (S.most ≤ forL S.heap (t : Int) ∨ 10000 ≤ S.heap.length)) : S.full t = false := by
  cases hf : S.full t with
  | false => rfl
  | true => exact absurd (full_iff.1 hf) h
section
variable (w : World) {lo n c : Nat} {A : Option Addr} {S : NS}
theorem rf_wait (h : RA w lo A n c S) (k : Int) {q : Int} (hq : (S.wait k : Int) = q) : Calls Try.prog 29 #[.agg #[.int .i64 (S.ends : Int), .int .i64 (S.most : Int), .slice A n c], .int .i64 k] w fun e w' => e = .returned (.int .i64 q) ∧ Below w.heap.size w w' := by
  obtain ⟨L, h1, h2⟩ := h
  exact rwaiting_is w h1 _ _ k (by rw [h2]; exact hq)
theorem rf_fly (hS : S.Ok) (h : RA w lo A n c S) {q : Int} (hq : (S.heap.length : Int) = q) : Calls Try.prog 48 #[.agg #[.int .i64 (S.ends : Int), .int .i64 (S.most : Int), .slice A n c]] w fun e w' => e = .returned (.int .i64 q) ∧ Below w.heap.size w w' := by
  obtain ⟨L, h1, h2⟩ := h
  exact rflying_is w h1 S.ends _ hS.n2 (fun d hd => (hS.its d (by rw [← h2]; exact hd)).2.1) (by rw [h2]; exact hq)
def LookR (w : World) (lo : Nat) (o : Option Dt) (e : Ending) (w' : World) : Prop := ∃ X cx, e = .returned (.tuple #[DV (o.getD nod).fr (o.getD nod).to X (o.getD nod).b.length cx, .bool o.isSome]) ∧ Told w' lo o X cx ∧ Below w.heap.size w w'
theorem rf_look (h : RA w lo A n c S) (i : Int) (hi : i ≤ 9223372036854775807) {o : Option Dt} (ho : S.look i = o) : Calls Try.prog 24 #[.agg #[.int .i64 (S.ends : Int), .int .i64 (S.most : Int), .slice A n c], .int .i64 i] w (LookR w lo o) := by
  subst ho
  obtain ⟨L, h1, h2⟩ := h
  cases hl : S.look i with
  | none =>
    have := NS.look_none hl
    exact (rlook_none w h1 _ _ (by rw [h2]; omega) hi).mono fun e w' ⟨he, hb⟩ => ⟨none, 0, he, ⟨rfl, rfl⟩, hb⟩
  | some d =>
    obtain ⟨q1, q2, q3⟩ := NS.look_lt hl
    obtain ⟨j, rfl⟩ : ∃ j : Nat, i = j := ⟨i.toNat, by omega⟩
    rw [← h2] at q3
    obtain ⟨k, o, g1, g2, g3, g4⟩ := live_find q3
    subst g3
    refine (rlook_some w h1 _ _ g1 g2 g4).mono fun e w' ⟨he, hb⟩ => ⟨o.X, o.c, he, (h1.below hb).its o (List.mem_of_getElem? g1), hb⟩
theorem layF {d : Dt} (h : S.full d.to = true) : S.lay d = S ∧ S.layE d = 5 := by simp [NS.lay, NS.layE, h]
theorem layR {d : Dt} (h : S.full d.to = false) : S.lay d = S.laid d ∧ S.layE d = 0 := by simp [NS.lay, NS.layE, h]
theorem rf_send (hS : S.Ok) (h : RA w lo A n c S) (hn : n ≤ 1000000) (hlo : lo ≤ w.heap.size) (f t : Int) {X : Option Addr} {lx cx : Nat} {l : List UInt8} (hr : Rd w X lx l) {q : Int} (hq : S.sendE f t l = q) {S' : NS} (hS' : S.send f t l = S') : Calls Try.prog 22 #[.agg #[.int .i64 (S.ends : Int), .int .i64 (S.most : Int), .slice A n c], .int .i64 f, .int .i64 t, .slice X lx cx] w (RefP w lo n S' (.int .i64 q)) := by
  subst hq hS'
  by_cases hb : f < 0 ∨ t < 0 ∨ (S.ends : Int) ≤ f ∨ (S.ends : Int) ≤ t
  · have hj : (S.joins f && S.joins t) = false := by
      simp [NS.joins]
      omega
    have e1 : S.send f t l = S := by unfold NS.send; rw [hj]; rfl
    have e2 : S.sendE f t l = 2 := by unfold NS.sendE; rw [hj]; rfl
    rw [e1, e2]
    exact (rsend_bad w hb).mono fun e w' hp => RSm.ref h hp
  · obtain ⟨f, rfl⟩ := Int.eq_ofNat_of_zero_le (show 0 ≤ f by omega)
    obtain ⟨t, rfl⟩ := Int.eq_ofNat_of_zero_le (show 0 ≤ t by omega)
    have hf : f < S.ends := by omega
    have ht : t < S.ends := by omega
    have hj : (S.joins (f : Int) && S.joins (t : Int)) = true := by
      simp [NS.joins]
      omega
    have hlen := hr.len
    by_cases hl : lx ≤ 131072
    · have e1 : S.send (f : Int) (t : Int) l = S.lay ⟨f, t, l⟩ := by unfold NS.send; rw [hj, if_pos rfl, if_pos (by omega)]; rfl
      have e2 : S.sendE (f : Int) (t : Int) l = S.layE ⟨f, t, l⟩ := by unfold NS.sendE; rw [hj, if_pos rfl, if_pos (by omega)]; rfl
      rw [e1, e2]
      obtain ⟨L, h1, h2⟩ := h
      have hin : ∀ d ∈ live L, d.to < S.ends := fun d hd => (hS.its d (by rw [← h2]; exact hd)).2.1
      by_cases hF : S.most ≤ forL (live L) (t : Int) ∨ 10000 ≤ (live L).length
      · have hf' : S.full t = true := full_iff.2 (by rw [← h2]; exact hF)
        obtain ⟨e3, e4⟩ := layF (S := S) (d := ⟨f, t, l⟩) hf'
        rw [e3, e4]
        exact (rsend_full w h1 hr hf ht hl rfl rfl hS.n2 hin hF).mono fun e w' hp => RSm.ref ⟨L, h1, h2⟩ hp
      · have hf' : S.full t = false := not_full (by rw [← h2]; exact hF)
        obtain ⟨e3, e4⟩ := layR (S := S) (d := ⟨f, t, l⟩) hf'
        rw [e3, e4]
        refine (rsend_room w h1 hr hf ht hl rfl rfl hS.n2 hin hF hn hlo).mono ?_
        rintro e w' ⟨A', c', o, he, hbk, ho1, ho2, hb⟩
        exact ⟨A', n + 1, c', he, ⟨_, hbk, by rw [live_append, live_yes ho2, ho1, h2]; rfl⟩, Nat.le_refl _, hb⟩
    · have e1 : S.send (f : Int) (t : Int) l = S := by unfold NS.send; rw [hj, if_pos rfl, if_neg (by omega)]
      have e2 : S.sendE (f : Int) (t : Int) l = 3 := by unfold NS.sendE; rw [hj, if_pos rfl, if_neg (by omega)]
      rw [e1, e2]
      exact (rsend_long w hf ht (by omega)).mono fun e w' hp => RSm.ref h hp
theorem rf_copy (hS : S.Ok) (h : RA w lo A n c S) (hn : n ≤ 1000000) (hlo : lo ≤ w.heap.size) (i : Int) (hi : i ≤ 9223372036854775807) {q : Int} (hq : S.copyE i = q) {S' : NS} (hS' : S.copy i = S') : Calls Try.prog 23 #[.agg #[.int .i64 (S.ends : Int), .int .i64 (S.most : Int), .slice A n c], .int .i64 i] w (RefP w lo n S' (.int .i64 q)) := by
  subst hq hS'
  have h0 := h
  obtain ⟨L, h1, h2⟩ := h
  cases hl : S.look i with
  | none =>
    have := NS.look_none hl
    rw [show S.copy i = S from (copy_no hl).2, show S.copyE i = 2 from (copy_no hl).1]
    exact (rcopy_none w h1 (by rw [h2]; omega) hi).mono fun e w' hp => RSm.ref h0 hp
  | some d =>
    obtain ⟨q1, q2, q3⟩ := NS.look_lt hl
    obtain ⟨j, rfl⟩ : ∃ j : Nat, i = j := ⟨i.toNat, by omega⟩
    rw [← h2] at q3
    obtain ⟨k, o, g1, g2, g3, g4⟩ := live_find q3
    subst g3
    have hin : ∀ d ∈ live L, d.to < S.ends := fun d hd => (hS.its d (by rw [← h2]; exact hd)).2.1
    by_cases hF : S.most ≤ forL (live L) (o.d.to : Int) ∨ 10000 ≤ (live L).length
    · have hf' : S.full o.d.to = true := full_iff.2 (by rw [← h2]; exact hF)
      rw [(copy_full hl hf').1, (copy_full hl hf').2]
      exact (rcopy_full w h1 g1 g2 g4 rfl rfl hS.n2 hin hF).mono fun e w' hp => RSm.ref h0 hp
    · have hf' : S.full o.d.to = false := not_full (by rw [← h2]; exact hF)
      rw [(copy_room hl hf').1, (copy_room hl hf').2]
      refine (rcopy_room w h1 g1 g2 g4 rfl rfl hS.n2 hin hF hn hlo).mono ?_
      rintro e w' ⟨A', c', o', he, hbk, ho1, ho2, hb⟩
      exact ⟨A', n + 1, c', he, ⟨_, hbk, by rw [live_append, live_yes ho2, ho1, h2]; rfl⟩, Nat.le_refl _, hb⟩
theorem rf_drop (h : RA w lo A n c S) (hn : n ≤ 1000000) (hlo : lo ≤ w.heap.size) (i : Int) (hi : i ≤ 9223372036854775807) {q : Bool} (hq : (S.look i).isSome = q) {S' : NS} (hS' : S.drop i = S') : Calls Try.prog 25 #[.agg #[.int .i64 (S.ends : Int), .int .i64 (S.most : Int), .slice A n c], .int .i64 i] w (RefP w lo n S' (.bool q)) := by
  subst hq hS'
  have h0 := h
  obtain ⟨L, h1, h2⟩ := h
  cases hl : S.look i with
  | none =>
    have := NS.look_none hl
    rw [drop_no hl]
    exact (rdrop_none w h1 (by rw [h2]; omega) hi).mono fun e w' hp => RSm.ref h0 hp
  | some d =>
    obtain ⟨q1, q2, q3⟩ := NS.look_lt hl
    obtain ⟨j, rfl⟩ : ∃ j : Nat, i = j := ⟨i.toNat, by omega⟩
    rw [← h2] at q3
    obtain ⟨k, o, g1, g2, g3, g4⟩ := live_find q3
    have e : S.drop (j : Int) = S.without j := by simp [NS.drop, hl]
    rw [e]
    refine (rdrop_some w h1 g1 g2 g4 hn hlo).mono ?_
    rintro e w' ⟨A', c', he, hbk, hb⟩
    refine ⟨A', n, c', he, ⟨_, hbk, ?_⟩, by omega, hb⟩
    rw [live_erase g1 g2, g4, h2]
    simp [NS.without]
theorem rf_forget (h : RA w lo A n c S) (hn : n ≤ 1000000) (hlo : lo ≤ w.heap.size) (k : Int) {q : Int} (hq : (S.wait k : Int) = q) {S' : NS} (hS' : S.forget k = S') : Calls Try.prog 26 #[.agg #[.int .i64 (S.ends : Int), .int .i64 (S.most : Int), .slice A n c], .int .i64 k] w (RefP w lo n S' (.int .i64 q)) := by
  subst hq hS'
  obtain ⟨L, h1, h2⟩ := h
  refine (rforget_is w h1 hn hlo k (y := (S.wait k : Int)) (by rw [h2]; rfl)).mono ?_
  rintro e w' ⟨A', c', he, hbk, hb⟩
  exact ⟨A', n, c', he, ⟨_, hbk, by rw [live_mark, h2]; rfl⟩, by omega, hb⟩
end
theorem heaped_is (w : World) {B lo g c n cc : Nat} {A : Option Addr} {S : NS} (h : Nt w B g c S) (hr : RA w lo A n cc S) : Calls Try.prog 28 #[.pointer (some ⟨g, 0, none⟩), .agg #[.int .i64 (S.ends : Int), .int .i64 (S.most : Int), .slice A n cc]] w (Awake w) := by
  obtain ⟨z, hz⟩ : ∃ z, S.heap.length = z := ⟨_, rfl⟩
  have hz0 : z ≤ 10000 := by have := h.ok.len; omega
  obtain ⟨en, hen⟩ : ∃ x, S.ends = x := ⟨_, rfl⟩
  obtain ⟨mn, hmn⟩ : ∃ x, S.most = x := ⟨_, rfl⟩
  rw [hen, hmn]
  obtain ⟨w1, hw1⟩ : ∃ v, w.alloc (.cells #[.int .i64 (en : Int), .int .i64 (mn : Int), .slice A n cc] 42) = v := ⟨_, rfl⟩
  obtain ⟨b3, hb3⟩ : ∃ b, w.heap.size = b := ⟨_, rfl⟩
  have hB1 : Below w.heap.size w w1 := hw1 ▸ (Below.refl _ _).alloc (Nat.le_refl _) _
  have hr1 : w1.heap[b3]? = some (.cells #[.int .i64 (en : Int), .int .i64 (mn : Int), .slice A n cc] 42 (0, 0)) := by rw [← hb3, ← hw1]; exact heap_alloc_new _ _
  have HA := Lib.hid (And.intro h (And.intro hr (And.intro hz (And.intro hz0 (And.intro hB1 (And.intro hr1 (And.intro hen hmn)))))))
  have HW := Lib.hid (And.intro hw1 hb3)
  clear h hr hz hz0 hB1 hr1 hw1 hb3 hen hmn
  go_enter Try.func28, Try.ntmps28
  go_upto_region 1 with (fail)
  rw [HW.out.1, HW.out.2]
  refine wp_region_held_drew (S := fun v => Below w1.heap.size w1 v) (by kernel_rfl) ((Below.refl w1.heap.size w1).drew) (fun hHeld => ?_)
  refine wpAnyH_take (i := 0) (oi := ⟨some 10, _, _, _, _, _⟩) (v := ?_) rfl (by kernel_rfl) (by kernel_rfl) (by kernel_rfl) (fun _ _ _ h => h) (Or.inl ⟨by rfl, ?_⟩) (by assumption) ?_
  rotate_left
  · intro w hSw
    (try dsimp only at hSw)
    go_simp
    all_goals (with_reducible rfl)
  try simp only [Act.put, List.setIfInBounds_toArray, List.set_cons_zero, List.set_cons_succ]
  refine wpAnyH_take (i := 2) (oi := ⟨some 12, _, _, _, _, _⟩) (v := ?_) rfl (by kernel_rfl) (by kernel_rfl) (by kernel_rfl) (fun _ _ _ h => h) (Or.inl ⟨by rfl, ?_⟩) (by assumption) ?_
  rotate_left
  · intro w hSw
    obtain ⟨⟨c0, c1, c2⟩, _, _, _⟩ := three (rowk2 hSw HA.out.2.2.2.2.2.1)
    go_simp
    all_goals (with_reducible rfl)
  try simp only [Act.put, List.setIfInBounds_toArray, List.set_cons_zero, List.set_cons_succ]
  have hH1 := hHeld
  refine wpAnyH_ready (rs := [1]) (by kernel_rfl) (by simp) (AllReadyH.cons (o := ⟨some 11, _, _, _, _, _⟩) rfl (fun K hK => ?_) AllReadyH.nil)
  go_simp
  refine (nt_flying _ (HA.out.1.below (HA.out.2.2.2.2.1.trans (hH1.mono HA.out.2.2.2.2.1.size))) (q := (z : Int)) (by rw [HA.out.2.2.1])).mono ?_
  rintro e _ ⟨rfl, rfl⟩
  refine hK.out _ _ (hH1) (fun hHeld => ?_)
  clear hK K
  try simp only [Act.put, List.setIfInBounds_toArray, List.set_cons_zero, List.set_cons_succ]
  clear hH1
  have hH1 := hHeld
  refine wpAnyH_ready (rs := [3]) (by kernel_rfl) (by simp) (AllReadyH.cons (o := ⟨some 13, _, _, _, _, _⟩) rfl (fun K hK => ?_) AllReadyH.nil)
  go_simp
  have G := rf_fly _ HA.out.1.ok (HA.out.2.1.below (HA.out.2.2.2.2.1.trans (hH1.mono HA.out.2.2.2.2.1.size))) (q := (z : Int)) (by rw [HA.out.2.2.1])
  rw [HA.out.2.2.2.2.2.2.1, HA.out.2.2.2.2.2.2.2] at G
  refine G.mono ?_
  rintro e x1 ⟨rfl, hx1⟩
  clear G
  refine hK.out _ _ (hH1.trans (hx1.mono hH1.size)) (fun hHeld => ?_)
  clear hK K
  try simp only [Act.put, List.setIfInBounds_toArray, List.set_cons_zero, List.set_cons_succ]
  have HX1 := Lib.hid (hH1.trans (hx1.mono hH1.size))
  clear hH1 hx1
  refine wpAnyH_take (i := 4) (oi := ⟨some 14, _, _, _, _, _⟩) (v := ?_) rfl (by kernel_rfl) (by kernel_rfl) (by kernel_rfl) (fun _ _ _ h => h) (Or.inl ⟨by rfl, ?_⟩) (by assumption) ?_
  rotate_left
  · intro w hSw
    (try dsimp only at hSw)
    go_simp
    all_goals (with_reducible rfl)
  try simp only [Act.put, List.setIfInBounds_toArray, List.set_cons_zero, List.set_cons_succ]
  refine wpAnyH_done (by kernel_rfl) ?_ _
  clear hHeld
  have HB : Hid (Below w.heap.size w x1 ∧ x1.heap[b3]? = some (.cells #[.int .i64 (en : Int), .int .i64 (mn : Int), .slice A n cc] 42 (0, 0))) := Lib.hid ⟨HA.out.2.2.2.2.1.trans (HX1.out.mono HA.out.2.2.2.2.1.size), rowk2 HX1.out HA.out.2.2.2.2.2.1⟩
  go_wp2
  go_loopw [5] (fun i wr => ∃ j : Nat, j ≤ z + 1 ∧ i = .int .i64 j ∧ Hid (Below w.heap.size w wr ∧ wr.heap[b3]? = some (.cells #[.int .i64 (en : Int), .int .i64 (mn : Int), .slice A n cc] 42 (0, 0)))) (fun i _ => z + 1 - (Go.RowKit.intOf i).toNat)
  case atStart => exact ⟨0, by omega, rfl, HB⟩
  case round =>
    obtain ⟨j, hj, rfl, HR⟩ := hrel
    have HBr := HR
    clear HR
    by_cases hlt : j ≤ z
    · have hji : (0 : Int) ≤ (j : Int) := by omega
      have hjn : (j : Int) ≤ (z : Int) := by omega
      have hj1 : (j : Int) ≤ 10000 := by have := HA.out.2.2.2.1; omega
      have hw1 : IntKind.i64.wrap ((j : Int) + 1) = (j : Int) + 1 := IntWalk.i64_in _ (by omega)
      obtain ⟨lk, hlk⟩ : ∃ lk, S.look (j : Int) = lk := ⟨_, rfl⟩
      obtain ⟨dd, hdd⟩ : ∃ dd, lk.getD nod = dd := ⟨_, rfl⟩
      obtain ⟨bt, hbt⟩ : ∃ bt, lk.isSome = bt := ⟨_, rfl⟩
      obtain ⟨f, hf⟩ : ∃ f, dd.fr = f := ⟨_, rfl⟩
      obtain ⟨t, ht⟩ : ∃ f, dd.to = f := ⟨_, rfl⟩
      have HL := Lib.hid (And.intro hlk (And.intro hdd (And.intro hbt (And.intro hf ht))))
      have HJ := Lib.hid hlt
      clear hlk hdd hbt hf ht hlt hj
      go_wp2_with fail
      refine (nt_flying _ (HA.out.1.below HBr.out.1) (q := (z : Int)) (by rw [HA.out.2.2.1])).mono ?_
      rintro e _ ⟨rfl, rfl⟩
      go_wp2_with fail
      refine (nt_look _ (HA.out.1.below HBr.out.1) (j : Int) HL.out.1).mono ?_
      rintro e w5 ⟨X2, cx2, rfl, hT, hb⟩
      rw [HL.out.2.1, HL.out.2.2.1, HL.out.2.2.2.1, HL.out.2.2.2.2]
      obtain ⟨w6, hw6⟩ : ∃ v, w5.alloc (.cells #[.int .i64 (f : Int), .int .i64 (t : Int), .slice X2 dd.b.length cx2] 34) = v := ⟨_, rfl⟩
      have hB6 : Below w5.heap.size w5 w6 := hw6 ▸ (Below.refl _ _).alloc (Nat.le_refl _) _
      have hr6 : w6.heap[w5.heap.size]? = some (.cells #[.int .i64 (f : Int), .int .i64 (t : Int), .slice X2 dd.b.length cx2] 34 (0, 0)) := hw6 ▸ heap_alloc_new _ _
      obtain ⟨b6, hb6⟩ : ∃ b, w5.heap.size = b := ⟨_, rfl⟩
      rw [hb6] at hr6
      have hbr6 := hb.trans (hB6.mono hb.size)
      have H6 := Lib.hid (And.intro (HBr.out.1.trans (hbr6.mono HBr.out.1.size)) (And.intro (rowk2 hbr6 HBr.out.2) (And.intro hr6 (show Rd w6 X2 dd.b.length dd.b by have := (hT.below' hB6).rd; rw [HL.out.2.1] at this; exact this))))
      have HW6 := Lib.hid (And.intro hw6 hb6)
      obtain ⟨⟨c0, c1, c2⟩, _, _, _⟩ := three H6.out.2.1
      clear hT hb hB6 hr6 hbr6 hw6 hb6
      go_upto_region 7 with (fail)
      rw [HW6.out.1, HW6.out.2]
      go_wp2_with fail
      have G := rf_look w6 (HA.out.2.1.below H6.out.1) (j : Int) (by omega) HL.out.1
      rw [HA.out.2.2.2.2.2.2.1, HA.out.2.2.2.2.2.2.2] at G
      refine G.mono ?_
      rintro e w7 ⟨X3, cx3, rfl, hT3, hb⟩
      have hrd := hT3.rd
      rw [HL.out.2.1, HL.out.2.2.1, HL.out.2.2.2.1, HL.out.2.2.2.2]
      rw [HL.out.2.1] at hrd
      obtain ⟨w8, hw8⟩ : ∃ v, w7.alloc (.cells #[.int .i64 (f : Int), .int .i64 (t : Int), .slice X3 dd.b.length cx3] 34) = v := ⟨_, rfl⟩
      have hB8 : Below w7.heap.size w7 w8 := hw8 ▸ (Below.refl _ _).alloc (Nat.le_refl _) _
      have hr8 : w8.heap[w7.heap.size]? = some (.cells #[.int .i64 (f : Int), .int .i64 (t : Int), .slice X3 dd.b.length cx3] 34 (0, 0)) := hw8 ▸ heap_alloc_new _ _
      have hb68 := hb.trans (hB8.mono hb.size)
      have H8 := Lib.hid (And.intro (H6.out.1.trans (hb68.mono H6.out.1.size)) (And.intro (H6.out.2.2.2.below hb68 (Nat.le_refl _)) (hrd.below hB8 (Nat.le_refl _))))
      obtain ⟨⟨k0, k1, k2⟩, _, _, _⟩ := three hr8
      obtain ⟨⟨q0, q1, q2⟩, _, _, _⟩ := three (rowk2 hb68 H6.out.2.2.1)
      have hrow8 := rowk2 hb68 H6.out.2.1
      clear G hrd hT3 hb hB8 hr8 hb68 c0 c1 c2 H6
      go_wp2_with fail
      refine (like_is _ H8.out.2.1 H8.out.2.2 (q := true) (by simp)).mono ?_
      rintro e w9 ⟨rfl, hb⟩
      have HE := Lib.hid (And.intro (H8.out.1.trans (hb.mono H8.out.1.size)) (rowk2 hb hrow8))
      clear hb H8 k0 k1 k2 q0 q1 q2 hw8 hrow8
      go_wp2
      go_roundw
      case rel => exact ⟨j + 1, by have := HJ.out; omega, by go_num, HE⟩
      case measure => have := HJ.out; simp [Go.RowKit.intOf]; omega
    · obtain rfl : j = z + 1 := by omega
      have hjn : ¬ ((z + 1 : Nat) : Int) ≤ (z : Int) := by omega
      have hjn2 : (z : Int) < ((z + 1 : Nat) : Int) := by omega
      clear hlt hj
      go_wp2_with fail
      refine (nt_flying _ (HA.out.1.below HBr.out.1) (q := (z : Int)) (by rw [HA.out.2.2.1])).mono ?_
      rintro e _ ⟨rfl, rfl⟩
      go_wp2
      go_ret
      exact ⟨rfl, HBr.out.1⟩
end Go.Proofs.Ythhablokbnfpcaa
