/- Decode, Rebuild. -/
import Derived.Test.YtobbjeephmfdeaaCodF
namespace Go.Proofs.Ytobbjeephmfdeaa
open Go.RowKit Go.Coop
set_option maxRecDepth 100000

theorem dec_none (p : Option Addr) (R : Option Addr) (m rc : Nat) (S : Option Addr) (q d : Nat) (w : World) (h : NoCode w p) : Calls Try.prog 25 #[.pointer p, .slice R m rc, .slice S q d] w (NotM w 1) := by
  have H := Lib.hid h
  clear h
  go_enter Try.func25, Try.ntmps25
  go_wp2_with fail
  refine (back_none p R m rc S q d w H.out).mono ?_
  rintro e w' ⟨rfl, hB⟩
  go_wp2
  go_ret2
  exact ⟨rfl, hB⟩
theorem dec_no {g n k gf c : Nat} {A : Option Addr} (R : Option Addr) (m rc : Nat) (ls : List Int) (S : Option Addr) (q d : Nat) (L : List (List UInt8)) (w : World) (hg : CodeAt w g n k gf A c) (hR : RdV w R m (ivs ls)) (h : MR w S q L) (hq : q ≤ 140737488355328) (hm : m ≤ 140737488355328) (hL : ∀ r ∈ L, r.length ≤ 140737488355328) (hno : m < k ∨ toldB n ls L = false) :
    Calls Try.prog 25 #[.pointer (some ⟨g, 0, none⟩), .slice R m rc, .slice S q d] w (NotM w 40) := by
  have HX := Lib.hid (back_no R m rc ls S q d L w hg hR h hq hm hL hno)
  clear hg hR h hL hno
  go_enter Try.func25, Try.ntmps25
  go_wp2_with fail
  refine HX.out.mono ?_
  rintro e w' ⟨rfl, hB⟩
  go_wp2
  go_ret2
  exact ⟨rfl, hB⟩
theorem dec_yes {g n k gf c : Nat} {A : Option Addr} (R : Option Addr) (m rc : Nat) (la : List Nat) (S : Option Addr) (d s : Nat) (D : Fn2) (w : World) (hg : CodeAt w g n k gf A c) (hR : RdV w R m (nvs la)) (h : MR w S m (tabM m s D)) (hs : s ≤ 65536) (hm : m ≤ 1000000) (hrc : m ≤ rc) (hp : Places n la) (hkm : k ≤ m) :
    Calls Try.prog 25 #[.pointer (some ⟨g, 0, none⟩), .slice R m rc, .slice S m d] w (GotM w k (tabM k s (mulF k (invC k (la.take k)) D))) := by
  have h1 := hg.k1
  have h2 := hg.kn
  have h3 := hg.n255
  have HX := Lib.hid (back_yes R m rc la S d s D w hg hR h hs (by omega) hrc hp hkm)
  have H := Lib.hid hg
  have HS := Lib.hid h
  clear hg hR h hp
  go_enter Try.func25, Try.ntmps25
  go_wp2_with fail
  refine HX.out.mono ?_
  rintro e w1 ⟨Y, yc, rfl, hY, hB⟩
  have HY := Lib.hid hY
  have HB := Lib.hid hB
  have hc0 : w1.cell? ⟨g, 0, none⟩ = some (.pointer (some ⟨gf, 0, none⟩)) := (hB.cell (p := ⟨g, 0, none⟩) H.out.lt).trans H.out.c0
  clear hY hB HX
  go_wp2_with fail
  refine (each_prod gf S m d s D Y k yc k (invC k (la.take k)) w1 (H.out.fld.below HB.out H.out.fld.lt) (HS.out.below HB.out (Nat.le_refl _)) HY.out.mr hkm (by omega) hm (by omega) (by omega)).mono ?_
  rintro e w2 ⟨X, xc, rfl, hX, hB2⟩
  go_wp2
  go_ret2
  exact ⟨X, xc, rfl, hX.lower HB.out.size HB.out.size, HB.out.trans (hB2.mono HB.out.size)⟩

/-- a row that was made -/
def GotB (w : World) (s : Nat) (l : List UInt8) (e : Ending) (w' : World) : Prop :=
  ∃ X c, e = .returned (.tuple #[.slice X s c, .int .i64 0]) ∧ Own w' w.heap.size 5 X s c l ∧ Below w.heap.size w w'
theorem reb_none (p : Option Addr) (R : Option Addr) (m rc : Nat) (S : Option Addr) (q d : Nat) (i : Int) (w : World) (h : NoCode w p) : Calls Try.prog 17 #[.pointer p, .slice R m rc, .slice S q d, .int .i64 i] w (NotM w 1) := by
  have H := Lib.hid h
  clear h
  go_enter Try.func17, Try.ntmps17
  go_wp2_with fail
  refine (back_none p R m rc S q d w H.out).mono ?_
  rintro e w' ⟨rfl, hB⟩
  go_wp2
  go_ret2
  exact ⟨rfl, hB⟩
theorem reb_no {g n k gf c : Nat} {A : Option Addr} (R : Option Addr) (m rc : Nat) (ls : List Int) (S : Option Addr) (q d : Nat) (L : List (List UInt8)) (i : Int) (w : World) (hg : CodeAt w g n k gf A c) (hR : RdV w R m (ivs ls)) (h : MR w S q L) (hq : q ≤ 140737488355328) (hm : m ≤ 140737488355328) (hL : ∀ r ∈ L, r.length ≤ 140737488355328) (hno : m < k ∨ toldB n ls L = false) :
    Calls Try.prog 17 #[.pointer (some ⟨g, 0, none⟩), .slice R m rc, .slice S q d, .int .i64 i] w (NotM w 40) := by
  have HX := Lib.hid (back_no R m rc ls S q d L w hg hR h hq hm hL hno)
  clear hg hR h hL hno
  go_enter Try.func17, Try.ntmps17
  go_wp2_with fail
  refine HX.out.mono ?_
  rintro e w' ⟨rfl, hB⟩
  go_wp2
  go_ret2
  exact ⟨rfl, hB⟩
theorem reb_arg {g n k gf c : Nat} {A : Option Addr} (R : Option Addr) (m rc : Nat) (la : List Nat) (S : Option Addr) (d s : Nat) (D : Fn2) (i : Int) (w : World) (hg : CodeAt w g n k gf A c) (hR : RdV w R m (nvs la)) (h : MR w S m (tabM m s D)) (hs : s ≤ 65536) (hm : m ≤ 1000000) (hrc : m ≤ rc) (hp : Places n la) (hkm : k ≤ m) (hi : i < 0 ∨ (n : Int) ≤ i) :
    Calls Try.prog 17 #[.pointer (some ⟨g, 0, none⟩), .slice R m rc, .slice S m d, .int .i64 i] w (NotM w 2) := by
  have HX := Lib.hid (back_yes R m rc la S d s D w hg hR h hs (by omega) hrc hp hkm)
  have H := Lib.hid hg
  clear hg hR h hp
  go_enter Try.func17, Try.ntmps17
  go_wp2_with fail
  refine HX.out.mono ?_
  rintro e w1 ⟨Y, yc, rfl, hY, hB⟩
  have HB := Lib.hid hB
  have hc2 : w1.cell? ⟨g, 2, none⟩ = some (.int .i64 (n : Int)) := (hB.cell (p := ⟨g, 2, none⟩) H.out.lt).trans H.out.c2
  clear hY hB HX
  by_cases h0 : i < 0
  · go_wp2
    go_ret2
    exact ⟨rfl, HB.out⟩
  · have hi := hi.resolve_left h0
    go_wp2
    go_ret2
    exact ⟨rfl, HB.out⟩
set_option maxHeartbeats 2000000 in
theorem reb_yes {g n k gf c : Nat} {A : Option Addr} (R : Option Addr) (m rc : Nat) (la : List Nat) (S : Option Addr) (d s : Nat) (D : Fn2) (i : Nat) (w : World) (hg : CodeAt w g n k gf A c) (hR : RdV w R m (nvs la)) (h : MR w S m (tabM m s D)) (hs : s ≤ 65536) (hm : m ≤ 1000000) (hrc : m ≤ rc) (hp : Places n la) (hkm : k ≤ m) (hi : i < n) :
    Calls Try.prog 17 #[.pointer (some ⟨g, 0, none⟩), .slice R m rc, .slice S m d, .int .i64 (i : Int)] w (GotB w s (rowL s (mulF k (mulF k (fun _ => codF k i) (invC k (la.take k))) D 0))) := by
  have h1 := hg.k1
  have h2 := hg.kn
  have h3 := hg.n255
  have HX := Lib.hid (back_yes R m rc la S d s D w hg hR h hs (by omega) hrc hp hkm)
  have H := Lib.hid hg
  have HS := Lib.hid h
  have hcap : n ≤ c := by obtain ⟨vs, hv, _⟩ := hg.mat.out; exact hv.cap
  have hin : (i : Int) < n := by omega
  have hsl := slice_lo (E := 31) 47 Try.underlying47 info31 A n c i (i + 1) (by omega) (by omega)
  rw [show i + 1 - i = 1 by omega] at hsl
  have hsl' : ∀ w, (Instr.slice 47 (.slice A n c) (some (.int .i64 (i : Int))) (some (.int .i64 ((i : Int) + 1))) none).run Try.prog w = .ok (.slice (cutA A c i) 1 (c - i)) w := fun w => by have := hsl w; rwa [show ((i + 1 : Nat) : Int) = (i : Int) + 1 by omega] at this
  have hwr : IntKind.i64.wrap ((i : Int) + 1) = (i : Int) + 1 := IntWalk.i64_in _ (by omega)
  clear hg hR h hp hsl
  go_enter Try.func17, Try.ntmps17
  go_wp2_with fail
  refine HX.out.mono ?_
  rintro e w1 ⟨Y, yc, rfl, hY, hB⟩
  have HY := Lib.hid hY
  have HB := Lib.hid hB
  have HC : Hid (CodeAt w1 g n k gf A c) := H.out.below HB.out (Nat.le_refl _)
  have hc2 := HC.out.c2
  clear hY hB HX
  go_wp2
  clear hc2
  have hS0 : w1.cell? ⟨g, 0, none⟩ = some (.pointer (some ⟨gf, 0, none⟩)) ∧ w1.cell? ⟨g, 3, none⟩ = some (.slice A n c) := ⟨HC.out.c0, HC.out.c3⟩
  refine wp_region_held_drew (S := fun u : World => u.cell? ⟨g, 0, none⟩ = some (.pointer (some ⟨gf, 0, none⟩)) ∧ u.cell? ⟨g, 3, none⟩ = some (.slice A n c)) (by kernel_rfl) (by exact hS0) (fun hHeld => ?_)
  refine wpAnyH_take (i := 0) (oi := ⟨some 35, _, _, _, _, _⟩) (v := ?_) rfl (by kernel_rfl) (by kernel_rfl) (by kernel_rfl) (fun _ _ _ h => h) (Or.inl ⟨by rfl, ?_⟩) (by assumption) ?_
  rotate_left
  · intro w hSw
    (try dsimp only at hSw)
    go_simp
    all_goals (with_reducible rfl)
  try simp only [Act.put, List.setIfInBounds_toArray, List.set_cons_zero, List.set_cons_succ]
  refine wpAnyH_take (i := 1) (oi := ⟨some 36, _, _, _, _, _⟩) (v := ?_) rfl (by kernel_rfl) (by kernel_rfl) (by kernel_rfl) (fun _ _ _ h => h) (Or.inl ⟨by rfl, ?_⟩) (by assumption) ?_
  rotate_left
  · intro w hSw
    (try dsimp only at hSw)
    go_simp
    all_goals (with_reducible rfl)
  try simp only [Act.put, List.setIfInBounds_toArray, List.set_cons_zero, List.set_cons_succ]
  refine wpAnyH_take (i := 2) (oi := ⟨some 37, _, _, _, _, _⟩) (v := ?_) rfl (by kernel_rfl) (by kernel_rfl) (by kernel_rfl) (fun _ _ _ h => h) (Or.inl ⟨by rfl, ?_⟩) (by assumption) ?_
  rotate_left
  · intro w hSw
    (try dsimp only at hSw)
    go_simp
    all_goals (with_reducible rfl)
  try simp only [Act.put, List.setIfInBounds_toArray, List.set_cons_zero, List.set_cons_succ]
  refine wpAnyH_take (i := 3) (oi := ⟨some 38, _, _, _, _, _⟩) (v := ?_) rfl (by kernel_rfl) (by kernel_rfl) (by kernel_rfl) (fun _ _ _ h => h) (Or.inl ⟨by rfl, ?_⟩) (by assumption) ?_
  rotate_left
  · intro w hSw
    (try dsimp only at hSw)
    have hcc := hSw.1
    go_simp
    all_goals (with_reducible rfl)
  try simp only [Act.put, List.setIfInBounds_toArray, List.set_cons_zero, List.set_cons_succ]
  refine wpAnyH_take (i := 4) (oi := ⟨some 39, _, _, _, _, _⟩) (v := ?_) rfl (by kernel_rfl) (by kernel_rfl) (by kernel_rfl) (fun _ _ _ h => h) (Or.inl ⟨by rfl, ?_⟩) (by assumption) ?_
  rotate_left
  · intro w hSw
    (try dsimp only at hSw)
    go_simp
    all_goals (with_reducible rfl)
  try simp only [Act.put, List.setIfInBounds_toArray, List.set_cons_zero, List.set_cons_succ]
  refine wpAnyH_take (i := 5) (oi := ⟨some 40, _, _, _, _, _⟩) (v := ?_) rfl (by kernel_rfl) (by kernel_rfl) (by kernel_rfl) (fun _ _ _ h => h) (Or.inl ⟨by rfl, ?_⟩) (by assumption) ?_
  rotate_left
  · intro w hSw
    (try dsimp only at hSw)
    go_simp
    all_goals (with_reducible rfl)
  try simp only [Act.put, List.setIfInBounds_toArray, List.set_cons_zero, List.set_cons_succ]
  refine wpAnyH_take (i := 6) (oi := ⟨some 41, _, _, _, _, _⟩) (v := ?_) rfl (by kernel_rfl) (by kernel_rfl) (by kernel_rfl) (fun _ _ _ h => h) (Or.inl ⟨by rfl, ?_⟩) (by assumption) ?_
  rotate_left
  · intro w hSw
    (try dsimp only at hSw)
    go_simp
    all_goals (with_reducible rfl)
  try simp only [Act.put, List.setIfInBounds_toArray, List.set_cons_zero, List.set_cons_succ]
  refine wpAnyH_take (i := 7) (oi := ⟨some 42, _, _, _, _, _⟩) (v := ?_) rfl (by kernel_rfl) (by kernel_rfl) (by kernel_rfl) (fun _ _ _ h => h) (Or.inl ⟨by rfl, ?_⟩) (by assumption) ?_
  rotate_left
  · intro w hSw
    (try dsimp only at hSw)
    have hcc := hSw.2
    go_simp
    all_goals (with_reducible rfl)
  try simp only [Act.put, List.setIfInBounds_toArray, List.set_cons_zero, List.set_cons_succ]
  refine wpAnyH_take (i := 8) (oi := ⟨some 43, _, _, _, _, _⟩) (v := ?_) rfl (by kernel_rfl) (by kernel_rfl) (by kernel_rfl) (fun _ _ _ h => h) (Or.inl ⟨by rfl, ?_⟩) (by assumption) ?_
  rotate_left
  · intro w hSw
    (try dsimp only at hSw)
    go_simp
    all_goals (with_reducible rfl)
  try simp only [Act.put, List.setIfInBounds_toArray, List.set_cons_zero, List.set_cons_succ]
  refine wpAnyH_take (i := 9) (oi := ⟨some 44, _, _, _, _, _⟩) (v := ?_) rfl (by kernel_rfl) (by kernel_rfl) (by kernel_rfl) (fun _ _ _ h => h) (Or.inl ⟨by rfl, ?_⟩) (by assumption) ?_
  rotate_left
  · intro w hSw
    (try dsimp only at hSw)
    go_simp
    all_goals (with_reducible rfl)
  try simp only [Act.put, List.setIfInBounds_toArray, List.set_cons_zero, List.set_cons_succ]
  refine wpAnyH_take (i := 10) (oi := ⟨some 45, _, _, _, _, _⟩) (v := ?_) rfl (by kernel_rfl) (by kernel_rfl) (by kernel_rfl) (fun _ _ _ h => h) (Or.inl ⟨by rfl, ?_⟩) (by assumption) ?_
  rotate_left
  · intro w hSw
    (try dsimp only at hSw)
    go_simp
    all_goals (with_reducible rfl)
  try simp only [Act.put, List.setIfInBounds_toArray, List.set_cons_zero, List.set_cons_succ]
  refine wpAnyH_take (i := 11) (oi := ⟨some 46, _, _, _, _, _⟩) (v := ?_) rfl (by kernel_rfl) (by kernel_rfl) (by kernel_rfl) (fun _ _ _ h => h) (Or.inl ⟨by rfl, ?_⟩) (by assumption) ?_
  rotate_left
  · intro w hSw
    (try dsimp only at hSw)
    go_simp
    all_goals (with_reducible rfl)
  try simp only [Act.put, List.setIfInBounds_toArray, List.set_cons_zero, List.set_cons_succ]
  refine wpAnyH_take (i := 12) (oi := ⟨some 47, _, _, _, _, _⟩) (v := ?_) rfl (by kernel_rfl) (by kernel_rfl) (by kernel_rfl) (fun _ _ _ h => h) (Or.inl ⟨by rfl, ?_⟩) (by assumption) ?_
  rotate_left
  · intro w hSw
    (try dsimp only at hSw)
    go_simp
    all_goals (with_reducible rfl)
  try simp only [Act.put, List.setIfInBounds_toArray, List.set_cons_zero, List.set_cons_succ]
  refine wpAnyH_ready (rs := [13]) (by kernel_rfl) (by simp) (AllReadyH.cons (o := ⟨some 48, _, _, _, _, _⟩) rfl (fun K hK => ?_) AllReadyH.nil)
  go_simp
  refine (mul_mr gf (cutA A c i) 1 (c - i) k (fun _ => codF k i) Y yc k (invC k (la.take k)) _ (by exact HC.out.fld.drew) (by exact (HC.out.mat.mr.one_at hi hcap).drew) (by exact HY.out.drew) (by omega) (by omega) h1 (by omega) h1 (by omega)).mono ?_
  rintro e w2 ⟨Z, zc, rfl, hZ, hB2⟩
  refine hK.out _ _ (by exact ⟨(hB2.cell (p := ⟨g, 0, none⟩) HC.out.lt).trans hHeld.1, (hB2.cell (p := ⟨g, 3, none⟩) HC.out.lt).trans hHeld.2⟩) (fun hHeld => ?_)
  clear hK K
  try simp only [Act.put, List.setIfInBounds_toArray, List.set_cons_zero, List.set_cons_succ]
  refine wpAnyH_take (i := 14) (oi := ⟨some 34, _, _, _, _, _⟩) (v := ?_) rfl (by kernel_rfl) (by kernel_rfl) (by kernel_rfl) (fun _ _ _ h => h) (Or.inl ⟨by rfl, ?_⟩) (by assumption) ?_
  rotate_left
  · intro w hSw
    (try dsimp only at hSw)
    go_simp
    all_goals (with_reducible rfl)
  try simp only [Act.put, List.setIfInBounds_toArray, List.set_cons_zero, List.set_cons_succ]
  refine wpAnyH_take (i := 15) (oi := ⟨some 49, _, _, _, _, _⟩) (v := ?_) rfl (by kernel_rfl) (by kernel_rfl) (by kernel_rfl) (fun _ _ _ h => h) (Or.inl ⟨by rfl, ?_⟩) (by assumption) ?_
  rotate_left
  · intro w hSw
    (try dsimp only at hSw)
    go_simp
    all_goals (with_reducible rfl)
  try simp only [Act.put, List.setIfInBounds_toArray, List.set_cons_zero, List.set_cons_succ]
  refine wpAnyH_take (i := 16) (oi := ⟨some 50, _, _, _, _, _⟩) (v := ?_) rfl (by kernel_rfl) (by kernel_rfl) (by kernel_rfl) (fun _ _ _ h => h) (Or.inl ⟨by rfl, ?_⟩) (by assumption) ?_
  rotate_left
  · intro w hSw
    (try dsimp only at hSw)
    go_simp
    all_goals (with_reducible rfl)
  try simp only [Act.put, List.setIfInBounds_toArray, List.set_cons_zero, List.set_cons_succ]
  refine wpAnyH_take (i := 17) (oi := ⟨some 12, _, _, _, _, _⟩) (v := ?_) rfl (by kernel_rfl) (by kernel_rfl) (by kernel_rfl) (fun _ _ _ h => h) (Or.inl ⟨by rfl, ?_⟩) (by assumption) ?_
  rotate_left
  · intro w hSw
    (try dsimp only at hSw)
    go_simp
    all_goals (with_reducible rfl)
  try simp only [Act.put, List.setIfInBounds_toArray, List.set_cons_zero, List.set_cons_succ]
  refine wpAnyH_take (i := 18) (oi := ⟨some 13, _, _, _, _, _⟩) (v := ?_) rfl (by kernel_rfl) (by kernel_rfl) (by kernel_rfl) (fun _ _ _ h => h) (Or.inl ⟨by rfl, ?_⟩) (by assumption) ?_
  rotate_left
  · intro w hSw
    (try dsimp only at hSw)
    go_simp
    all_goals (with_reducible rfl)
  try simp only [Act.put, List.setIfInBounds_toArray, List.set_cons_zero, List.set_cons_succ]
  refine wpAnyH_done (by kernel_rfl) ?_ _
  have HZ := Lib.hid hZ
  have HB2 : Hid (Below w1.heap.size w1 w2) := (Below.refl _ w1).drew.trans hB2
  have HC2 := Lib.hid (HC.out.below HB2.out (Nat.le_refl _))
  clear hZ hB2 hS0
  obtain ⟨gz, zB, zd, zr, rfl, _, _, _, hzr, hzc, hzo⟩ := HZ.out.row (show 0 < 1 by omega)
  rw [tabM_at _ _ (show 0 < 1 by omega)] at hzr
  injection hzr with hzr
  rw [← hzr, rowL_len] at hzc hzo
  have HZO := Lib.hid hzo.rd
  have hS1 : w2.cell? ⟨g, 0, none⟩ = some (.pointer (some ⟨gf, 0, none⟩)) ∧ w2.cell? ⟨gz, 0, none⟩ = some (.slice zB k zd) := ⟨HC2.out.c0, hzc⟩
  clear hzr hzc hzo
  go_wp2
  refine wp_region_held_drew (S := fun u : World => u.cell? ⟨g, 0, none⟩ = some (.pointer (some ⟨gf, 0, none⟩)) ∧ u.cell? ⟨gz, 0, none⟩ = some (.slice zB k zd)) (by kernel_rfl) (by exact hS1) (fun hHeld => ?_)
  refine wpAnyH_take (i := 0) (oi := ⟨some 51, _, _, _, _, _⟩) (v := ?_) rfl (by kernel_rfl) (by kernel_rfl) (by kernel_rfl) (fun _ _ _ h => h) (Or.inl ⟨by rfl, ?_⟩) (by assumption) ?_
  rotate_left
  · intro w hSw
    (try dsimp only at hSw)
    go_simp
    all_goals (with_reducible rfl)
  try simp only [Act.put, List.setIfInBounds_toArray, List.set_cons_zero, List.set_cons_succ]
  refine wpAnyH_take (i := 1) (oi := ⟨some 52, _, _, _, _, _⟩) (v := ?_) rfl (by kernel_rfl) (by kernel_rfl) (by kernel_rfl) (fun _ _ _ h => h) (Or.inl ⟨by rfl, ?_⟩) (by assumption) ?_
  rotate_left
  · intro w hSw
    (try dsimp only at hSw)
    go_simp
    all_goals (with_reducible rfl)
  try simp only [Act.put, List.setIfInBounds_toArray, List.set_cons_zero, List.set_cons_succ]
  refine wpAnyH_take (i := 2) (oi := ⟨some 53, _, _, _, _, _⟩) (v := ?_) rfl (by kernel_rfl) (by kernel_rfl) (by kernel_rfl) (fun _ _ _ h => h) (Or.inl ⟨by rfl, ?_⟩) (by assumption) ?_
  rotate_left
  · intro w hSw
    (try dsimp only at hSw)
    go_simp
    all_goals (with_reducible rfl)
  try simp only [Act.put, List.setIfInBounds_toArray, List.set_cons_zero, List.set_cons_succ]
  refine wpAnyH_take (i := 3) (oi := ⟨some 54, _, _, _, _, _⟩) (v := ?_) rfl (by kernel_rfl) (by kernel_rfl) (by kernel_rfl) (fun _ _ _ h => h) (Or.inl ⟨by rfl, ?_⟩) (by assumption) ?_
  rotate_left
  · intro w hSw
    (try dsimp only at hSw)
    have hcc := hSw.1
    go_simp
    all_goals (with_reducible rfl)
  try simp only [Act.put, List.setIfInBounds_toArray, List.set_cons_zero, List.set_cons_succ]
  refine wpAnyH_take (i := 4) (oi := ⟨some 55, _, _, _, _, _⟩) (v := ?_) rfl (by kernel_rfl) (by kernel_rfl) (by kernel_rfl) (fun _ _ _ h => h) (Or.inl ⟨by rfl, ?_⟩) (by assumption) ?_
  rotate_left
  · intro w hSw
    (try dsimp only at hSw)
    go_simp
    all_goals (with_reducible rfl)
  try simp only [Act.put, List.setIfInBounds_toArray, List.set_cons_zero, List.set_cons_succ]
  refine wpAnyH_take (i := 5) (oi := ⟨some 56, _, _, _, _, _⟩) (v := ?_) rfl (by kernel_rfl) (by kernel_rfl) (by kernel_rfl) (fun _ _ _ h => h) (Or.inl ⟨by rfl, ?_⟩) (by assumption) ?_
  rotate_left
  · intro w hSw
    (try dsimp only at hSw)
    go_simp
    all_goals (with_reducible rfl)
  try simp only [Act.put, List.setIfInBounds_toArray, List.set_cons_zero, List.set_cons_succ]
  refine wpAnyH_take (i := 6) (oi := ⟨some 57, _, _, _, _, _⟩) (v := ?_) rfl (by kernel_rfl) (by kernel_rfl) (by kernel_rfl) (fun _ _ _ h => h) (Or.inl ⟨by rfl, ?_⟩) (by assumption) ?_
  rotate_left
  · intro w hSw
    (try dsimp only at hSw)
    go_simp
    all_goals (with_reducible rfl)
  try simp only [Act.put, List.setIfInBounds_toArray, List.set_cons_zero, List.set_cons_succ]
  refine wpAnyH_take (i := 7) (oi := ⟨some 58, _, _, _, _, _⟩) (v := ?_) rfl (by kernel_rfl) (by kernel_rfl) (by kernel_rfl) (fun _ _ _ h => h) (Or.inl ⟨by rfl, ?_⟩) (by assumption) ?_
  rotate_left
  · intro w hSw
    (try dsimp only at hSw)
    go_simp
    all_goals (with_reducible rfl)
  try simp only [Act.put, List.setIfInBounds_toArray, List.set_cons_zero, List.set_cons_succ]
  refine wpAnyH_take (i := 8) (oi := ⟨some 59, _, _, _, _, _⟩) (v := ?_) rfl (by kernel_rfl) (by kernel_rfl) (by kernel_rfl) (fun _ _ _ h => h) (Or.inl ⟨by rfl, ?_⟩) (by assumption) ?_
  rotate_left
  · intro w hSw
    (try dsimp only at hSw)
    have hcc := hSw.2
    go_simp
    all_goals (with_reducible rfl)
  try simp only [Act.put, List.setIfInBounds_toArray, List.set_cons_zero, List.set_cons_succ]
  refine wpAnyH_ready (rs := [9]) (by kernel_rfl) (by simp) (AllReadyH.cons (o := ⟨some 60, _, _, _, _, _⟩) rfl (fun K hK => ?_) AllReadyH.nil)
  go_simp
  refine (product_any gf S m d s D zB k zd (mulF k (fun _ => codF k i) (invC k (la.take k)) 0) _ (by exact HC2.out.fld.drew) (by exact ((HS.out.below HB.out (Nat.le_refl _)).below HB2.out (Nat.le_refl _)).drew) (by exact HZO.out.drew) hkm (by omega) hm (by omega)).mono ?_
  rintro e w3 ⟨X, xc, rfl, hX, hB3⟩
  refine hK.out _ _ (by exact ⟨(hB3.cell (p := ⟨g, 0, none⟩) HC2.out.lt).trans hHeld.1, (hB3.cell (p := ⟨gz, 0, none⟩) (block_lt_of_cell hHeld.2)).trans hHeld.2⟩) (fun hHeld => ?_)
  clear hK K
  try simp only [Act.put, List.setIfInBounds_toArray, List.set_cons_zero, List.set_cons_succ]
  refine wpAnyH_take (i := 10) (oi := ⟨some 8, _, _, _, _, _⟩) (v := ?_) rfl (by kernel_rfl) (by kernel_rfl) (by kernel_rfl) (fun _ _ _ h => h) (Or.inl ⟨by rfl, ?_⟩) (by assumption) ?_
  rotate_left
  · intro w hSw
    (try dsimp only at hSw)
    go_simp
    all_goals (with_reducible rfl)
  try simp only [Act.put, List.setIfInBounds_toArray, List.set_cons_zero, List.set_cons_succ]
  refine wpAnyH_take (i := 11) (oi := ⟨some 9, _, _, _, _, _⟩) (v := ?_) rfl (by kernel_rfl) (by kernel_rfl) (by kernel_rfl) (fun _ _ _ h => h) (Or.inl ⟨by rfl, ?_⟩) (by assumption) ?_
  rotate_left
  · intro w hSw
    (try dsimp only at hSw)
    go_simp
    all_goals (with_reducible rfl)
  try simp only [Act.put, List.setIfInBounds_toArray, List.set_cons_zero, List.set_cons_succ]
  refine wpAnyH_done (by kernel_rfl) ?_ _
  go_wp2
  go_ret2
  have hs1 := HB.out.size
  have hs2 := HB2.out.size
  exact ⟨X, xc, rfl, hX.lower (Nat.le_trans hs1 hs2), (HB.out.trans (HB2.out.mono hs1)).trans (Below.mono ((Below.refl _ w2).drew.trans hB3) (Nat.le_trans hs1 hs2))⟩
end Go.Proofs.Ytobbjeephmfdeaa
