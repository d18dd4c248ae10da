/- Encode; what leads back; Decode, Rebuild. -/
import Derived.Test.YtkkpfehgobanbaaCodE
import Derived.Test.YtkkpfehgobanbaaPickN
import Derived.Test.YtkkpfehgobanbaaMtxJ
namespace Go.Proofs.Ytkkpfehgobanbaa
open Go.RowKit Go.Coop
set_option maxRecDepth 100000

/-- s[lo:hi], s[:hi], whatever the elements, of one cell -/
theorem slice_lo {E : TypeId} {z : Value} {b : Nat} (t : TypeId) (ht : Try.prog.underlying t = some (.slice E)) (hi : (Try.prog.info? E).map (fun i => (i.zero, i.size, i.bytes)) = some (some z, 1, b)) (A : Option Addr) (n c x y : Nat) (hxy : x ≤ y) (hyc : y ≤ c) (w : World) :
    (Instr.slice t (.slice A n c) (some (.int .i64 (x : Int))) (some (.int .i64 (y : Int))) none).run Try.prog w = .ok (.slice (cutA A c x) (y - x) (c - x)) w := by
  obtain ⟨i, hi, hz, h1, h2⟩ := info_parts hi
  have he : Try.prog.elem t = E := by simp [Program.elem, ht]
  have hb : (Instr.sliceBounds true n c (some (.int .i64 (x : Int))) (some (.int .i64 (y : Int))) none).run Try.prog w = .ok (x, y, c) w := by
    simp [Instr.sliceBounds, run_sliceBound, *]
  rw [run_slice_any w t A n c (by rw [he]; exact ht), hb, he]
  simp [sizeOf, typeInfo, hi, h1, sliced, cutA, Result.andThen]
theorem slice_hi {E : TypeId} {z : Value} {b : Nat} (t : TypeId) (ht : Try.prog.underlying t = some (.slice E)) (hi : (Try.prog.info? E).map (fun i => (i.zero, i.size, i.bytes)) = some (some z, 1, b)) (A : Option Addr) (n c y : Nat) (hyc : y ≤ c) (w : World) :
    (Instr.slice t (.slice A n c) none (some (.int .i64 (y : Int))) none).run Try.prog w = .ok (.slice A y c) w := by
  obtain ⟨i, hi, hz, h1, h2⟩ := info_parts hi
  have he : Try.prog.elem t = E := by simp [Program.elem, ht]
  have hb : (Instr.sliceBounds true n c none (some (.int .i64 (y : Int))) none).run Try.prog w = .ok (0, y, c) w := by
    simp [Instr.sliceBounds, run_sliceBound, *]
  rw [run_slice_any w t A n c (by rw [he]; exact ht), hb, he]
  have ha : A.map (·.add 0) = A := by cases A with
    | none => rfl
    | some a => simp [addr_add_0]
  simp [sizeOf, typeInfo, hi, h1, sliced, Result.andThen, ha]
theorem MR.take {w : World} {A : Option Addr} {n k : Nat} {M : List (List UInt8)} (h : MR w A n M) (hk : k ≤ n) : MR w A k (M.take k) := by
  obtain ⟨vs, hv, hr⟩ := h.out
  refine ⟨by rw [List.length_take, h.len]; omega, vs.take k, hv.take hk, fun i r hi => ?_⟩
  rw [List.getElem?_take] at hi ⊢
  split at hi
  · rename_i hlt
    rw [if_pos hlt]
    exact hr i r hi
  · cases hi
theorem tabM_take {n k s : Nat} {D : Fn2} (h : k ≤ n) : (tabM n s D).take k = tabM k s D := by
  unfold tabM
  rw [← List.map_take, List.take_range, Nat.min_eq_left h]
/-- one row of a matrix, as a matrix -/
theorem MR.one_at {w : World} {A : Option Addr} {n c k i : Nat} {F : Fn2} (h : MR w A n (tabM n k F)) (hi : i < n) (hc : n ≤ c) : MR w (cutA A c i) 1 (tabM 1 k fun _ => F i) := by
  obtain ⟨ad, B, d, r, rfl, hlt, hr, hcc, hd⟩ := h.row hi
  rw [tabM_at k F hi] at hr
  injection hr with hr
  subst hr
  have e : cutA (some ad) c i = some (ad.add i) := by unfold cutA; rw [if_neg (by omega)]; rfl
  rw [e]
  refine ⟨tabM_len _ _ _, [.slice B (rowL k (F i)).length d], ⟨rfl, fun _ => ?_⟩, fun j r hj => ?_⟩
  · refine ⟨ad.add i, rfl, by rw [addr_add_block]; exact hlt, fun j u hj => ?_⟩
    match j, hj with
    | 0, hj =>
      simp at hj
      subst hj
      rw [addr_add_0]
      exact hcc
  · match j, hj with
    | 0, hj =>
      simp [tabM] at hj
      subst hj
      exact ⟨B, d, rfl, hd⟩

/-- a matrix as it is typed out -/
def matF (L : List (List UInt8)) : Fn2 := fun i j => (L.getD i []).getD j 0
theorem level_tab {L : List (List UInt8)} {m : Nat} (hm : L.length = m) (h : levelB L = true) : L = tabM m (L.headD []).length (matF L) := by
  apply List.ext_getElem?
  intro i
  by_cases hi : i < m
  · rw [tabM_at _ _ hi]
    have hl : i < L.length := by omega
    rw [List.getElem?_eq_getElem hl]
    congr 1
    have hr := levelB_at h (List.getElem?_eq_getElem hl)
    apply List.ext_getElem?
    intro j
    by_cases hj : j < (L.headD []).length
    · rw [rowL_at _ hj]
      have hjl : j < L[i].length := by omega
      rw [List.getElem?_eq_getElem hjl]
      unfold matF
      rw [show L.getD i [] = L[i] by rw [List.getD_eq_getElem?_getD, List.getElem?_eq_getElem hl]; rfl]
      rw [show L[i].getD j 0 = L[i][j] by rw [List.getD_eq_getElem?_getD, List.getElem?_eq_getElem hjl]; rfl]
    · rw [List.getElem?_eq_none (by omega), List.getElem?_eq_none (by rw [rowL_len]; omega)]
  · rw [List.getElem?_eq_none (by omega), List.getElem?_eq_none (by rw [tabM_len]; omega)]
theorem level_bound {L : List (List UInt8)} (h : levelB L = true) : (L.headD []).length ≤ 65536 := by
  cases L with
  | nil => simp
  | cons r L => exact (levelB_at (i := 0) h rfl).2
theorem tab_level {m s : Nat} {D : Fn2} (hs : s ≤ 65536) : levelB (tabM m s D) = true := by
  refine levelB_yes fun i r hr => ?_
  have hi : i < m := by have := (List.getElem?_eq_some_iff.1 hr).1; rwa [tabM_len] at this
  rw [tabM_at _ _ hi] at hr
  injection hr with hr
  subst hr
  rw [headD_at (tabM_at s D (show 0 < m by omega)), rowL_len, rowL_len]
  exact ⟨rfl, hs⟩
theorem tab_stripe {m s : Nat} {D : Fn2} (hs : s ≤ 65536) : stripeB m (tabM m s D) = true := by
  unfold stripeB; rw [tab_level hs, tabM_len]; simp
theorem tab_short {m s : Nat} {D : Fn2} : ∀ r ∈ tabM m s D, r.length = s := by
  intro r hr
  simp only [tabM, List.mem_map] at hr
  obtain ⟨i, _, rfl⟩ := hr
  exact rowL_len _ _

theorem enc_none (p : Option Addr) (S : Option Addr) (m d : Nat) (w : World) (h : NoCode w p) : Calls Try.prog 45 #[.pointer p, .slice S m d] w (NotM w 1) := by
  have H := Lib.hid h
  clear h
  go_enter Try.func45, Try.ntmps45
  go_wp2_with (go_at_call 46; refine (cmade_no _ _ H.out).mono ?_; rintro e w' ⟨rfl, rfl⟩)
  go_ret2
  exact ⟨rfl, Below.refl _ _⟩
theorem enc_no {g n k gf c : Nat} {A : Option Addr} (S : Option Addr) (m d : Nat) (L : List (List UInt8)) (w : World) (hg : CodeAt w g n k gf A c) (h : MR w S m L) (hm : m ≤ 140737488355328) (hL : ∀ r ∈ L, r.length ≤ 140737488355328) (hno : stripeB k L = false) :
    Calls Try.prog 45 #[.pointer (some ⟨g, 0, none⟩), .slice S m d] w (NotM w 40) := by
  have H := Lib.hid hg
  have HS := Lib.hid h
  have HL := Lib.hid hL
  clear hg h hL
  go_enter Try.func45, Try.ntmps45
  go_wp2_with (first
    | (go_at_call 46; refine (cmade_yes _ H.out).mono ?_; rintro e w' ⟨rfl, rfl⟩)
    | (go_at_call 62; refine (stripe_any S m d L w H.out HS.out hm HL.out).mono ?_; rw [hno]; rintro e w' ⟨rfl, rfl⟩))
  go_ret2
  exact ⟨rfl, Below.refl _ _⟩

set_option maxHeartbeats 1000000 in
theorem enc_yes {g n k gf c : Nat} {A : Option Addr} (S : Option Addr) (d s : Nat) (D : Fn2) (w : World) (hg : CodeAt w g n k gf A c) (h : MR w S k (tabM k s D)) (hs : s ≤ 65536) :
    Calls Try.prog 45 #[.pointer (some ⟨g, 0, none⟩), .slice S k d] w (GotM w n (tabM n s (mulF k (codF k) D))) := by
  have h1 := hg.k1
  have h2 := hg.kn
  have h3 := hg.n255
  have H := Lib.hid hg
  have HS := Lib.hid h
  have hL : ∀ r ∈ tabM k s D, r.length ≤ 140737488355328 := fun r hr => by rw [tab_short r hr]; omega
  have hst := tab_stripe (m := k) (D := D) hs
  clear hg h
  go_enter Try.func45, Try.ntmps45
  go_wp2_with fail
  refine (cmade_yes _ H.out).mono ?_
  rintro e w' ⟨rfl, rfl⟩
  go_wp2_with fail
  refine (stripe_any S k d _ w H.out HS.out (by omega) hL).mono ?_
  rw [hst]
  rintro e w' ⟨rfl, rfl⟩
  go_wp2
  refine wp_region_held_drew (S := fun u : World => u.cell? ⟨g, 3, none⟩ = some (.slice A n c) ∧ u.cell? ⟨g, 0, none⟩ = some (.pointer (some ⟨gf, 0, none⟩))) (by kernel_rfl) (by exact ⟨H.out.c3, H.out.c0⟩) (fun hHeld => ?_)
  refine wpAnyH_take (i := 0) (oi := ⟨some 13, _, _, _, _, _⟩) (v := ?_) rfl (by kernel_rfl) (by kernel_rfl) (by kernel_rfl) (fun _ _ _ h => h) (Or.inl ⟨by rfl, ?_⟩) (by assumption) ?_
  rotate_left
  · intro w hSw
    (try dsimp only at hSw)
    go_simp
    all_goals (with_reducible rfl)
  try simp only [Act.put, List.setIfInBounds_toArray, List.set_cons_zero, List.set_cons_succ]
  refine wpAnyH_take (i := 1) (oi := ⟨some 14, _, _, _, _, _⟩) (v := ?_) rfl (by kernel_rfl) (by kernel_rfl) (by kernel_rfl) (fun _ _ _ h => h) (Or.inl ⟨by rfl, ?_⟩) (by assumption) ?_
  rotate_left
  · intro w hSw
    (try dsimp only at hSw)
    go_simp
    all_goals (with_reducible rfl)
  try simp only [Act.put, List.setIfInBounds_toArray, List.set_cons_zero, List.set_cons_succ]
  refine wpAnyH_take (i := 2) (oi := ⟨some 15, _, _, _, _, _⟩) (v := ?_) rfl (by kernel_rfl) (by kernel_rfl) (by kernel_rfl) (fun _ _ _ h => h) (Or.inl ⟨by rfl, ?_⟩) (by assumption) ?_
  rotate_left
  · intro w hSw
    (try dsimp only at hSw)
    go_simp
    all_goals (with_reducible rfl)
  try simp only [Act.put, List.setIfInBounds_toArray, List.set_cons_zero, List.set_cons_succ]
  refine wpAnyH_take (i := 3) (oi := ⟨some 16, _, _, _, _, _⟩) (v := ?_) rfl (by kernel_rfl) (by kernel_rfl) (by kernel_rfl) (fun _ _ _ h => h) (Or.inl ⟨by rfl, ?_⟩) (by assumption) ?_
  rotate_left
  · intro w hSw
    (try dsimp only at hSw)
    have hcc := hSw.1
    go_simp
    all_goals (with_reducible rfl)
  try simp only [Act.put, List.setIfInBounds_toArray, List.set_cons_zero, List.set_cons_succ]
  refine wpAnyH_take (i := 4) (oi := ⟨some 17, _, _, _, _, _⟩) (v := ?_) rfl (by kernel_rfl) (by kernel_rfl) (by kernel_rfl) (fun _ _ _ h => h) (Or.inl ⟨by rfl, ?_⟩) (by assumption) ?_
  rotate_left
  · intro w hSw
    (try dsimp only at hSw)
    go_simp
    all_goals (with_reducible rfl)
  try simp only [Act.put, List.setIfInBounds_toArray, List.set_cons_zero, List.set_cons_succ]
  refine wpAnyH_take (i := 5) (oi := ⟨some 18, _, _, _, _, _⟩) (v := ?_) rfl (by kernel_rfl) (by kernel_rfl) (by kernel_rfl) (fun _ _ _ h => h) (Or.inl ⟨by rfl, ?_⟩) (by assumption) ?_
  rotate_left
  · intro w hSw
    (try dsimp only at hSw)
    go_simp
    all_goals (with_reducible rfl)
  try simp only [Act.put, List.setIfInBounds_toArray, List.set_cons_zero, List.set_cons_succ]
  refine wpAnyH_take (i := 6) (oi := ⟨some 19, _, _, _, _, _⟩) (v := ?_) rfl (by kernel_rfl) (by kernel_rfl) (by kernel_rfl) (fun _ _ _ h => h) (Or.inl ⟨by rfl, ?_⟩) (by assumption) ?_
  rotate_left
  · intro w hSw
    (try dsimp only at hSw)
    go_simp
    all_goals (with_reducible rfl)
  try simp only [Act.put, List.setIfInBounds_toArray, List.set_cons_zero, List.set_cons_succ]
  refine wpAnyH_take (i := 7) (oi := ⟨some 20, _, _, _, _, _⟩) (v := ?_) rfl (by kernel_rfl) (by kernel_rfl) (by kernel_rfl) (fun _ _ _ h => h) (Or.inl ⟨by rfl, ?_⟩) (by assumption) ?_
  rotate_left
  · intro w hSw
    (try dsimp only at hSw)
    have hcc := hSw.2
    go_simp
    all_goals (with_reducible rfl)
  try simp only [Act.put, List.setIfInBounds_toArray, List.set_cons_zero, List.set_cons_succ]
  refine wpAnyH_take (i := 8) (oi := ⟨some 21, _, _, _, _, _⟩) (v := ?_) rfl (by kernel_rfl) (by kernel_rfl) (by kernel_rfl) (fun _ _ _ h => h) (Or.inl ⟨by rfl, ?_⟩) (by assumption) ?_
  rotate_left
  · intro w hSw
    (try dsimp only at hSw)
    go_simp
    all_goals (with_reducible rfl)
  try simp only [Act.put, List.setIfInBounds_toArray, List.set_cons_zero, List.set_cons_succ]
  refine wpAnyH_take (i := 9) (oi := ⟨some 22, _, _, _, _, _⟩) (v := ?_) rfl (by kernel_rfl) (by kernel_rfl) (by kernel_rfl) (fun _ _ _ h => h) (Or.inl ⟨by rfl, ?_⟩) (by assumption) ?_
  rotate_left
  · intro w hSw
    (try dsimp only at hSw)
    go_simp
    all_goals (with_reducible rfl)
  try simp only [Act.put, List.setIfInBounds_toArray, List.set_cons_zero, List.set_cons_succ]
  refine wpAnyH_take (i := 10) (oi := ⟨some 23, _, _, _, _, _⟩) (v := ?_) rfl (by kernel_rfl) (by kernel_rfl) (by kernel_rfl) (fun _ _ _ h => h) (Or.inl ⟨by rfl, ?_⟩) (by assumption) ?_
  rotate_left
  · intro w hSw
    (try dsimp only at hSw)
    go_simp
    all_goals (with_reducible rfl)
  try simp only [Act.put, List.setIfInBounds_toArray, List.set_cons_zero, List.set_cons_succ]
  refine wpAnyH_ready (rs := [11]) (by kernel_rfl) (by simp) (AllReadyH.cons (o := ⟨some 24, _, _, _, _, _⟩) rfl (fun K hK => ?_) AllReadyH.nil)
  go_simp
  refine (each_prod gf S k d s D A n c k (codF k) _ (by exact H.out.fld.drew) (by exact HS.out.drew) (by exact H.out.mat.mr.drew) (Nat.le_refl _) h1 (by omega) (by omega) (by omega)).mono ?_
  rintro e w2 ⟨X, xc, rfl, hX, hB2⟩
  refine hK.out _ _ (by exact ⟨(hB2.cell (p := ⟨g, 3, none⟩) H.out.lt).trans hHeld.1, (hB2.cell (p := ⟨g, 0, none⟩) H.out.lt).trans hHeld.2⟩) (fun hHeld => ?_)
  clear hK K
  try simp only [Act.put, List.setIfInBounds_toArray, List.set_cons_zero, List.set_cons_succ]
  refine wpAnyH_take (i := 12) (oi := ⟨some 4, _, _, _, _, _⟩) (v := ?_) rfl (by kernel_rfl) (by kernel_rfl) (by kernel_rfl) (fun _ _ _ h => h) (Or.inl ⟨by rfl, ?_⟩) (by assumption) ?_
  rotate_left
  · intro w hSw
    (try dsimp only at hSw)
    go_simp
    all_goals (with_reducible rfl)
  try simp only [Act.put, List.setIfInBounds_toArray, List.set_cons_zero, List.set_cons_succ]
  refine wpAnyH_take (i := 13) (oi := ⟨some 5, _, _, _, _, _⟩) (v := ?_) rfl (by kernel_rfl) (by kernel_rfl) (by kernel_rfl) (fun _ _ _ h => h) (Or.inl ⟨by rfl, ?_⟩) (by assumption) ?_
  rotate_left
  · intro w hSw
    (try dsimp only at hSw)
    go_simp
    all_goals (with_reducible rfl)
  try simp only [Act.put, List.setIfInBounds_toArray, List.set_cons_zero, List.set_cons_succ]
  refine wpAnyH_done (by kernel_rfl) ?_ _
  go_wp2
  go_ret2
  exact ⟨X, xc, rfl, hX, (Below.refl _ w).drew.trans hB2⟩

/-- what leads back from the shards at those places -/
def invC (k : Nat) (la : List Nat) : Fn2 := besF k k (pickF la (codF k)) unitF
theorem back_none (p : Option Addr) (R : Option Addr) (m rc : Nat) (S : Option Addr) (q d : Nat) (w : World) (h : NoCode w p) : Calls Try.prog 59 #[.pointer p, .slice R m rc, .slice S q d] w (NotM w 1) := by
  have H := Lib.hid h
  clear h
  go_enter Try.func59, Try.ntmps59
  go_wp2_with (go_at_call 46; refine (cmade_no _ _ H.out).mono ?_; rintro e w' ⟨rfl, rfl⟩)
  go_ret2
  exact ⟨rfl, Below.refl _ _⟩
theorem back_no {g n k gf c : Nat} {A : Option Addr} (R : Option Addr) (m rc : Nat) (ls : List Int) (S : Option Addr) (q d : Nat) (L : List (List UInt8)) (w : World) (hg : CodeAt w g n k gf A c) (hR : RdV w R m (ivs ls)) (h : MR w S q L) (hq : q ≤ 140737488355328) (hm : m ≤ 140737488355328) (hL : ∀ r ∈ L, r.length ≤ 140737488355328) (hno : m < k ∨ toldB n ls L = false) :
    Calls Try.prog 59 #[.pointer (some ⟨g, 0, none⟩), .slice R m rc, .slice S q d] w (NotM w 40) := by
  have hc1 := hg.c1
  have H := Lib.hid hg
  have HS := Lib.hid h
  have HL := Lib.hid hL
  have HR := Lib.hid hR
  clear hg h hL hR
  by_cases hmk : m < k
  · clear hno
    go_enter Try.func59, Try.ntmps59
    go_wp2_with (go_at_call 46; refine (cmade_yes _ H.out).mono ?_; rintro e w' ⟨rfl, rfl⟩)
    go_ret2
    exact ⟨rfl, Below.refl _ _⟩
  · have hno := hno.resolve_left hmk
    go_enter Try.func59, Try.ntmps59
    go_wp2_with (first
      | (go_at_call 46; refine (cmade_yes _ H.out).mono ?_; rintro e w' ⟨rfl, rfl⟩)
      | (go_at_call 68; refine (told_any R m rc ls S q d L w H.out HR.out HS.out hq hm HL.out).mono ?_; rw [hno]; rintro e w' ⟨rfl, rfl⟩))
    go_ret2
    exact ⟨rfl, Below.refl _ _⟩
theorem told_yes {n m s : Nat} {la : List Nat} {D : Fn2} (hp : Places n la) (hl : la.length = m) (hs : s ≤ 65536) : toldB n (la.map fun x : Nat => (x : Int)) (tabM m s D) = true := by
  unfold toldB
  rw [tab_level hs, tabM_len, List.length_map, decide_eq_true hl, (cnt_places n _).2 ⟨la, rfl, hp⟩]
  simp
set_option maxHeartbeats 1000000 in
theorem back_yes {g n k gf c : Nat} {A : Option Addr} (R : Option Addr) (m rc : Nat) (la : List Nat) (S : Option Addr) (d s : Nat) (D : Fn2) (w : World) (hg : CodeAt w g n k gf A c) (hR : RdV w R m (nvs la)) (h : MR w S m (tabM m s D)) (hs : s ≤ 65536) (hm : m ≤ 140737488355328) (hrc : m ≤ rc) (hp : Places n la) (hkm : k ≤ m) :
    Calls Try.prog 59 #[.pointer (some ⟨g, 0, none⟩), .slice R m rc, .slice S m d] w (GotM w k (tabM k k (invC k (la.take k)))) := by
  have h1 := hg.k1
  have h2 := hg.kn
  have h3 := hg.n255
  have hc1 := hg.c1
  have H := Lib.hid hg
  have HS := Lib.hid h
  have hlen : la.length = m := by have := hR.len; rwa [nvs_len] at this
  have HR := Lib.hid hR
  have hL : ∀ r ∈ tabM m s D, r.length ≤ 140737488355328 := fun r hr => by rw [tab_short r hr]; omega
  have ht := told_yes (D := D) hp hlen hs
  have HP := Lib.hid hp
  have hRi : RdV w R m (ivs (la.map fun x : Nat => (x : Int))) := by rw [← nvs_ivs]; exact hR
  have HRi := Lib.hid hRi
  have HLN := Lib.hid hlen
  have hsl := slice_hi (E := 3) 24 Try.underlying24 info3 R m rc k (by omega)
  clear hg h hp hR hRi hlen
  go_enter Try.func59, Try.ntmps59
  go_wp2_with fail
  refine (cmade_yes _ H.out).mono ?_
  rintro e w' ⟨rfl, rfl⟩
  go_wp2_with fail
  refine (told_any R m rc _ S m d _ w H.out HRi.out HS.out hm hm hL).mono ?_
  rw [ht]
  rintro e w' ⟨rfl, rfl⟩
  clear hc1
  go_wp2
  have hS0 : w.cell? ⟨g, 3, none⟩ = some (.slice A n c) ∧ w.cell? ⟨g, 1, none⟩ = some (.int .i64 (k : Int)) := ⟨H.out.c3, H.out.c1⟩
  refine wp_region_held_drew (S := fun u : World => u.cell? ⟨g, 3, none⟩ = some (.slice A n c) ∧ u.cell? ⟨g, 1, none⟩ = some (.int .i64 (k : Int))) (by kernel_rfl) (by exact hS0) (fun hHeld => ?_)
  refine wpAnyH_take (i := 0) (oi := ⟨some 28, _, _, _, _, _⟩) (v := ?_) rfl (by kernel_rfl) (by kernel_rfl) (by kernel_rfl) (fun _ _ _ h => h) (Or.inl ⟨by rfl, ?_⟩) (by assumption) ?_
  rotate_left
  · intro w hSw
    (try dsimp only at hSw)
    go_simp
    all_goals (with_reducible rfl)
  try simp only [Act.put, List.setIfInBounds_toArray, List.set_cons_zero, List.set_cons_succ]
  refine wpAnyH_take (i := 1) (oi := ⟨some 29, _, _, _, _, _⟩) (v := ?_) rfl (by kernel_rfl) (by kernel_rfl) (by kernel_rfl) (fun _ _ _ h => h) (Or.inl ⟨by rfl, ?_⟩) (by assumption) ?_
  rotate_left
  · intro w hSw
    (try dsimp only at hSw)
    go_simp
    all_goals (with_reducible rfl)
  try simp only [Act.put, List.setIfInBounds_toArray, List.set_cons_zero, List.set_cons_succ]
  refine wpAnyH_take (i := 2) (oi := ⟨some 30, _, _, _, _, _⟩) (v := ?_) rfl (by kernel_rfl) (by kernel_rfl) (by kernel_rfl) (fun _ _ _ h => h) (Or.inl ⟨by rfl, ?_⟩) (by assumption) ?_
  rotate_left
  · intro w hSw
    (try dsimp only at hSw)
    go_simp
    all_goals (with_reducible rfl)
  try simp only [Act.put, List.setIfInBounds_toArray, List.set_cons_zero, List.set_cons_succ]
  refine wpAnyH_take (i := 3) (oi := ⟨some 31, _, _, _, _, _⟩) (v := ?_) rfl (by kernel_rfl) (by kernel_rfl) (by kernel_rfl) (fun _ _ _ h => h) (Or.inl ⟨by rfl, ?_⟩) (by assumption) ?_
  rotate_left
  · intro w hSw
    (try dsimp only at hSw)
    have hcc := hSw.1
    go_simp
    all_goals (with_reducible rfl)
  try simp only [Act.put, List.setIfInBounds_toArray, List.set_cons_zero, List.set_cons_succ]
  refine wpAnyH_take (i := 4) (oi := ⟨some 32, _, _, _, _, _⟩) (v := ?_) rfl (by kernel_rfl) (by kernel_rfl) (by kernel_rfl) (fun _ _ _ h => h) (Or.inl ⟨by rfl, ?_⟩) (by assumption) ?_
  rotate_left
  · intro w hSw
    (try dsimp only at hSw)
    go_simp
    all_goals (with_reducible rfl)
  try simp only [Act.put, List.setIfInBounds_toArray, List.set_cons_zero, List.set_cons_succ]
  refine wpAnyH_take (i := 5) (oi := ⟨some 33, _, _, _, _, _⟩) (v := ?_) rfl (by kernel_rfl) (by kernel_rfl) (by kernel_rfl) (fun _ _ _ h => h) (Or.inl ⟨by rfl, ?_⟩) (by assumption) ?_
  rotate_left
  · intro w hSw
    (try dsimp only at hSw)
    go_simp
    all_goals (with_reducible rfl)
  try simp only [Act.put, List.setIfInBounds_toArray, List.set_cons_zero, List.set_cons_succ]
  refine wpAnyH_take (i := 6) (oi := ⟨some 34, _, _, _, _, _⟩) (v := ?_) rfl (by kernel_rfl) (by kernel_rfl) (by kernel_rfl) (fun _ _ _ h => h) (Or.inl ⟨by rfl, ?_⟩) (by assumption) ?_
  rotate_left
  · intro w hSw
    (try dsimp only at hSw)
    go_simp
    all_goals (with_reducible rfl)
  try simp only [Act.put, List.setIfInBounds_toArray, List.set_cons_zero, List.set_cons_succ]
  refine wpAnyH_take (i := 7) (oi := ⟨some 35, _, _, _, _, _⟩) (v := ?_) rfl (by kernel_rfl) (by kernel_rfl) (by kernel_rfl) (fun _ _ _ h => h) (Or.inl ⟨by rfl, ?_⟩) (by assumption) ?_
  rotate_left
  · intro w hSw
    (try dsimp only at hSw)
    go_simp
    all_goals (with_reducible rfl)
  try simp only [Act.put, List.setIfInBounds_toArray, List.set_cons_zero, List.set_cons_succ]
  refine wpAnyH_take (i := 8) (oi := ⟨some 36, _, _, _, _, _⟩) (v := ?_) rfl (by kernel_rfl) (by kernel_rfl) (by kernel_rfl) (fun _ _ _ h => h) (Or.inl ⟨by rfl, ?_⟩) (by assumption) ?_
  rotate_left
  · intro w hSw
    (try dsimp only at hSw)
    have hcc := hSw.2
    go_simp
    all_goals (with_reducible rfl)
  try simp only [Act.put, List.setIfInBounds_toArray, List.set_cons_zero, List.set_cons_succ]
  refine wpAnyH_take (i := 9) (oi := ⟨some 37, _, _, _, _, _⟩) (v := ?_) rfl (by kernel_rfl) (by kernel_rfl) (by kernel_rfl) (fun _ _ _ h => h) (Or.inl ⟨by rfl, ?_⟩) (by assumption) ?_
  rotate_left
  · intro w hSw
    (try dsimp only at hSw)
    go_simp
    all_goals (with_reducible rfl)
  try simp only [Act.put, List.setIfInBounds_toArray, List.set_cons_zero, List.set_cons_succ]
  refine wpAnyH_ready (rs := [10]) (by kernel_rfl) (by simp) (AllReadyH.cons (o := ⟨some 38, _, _, _, _, _⟩) rfl (fun K hK => ?_) AllReadyH.nil)
  go_simp
  refine (pick_nat A n c k (codF k) R k rc (la.take k) _ (by exact H.out.mat.drew) (by omega) h3 h1 (by omega) (by exact (show RdV w R k (nvs (la.take k)) from by have := HR.out.take hkm; rwa [show (nvs la).take k = nvs (la.take k) by simp [nvs]] at this).drew) h1 (by omega) (fun x hx => by obtain ⟨i, hi⟩ := List.getElem?_of_mem hx; exact (HP.out.take k).lt i x hi)).mono ?_
  rintro e w2 ⟨X, xc, rfl, hX, hB2⟩
  refine hK.out _ _ (by exact ⟨(hB2.cell (p := ⟨g, 3, none⟩) H.out.lt).trans hHeld.1, (hB2.cell (p := ⟨g, 1, none⟩) H.out.lt).trans hHeld.2⟩) (fun hHeld => ?_)
  clear hK K
  try simp only [Act.put, List.setIfInBounds_toArray, List.set_cons_zero, List.set_cons_succ]
  refine wpAnyH_take (i := 11) (oi := ⟨some 27, _, _, _, _, _⟩) (v := ?_) rfl (by kernel_rfl) (by kernel_rfl) (by kernel_rfl) (fun _ _ _ h => h) (Or.inl ⟨by rfl, ?_⟩) (by assumption) ?_
  rotate_left
  · intro w hSw
    (try dsimp only at hSw)
    go_simp
    all_goals (with_reducible rfl)
  try simp only [Act.put, List.setIfInBounds_toArray, List.set_cons_zero, List.set_cons_succ]
  refine wpAnyH_take (i := 12) (oi := ⟨some 39, _, _, _, _, _⟩) (v := ?_) rfl (by kernel_rfl) (by kernel_rfl) (by kernel_rfl) (fun _ _ _ h => h) (Or.inl ⟨by rfl, ?_⟩) (by assumption) ?_
  rotate_left
  · intro w hSw
    (try dsimp only at hSw)
    go_simp
    all_goals (with_reducible rfl)
  try simp only [Act.put, List.setIfInBounds_toArray, List.set_cons_zero, List.set_cons_succ]
  refine wpAnyH_take (i := 13) (oi := ⟨some 40, _, _, _, _, _⟩) (v := ?_) rfl (by kernel_rfl) (by kernel_rfl) (by kernel_rfl) (fun _ _ _ h => h) (Or.inl ⟨by rfl, ?_⟩) (by assumption) ?_
  rotate_left
  · intro w hSw
    (try dsimp only at hSw)
    go_simp
    all_goals (with_reducible rfl)
  try simp only [Act.put, List.setIfInBounds_toArray, List.set_cons_zero, List.set_cons_succ]
  refine wpAnyH_take (i := 14) (oi := ⟨some 8, _, _, _, _, _⟩) (v := ?_) rfl (by kernel_rfl) (by kernel_rfl) (by kernel_rfl) (fun _ _ _ h => h) (Or.inl ⟨by rfl, ?_⟩) (by assumption) ?_
  rotate_left
  · intro w hSw
    (try dsimp only at hSw)
    go_simp
    all_goals (with_reducible rfl)
  try simp only [Act.put, List.setIfInBounds_toArray, List.set_cons_zero, List.set_cons_succ]
  refine wpAnyH_take (i := 15) (oi := ⟨some 9, _, _, _, _, _⟩) (v := ?_) rfl (by kernel_rfl) (by kernel_rfl) (by kernel_rfl) (fun _ _ _ h => h) (Or.inl ⟨by rfl, ?_⟩) (by assumption) ?_
  rotate_left
  · intro w hSw
    (try dsimp only at hSw)
    go_simp
    all_goals (with_reducible rfl)
  try simp only [Act.put, List.setIfInBounds_toArray, List.set_cons_zero, List.set_cons_succ]
  refine wpAnyH_done (by kernel_rfl) ?_ _
  have HX := Lib.hid hX
  have HB2 : Hid (Below w.heap.size w w2) := (Below.refl _ w).drew.trans hB2
  have hc0 : w2.cell? ⟨g, 0, none⟩ = some (.pointer (some ⟨gf, 0, none⟩)) := (HB2.out.cell (p := ⟨g, 0, none⟩) H.out.lt).trans H.out.c0
  clear hX hB2 hS0
  go_wp2_with fail
  refine (invert_any gf X k xc (pickF (la.take k) (codF k)) w2 (H.out.fld.below HB2.out H.out.fld.lt) HX.out h1 (by omega)).mono ?_
  rintro e w3 hI
  have hfull := any_full (k := k) (n := n) (la := la.take k) (by omega) h2 (HP.out.take k) (by rw [List.length_take, HLN.out]; omega) unitF
  obtain ⟨_, Y, yc, rfl, hY, hB3⟩ := hI.resolve_right (fun h => h.1 hfull)
  go_wp2
  go_ret2
  exact ⟨Y, yc, rfl, hY.lower HB2.out.size HB2.out.size, HB2.out.trans (hB3.mono HB2.out.size)⟩
end Go.Proofs.Ytkkpfehgobanbaa
