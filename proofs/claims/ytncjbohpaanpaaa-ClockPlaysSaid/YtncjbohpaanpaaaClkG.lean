/- Set: a timer that is set. Made by gset8.py. -/
import Derived.Test.YtncjbohpaanpaaaClkF
namespace Go.Proofs.Ytncjbohpaanpaaa
open Go.RowKit Go.Coop Go.Maps
set_option maxRecDepth 100000
theorem two36 {w : World} {b : Nat} {x0 x1 : Value} {T : TypeId} (h : w.heap[b]? = some (.cells #[x0, x1] T (0, 0))) : w.cell? ⟨b, 0, none⟩ = some x0 ∧ w.cell? ⟨b, 1, none⟩ = some x1 :=
  ⟨cell_of_row _ b 0 _ T (0, 0) h, cell_of_row _ b 1 _ T (0, 0) h⟩
theorem row_n {w : World} {B g c cap most n : Nat} {now : Int} {L : List Tm} {A : Option Addr} {D : DataW Value} (h : ClkRaw w B g A cap c most now L D) (hn : L.length = n) : Tl w B A n cap L := hn ▸ h.row
def RelA (w : World) (A A' : Option Addr) : Prop := A'.map (·.block) = A.map (·.block) ∨ ∃ k, w.heap.size ≤ k ∧ A'.map (·.block) = some k
theorem RelA.nb {w : World} {g c : Nat} {A A' : Option Addr} (h : RelA w A A') : ∀ i, i ∈ Nb g A' c → i ∈ Nb g A c ∨ w.heap.size ≤ i := by
  intro i hi
  rcases mem_nb.1 hi with e | e | e
  · exact .inl (mem_nb.2 (.inl e))
  · exact .inl (mem_nb.2 (.inr (.inl e)))
  · rcases h with h | ⟨k, hk, h⟩
    · exact .inl (mem_nb.2 (.inr (.inr (h ▸ e))))
    · rw [h] at e
      injection e with e
      exact .inr (e ▸ hk)
/-- the map behind a setting -/
theorem set_map {w4 w1 : World} {B g c cap : Nat} {A : Option Addr} {S : CS} {i d : Int} {D : DataW Value} (hok : (S.laid i d).Ok) (hn : Nod (del i S.L)) (hr : ClkRaw w1 B g A cap c S.most S.now (del i S.L) D) (hD : DueIs D (fun j => findD j (del i S.L))) (hown : w4.ownsMap Try.prog 3 (plainElem Try.prog 2) c (65537 + 1) (D.put (.int .i64 i) (.lit (.int .i64 (S.now + d))))) (hg : w1.grownBy w4 (some c)) :
    ∃ D', ClkRaw w4 B g A cap c S.most S.now (del i S.L) D' ∧ DueIs D' (fun j => findD j (S.laid i d).L) := by
  have hmem : (⟨S.now + d, i⟩ : Tm) ∈ (S.laid i d).L := mem_ins.2 (.inl rfl)
  have hD' : DueIs (D.put (.int .i64 i) (.lit (.int .i64 (S.now + d)))) (fun j => findD j (S.laid i d).L) := by
    refine hD.put hr.map.isMap (findD_mem (t := ⟨S.now + d, i⟩) hok.nod hmem) (fun j hj => ?_)
    refine findD_congr hn hok.nod (fun t ht => ?_)
    show _ ↔ t ∈ ins _ _
    rw [mem_ins]
    exact ⟨.inr, fun h => by
      rcases h with rfl | h
      · exact absurd ht.symm hj
      · exact h⟩
  refine ⟨_, hr.map_ (owns_exact hown ?_) (grown_but hg), hD'⟩
  have h1 := owns_size hown hD' hok.nod
  have h2 := hok.len
  have h3 : S.most ≤ 65536 := hok.m2
  have h4 : (S.laid i d).L.length ≤ S.most := h2
  omega
theorem set_fin {w w4 W vI : World} {B g c cap1 n p c' : Nat} {A A1 A' : Option Addr} {S : CS} {i d : Int} {L1 : List Tm} {D : DataW Value} (hok : (S.laid i d).Ok) (hb4 : But (Nb g A c) w w4) (hA1 : RelA w A A1) (hr4 : ClkRaw w4 B g A1 cap1 c S.most S.now L1 D) (hD : DueIs D (fun j => findD j (S.laid i d).L)) (hW : Below w4.heap.size w4 W)
    (hrow : Tl vI B A' (n + 1) c' (L1.take p ++ ⟨S.now + d, i⟩ :: L1.drop p)) (hbI : But (A1.map (·.block)).toList W vI) (hAI : A'.map (·.block) = A1.map (·.block) ∨ ∃ j, W.heap.size ≤ j ∧ A'.map (·.block) = some j) (hL : (S.laid i d).L = L1.take p ++ ⟨S.now + d, i⟩ :: L1.drop p) :
    CkDid w B g A c (S.laid i d) (.int .i64 0) (.returned (.int .i64 0)) (vI.setCell ⟨g, 4, none⟩ (.slice A' (n + 1) c')) := by
  have hn2 : (S.laid i d).L.length = n + 1 := by
    have := hrow.len
    rw [tvs_len, ← hL] at this
    omega
  rw [← hL] at hrow
  obtain ⟨h1, h2⟩ := (hr4.below hW).row_ hn2 hrow hbI (by simp) hAI
  have hbW : But (Nb g A c) w W := hb4.trans (But.of_below hW)
  refine ⟨rfl, hbW.trans' h2 hA1.nb, A', c', ⟨hok, D, h1, hD⟩, ?_⟩
  rcases hAI with e | ⟨j, hj, e⟩
  · rw [e]; exact hA1
  · exact .inr ⟨j, by have := hbW.size; omega, e⟩
section
variable (w : World) {B g c cap : Nat} {A : Option Addr} {S : CS}
set_option maxHeartbeats 4000000 in
theorem set_new (h : ClkAt w B g A cap c S) {i d : Int} (hi1 : -9223372036854775808 ≤ i) (hi2 : i ≤ 9223372036854775807) (h1 : 1 ≤ d) (h2 : S.now + d ≤ 1152921504606846976) (hf : S.find i = none) (hl : S.L.length < S.most) : Calls Try.prog 11 #[.pointer (some ⟨g, 0, none⟩), .int .i64 i, .int .i64 d] w (CkDid w B g A c (S.laid i d) (.int .i64 0)) := by
  have mixed : Try.prog.follows Departure.mixedOrders = true := by kernel_rfl
  have c1 := h.c1
  have c2 := h.c2
  have c3 := h.c3
  have hwr : IntKind.i64.wrap (1152921504606846976 - S.now) = 1152921504606846976 - S.now := IntWalk.i64_in _ (by have := h.ok.n0; have := h.ok.n1; omega)
  obtain ⟨D, hr, hD⟩ := h.raw
  have hlen : ∀ q ty, (Builtin.len_ #[55] ty #[.map (some c)]).run Try.prog (w.drewN q) = .ok (.int .i64 (S.L.length : Int)) (w.drewN q) := fun q ty => by
    have := (hr.below (w' := w.drewN q) ⟨rfl, rfl, rfl, Nat.le_refl _, fun _ _ => rfl⟩).map.len Try.underlying55 ty
    rw [this, owns_size hr.map hD h.ok.nod]
  have KQ := Lib.hid (fun n => (unset_out (w.drewN n) (h.drewN n) hi1 hi2 hf).mono fun e w' hh => (⟨hh.1, hh.2.symm⟩ : e = .returned (.bool false) ∧ w' = w.drewN n))
  have H := Lib.hid h
  have hd1 : decide (d < 1) = false := by simp; omega
  have hd2 : decide (1152921504606846976 - S.now < d) = false := by simp; omega
  have hd3 : decide (S.most ≤ S.L.length) = false := by simp; omega
  have HI := Lib.hid (And.intro hi1 (And.intro hi2 (And.intro h1 (And.intro h2 (And.intro h.ok (fun _ => hl : S.find i = none → S.L.length < S.most))))))
  have HU := Lib.hid (CS.unset_none hf)
  clear h hr hD hf hi1 hi2 h1 h2 hl
  go_enter Try.func11, Try.ntmps11
  go_wp2_with fail
  refine (made_yes _ H.out).mono ?_
  rintro e w' ⟨rfl, rfl⟩
  go_wp2
  go_quiet (first | (go_at_call 12; refine Calls.quiet_of_same (KQ.out _)))
  obtain ⟨w1, hw1⟩ : ∃ w1, w.drewN nq = w1 := ⟨_, rfl⟩
  obtain ⟨A1, hA1⟩ : ∃ A1, A = A1 := ⟨_, rfl⟩
  obtain ⟨cap1, hcap1⟩ : ∃ cap1, cap = cap1 := ⟨_, rfl⟩
  have H1 : Hid (ClkAt w1 B g A1 cap1 c (S.unset i) ∧ But (Nb g A c) w w1 ∧ RelA w A A1) := by
    subst hA1 hcap1
    rw [← hw1, HU.out]
    exact ⟨H.out.drewN nq, (But.refl _ w).drewN nq, .inl rfl⟩
  rw [hw1]
  clear hw1 hA1 hcap1 c1 c2 c3 hlen KQ

  have c21 : w1.cell? ⟨g, 2, none⟩ = some (.int .i64 S.now) := H1.out.1.c2
  have hwr2 : IntKind.i64.wrap (S.now + d) = S.now + d := IntWalk.i64_in _ (by have := HI.out.2.2.1; have := HI.out.2.2.2.1; have := HI.out.2.2.2.2.1.n0; omega)
  have hokl : (S.laid i d).Ok := CS.laid_ok HI.out.2.2.2.2.1 ⟨HI.out.1, HI.out.2.1⟩ HI.out.2.2.1 HI.out.2.2.2.1 HI.out.2.2.2.2.2
  obtain ⟨D1, hr1, hD1⟩ := H1.out.1.raw
  obtain ⟨b, hb⟩ : ∃ b, w1.heap.size = b := ⟨_, rfl⟩
  obtain ⟨w2, hw2⟩ : ∃ w2, w1.alloc (.cells #[.int .i64 (S.now + d), .int .i64 i] 36) = w2 := ⟨_, rfl⟩
  have hx2 : w2.heap[b]? = some (.cells #[.int .i64 (S.now + d), .int .i64 i] 36 (0, 0)) := by rw [← hw2, ← hb]; exact heap_alloc_new w1 _
  have hB2 : Below w1.heap.size w1 w2 := hw2 ▸ (Below.refl _ w1).alloc (Nat.le_refl _) _
  have HOK := Lib.hid (And.intro hokl (And.intro hr1 (And.intro hD1 (And.intro hb (And.intro hx2 hB2)))))
  clear hokl hr1 hD1 hx2 hB2
  go_wp2
  (try rw [hw2]); (try rw [hb])
  obtain ⟨w3, hw3⟩ : ∃ w3, w2.drew = w3 := ⟨_, rfl⟩
  have hB3 : Below w1.heap.size w1 w3 := hw3 ▸ HOK.out.2.2.2.2.2.trans ⟨rfl, rfl, rfl, Nat.le_refl _, fun _ _ => rfl⟩
  have hx3 : w3.heap[b]? = some (.cells #[.int .i64 (S.now + d), .int .i64 i] 36 (0, 0)) := hw3 ▸ HOK.out.2.2.2.2.1
  have hr3 := HOK.out.2.1.below hB3
  have c33 := hr3.c3
  obtain ⟨k0, k1⟩ := two36 hx3
  have HR3 := Lib.hid (And.intro hr3 (And.intro hx3 (And.intro hB3 (And.intro (key3 HI.out.1 HI.out.2.1) (pe2 (k := S.now + d) (by have := HI.out.2.2.1; have := HI.out.2.2.2.2.1.n0; omega) (by have := HI.out.2.2.2.1; omega))))))
  clear hr3 hx3 hB3
  refine wp_region_still_tail 7 (by kernel_rfl) (by kernel_rfl) ?_
  simp only [List.take_succ_cons, List.take_zero, List.drop_succ_cons, List.drop_zero]
  show wpStill Try.prog _ w2.drew (fun a' => wpList Try.prog _ _ _ a' w2.drew) _ _
  rw [hw3]
  clear hw3 hw2 hb
  iterate 7 still_step
  refine wpStill_nil ?_
  refine wpList_mapUpdate_in _ rfl _ _ _ 55 rfl 3 2 (Maps.int_keyed Try.underlying3) Try.underlying55 (plainElem Try.prog 2) c 65537 D1 rfl HR3.out.1.map (by unfold maxLen; omega) _ _ _ rfl rfl HR3.out.2.2.2.1 _ [] HR3.out.2.2.2.2 ?_
  intro w4 hown4 hg4
  obtain ⟨D4, hr4, hD4⟩ := set_map HOK.out.1 (HI.out.2.2.2.2.1.nod.del i) HR3.out.1 HOK.out.2.2.1 hown4 hg4.grown
  have hb34 := grown_but hg4.grown
  have hx4 : w4.heap[b]? = some (.cells #[.int .i64 (S.now + d), .int .i64 i] 36 (0, 0)) := hb34.cells HR3.out.2.1 (by
    intro hm
    simp at hm
    subst hm
    obtain ⟨es, clock, hm, _⟩ := HR3.out.1.map
    have := HR3.out.2.1.symm.trans hm
    injection this with e
    cases e)
  obtain ⟨L1, hL1⟩ : ∃ L1, del i S.L = L1 := ⟨_, rfl⟩
  have hs1 : Srt L1 := hL1 ▸ HI.out.2.2.2.2.1.srt.del i
  rw [hL1] at hr4
  obtain ⟨n, hn⟩ : ∃ n, L1.length = n := ⟨_, rfl⟩
  have hn6 : n ≤ 65536 := by
    have h1 : L1.length ≤ S.L.length := hL1 ▸ List.length_filter_le _ _
    have := HI.out.2.2.2.2.1.len
    have := HI.out.2.2.2.2.1.m2
    omega
  obtain ⟨p, hp⟩ : ∃ p, placeOf ⟨S.now + d, i⟩ L1 = p := ⟨_, rfl⟩
  have hpn : p ≤ n := by rw [← hp, ← hn]; exact placeOf_le _ _
  have hLl : (S.laid i d).L = L1.take p ++ ⟨S.now + d, i⟩ :: L1.drop p := by
    rw [← hp, ← ins_take hs1, ← hL1]
    rfl
  have hb4 : But (Nb g A c) w w4 := (H1.out.2.1.trans (But.of_below HR3.out.2.2.1)).trans (hb34.mono (by simp [Nb]))
  have hbl : b < w4.heap.size := (Array.getElem?_eq_some_iff.1 hx4).1
  have hbA : b ∉ (A1.map (·.block)).toList := by
    intro hm
    have e : A1.map (·.block) = some b := by simpa using hm
    have := (HOK.out.2.1.row.block _ e).2
    have := HOK.out.2.2.2.1
    omega
  have hbg : b ≠ g := by
    intro e
    have := HOK.out.2.1.g_lt
    have := HOK.out.2.2.2.1
    omega
  have hBw : B ≤ w4.heap.size := Nat.le_trans hr4.hg (Nat.le_of_lt hr4.g_lt)
  have HT := Lib.hid (And.intro hr4 (And.intro hn (And.intro hn6 (And.intro hpn (And.intro hBw (And.intro hbl (And.intro hx4 (And.intro hbA (And.intro hbg (And.intro HOK.out.1 (And.intro hb4 (And.intro H1.out.2.2 (And.intro hD4 hLl)))))))))))))
  have HP := Lib.hid (And.intro hs1 (And.intro (by omega : L1.length ≤ 1000000) hp))
  have HB0 : Hid (Below w4.heap.size w4 w4.drew) := (⟨rfl, rfl, rfl, Nat.le_refl _, fun _ _ => rfl⟩ : Below w4.heap.size w4 w4.drew)
  clear hown4 hg4 hr4 hD4 hb34 hx4 hs1 hn6 hpn hLl hb4 hbl hbA hbg hBw hL1 hn hp c33 k0 k1 c21
  go_wp2
  refine wp_region_held_drew (S := (fun v => v.heap[b]? = some (.cells #[.int .i64 (S.now + d), .int .i64 i] 36 (0, 0)))) (by kernel_rfl) (HT.out.2.2.2.2.2.2.1) (fun hHeld => ?_)
  refine wpAnyH_take (i := 0) (oi := ⟨some 53, _, _, _, _, _⟩) (v := ?_) rfl (by kernel_rfl) (by kernel_rfl) (by kernel_rfl) (fun _ _ _ h => h) (Or.inl ⟨by rfl, ?_⟩) (by assumption) ?_
  rotate_left
  · intro w hSw
    (try dsimp only at hSw)
    go_simp
    all_goals (with_reducible rfl)
  try simp only [Act.put, List.setIfInBounds_toArray, List.set_cons_zero, List.set_cons_succ]
  refine wpAnyH_take (i := 1) (oi := ⟨some 54, _, _, _, _, _⟩) (v := ?_) rfl (by kernel_rfl) (by kernel_rfl) (by kernel_rfl) (fun _ _ _ h => h) (Or.inl ⟨by rfl, ?_⟩) (by assumption) ?_
  rotate_left
  · intro w hSw
    (try dsimp only at hSw)
    go_simp
    all_goals (with_reducible rfl)
  try simp only [Act.put, List.setIfInBounds_toArray, List.set_cons_zero, List.set_cons_succ]
  refine wpAnyH_take (i := 2) (oi := ⟨some 55, _, _, _, _, _⟩) (v := ?_) rfl (by kernel_rfl) (by kernel_rfl) (by kernel_rfl) (fun _ _ _ h => h) (Or.inl ⟨by rfl, ?_⟩) (by assumption) ?_
  rotate_left
  · intro w hSw
    (try dsimp only at hSw)
    go_simp
    all_goals (with_reducible rfl)
  try simp only [Act.put, List.setIfInBounds_toArray, List.set_cons_zero, List.set_cons_succ]
  refine wpAnyH_take (i := 3) (oi := ⟨some 56, _, _, _, _, _⟩) (v := ?_) rfl (by kernel_rfl) (by kernel_rfl) (by kernel_rfl) (fun _ _ _ h => h) (Or.inl ⟨by rfl, ?_⟩) (by assumption) ?_
  rotate_left
  · intro w hSw
    (try dsimp only at hSw)
    go_simp
    all_goals (with_reducible rfl)
  try simp only [Act.put, List.setIfInBounds_toArray, List.set_cons_zero, List.set_cons_succ]
  refine wpAnyH_take (i := 5) (oi := ⟨some 58, _, _, _, _, _⟩) (v := ?_) rfl (by kernel_rfl) (by kernel_rfl) (by kernel_rfl) (fun _ _ _ h => h) (Or.inl ⟨by rfl, ?_⟩) (by assumption) ?_
  rotate_left
  · intro w hSw
    (try dsimp only at hSw)
    go_simp
    all_goals (with_reducible rfl)
  try simp only [Act.put, List.setIfInBounds_toArray, List.set_cons_zero, List.set_cons_succ]
  refine wpAnyH_take (i := 6) (oi := ⟨some 59, _, _, _, _, _⟩) (v := ?_) rfl (by kernel_rfl) (by kernel_rfl) (by kernel_rfl) (fun _ _ _ h => h) (Or.inl ⟨by rfl, ?_⟩) (by assumption) ?_
  rotate_left
  · intro w hSw
    obtain ⟨k0, k1⟩ := two36 hSw
    go_simp
    all_goals (with_reducible rfl)
  try simp only [Act.put, List.setIfInBounds_toArray, List.set_cons_zero, List.set_cons_succ]
  refine wpAnyH_take (i := 8) (oi := ⟨some 61, _, _, _, _, _⟩) (v := ?_) rfl (by kernel_rfl) (by kernel_rfl) (by kernel_rfl) (fun _ _ _ h => h) (Or.inl ⟨by rfl, ?_⟩) (by assumption) ?_
  rotate_left
  · intro w hSw
    obtain ⟨k0, k1⟩ := two36 hSw
    go_simp
    all_goals (with_reducible rfl)
  try simp only [Act.put, List.setIfInBounds_toArray, List.set_cons_zero, List.set_cons_succ]
  refine wpAnyH_ready (rs := [4, 7, 9]) (by kernel_rfl) (by simp) (AllReadyH.cons (o := ⟨some 57, _, _, _, _, _⟩) rfl (fun K hK => ?_) (AllReadyH.cons (o := ⟨some 60, _, _, _, _, _⟩) rfl (fun K hK => ?_) (AllReadyH.cons (o := ⟨some 62, _, _, _, _, _⟩) rfl (fun K hK => ?_) AllReadyH.nil)))
  · have c4 : (w4.drew).cell? ⟨g, 4, none⟩ = some (.slice A1 n cap1) := by rw [(HT.out.1.below HB0.out).c4, HT.out.2.1]
    go_simp
    refine hK.out _ _ (((HB0.out.block _ HT.out.2.2.2.2.2.1).trans HT.out.2.2.2.2.2.2.1)) (fun hHeld => ?_)
    clear hK K c4
    try simp only [Act.put, List.setIfInBounds_toArray, List.set_cons_zero, List.set_cons_succ]
    refine wpAnyH_ready (rs := [7, 9]) (by kernel_rfl) (by simp) (AllReadyH.cons (o := ⟨some 60, _, _, _, _, _⟩) rfl (fun K hK => ?_) (AllReadyH.cons (o := ⟨some 62, _, _, _, _, _⟩) rfl (fun K hK => ?_) AllReadyH.nil))
    · go_simp
      refine (place_is (w4.drew) (HT.out.1.below HB0.out) HP.out.1 HP.out.2.1 ⟨S.now + d, i⟩).mono ?_
      rintro _ v2 ⟨rfl, hb2⟩
      rw [HP.out.2.2]
      have HB2 : Hid (Below w4.heap.size w4 v2) := HB0.out.trans (hb2.mono HB0.out.size)
      clear hb2
      refine hK.out _ _ (((HB2.out.block _ HT.out.2.2.2.2.2.1).trans HT.out.2.2.2.2.2.2.1)) (fun hHeld => ?_)
      clear hK K
      try simp only [Act.put, List.setIfInBounds_toArray, List.set_cons_zero, List.set_cons_succ]
      refine wpAnyH_ready (rs := [9]) (by kernel_rfl) (by simp) (AllReadyH.cons (o := ⟨some 62, _, _, _, _, _⟩) rfl (fun K hK => ?_) AllReadyH.nil)
      · go_simp
        obtain ⟨v3, hv3⟩ : ∃ v, (v2).alloc (.cells #[.int .i64 (S.now + d), .int .i64 i] 36) = v := ⟨_, rfl⟩
        rw [hv3]
        have HB3 : Hid (Below w4.heap.size w4 v3) := hv3 ▸ HB2.out.alloc HB2.out.size _
        have hN3 : v3.heap[(v2).heap.size]? = some (.cells #[.int .i64 (S.now + d), .int .i64 i] 36 (0, 0)) := by rw [← hv3]; exact heap_alloc_new (v2) _
        have HN := Lib.hid (And.intro hN3 (fun e => by have h1 := (HT.out.1.row.block _ e).2; have h2 := HB2.out.size; omega : A1.map (·.block) ≠ some (v2).heap.size))
        clear hv3 hN3
        refine hK.out _ _ (((HB3.out.block _ HT.out.2.2.2.2.2.1).trans HT.out.2.2.2.2.2.2.1)) (fun hHeld => ?_)
        clear hK K
        try simp only [Act.put, List.setIfInBounds_toArray, List.set_cons_zero, List.set_cons_succ]
        refine wpAnyH_ready (rs := [10]) (by kernel_rfl) (by simp) (AllReadyH.cons (o := ⟨some 63, _, _, _, _, _⟩) rfl (fun K hK => ?_) AllReadyH.nil)
        go_simp
        refine (insert_is v3 (x := ⟨S.now + d, i⟩) (row_n (HT.out.1.below HB3.out) HT.out.2.1) HT.out.2.1 (by have := HT.out.2.2.1; omega) HT.out.2.2.2.1 (Nat.le_trans HT.out.2.2.2.2.1 HB3.out.size) HN.out.1 HN.out.2).mono ?_
        rintro _ vI ⟨A', c', rfl, hrow, hbI, hAI⟩
        have hbx := hbI.cells ((HB3.out.block _ HT.out.2.2.2.2.2.1).trans HT.out.2.2.2.2.2.2.1) HT.out.2.2.2.2.2.2.2.1
        have hgI := hbI.cells (HT.out.1.below HB3.out).blk (fun hk => HT.out.1.Ag (by simpa using hk))
        have c4I := cell_of_row _ g 4 _ 57 (0, 0) hgI
        have f4I := frozen_of_row vI g 4 _ 57 hgI
        simp at c4I
        have HI2 := Lib.hid (And.intro hrow (And.intro hbI (And.intro hAI hbx)))
        clear hrow hbI hAI hbx hgI
        refine hK.out _ _ (HI2.out.2.2.2) (fun hHeld => ?_)
        clear hK K
        try simp only [Act.put, List.setIfInBounds_toArray, List.set_cons_zero, List.set_cons_succ]
        refine wpAnyH_take (i := 11) (oi := ⟨some 64, _, _, _, _, _⟩) (v := ?_) rfl (by kernel_rfl) (by kernel_rfl) (by kernel_rfl) (fun _ _ _ h => h) (Or.inl ⟨by rfl, ?_⟩) (by assumption) ?_
        rotate_left
        · intro w hSw
          (try dsimp only at hSw)
          go_simp
          all_goals (with_reducible rfl)
        try simp only [Act.put, List.setIfInBounds_toArray, List.set_cons_zero, List.set_cons_succ]
        refine wpAnyH_take (i := 12) (oi := ⟨some 65, _, _, _, _, _⟩) (v := ?_) rfl (by kernel_rfl) (by kernel_rfl) (by kernel_rfl) (fun _ _ _ h => h) (Or.inl ⟨by rfl, ?_⟩) (by assumption) ?_
        rotate_left
        · intro w hSw
          (try dsimp only at hSw)
          go_simp
          all_goals (with_reducible rfl)
        try simp only [Act.put, List.setIfInBounds_toArray, List.set_cons_zero, List.set_cons_succ]
        refine wpAnyH_ready (rs := [13]) (by kernel_rfl) (by simp) (AllReadyH.cons (o := ⟨none, _, _, _, _, _⟩) rfl (fun K hK => ?_) AllReadyH.nil)
        go_simp
        refine hK.out _ _ ((Below.heap_setCell _ _ _ _ HT.out.2.2.2.2.2.2.2.2.1).trans HI2.out.2.2.2) (fun hHeld => ?_)
        clear hK K
        try simp only [Act.put, List.setIfInBounds_toArray, List.set_cons_zero, List.set_cons_succ]
        refine wpAnyH_done (by kernel_rfl) ?_ _
        go_wp2
        go_ret
        exact set_fin HT.out.2.2.2.2.2.2.2.2.2.1 HT.out.2.2.2.2.2.2.2.2.2.2.1 HT.out.2.2.2.2.2.2.2.2.2.2.2.1 HT.out.1 HT.out.2.2.2.2.2.2.2.2.2.2.2.2.1 HB3.out HI2.out.1 HI2.out.2.1 HI2.out.2.2.1 HT.out.2.2.2.2.2.2.2.2.2.2.2.2.2
    · go_simp
      obtain ⟨v4, hv4⟩ : ∃ v, (w4.alloc (.cells #[.int .i64 (S.now + d), .int .i64 i] 36)).drew = v := ⟨_, rfl⟩
      rw [hv4]
      have HB4 : Hid (Below w4.heap.size w4 v4) := hv4 ▸ HB0.out.alloc HB0.out.size _
      have hN4 : v4.heap[(w4.drew).heap.size]? = some (.cells #[.int .i64 (S.now + d), .int .i64 i] 36 (0, 0)) := by rw [← hv4]; exact heap_alloc_new w4 _
      have HN := Lib.hid (And.intro hN4 (fun e => by have h1 := (HT.out.1.row.block _ e).2; have h2 := HB0.out.size; omega : A1.map (·.block) ≠ some (w4.drew).heap.size))
      clear hv4 hN4
      refine hK.out _ _ (((HB4.out.block _ HT.out.2.2.2.2.2.1).trans HT.out.2.2.2.2.2.2.1)) (fun hHeld => ?_)
      clear hK K
      try simp only [Act.put, List.setIfInBounds_toArray, List.set_cons_zero, List.set_cons_succ]
      refine wpAnyH_ready (rs := [7]) (by kernel_rfl) (by simp) (AllReadyH.cons (o := ⟨some 60, _, _, _, _, _⟩) rfl (fun K hK => ?_) AllReadyH.nil)
      · go_simp
        refine (place_is (v4) (HT.out.1.below HB4.out) HP.out.1 HP.out.2.1 ⟨S.now + d, i⟩).mono ?_
        rintro _ v5 ⟨rfl, hb5⟩
        rw [HP.out.2.2]
        have HB5 : Hid (Below w4.heap.size w4 v5) := HB4.out.trans (hb5.mono HB4.out.size)
        replace HN := Lib.hid (And.intro ((hb5.block _ (Array.getElem?_eq_some_iff.1 HN.out.1).1).trans HN.out.1) HN.out.2)
        clear hb5
        refine hK.out _ _ (((HB5.out.block _ HT.out.2.2.2.2.2.1).trans HT.out.2.2.2.2.2.2.1)) (fun hHeld => ?_)
        clear hK K
        try simp only [Act.put, List.setIfInBounds_toArray, List.set_cons_zero, List.set_cons_succ]
        refine wpAnyH_ready (rs := [10]) (by kernel_rfl) (by simp) (AllReadyH.cons (o := ⟨some 63, _, _, _, _, _⟩) rfl (fun K hK => ?_) AllReadyH.nil)
        go_simp
        refine (insert_is v5 (x := ⟨S.now + d, i⟩) (row_n (HT.out.1.below HB5.out) HT.out.2.1) HT.out.2.1 (by have := HT.out.2.2.1; omega) HT.out.2.2.2.1 (Nat.le_trans HT.out.2.2.2.2.1 HB5.out.size) HN.out.1 HN.out.2).mono ?_
        rintro _ vI ⟨A', c', rfl, hrow, hbI, hAI⟩
        have hbx := hbI.cells ((HB5.out.block _ HT.out.2.2.2.2.2.1).trans HT.out.2.2.2.2.2.2.1) HT.out.2.2.2.2.2.2.2.1
        have hgI := hbI.cells (HT.out.1.below HB5.out).blk (fun hk => HT.out.1.Ag (by simpa using hk))
        have c4I := cell_of_row _ g 4 _ 57 (0, 0) hgI
        have f4I := frozen_of_row vI g 4 _ 57 hgI
        simp at c4I
        have HI2 := Lib.hid (And.intro hrow (And.intro hbI (And.intro hAI hbx)))
        clear hrow hbI hAI hbx hgI
        refine hK.out _ _ (HI2.out.2.2.2) (fun hHeld => ?_)
        clear hK K
        try simp only [Act.put, List.setIfInBounds_toArray, List.set_cons_zero, List.set_cons_succ]
        refine wpAnyH_take (i := 11) (oi := ⟨some 64, _, _, _, _, _⟩) (v := ?_) rfl (by kernel_rfl) (by kernel_rfl) (by kernel_rfl) (fun _ _ _ h => h) (Or.inl ⟨by rfl, ?_⟩) (by assumption) ?_
        rotate_left
        · intro w hSw
          (try dsimp only at hSw)
          go_simp
          all_goals (with_reducible rfl)
        try simp only [Act.put, List.setIfInBounds_toArray, List.set_cons_zero, List.set_cons_succ]
        refine wpAnyH_take (i := 12) (oi := ⟨some 65, _, _, _, _, _⟩) (v := ?_) rfl (by kernel_rfl) (by kernel_rfl) (by kernel_rfl) (fun _ _ _ h => h) (Or.inl ⟨by rfl, ?_⟩) (by assumption) ?_
        rotate_left
        · intro w hSw
          (try dsimp only at hSw)
          go_simp
          all_goals (with_reducible rfl)
        try simp only [Act.put, List.setIfInBounds_toArray, List.set_cons_zero, List.set_cons_succ]
        refine wpAnyH_ready (rs := [13]) (by kernel_rfl) (by simp) (AllReadyH.cons (o := ⟨none, _, _, _, _, _⟩) rfl (fun K hK => ?_) AllReadyH.nil)
        go_simp
        refine hK.out _ _ ((Below.heap_setCell _ _ _ _ HT.out.2.2.2.2.2.2.2.2.1).trans HI2.out.2.2.2) (fun hHeld => ?_)
        clear hK K
        try simp only [Act.put, List.setIfInBounds_toArray, List.set_cons_zero, List.set_cons_succ]
        refine wpAnyH_done (by kernel_rfl) ?_ _
        go_wp2
        go_ret
        exact set_fin HT.out.2.2.2.2.2.2.2.2.2.1 HT.out.2.2.2.2.2.2.2.2.2.2.1 HT.out.2.2.2.2.2.2.2.2.2.2.2.1 HT.out.1 HT.out.2.2.2.2.2.2.2.2.2.2.2.2.1 HB5.out HI2.out.1 HI2.out.2.1 HI2.out.2.2.1 HT.out.2.2.2.2.2.2.2.2.2.2.2.2.2
  · go_simp
    refine (place_is (w4.drew) (HT.out.1.below HB0.out) HP.out.1 HP.out.2.1 ⟨S.now + d, i⟩).mono ?_
    rintro _ v6 ⟨rfl, hb6⟩
    rw [HP.out.2.2]
    have HB6 : Hid (Below w4.heap.size w4 v6) := HB0.out.trans (hb6.mono HB0.out.size)
    clear hb6
    refine hK.out _ _ (((HB6.out.block _ HT.out.2.2.2.2.2.1).trans HT.out.2.2.2.2.2.2.1)) (fun hHeld => ?_)
    clear hK K
    try simp only [Act.put, List.setIfInBounds_toArray, List.set_cons_zero, List.set_cons_succ]
    refine wpAnyH_ready (rs := [4, 9]) (by kernel_rfl) (by simp) (AllReadyH.cons (o := ⟨some 57, _, _, _, _, _⟩) rfl (fun K hK => ?_) (AllReadyH.cons (o := ⟨some 62, _, _, _, _, _⟩) rfl (fun K hK => ?_) AllReadyH.nil))
    · have c4 : (v6).cell? ⟨g, 4, none⟩ = some (.slice A1 n cap1) := by rw [(HT.out.1.below HB6.out).c4, HT.out.2.1]
      go_simp
      refine hK.out _ _ (((HB6.out.block _ HT.out.2.2.2.2.2.1).trans HT.out.2.2.2.2.2.2.1)) (fun hHeld => ?_)
      clear hK K c4
      try simp only [Act.put, List.setIfInBounds_toArray, List.set_cons_zero, List.set_cons_succ]
      refine wpAnyH_ready (rs := [9]) (by kernel_rfl) (by simp) (AllReadyH.cons (o := ⟨some 62, _, _, _, _, _⟩) rfl (fun K hK => ?_) AllReadyH.nil)
      · go_simp
        obtain ⟨v8, hv8⟩ : ∃ v, (v6).alloc (.cells #[.int .i64 (S.now + d), .int .i64 i] 36) = v := ⟨_, rfl⟩
        rw [hv8]
        have HB8 : Hid (Below w4.heap.size w4 v8) := hv8 ▸ HB6.out.alloc HB6.out.size _
        have hN8 : v8.heap[(v6).heap.size]? = some (.cells #[.int .i64 (S.now + d), .int .i64 i] 36 (0, 0)) := by rw [← hv8]; exact heap_alloc_new (v6) _
        have HN := Lib.hid (And.intro hN8 (fun e => by have h1 := (HT.out.1.row.block _ e).2; have h2 := HB6.out.size; omega : A1.map (·.block) ≠ some (v6).heap.size))
        clear hv8 hN8
        refine hK.out _ _ (((HB8.out.block _ HT.out.2.2.2.2.2.1).trans HT.out.2.2.2.2.2.2.1)) (fun hHeld => ?_)
        clear hK K
        try simp only [Act.put, List.setIfInBounds_toArray, List.set_cons_zero, List.set_cons_succ]
        refine wpAnyH_ready (rs := [10]) (by kernel_rfl) (by simp) (AllReadyH.cons (o := ⟨some 63, _, _, _, _, _⟩) rfl (fun K hK => ?_) AllReadyH.nil)
        go_simp
        refine (insert_is v8 (x := ⟨S.now + d, i⟩) (row_n (HT.out.1.below HB8.out) HT.out.2.1) HT.out.2.1 (by have := HT.out.2.2.1; omega) HT.out.2.2.2.1 (Nat.le_trans HT.out.2.2.2.2.1 HB8.out.size) HN.out.1 HN.out.2).mono ?_
        rintro _ vI ⟨A', c', rfl, hrow, hbI, hAI⟩
        have hbx := hbI.cells ((HB8.out.block _ HT.out.2.2.2.2.2.1).trans HT.out.2.2.2.2.2.2.1) HT.out.2.2.2.2.2.2.2.1
        have hgI := hbI.cells (HT.out.1.below HB8.out).blk (fun hk => HT.out.1.Ag (by simpa using hk))
        have c4I := cell_of_row _ g 4 _ 57 (0, 0) hgI
        have f4I := frozen_of_row vI g 4 _ 57 hgI
        simp at c4I
        have HI2 := Lib.hid (And.intro hrow (And.intro hbI (And.intro hAI hbx)))
        clear hrow hbI hAI hbx hgI
        refine hK.out _ _ (HI2.out.2.2.2) (fun hHeld => ?_)
        clear hK K
        try simp only [Act.put, List.setIfInBounds_toArray, List.set_cons_zero, List.set_cons_succ]
        refine wpAnyH_take (i := 11) (oi := ⟨some 64, _, _, _, _, _⟩) (v := ?_) rfl (by kernel_rfl) (by kernel_rfl) (by kernel_rfl) (fun _ _ _ h => h) (Or.inl ⟨by rfl, ?_⟩) (by assumption) ?_
        rotate_left
        · intro w hSw
          (try dsimp only at hSw)
          go_simp
          all_goals (with_reducible rfl)
        try simp only [Act.put, List.setIfInBounds_toArray, List.set_cons_zero, List.set_cons_succ]
        refine wpAnyH_take (i := 12) (oi := ⟨some 65, _, _, _, _, _⟩) (v := ?_) rfl (by kernel_rfl) (by kernel_rfl) (by kernel_rfl) (fun _ _ _ h => h) (Or.inl ⟨by rfl, ?_⟩) (by assumption) ?_
        rotate_left
        · intro w hSw
          (try dsimp only at hSw)
          go_simp
          all_goals (with_reducible rfl)
        try simp only [Act.put, List.setIfInBounds_toArray, List.set_cons_zero, List.set_cons_succ]
        refine wpAnyH_ready (rs := [13]) (by kernel_rfl) (by simp) (AllReadyH.cons (o := ⟨none, _, _, _, _, _⟩) rfl (fun K hK => ?_) AllReadyH.nil)
        go_simp
        refine hK.out _ _ ((Below.heap_setCell _ _ _ _ HT.out.2.2.2.2.2.2.2.2.1).trans HI2.out.2.2.2) (fun hHeld => ?_)
        clear hK K
        try simp only [Act.put, List.setIfInBounds_toArray, List.set_cons_zero, List.set_cons_succ]
        refine wpAnyH_done (by kernel_rfl) ?_ _
        go_wp2
        go_ret
        exact set_fin HT.out.2.2.2.2.2.2.2.2.2.1 HT.out.2.2.2.2.2.2.2.2.2.2.1 HT.out.2.2.2.2.2.2.2.2.2.2.2.1 HT.out.1 HT.out.2.2.2.2.2.2.2.2.2.2.2.2.1 HB8.out HI2.out.1 HI2.out.2.1 HI2.out.2.2.1 HT.out.2.2.2.2.2.2.2.2.2.2.2.2.2
    · go_simp
      obtain ⟨v9, hv9⟩ : ∃ v, (v6).alloc (.cells #[.int .i64 (S.now + d), .int .i64 i] 36) = v := ⟨_, rfl⟩
      rw [hv9]
      have HB9 : Hid (Below w4.heap.size w4 v9) := hv9 ▸ HB6.out.alloc HB6.out.size _
      have hN9 : v9.heap[(v6).heap.size]? = some (.cells #[.int .i64 (S.now + d), .int .i64 i] 36 (0, 0)) := by rw [← hv9]; exact heap_alloc_new (v6) _
      have HN := Lib.hid (And.intro hN9 (fun e => by have h1 := (HT.out.1.row.block _ e).2; have h2 := HB6.out.size; omega : A1.map (·.block) ≠ some (v6).heap.size))
      clear hv9 hN9
      refine hK.out _ _ (((HB9.out.block _ HT.out.2.2.2.2.2.1).trans HT.out.2.2.2.2.2.2.1)) (fun hHeld => ?_)
      clear hK K
      try simp only [Act.put, List.setIfInBounds_toArray, List.set_cons_zero, List.set_cons_succ]
      refine wpAnyH_ready (rs := [4]) (by kernel_rfl) (by simp) (AllReadyH.cons (o := ⟨some 57, _, _, _, _, _⟩) rfl (fun K hK => ?_) AllReadyH.nil)
      · have c4 : (v9).cell? ⟨g, 4, none⟩ = some (.slice A1 n cap1) := by rw [(HT.out.1.below HB9.out).c4, HT.out.2.1]
        go_simp
        refine hK.out _ _ (((HB9.out.block _ HT.out.2.2.2.2.2.1).trans HT.out.2.2.2.2.2.2.1)) (fun hHeld => ?_)
        clear hK K c4
        try simp only [Act.put, List.setIfInBounds_toArray, List.set_cons_zero, List.set_cons_succ]
        refine wpAnyH_ready (rs := [10]) (by kernel_rfl) (by simp) (AllReadyH.cons (o := ⟨some 63, _, _, _, _, _⟩) rfl (fun K hK => ?_) AllReadyH.nil)
        go_simp
        refine (insert_is v9 (x := ⟨S.now + d, i⟩) (row_n (HT.out.1.below HB9.out) HT.out.2.1) HT.out.2.1 (by have := HT.out.2.2.1; omega) HT.out.2.2.2.1 (Nat.le_trans HT.out.2.2.2.2.1 HB9.out.size) HN.out.1 HN.out.2).mono ?_
        rintro _ vI ⟨A', c', rfl, hrow, hbI, hAI⟩
        have hbx := hbI.cells ((HB9.out.block _ HT.out.2.2.2.2.2.1).trans HT.out.2.2.2.2.2.2.1) HT.out.2.2.2.2.2.2.2.1
        have hgI := hbI.cells (HT.out.1.below HB9.out).blk (fun hk => HT.out.1.Ag (by simpa using hk))
        have c4I := cell_of_row _ g 4 _ 57 (0, 0) hgI
        have f4I := frozen_of_row vI g 4 _ 57 hgI
        simp at c4I
        have HI2 := Lib.hid (And.intro hrow (And.intro hbI (And.intro hAI hbx)))
        clear hrow hbI hAI hbx hgI
        refine hK.out _ _ (HI2.out.2.2.2) (fun hHeld => ?_)
        clear hK K
        try simp only [Act.put, List.setIfInBounds_toArray, List.set_cons_zero, List.set_cons_succ]
        refine wpAnyH_take (i := 11) (oi := ⟨some 64, _, _, _, _, _⟩) (v := ?_) rfl (by kernel_rfl) (by kernel_rfl) (by kernel_rfl) (fun _ _ _ h => h) (Or.inl ⟨by rfl, ?_⟩) (by assumption) ?_
        rotate_left
        · intro w hSw
          (try dsimp only at hSw)
          go_simp
          all_goals (with_reducible rfl)
        try simp only [Act.put, List.setIfInBounds_toArray, List.set_cons_zero, List.set_cons_succ]
        refine wpAnyH_take (i := 12) (oi := ⟨some 65, _, _, _, _, _⟩) (v := ?_) rfl (by kernel_rfl) (by kernel_rfl) (by kernel_rfl) (fun _ _ _ h => h) (Or.inl ⟨by rfl, ?_⟩) (by assumption) ?_
        rotate_left
        · intro w hSw
          (try dsimp only at hSw)
          go_simp
          all_goals (with_reducible rfl)
        try simp only [Act.put, List.setIfInBounds_toArray, List.set_cons_zero, List.set_cons_succ]
        refine wpAnyH_ready (rs := [13]) (by kernel_rfl) (by simp) (AllReadyH.cons (o := ⟨none, _, _, _, _, _⟩) rfl (fun K hK => ?_) AllReadyH.nil)
        go_simp
        refine hK.out _ _ ((Below.heap_setCell _ _ _ _ HT.out.2.2.2.2.2.2.2.2.1).trans HI2.out.2.2.2) (fun hHeld => ?_)
        clear hK K
        try simp only [Act.put, List.setIfInBounds_toArray, List.set_cons_zero, List.set_cons_succ]
        refine wpAnyH_done (by kernel_rfl) ?_ _
        go_wp2
        go_ret
        exact set_fin HT.out.2.2.2.2.2.2.2.2.2.1 HT.out.2.2.2.2.2.2.2.2.2.2.1 HT.out.2.2.2.2.2.2.2.2.2.2.2.1 HT.out.1 HT.out.2.2.2.2.2.2.2.2.2.2.2.2.1 HB9.out HI2.out.1 HI2.out.2.1 HI2.out.2.2.1 HT.out.2.2.2.2.2.2.2.2.2.2.2.2.2
  · go_simp
    obtain ⟨v11, hv11⟩ : ∃ v, (w4.alloc (.cells #[.int .i64 (S.now + d), .int .i64 i] 36)).drew = v := ⟨_, rfl⟩
    rw [hv11]
    have HB11 : Hid (Below w4.heap.size w4 v11) := hv11 ▸ HB0.out.alloc HB0.out.size _
    have hN11 : v11.heap[(w4.drew).heap.size]? = some (.cells #[.int .i64 (S.now + d), .int .i64 i] 36 (0, 0)) := by rw [← hv11]; exact heap_alloc_new w4 _
    have HN := Lib.hid (And.intro hN11 (fun e => by have h1 := (HT.out.1.row.block _ e).2; have h2 := HB0.out.size; omega : A1.map (·.block) ≠ some (w4.drew).heap.size))
    clear hv11 hN11
    refine hK.out _ _ (((HB11.out.block _ HT.out.2.2.2.2.2.1).trans HT.out.2.2.2.2.2.2.1)) (fun hHeld => ?_)
    clear hK K
    try simp only [Act.put, List.setIfInBounds_toArray, List.set_cons_zero, List.set_cons_succ]
    refine wpAnyH_ready (rs := [4, 7]) (by kernel_rfl) (by simp) (AllReadyH.cons (o := ⟨some 57, _, _, _, _, _⟩) rfl (fun K hK => ?_) (AllReadyH.cons (o := ⟨some 60, _, _, _, _, _⟩) rfl (fun K hK => ?_) AllReadyH.nil))
    · have c4 : (v11).cell? ⟨g, 4, none⟩ = some (.slice A1 n cap1) := by rw [(HT.out.1.below HB11.out).c4, HT.out.2.1]
      go_simp
      refine hK.out _ _ (((HB11.out.block _ HT.out.2.2.2.2.2.1).trans HT.out.2.2.2.2.2.2.1)) (fun hHeld => ?_)
      clear hK K c4
      try simp only [Act.put, List.setIfInBounds_toArray, List.set_cons_zero, List.set_cons_succ]
      refine wpAnyH_ready (rs := [7]) (by kernel_rfl) (by simp) (AllReadyH.cons (o := ⟨some 60, _, _, _, _, _⟩) rfl (fun K hK => ?_) AllReadyH.nil)
      · go_simp
        refine (place_is (v11) (HT.out.1.below HB11.out) HP.out.1 HP.out.2.1 ⟨S.now + d, i⟩).mono ?_
        rintro _ v13 ⟨rfl, hb13⟩
        rw [HP.out.2.2]
        have HB13 : Hid (Below w4.heap.size w4 v13) := HB11.out.trans (hb13.mono HB11.out.size)
        replace HN := Lib.hid (And.intro ((hb13.block _ (Array.getElem?_eq_some_iff.1 HN.out.1).1).trans HN.out.1) HN.out.2)
        clear hb13
        refine hK.out _ _ (((HB13.out.block _ HT.out.2.2.2.2.2.1).trans HT.out.2.2.2.2.2.2.1)) (fun hHeld => ?_)
        clear hK K
        try simp only [Act.put, List.setIfInBounds_toArray, List.set_cons_zero, List.set_cons_succ]
        refine wpAnyH_ready (rs := [10]) (by kernel_rfl) (by simp) (AllReadyH.cons (o := ⟨some 63, _, _, _, _, _⟩) rfl (fun K hK => ?_) AllReadyH.nil)
        go_simp
        refine (insert_is v13 (x := ⟨S.now + d, i⟩) (row_n (HT.out.1.below HB13.out) HT.out.2.1) HT.out.2.1 (by have := HT.out.2.2.1; omega) HT.out.2.2.2.1 (Nat.le_trans HT.out.2.2.2.2.1 HB13.out.size) HN.out.1 HN.out.2).mono ?_
        rintro _ vI ⟨A', c', rfl, hrow, hbI, hAI⟩
        have hbx := hbI.cells ((HB13.out.block _ HT.out.2.2.2.2.2.1).trans HT.out.2.2.2.2.2.2.1) HT.out.2.2.2.2.2.2.2.1
        have hgI := hbI.cells (HT.out.1.below HB13.out).blk (fun hk => HT.out.1.Ag (by simpa using hk))
        have c4I := cell_of_row _ g 4 _ 57 (0, 0) hgI
        have f4I := frozen_of_row vI g 4 _ 57 hgI
        simp at c4I
        have HI2 := Lib.hid (And.intro hrow (And.intro hbI (And.intro hAI hbx)))
        clear hrow hbI hAI hbx hgI
        refine hK.out _ _ (HI2.out.2.2.2) (fun hHeld => ?_)
        clear hK K
        try simp only [Act.put, List.setIfInBounds_toArray, List.set_cons_zero, List.set_cons_succ]
        refine wpAnyH_take (i := 11) (oi := ⟨some 64, _, _, _, _, _⟩) (v := ?_) rfl (by kernel_rfl) (by kernel_rfl) (by kernel_rfl) (fun _ _ _ h => h) (Or.inl ⟨by rfl, ?_⟩) (by assumption) ?_
        rotate_left
        · intro w hSw
          (try dsimp only at hSw)
          go_simp
          all_goals (with_reducible rfl)
        try simp only [Act.put, List.setIfInBounds_toArray, List.set_cons_zero, List.set_cons_succ]
        refine wpAnyH_take (i := 12) (oi := ⟨some 65, _, _, _, _, _⟩) (v := ?_) rfl (by kernel_rfl) (by kernel_rfl) (by kernel_rfl) (fun _ _ _ h => h) (Or.inl ⟨by rfl, ?_⟩) (by assumption) ?_
        rotate_left
        · intro w hSw
          (try dsimp only at hSw)
          go_simp
          all_goals (with_reducible rfl)
        try simp only [Act.put, List.setIfInBounds_toArray, List.set_cons_zero, List.set_cons_succ]
        refine wpAnyH_ready (rs := [13]) (by kernel_rfl) (by simp) (AllReadyH.cons (o := ⟨none, _, _, _, _, _⟩) rfl (fun K hK => ?_) AllReadyH.nil)
        go_simp
        refine hK.out _ _ ((Below.heap_setCell _ _ _ _ HT.out.2.2.2.2.2.2.2.2.1).trans HI2.out.2.2.2) (fun hHeld => ?_)
        clear hK K
        try simp only [Act.put, List.setIfInBounds_toArray, List.set_cons_zero, List.set_cons_succ]
        refine wpAnyH_done (by kernel_rfl) ?_ _
        go_wp2
        go_ret
        exact set_fin HT.out.2.2.2.2.2.2.2.2.2.1 HT.out.2.2.2.2.2.2.2.2.2.2.1 HT.out.2.2.2.2.2.2.2.2.2.2.2.1 HT.out.1 HT.out.2.2.2.2.2.2.2.2.2.2.2.2.1 HB13.out HI2.out.1 HI2.out.2.1 HI2.out.2.2.1 HT.out.2.2.2.2.2.2.2.2.2.2.2.2.2
    · go_simp
      refine (place_is (v11) (HT.out.1.below HB11.out) HP.out.1 HP.out.2.1 ⟨S.now + d, i⟩).mono ?_
      rintro _ v14 ⟨rfl, hb14⟩
      rw [HP.out.2.2]
      have HB14 : Hid (Below w4.heap.size w4 v14) := HB11.out.trans (hb14.mono HB11.out.size)
      replace HN := Lib.hid (And.intro ((hb14.block _ (Array.getElem?_eq_some_iff.1 HN.out.1).1).trans HN.out.1) HN.out.2)
      clear hb14
      refine hK.out _ _ (((HB14.out.block _ HT.out.2.2.2.2.2.1).trans HT.out.2.2.2.2.2.2.1)) (fun hHeld => ?_)
      clear hK K
      try simp only [Act.put, List.setIfInBounds_toArray, List.set_cons_zero, List.set_cons_succ]
      refine wpAnyH_ready (rs := [4]) (by kernel_rfl) (by simp) (AllReadyH.cons (o := ⟨some 57, _, _, _, _, _⟩) rfl (fun K hK => ?_) AllReadyH.nil)
      · have c4 : (v14).cell? ⟨g, 4, none⟩ = some (.slice A1 n cap1) := by rw [(HT.out.1.below HB14.out).c4, HT.out.2.1]
        go_simp
        refine hK.out _ _ (((HB14.out.block _ HT.out.2.2.2.2.2.1).trans HT.out.2.2.2.2.2.2.1)) (fun hHeld => ?_)
        clear hK K c4
        try simp only [Act.put, List.setIfInBounds_toArray, List.set_cons_zero, List.set_cons_succ]
        refine wpAnyH_ready (rs := [10]) (by kernel_rfl) (by simp) (AllReadyH.cons (o := ⟨some 63, _, _, _, _, _⟩) rfl (fun K hK => ?_) AllReadyH.nil)
        go_simp
        refine (insert_is v14 (x := ⟨S.now + d, i⟩) (row_n (HT.out.1.below HB14.out) HT.out.2.1) HT.out.2.1 (by have := HT.out.2.2.1; omega) HT.out.2.2.2.1 (Nat.le_trans HT.out.2.2.2.2.1 HB14.out.size) HN.out.1 HN.out.2).mono ?_
        rintro _ vI ⟨A', c', rfl, hrow, hbI, hAI⟩
        have hbx := hbI.cells ((HB14.out.block _ HT.out.2.2.2.2.2.1).trans HT.out.2.2.2.2.2.2.1) HT.out.2.2.2.2.2.2.2.1
        have hgI := hbI.cells (HT.out.1.below HB14.out).blk (fun hk => HT.out.1.Ag (by simpa using hk))
        have c4I := cell_of_row _ g 4 _ 57 (0, 0) hgI
        have f4I := frozen_of_row vI g 4 _ 57 hgI
        simp at c4I
        have HI2 := Lib.hid (And.intro hrow (And.intro hbI (And.intro hAI hbx)))
        clear hrow hbI hAI hbx hgI
        refine hK.out _ _ (HI2.out.2.2.2) (fun hHeld => ?_)
        clear hK K
        try simp only [Act.put, List.setIfInBounds_toArray, List.set_cons_zero, List.set_cons_succ]
        refine wpAnyH_take (i := 11) (oi := ⟨some 64, _, _, _, _, _⟩) (v := ?_) rfl (by kernel_rfl) (by kernel_rfl) (by kernel_rfl) (fun _ _ _ h => h) (Or.inl ⟨by rfl, ?_⟩) (by assumption) ?_
        rotate_left
        · intro w hSw
          (try dsimp only at hSw)
          go_simp
          all_goals (with_reducible rfl)
        try simp only [Act.put, List.setIfInBounds_toArray, List.set_cons_zero, List.set_cons_succ]
        refine wpAnyH_take (i := 12) (oi := ⟨some 65, _, _, _, _, _⟩) (v := ?_) rfl (by kernel_rfl) (by kernel_rfl) (by kernel_rfl) (fun _ _ _ h => h) (Or.inl ⟨by rfl, ?_⟩) (by assumption) ?_
        rotate_left
        · intro w hSw
          (try dsimp only at hSw)
          go_simp
          all_goals (with_reducible rfl)
        try simp only [Act.put, List.setIfInBounds_toArray, List.set_cons_zero, List.set_cons_succ]
        refine wpAnyH_ready (rs := [13]) (by kernel_rfl) (by simp) (AllReadyH.cons (o := ⟨none, _, _, _, _, _⟩) rfl (fun K hK => ?_) AllReadyH.nil)
        go_simp
        refine hK.out _ _ ((Below.heap_setCell _ _ _ _ HT.out.2.2.2.2.2.2.2.2.1).trans HI2.out.2.2.2) (fun hHeld => ?_)
        clear hK K
        try simp only [Act.put, List.setIfInBounds_toArray, List.set_cons_zero, List.set_cons_succ]
        refine wpAnyH_done (by kernel_rfl) ?_ _
        go_wp2
        go_ret
        exact set_fin HT.out.2.2.2.2.2.2.2.2.2.1 HT.out.2.2.2.2.2.2.2.2.2.2.1 HT.out.2.2.2.2.2.2.2.2.2.2.2.1 HT.out.1 HT.out.2.2.2.2.2.2.2.2.2.2.2.2.1 HB14.out HI2.out.1 HI2.out.2.1 HI2.out.2.2.1 HT.out.2.2.2.2.2.2.2.2.2.2.2.2.2
set_option maxHeartbeats 4000000 in
theorem set_old (h : ClkAt w B g A cap c S) {i d : Int} (hi1 : -9223372036854775808 ≤ i) (hi2 : i ≤ 9223372036854775807) (h1 : 1 ≤ d) (h2 : S.now + d ≤ 1152921504606846976) {e : Int} (hf : S.find i = some e) : Calls Try.prog 11 #[.pointer (some ⟨g, 0, none⟩), .int .i64 i, .int .i64 d] w (CkDid w B g A c (S.laid i d) (.int .i64 0)) := by
  have mixed : Try.prog.follows Departure.mixedOrders = true := by kernel_rfl
  have c1 := h.c1
  have c2 := h.c2
  have c3 := h.c3
  have hwr : IntKind.i64.wrap (1152921504606846976 - S.now) = 1152921504606846976 - S.now := IntWalk.i64_in _ (by have := h.ok.n0; have := h.ok.n1; omega)
  obtain ⟨D, hr, hD⟩ := h.raw
  have HU := Lib.hid (unset_is w.drew h.drew hi1 hi2 hf)
  have H := Lib.hid h
  have hd1 : decide (d < 1) = false := by simp; omega
  have hd2 : decide (1152921504606846976 - S.now < d) = false := by simp; omega
  have HI := Lib.hid (And.intro hi1 (And.intro hi2 (And.intro h1 (And.intro h2 (And.intro h.ok ((fun hn => by rw [hf] at hn; cases hn) : S.find i = none → S.L.length < S.most))))))
  clear h hr hD hf hi1 hi2 h1 h2
  go_enter Try.func11, Try.ntmps11
  go_wp2_with fail
  refine (made_yes _ H.out).mono ?_
  rintro e w' ⟨rfl, rfl⟩
  go_wp2

  refine wp_region_held_drew (S := (fun _ => True)) (by kernel_rfl) (trivial) (fun hHeld => ?_)
  refine wpAnyH_take (i := 0) (oi := ⟨some 22, _, _, _, _, _⟩) (v := ?_) rfl (by kernel_rfl) (by kernel_rfl) (by kernel_rfl) (fun _ _ _ h => h) (Or.inl ⟨by rfl, ?_⟩) (by assumption) ?_
  rotate_left
  · intro w hSw
    (try dsimp only at hSw)
    go_simp
    all_goals (with_reducible rfl)
  try simp only [Act.put, List.setIfInBounds_toArray, List.set_cons_zero, List.set_cons_succ]
  refine wpAnyH_take (i := 1) (oi := ⟨some 23, _, _, _, _, _⟩) (v := ?_) rfl (by kernel_rfl) (by kernel_rfl) (by kernel_rfl) (fun _ _ _ h => h) (Or.inl ⟨by rfl, ?_⟩) (by assumption) ?_
  rotate_left
  · intro w hSw
    (try dsimp only at hSw)
    go_simp
    all_goals (with_reducible rfl)
  try simp only [Act.put, List.setIfInBounds_toArray, List.set_cons_zero, List.set_cons_succ]
  refine wpAnyH_ready (rs := [2]) (by kernel_rfl) (by simp) (AllReadyH.cons (o := ⟨some 24, _, _, _, _, _⟩) rfl (fun K hK => ?_) AllReadyH.nil)
  go_simp
  refine HU.out.mono ?_
  rintro _ w1 ⟨rfl, hb1, A1, cap1, hc1, hA1⟩
  have H1 : Hid (ClkAt w1 B g A1 cap1 c (S.unset i) ∧ But (Nb g A c) w w1 ∧ RelA w A A1) := ⟨hc1, ((But.refl _ w).drew).trans hb1, hA1⟩
  clear hb1 hc1 hA1
  refine hK.out _ _ (trivial) (fun hHeld => ?_)
  clear hK K
  try simp only [Act.put, List.setIfInBounds_toArray, List.set_cons_zero, List.set_cons_succ]
  refine wpAnyH_take (i := 3) (oi := ⟨some 25, _, _, _, _, _⟩) (v := ?_) rfl (by kernel_rfl) (by kernel_rfl) (by kernel_rfl) (fun _ _ _ h => h) (Or.inl ⟨by rfl, ?_⟩) (by assumption) ?_
  rotate_left
  · intro w hSw
    (try dsimp only at hSw)
    go_simp
    all_goals (with_reducible rfl)
  try simp only [Act.put, List.setIfInBounds_toArray, List.set_cons_zero, List.set_cons_succ]
  refine wpAnyH_take (i := 4) (oi := ⟨some 26, _, _, _, _, _⟩) (v := ?_) rfl (by kernel_rfl) (by kernel_rfl) (by kernel_rfl) (fun _ _ _ h => h) (Or.inl ⟨by rfl, ?_⟩) (by assumption) ?_
  rotate_left
  · intro w hSw
    (try dsimp only at hSw)
    go_simp
    all_goals (with_reducible rfl)
  try simp only [Act.put, List.setIfInBounds_toArray, List.set_cons_zero, List.set_cons_succ]
  refine wpAnyH_take (i := 5) (oi := ⟨some 27, _, _, _, _, _⟩) (v := undef) rfl (by kernel_rfl) (by kernel_rfl) (by kernel_rfl) (fun _ _ _ h => h) (Or.inr ⟨by rfl, rfl⟩) (by assumption) ?_
  try simp only [Act.put, List.setIfInBounds_toArray, List.set_cons_zero, List.set_cons_succ]
  refine wpAnyH_take (i := 6) (oi := ⟨some 28, _, _, _, _, _⟩) (v := undef) rfl (by kernel_rfl) (by kernel_rfl) (by kernel_rfl) (fun _ _ _ h => h) (Or.inr ⟨by rfl, rfl⟩) (by assumption) ?_
  try simp only [Act.put, List.setIfInBounds_toArray, List.set_cons_zero, List.set_cons_succ]
  refine wpAnyH_take (i := 7) (oi := ⟨some 29, _, _, _, _, _⟩) (v := undef) rfl (by kernel_rfl) (by kernel_rfl) (by kernel_rfl) (fun _ _ _ h => h) (Or.inr ⟨by rfl, rfl⟩) (by assumption) ?_
  try simp only [Act.put, List.setIfInBounds_toArray, List.set_cons_zero, List.set_cons_succ]
  refine wpAnyH_take (i := 8) (oi := ⟨some 30, _, _, _, _, _⟩) (v := undef) rfl (by kernel_rfl) (by kernel_rfl) (by kernel_rfl) (fun _ _ _ h => h) (Or.inr ⟨by rfl, rfl⟩) (by assumption) ?_
  try simp only [Act.put, List.setIfInBounds_toArray, List.set_cons_zero, List.set_cons_succ]
  refine wpAnyH_take (i := 9) (oi := ⟨some 31, _, _, _, _, _⟩) (v := undef) rfl (by kernel_rfl) (by kernel_rfl) (by kernel_rfl) (fun _ _ _ h => h) (Or.inr ⟨by rfl, rfl⟩) (by assumption) ?_
  try simp only [Act.put, List.setIfInBounds_toArray, List.set_cons_zero, List.set_cons_succ]
  refine wpAnyH_take (i := 10) (oi := ⟨some 32, _, _, _, _, _⟩) (v := undef) rfl (by kernel_rfl) (by kernel_rfl) (by kernel_rfl) (fun _ _ _ h => h) (Or.inr ⟨by rfl, rfl⟩) (by assumption) ?_
  try simp only [Act.put, List.setIfInBounds_toArray, List.set_cons_zero, List.set_cons_succ]
  refine wpAnyH_take (i := 11) (oi := ⟨some 33, _, _, _, _, _⟩) (v := undef) rfl (by kernel_rfl) (by kernel_rfl) (by kernel_rfl) (fun _ _ _ h => h) (Or.inr ⟨by rfl, rfl⟩) (by assumption) ?_
  try simp only [Act.put, List.setIfInBounds_toArray, List.set_cons_zero, List.set_cons_succ]
  refine wpAnyH_take (i := 12) (oi := ⟨some 34, _, _, _, _, _⟩) (v := undef) rfl (by kernel_rfl) (by kernel_rfl) (by kernel_rfl) (fun _ _ _ h => h) (Or.inr ⟨by rfl, rfl⟩) (by assumption) ?_
  try simp only [Act.put, List.setIfInBounds_toArray, List.set_cons_zero, List.set_cons_succ]
  refine wpAnyH_take (i := 13) (oi := ⟨some 35, _, _, _, _, _⟩) (v := undef) rfl (by kernel_rfl) (by kernel_rfl) (by kernel_rfl) (fun _ _ _ h => h) (Or.inr ⟨by rfl, rfl⟩) (by assumption) ?_
  try simp only [Act.put, List.setIfInBounds_toArray, List.set_cons_zero, List.set_cons_succ]
  refine wpAnyH_take (i := 14) (oi := ⟨some 36, _, _, _, _, _⟩) (v := undef) rfl (by kernel_rfl) (by kernel_rfl) (by kernel_rfl) (fun _ _ _ h => h) (Or.inr ⟨by rfl, rfl⟩) (by assumption) ?_
  try simp only [Act.put, List.setIfInBounds_toArray, List.set_cons_zero, List.set_cons_succ]
  refine wpAnyH_take (i := 15) (oi := ⟨some 37, _, _, _, _, _⟩) (v := ?_) rfl (by kernel_rfl) (by kernel_rfl) (by kernel_rfl) (fun _ _ _ h => h) (Or.inl ⟨by rfl, ?_⟩) (by assumption) ?_
  rotate_left
  · intro w hSw
    (try dsimp only at hSw)
    go_simp
    all_goals (with_reducible rfl)
  try simp only [Act.put, List.setIfInBounds_toArray, List.set_cons_zero, List.set_cons_succ]
  refine wpAnyH_done (by kernel_rfl) ?_ _
  clear c1 c2 c3
  have c21 : w1.cell? ⟨g, 2, none⟩ = some (.int .i64 S.now) := H1.out.1.c2
  have hwr2 : IntKind.i64.wrap (S.now + d) = S.now + d := IntWalk.i64_in _ (by have := HI.out.2.2.1; have := HI.out.2.2.2.1; have := HI.out.2.2.2.2.1.n0; omega)
  have hokl : (S.laid i d).Ok := CS.laid_ok HI.out.2.2.2.2.1 ⟨HI.out.1, HI.out.2.1⟩ HI.out.2.2.1 HI.out.2.2.2.1 HI.out.2.2.2.2.2
  obtain ⟨D1, hr1, hD1⟩ := H1.out.1.raw
  obtain ⟨b, hb⟩ : ∃ b, w1.heap.size = b := ⟨_, rfl⟩
  obtain ⟨w2, hw2⟩ : ∃ w2, w1.alloc (.cells #[.int .i64 (S.now + d), .int .i64 i] 36) = w2 := ⟨_, rfl⟩
  have hx2 : w2.heap[b]? = some (.cells #[.int .i64 (S.now + d), .int .i64 i] 36 (0, 0)) := by rw [← hw2, ← hb]; exact heap_alloc_new w1 _
  have hB2 : Below w1.heap.size w1 w2 := hw2 ▸ (Below.refl _ w1).alloc (Nat.le_refl _) _
  have HOK := Lib.hid (And.intro hokl (And.intro hr1 (And.intro hD1 (And.intro hb (And.intro hx2 hB2)))))
  clear hokl hr1 hD1 hx2 hB2
  go_wp2
  (try rw [hw2]); (try rw [hb])
  obtain ⟨w3, hw3⟩ : ∃ w3, w2.drew = w3 := ⟨_, rfl⟩
  have hB3 : Below w1.heap.size w1 w3 := hw3 ▸ HOK.out.2.2.2.2.2.trans ⟨rfl, rfl, rfl, Nat.le_refl _, fun _ _ => rfl⟩
  have hx3 : w3.heap[b]? = some (.cells #[.int .i64 (S.now + d), .int .i64 i] 36 (0, 0)) := hw3 ▸ HOK.out.2.2.2.2.1
  have hr3 := HOK.out.2.1.below hB3
  have c33 := hr3.c3
  obtain ⟨k0, k1⟩ := two36 hx3
  have HR3 := Lib.hid (And.intro hr3 (And.intro hx3 (And.intro hB3 (And.intro (key3 HI.out.1 HI.out.2.1) (pe2 (k := S.now + d) (by have := HI.out.2.2.1; have := HI.out.2.2.2.2.1.n0; omega) (by have := HI.out.2.2.2.1; omega))))))
  clear hr3 hx3 hB3
  refine wp_region_still_tail 7 (by kernel_rfl) (by kernel_rfl) ?_
  simp only [List.take_succ_cons, List.take_zero, List.drop_succ_cons, List.drop_zero]
  show wpStill Try.prog _ w2.drew (fun a' => wpList Try.prog _ _ _ a' w2.drew) _ _
  rw [hw3]
  clear hw3 hw2 hb
  iterate 7 still_step
  refine wpStill_nil ?_
  refine wpList_mapUpdate_in _ rfl _ _ _ 55 rfl 3 2 (Maps.int_keyed Try.underlying3) Try.underlying55 (plainElem Try.prog 2) c 65537 D1 rfl HR3.out.1.map (by unfold maxLen; omega) _ _ _ rfl rfl HR3.out.2.2.2.1 _ [] HR3.out.2.2.2.2 ?_
  intro w4 hown4 hg4
  obtain ⟨D4, hr4, hD4⟩ := set_map HOK.out.1 (HI.out.2.2.2.2.1.nod.del i) HR3.out.1 HOK.out.2.2.1 hown4 hg4.grown
  have hb34 := grown_but hg4.grown
  have hx4 : w4.heap[b]? = some (.cells #[.int .i64 (S.now + d), .int .i64 i] 36 (0, 0)) := hb34.cells HR3.out.2.1 (by
    intro hm
    simp at hm
    subst hm
    obtain ⟨es, clock, hm, _⟩ := HR3.out.1.map
    have := HR3.out.2.1.symm.trans hm
    injection this with e
    cases e)
  obtain ⟨L1, hL1⟩ : ∃ L1, del i S.L = L1 := ⟨_, rfl⟩
  have hs1 : Srt L1 := hL1 ▸ HI.out.2.2.2.2.1.srt.del i
  rw [hL1] at hr4
  obtain ⟨n, hn⟩ : ∃ n, L1.length = n := ⟨_, rfl⟩
  have hn6 : n ≤ 65536 := by
    have h1 : L1.length ≤ S.L.length := hL1 ▸ List.length_filter_le _ _
    have := HI.out.2.2.2.2.1.len
    have := HI.out.2.2.2.2.1.m2
    omega
  obtain ⟨p, hp⟩ : ∃ p, placeOf ⟨S.now + d, i⟩ L1 = p := ⟨_, rfl⟩
  have hpn : p ≤ n := by rw [← hp, ← hn]; exact placeOf_le _ _
  have hLl : (S.laid i d).L = L1.take p ++ ⟨S.now + d, i⟩ :: L1.drop p := by
    rw [← hp, ← ins_take hs1, ← hL1]
    rfl
  have hb4 : But (Nb g A c) w w4 := (H1.out.2.1.trans (But.of_below HR3.out.2.2.1)).trans (hb34.mono (by simp [Nb]))
  have hbl : b < w4.heap.size := (Array.getElem?_eq_some_iff.1 hx4).1
  have hbA : b ∉ (A1.map (·.block)).toList := by
    intro hm
    have e : A1.map (·.block) = some b := by simpa using hm
    have := (HOK.out.2.1.row.block _ e).2
    have := HOK.out.2.2.2.1
    omega
  have hbg : b ≠ g := by
    intro e
    have := HOK.out.2.1.g_lt
    have := HOK.out.2.2.2.1
    omega
  have hBw : B ≤ w4.heap.size := Nat.le_trans hr4.hg (Nat.le_of_lt hr4.g_lt)
  have HT := Lib.hid (And.intro hr4 (And.intro hn (And.intro hn6 (And.intro hpn (And.intro hBw (And.intro hbl (And.intro hx4 (And.intro hbA (And.intro hbg (And.intro HOK.out.1 (And.intro hb4 (And.intro H1.out.2.2 (And.intro hD4 hLl)))))))))))))
  have HP := Lib.hid (And.intro hs1 (And.intro (by omega : L1.length ≤ 1000000) hp))
  have HB0 : Hid (Below w4.heap.size w4 w4.drew) := (⟨rfl, rfl, rfl, Nat.le_refl _, fun _ _ => rfl⟩ : Below w4.heap.size w4 w4.drew)
  clear hown4 hg4 hr4 hD4 hb34 hx4 hs1 hn6 hpn hLl hb4 hbl hbA hbg hBw hL1 hn hp c33 k0 k1 c21
  go_wp2
  refine wp_region_held_drew (S := (fun v => v.heap[b]? = some (.cells #[.int .i64 (S.now + d), .int .i64 i] 36 (0, 0)))) (by kernel_rfl) (HT.out.2.2.2.2.2.2.1) (fun hHeld => ?_)
  refine wpAnyH_take (i := 0) (oi := ⟨some 53, _, _, _, _, _⟩) (v := ?_) rfl (by kernel_rfl) (by kernel_rfl) (by kernel_rfl) (fun _ _ _ h => h) (Or.inl ⟨by rfl, ?_⟩) (by assumption) ?_
  rotate_left
  · intro w hSw
    (try dsimp only at hSw)
    go_simp
    all_goals (with_reducible rfl)
  try simp only [Act.put, List.setIfInBounds_toArray, List.set_cons_zero, List.set_cons_succ]
  refine wpAnyH_take (i := 1) (oi := ⟨some 54, _, _, _, _, _⟩) (v := ?_) rfl (by kernel_rfl) (by kernel_rfl) (by kernel_rfl) (fun _ _ _ h => h) (Or.inl ⟨by rfl, ?_⟩) (by assumption) ?_
  rotate_left
  · intro w hSw
    (try dsimp only at hSw)
    go_simp
    all_goals (with_reducible rfl)
  try simp only [Act.put, List.setIfInBounds_toArray, List.set_cons_zero, List.set_cons_succ]
  refine wpAnyH_take (i := 2) (oi := ⟨some 55, _, _, _, _, _⟩) (v := ?_) rfl (by kernel_rfl) (by kernel_rfl) (by kernel_rfl) (fun _ _ _ h => h) (Or.inl ⟨by rfl, ?_⟩) (by assumption) ?_
  rotate_left
  · intro w hSw
    (try dsimp only at hSw)
    go_simp
    all_goals (with_reducible rfl)
  try simp only [Act.put, List.setIfInBounds_toArray, List.set_cons_zero, List.set_cons_succ]
  refine wpAnyH_take (i := 3) (oi := ⟨some 56, _, _, _, _, _⟩) (v := ?_) rfl (by kernel_rfl) (by kernel_rfl) (by kernel_rfl) (fun _ _ _ h => h) (Or.inl ⟨by rfl, ?_⟩) (by assumption) ?_
  rotate_left
  · intro w hSw
    (try dsimp only at hSw)
    go_simp
    all_goals (with_reducible rfl)
  try simp only [Act.put, List.setIfInBounds_toArray, List.set_cons_zero, List.set_cons_succ]
  refine wpAnyH_take (i := 5) (oi := ⟨some 58, _, _, _, _, _⟩) (v := ?_) rfl (by kernel_rfl) (by kernel_rfl) (by kernel_rfl) (fun _ _ _ h => h) (Or.inl ⟨by rfl, ?_⟩) (by assumption) ?_
  rotate_left
  · intro w hSw
    (try dsimp only at hSw)
    go_simp
    all_goals (with_reducible rfl)
  try simp only [Act.put, List.setIfInBounds_toArray, List.set_cons_zero, List.set_cons_succ]
  refine wpAnyH_take (i := 6) (oi := ⟨some 59, _, _, _, _, _⟩) (v := ?_) rfl (by kernel_rfl) (by kernel_rfl) (by kernel_rfl) (fun _ _ _ h => h) (Or.inl ⟨by rfl, ?_⟩) (by assumption) ?_
  rotate_left
  · intro w hSw
    obtain ⟨k0, k1⟩ := two36 hSw
    go_simp
    all_goals (with_reducible rfl)
  try simp only [Act.put, List.setIfInBounds_toArray, List.set_cons_zero, List.set_cons_succ]
  refine wpAnyH_take (i := 8) (oi := ⟨some 61, _, _, _, _, _⟩) (v := ?_) rfl (by kernel_rfl) (by kernel_rfl) (by kernel_rfl) (fun _ _ _ h => h) (Or.inl ⟨by rfl, ?_⟩) (by assumption) ?_
  rotate_left
  · intro w hSw
    obtain ⟨k0, k1⟩ := two36 hSw
    go_simp
    all_goals (with_reducible rfl)
  try simp only [Act.put, List.setIfInBounds_toArray, List.set_cons_zero, List.set_cons_succ]
  refine wpAnyH_ready (rs := [4, 7, 9]) (by kernel_rfl) (by simp) (AllReadyH.cons (o := ⟨some 57, _, _, _, _, _⟩) rfl (fun K hK => ?_) (AllReadyH.cons (o := ⟨some 60, _, _, _, _, _⟩) rfl (fun K hK => ?_) (AllReadyH.cons (o := ⟨some 62, _, _, _, _, _⟩) rfl (fun K hK => ?_) AllReadyH.nil)))
  · have c4 : (w4.drew).cell? ⟨g, 4, none⟩ = some (.slice A1 n cap1) := by rw [(HT.out.1.below HB0.out).c4, HT.out.2.1]
    go_simp
    refine hK.out _ _ (((HB0.out.block _ HT.out.2.2.2.2.2.1).trans HT.out.2.2.2.2.2.2.1)) (fun hHeld => ?_)
    clear hK K c4
    try simp only [Act.put, List.setIfInBounds_toArray, List.set_cons_zero, List.set_cons_succ]
    refine wpAnyH_ready (rs := [7, 9]) (by kernel_rfl) (by simp) (AllReadyH.cons (o := ⟨some 60, _, _, _, _, _⟩) rfl (fun K hK => ?_) (AllReadyH.cons (o := ⟨some 62, _, _, _, _, _⟩) rfl (fun K hK => ?_) AllReadyH.nil))
    · go_simp
      refine (place_is (w4.drew) (HT.out.1.below HB0.out) HP.out.1 HP.out.2.1 ⟨S.now + d, i⟩).mono ?_
      rintro _ v2 ⟨rfl, hb2⟩
      rw [HP.out.2.2]
      have HB2 : Hid (Below w4.heap.size w4 v2) := HB0.out.trans (hb2.mono HB0.out.size)
      clear hb2
      refine hK.out _ _ (((HB2.out.block _ HT.out.2.2.2.2.2.1).trans HT.out.2.2.2.2.2.2.1)) (fun hHeld => ?_)
      clear hK K
      try simp only [Act.put, List.setIfInBounds_toArray, List.set_cons_zero, List.set_cons_succ]
      refine wpAnyH_ready (rs := [9]) (by kernel_rfl) (by simp) (AllReadyH.cons (o := ⟨some 62, _, _, _, _, _⟩) rfl (fun K hK => ?_) AllReadyH.nil)
      · go_simp
        obtain ⟨v3, hv3⟩ : ∃ v, (v2).alloc (.cells #[.int .i64 (S.now + d), .int .i64 i] 36) = v := ⟨_, rfl⟩
        rw [hv3]
        have HB3 : Hid (Below w4.heap.size w4 v3) := hv3 ▸ HB2.out.alloc HB2.out.size _
        have hN3 : v3.heap[(v2).heap.size]? = some (.cells #[.int .i64 (S.now + d), .int .i64 i] 36 (0, 0)) := by rw [← hv3]; exact heap_alloc_new (v2) _
        have HN := Lib.hid (And.intro hN3 (fun e => by have h1 := (HT.out.1.row.block _ e).2; have h2 := HB2.out.size; omega : A1.map (·.block) ≠ some (v2).heap.size))
        clear hv3 hN3
        refine hK.out _ _ (((HB3.out.block _ HT.out.2.2.2.2.2.1).trans HT.out.2.2.2.2.2.2.1)) (fun hHeld => ?_)
        clear hK K
        try simp only [Act.put, List.setIfInBounds_toArray, List.set_cons_zero, List.set_cons_succ]
        refine wpAnyH_ready (rs := [10]) (by kernel_rfl) (by simp) (AllReadyH.cons (o := ⟨some 63, _, _, _, _, _⟩) rfl (fun K hK => ?_) AllReadyH.nil)
        go_simp
        refine (insert_is v3 (x := ⟨S.now + d, i⟩) (row_n (HT.out.1.below HB3.out) HT.out.2.1) HT.out.2.1 (by have := HT.out.2.2.1; omega) HT.out.2.2.2.1 (Nat.le_trans HT.out.2.2.2.2.1 HB3.out.size) HN.out.1 HN.out.2).mono ?_
        rintro _ vI ⟨A', c', rfl, hrow, hbI, hAI⟩
        have hbx := hbI.cells ((HB3.out.block _ HT.out.2.2.2.2.2.1).trans HT.out.2.2.2.2.2.2.1) HT.out.2.2.2.2.2.2.2.1
        have hgI := hbI.cells (HT.out.1.below HB3.out).blk (fun hk => HT.out.1.Ag (by simpa using hk))
        have c4I := cell_of_row _ g 4 _ 57 (0, 0) hgI
        have f4I := frozen_of_row vI g 4 _ 57 hgI
        simp at c4I
        have HI2 := Lib.hid (And.intro hrow (And.intro hbI (And.intro hAI hbx)))
        clear hrow hbI hAI hbx hgI
        refine hK.out _ _ (HI2.out.2.2.2) (fun hHeld => ?_)
        clear hK K
        try simp only [Act.put, List.setIfInBounds_toArray, List.set_cons_zero, List.set_cons_succ]
        refine wpAnyH_take (i := 11) (oi := ⟨some 64, _, _, _, _, _⟩) (v := ?_) rfl (by kernel_rfl) (by kernel_rfl) (by kernel_rfl) (fun _ _ _ h => h) (Or.inl ⟨by rfl, ?_⟩) (by assumption) ?_
        rotate_left
        · intro w hSw
          (try dsimp only at hSw)
          go_simp
          all_goals (with_reducible rfl)
        try simp only [Act.put, List.setIfInBounds_toArray, List.set_cons_zero, List.set_cons_succ]
        refine wpAnyH_take (i := 12) (oi := ⟨some 65, _, _, _, _, _⟩) (v := ?_) rfl (by kernel_rfl) (by kernel_rfl) (by kernel_rfl) (fun _ _ _ h => h) (Or.inl ⟨by rfl, ?_⟩) (by assumption) ?_
        rotate_left
        · intro w hSw
          (try dsimp only at hSw)
          go_simp
          all_goals (with_reducible rfl)
        try simp only [Act.put, List.setIfInBounds_toArray, List.set_cons_zero, List.set_cons_succ]
        refine wpAnyH_ready (rs := [13]) (by kernel_rfl) (by simp) (AllReadyH.cons (o := ⟨none, _, _, _, _, _⟩) rfl (fun K hK => ?_) AllReadyH.nil)
        go_simp
        refine hK.out _ _ ((Below.heap_setCell _ _ _ _ HT.out.2.2.2.2.2.2.2.2.1).trans HI2.out.2.2.2) (fun hHeld => ?_)
        clear hK K
        try simp only [Act.put, List.setIfInBounds_toArray, List.set_cons_zero, List.set_cons_succ]
        refine wpAnyH_done (by kernel_rfl) ?_ _
        go_wp2
        go_ret
        exact set_fin HT.out.2.2.2.2.2.2.2.2.2.1 HT.out.2.2.2.2.2.2.2.2.2.2.1 HT.out.2.2.2.2.2.2.2.2.2.2.2.1 HT.out.1 HT.out.2.2.2.2.2.2.2.2.2.2.2.2.1 HB3.out HI2.out.1 HI2.out.2.1 HI2.out.2.2.1 HT.out.2.2.2.2.2.2.2.2.2.2.2.2.2
    · go_simp
      obtain ⟨v4, hv4⟩ : ∃ v, (w4.alloc (.cells #[.int .i64 (S.now + d), .int .i64 i] 36)).drew = v := ⟨_, rfl⟩
      rw [hv4]
      have HB4 : Hid (Below w4.heap.size w4 v4) := hv4 ▸ HB0.out.alloc HB0.out.size _
      have hN4 : v4.heap[(w4.drew).heap.size]? = some (.cells #[.int .i64 (S.now + d), .int .i64 i] 36 (0, 0)) := by rw [← hv4]; exact heap_alloc_new w4 _
      have HN := Lib.hid (And.intro hN4 (fun e => by have h1 := (HT.out.1.row.block _ e).2; have h2 := HB0.out.size; omega : A1.map (·.block) ≠ some (w4.drew).heap.size))
      clear hv4 hN4
      refine hK.out _ _ (((HB4.out.block _ HT.out.2.2.2.2.2.1).trans HT.out.2.2.2.2.2.2.1)) (fun hHeld => ?_)
      clear hK K
      try simp only [Act.put, List.setIfInBounds_toArray, List.set_cons_zero, List.set_cons_succ]
      refine wpAnyH_ready (rs := [7]) (by kernel_rfl) (by simp) (AllReadyH.cons (o := ⟨some 60, _, _, _, _, _⟩) rfl (fun K hK => ?_) AllReadyH.nil)
      · go_simp
        refine (place_is (v4) (HT.out.1.below HB4.out) HP.out.1 HP.out.2.1 ⟨S.now + d, i⟩).mono ?_
        rintro _ v5 ⟨rfl, hb5⟩
        rw [HP.out.2.2]
        have HB5 : Hid (Below w4.heap.size w4 v5) := HB4.out.trans (hb5.mono HB4.out.size)
        replace HN := Lib.hid (And.intro ((hb5.block _ (Array.getElem?_eq_some_iff.1 HN.out.1).1).trans HN.out.1) HN.out.2)
        clear hb5
        refine hK.out _ _ (((HB5.out.block _ HT.out.2.2.2.2.2.1).trans HT.out.2.2.2.2.2.2.1)) (fun hHeld => ?_)
        clear hK K
        try simp only [Act.put, List.setIfInBounds_toArray, List.set_cons_zero, List.set_cons_succ]
        refine wpAnyH_ready (rs := [10]) (by kernel_rfl) (by simp) (AllReadyH.cons (o := ⟨some 63, _, _, _, _, _⟩) rfl (fun K hK => ?_) AllReadyH.nil)
        go_simp
        refine (insert_is v5 (x := ⟨S.now + d, i⟩) (row_n (HT.out.1.below HB5.out) HT.out.2.1) HT.out.2.1 (by have := HT.out.2.2.1; omega) HT.out.2.2.2.1 (Nat.le_trans HT.out.2.2.2.2.1 HB5.out.size) HN.out.1 HN.out.2).mono ?_
        rintro _ vI ⟨A', c', rfl, hrow, hbI, hAI⟩
        have hbx := hbI.cells ((HB5.out.block _ HT.out.2.2.2.2.2.1).trans HT.out.2.2.2.2.2.2.1) HT.out.2.2.2.2.2.2.2.1
        have hgI := hbI.cells (HT.out.1.below HB5.out).blk (fun hk => HT.out.1.Ag (by simpa using hk))
        have c4I := cell_of_row _ g 4 _ 57 (0, 0) hgI
        have f4I := frozen_of_row vI g 4 _ 57 hgI
        simp at c4I
        have HI2 := Lib.hid (And.intro hrow (And.intro hbI (And.intro hAI hbx)))
        clear hrow hbI hAI hbx hgI
        refine hK.out _ _ (HI2.out.2.2.2) (fun hHeld => ?_)
        clear hK K
        try simp only [Act.put, List.setIfInBounds_toArray, List.set_cons_zero, List.set_cons_succ]
        refine wpAnyH_take (i := 11) (oi := ⟨some 64, _, _, _, _, _⟩) (v := ?_) rfl (by kernel_rfl) (by kernel_rfl) (by kernel_rfl) (fun _ _ _ h => h) (Or.inl ⟨by rfl, ?_⟩) (by assumption) ?_
        rotate_left
        · intro w hSw
          (try dsimp only at hSw)
          go_simp
          all_goals (with_reducible rfl)
        try simp only [Act.put, List.setIfInBounds_toArray, List.set_cons_zero, List.set_cons_succ]
        refine wpAnyH_take (i := 12) (oi := ⟨some 65, _, _, _, _, _⟩) (v := ?_) rfl (by kernel_rfl) (by kernel_rfl) (by kernel_rfl) (fun _ _ _ h => h) (Or.inl ⟨by rfl, ?_⟩) (by assumption) ?_
        rotate_left
        · intro w hSw
          (try dsimp only at hSw)
          go_simp
          all_goals (with_reducible rfl)
        try simp only [Act.put, List.setIfInBounds_toArray, List.set_cons_zero, List.set_cons_succ]
        refine wpAnyH_ready (rs := [13]) (by kernel_rfl) (by simp) (AllReadyH.cons (o := ⟨none, _, _, _, _, _⟩) rfl (fun K hK => ?_) AllReadyH.nil)
        go_simp
        refine hK.out _ _ ((Below.heap_setCell _ _ _ _ HT.out.2.2.2.2.2.2.2.2.1).trans HI2.out.2.2.2) (fun hHeld => ?_)
        clear hK K
        try simp only [Act.put, List.setIfInBounds_toArray, List.set_cons_zero, List.set_cons_succ]
        refine wpAnyH_done (by kernel_rfl) ?_ _
        go_wp2
        go_ret
        exact set_fin HT.out.2.2.2.2.2.2.2.2.2.1 HT.out.2.2.2.2.2.2.2.2.2.2.1 HT.out.2.2.2.2.2.2.2.2.2.2.2.1 HT.out.1 HT.out.2.2.2.2.2.2.2.2.2.2.2.2.1 HB5.out HI2.out.1 HI2.out.2.1 HI2.out.2.2.1 HT.out.2.2.2.2.2.2.2.2.2.2.2.2.2
  · go_simp
    refine (place_is (w4.drew) (HT.out.1.below HB0.out) HP.out.1 HP.out.2.1 ⟨S.now + d, i⟩).mono ?_
    rintro _ v6 ⟨rfl, hb6⟩
    rw [HP.out.2.2]
    have HB6 : Hid (Below w4.heap.size w4 v6) := HB0.out.trans (hb6.mono HB0.out.size)
    clear hb6
    refine hK.out _ _ (((HB6.out.block _ HT.out.2.2.2.2.2.1).trans HT.out.2.2.2.2.2.2.1)) (fun hHeld => ?_)
    clear hK K
    try simp only [Act.put, List.setIfInBounds_toArray, List.set_cons_zero, List.set_cons_succ]
    refine wpAnyH_ready (rs := [4, 9]) (by kernel_rfl) (by simp) (AllReadyH.cons (o := ⟨some 57, _, _, _, _, _⟩) rfl (fun K hK => ?_) (AllReadyH.cons (o := ⟨some 62, _, _, _, _, _⟩) rfl (fun K hK => ?_) AllReadyH.nil))
    · have c4 : (v6).cell? ⟨g, 4, none⟩ = some (.slice A1 n cap1) := by rw [(HT.out.1.below HB6.out).c4, HT.out.2.1]
      go_simp
      refine hK.out _ _ (((HB6.out.block _ HT.out.2.2.2.2.2.1).trans HT.out.2.2.2.2.2.2.1)) (fun hHeld => ?_)
      clear hK K c4
      try simp only [Act.put, List.setIfInBounds_toArray, List.set_cons_zero, List.set_cons_succ]
      refine wpAnyH_ready (rs := [9]) (by kernel_rfl) (by simp) (AllReadyH.cons (o := ⟨some 62, _, _, _, _, _⟩) rfl (fun K hK => ?_) AllReadyH.nil)
      · go_simp
        obtain ⟨v8, hv8⟩ : ∃ v, (v6).alloc (.cells #[.int .i64 (S.now + d), .int .i64 i] 36) = v := ⟨_, rfl⟩
        rw [hv8]
        have HB8 : Hid (Below w4.heap.size w4 v8) := hv8 ▸ HB6.out.alloc HB6.out.size _
        have hN8 : v8.heap[(v6).heap.size]? = some (.cells #[.int .i64 (S.now + d), .int .i64 i] 36 (0, 0)) := by rw [← hv8]; exact heap_alloc_new (v6) _
        have HN := Lib.hid (And.intro hN8 (fun e => by have h1 := (HT.out.1.row.block _ e).2; have h2 := HB6.out.size; omega : A1.map (·.block) ≠ some (v6).heap.size))
        clear hv8 hN8
        refine hK.out _ _ (((HB8.out.block _ HT.out.2.2.2.2.2.1).trans HT.out.2.2.2.2.2.2.1)) (fun hHeld => ?_)
        clear hK K
        try simp only [Act.put, List.setIfInBounds_toArray, List.set_cons_zero, List.set_cons_succ]
        refine wpAnyH_ready (rs := [10]) (by kernel_rfl) (by simp) (AllReadyH.cons (o := ⟨some 63, _, _, _, _, _⟩) rfl (fun K hK => ?_) AllReadyH.nil)
        go_simp
        refine (insert_is v8 (x := ⟨S.now + d, i⟩) (row_n (HT.out.1.below HB8.out) HT.out.2.1) HT.out.2.1 (by have := HT.out.2.2.1; omega) HT.out.2.2.2.1 (Nat.le_trans HT.out.2.2.2.2.1 HB8.out.size) HN.out.1 HN.out.2).mono ?_
        rintro _ vI ⟨A', c', rfl, hrow, hbI, hAI⟩
        have hbx := hbI.cells ((HB8.out.block _ HT.out.2.2.2.2.2.1).trans HT.out.2.2.2.2.2.2.1) HT.out.2.2.2.2.2.2.2.1
        have hgI := hbI.cells (HT.out.1.below HB8.out).blk (fun hk => HT.out.1.Ag (by simpa using hk))
        have c4I := cell_of_row _ g 4 _ 57 (0, 0) hgI
        have f4I := frozen_of_row vI g 4 _ 57 hgI
        simp at c4I
        have HI2 := Lib.hid (And.intro hrow (And.intro hbI (And.intro hAI hbx)))
        clear hrow hbI hAI hbx hgI
        refine hK.out _ _ (HI2.out.2.2.2) (fun hHeld => ?_)
        clear hK K
        try simp only [Act.put, List.setIfInBounds_toArray, List.set_cons_zero, List.set_cons_succ]
        refine wpAnyH_take (i := 11) (oi := ⟨some 64, _, _, _, _, _⟩) (v := ?_) rfl (by kernel_rfl) (by kernel_rfl) (by kernel_rfl) (fun _ _ _ h => h) (Or.inl ⟨by rfl, ?_⟩) (by assumption) ?_
        rotate_left
        · intro w hSw
          (try dsimp only at hSw)
          go_simp
          all_goals (with_reducible rfl)
        try simp only [Act.put, List.setIfInBounds_toArray, List.set_cons_zero, List.set_cons_succ]
        refine wpAnyH_take (i := 12) (oi := ⟨some 65, _, _, _, _, _⟩) (v := ?_) rfl (by kernel_rfl) (by kernel_rfl) (by kernel_rfl) (fun _ _ _ h => h) (Or.inl ⟨by rfl, ?_⟩) (by assumption) ?_
        rotate_left
        · intro w hSw
          (try dsimp only at hSw)
          go_simp
          all_goals (with_reducible rfl)
        try simp only [Act.put, List.setIfInBounds_toArray, List.set_cons_zero, List.set_cons_succ]
        refine wpAnyH_ready (rs := [13]) (by kernel_rfl) (by simp) (AllReadyH.cons (o := ⟨none, _, _, _, _, _⟩) rfl (fun K hK => ?_) AllReadyH.nil)
        go_simp
        refine hK.out _ _ ((Below.heap_setCell _ _ _ _ HT.out.2.2.2.2.2.2.2.2.1).trans HI2.out.2.2.2) (fun hHeld => ?_)
        clear hK K
        try simp only [Act.put, List.setIfInBounds_toArray, List.set_cons_zero, List.set_cons_succ]
        refine wpAnyH_done (by kernel_rfl) ?_ _
        go_wp2
        go_ret
        exact set_fin HT.out.2.2.2.2.2.2.2.2.2.1 HT.out.2.2.2.2.2.2.2.2.2.2.1 HT.out.2.2.2.2.2.2.2.2.2.2.2.1 HT.out.1 HT.out.2.2.2.2.2.2.2.2.2.2.2.2.1 HB8.out HI2.out.1 HI2.out.2.1 HI2.out.2.2.1 HT.out.2.2.2.2.2.2.2.2.2.2.2.2.2
    · go_simp
      obtain ⟨v9, hv9⟩ : ∃ v, (v6).alloc (.cells #[.int .i64 (S.now + d), .int .i64 i] 36) = v := ⟨_, rfl⟩
      rw [hv9]
      have HB9 : Hid (Below w4.heap.size w4 v9) := hv9 ▸ HB6.out.alloc HB6.out.size _
      have hN9 : v9.heap[(v6).heap.size]? = some (.cells #[.int .i64 (S.now + d), .int .i64 i] 36 (0, 0)) := by rw [← hv9]; exact heap_alloc_new (v6) _
      have HN := Lib.hid (And.intro hN9 (fun e => by have h1 := (HT.out.1.row.block _ e).2; have h2 := HB6.out.size; omega : A1.map (·.block) ≠ some (v6).heap.size))
      clear hv9 hN9
      refine hK.out _ _ (((HB9.out.block _ HT.out.2.2.2.2.2.1).trans HT.out.2.2.2.2.2.2.1)) (fun hHeld => ?_)
      clear hK K
      try simp only [Act.put, List.setIfInBounds_toArray, List.set_cons_zero, List.set_cons_succ]
      refine wpAnyH_ready (rs := [4]) (by kernel_rfl) (by simp) (AllReadyH.cons (o := ⟨some 57, _, _, _, _, _⟩) rfl (fun K hK => ?_) AllReadyH.nil)
      · have c4 : (v9).cell? ⟨g, 4, none⟩ = some (.slice A1 n cap1) := by rw [(HT.out.1.below HB9.out).c4, HT.out.2.1]
        go_simp
        refine hK.out _ _ (((HB9.out.block _ HT.out.2.2.2.2.2.1).trans HT.out.2.2.2.2.2.2.1)) (fun hHeld => ?_)
        clear hK K c4
        try simp only [Act.put, List.setIfInBounds_toArray, List.set_cons_zero, List.set_cons_succ]
        refine wpAnyH_ready (rs := [10]) (by kernel_rfl) (by simp) (AllReadyH.cons (o := ⟨some 63, _, _, _, _, _⟩) rfl (fun K hK => ?_) AllReadyH.nil)
        go_simp
        refine (insert_is v9 (x := ⟨S.now + d, i⟩) (row_n (HT.out.1.below HB9.out) HT.out.2.1) HT.out.2.1 (by have := HT.out.2.2.1; omega) HT.out.2.2.2.1 (Nat.le_trans HT.out.2.2.2.2.1 HB9.out.size) HN.out.1 HN.out.2).mono ?_
        rintro _ vI ⟨A', c', rfl, hrow, hbI, hAI⟩
        have hbx := hbI.cells ((HB9.out.block _ HT.out.2.2.2.2.2.1).trans HT.out.2.2.2.2.2.2.1) HT.out.2.2.2.2.2.2.2.1
        have hgI := hbI.cells (HT.out.1.below HB9.out).blk (fun hk => HT.out.1.Ag (by simpa using hk))
        have c4I := cell_of_row _ g 4 _ 57 (0, 0) hgI
        have f4I := frozen_of_row vI g 4 _ 57 hgI
        simp at c4I
        have HI2 := Lib.hid (And.intro hrow (And.intro hbI (And.intro hAI hbx)))
        clear hrow hbI hAI hbx hgI
        refine hK.out _ _ (HI2.out.2.2.2) (fun hHeld => ?_)
        clear hK K
        try simp only [Act.put, List.setIfInBounds_toArray, List.set_cons_zero, List.set_cons_succ]
        refine wpAnyH_take (i := 11) (oi := ⟨some 64, _, _, _, _, _⟩) (v := ?_) rfl (by kernel_rfl) (by kernel_rfl) (by kernel_rfl) (fun _ _ _ h => h) (Or.inl ⟨by rfl, ?_⟩) (by assumption) ?_
        rotate_left
        · intro w hSw
          (try dsimp only at hSw)
          go_simp
          all_goals (with_reducible rfl)
        try simp only [Act.put, List.setIfInBounds_toArray, List.set_cons_zero, List.set_cons_succ]
        refine wpAnyH_take (i := 12) (oi := ⟨some 65, _, _, _, _, _⟩) (v := ?_) rfl (by kernel_rfl) (by kernel_rfl) (by kernel_rfl) (fun _ _ _ h => h) (Or.inl ⟨by rfl, ?_⟩) (by assumption) ?_
        rotate_left
        · intro w hSw
          (try dsimp only at hSw)
          go_simp
          all_goals (with_reducible rfl)
        try simp only [Act.put, List.setIfInBounds_toArray, List.set_cons_zero, List.set_cons_succ]
        refine wpAnyH_ready (rs := [13]) (by kernel_rfl) (by simp) (AllReadyH.cons (o := ⟨none, _, _, _, _, _⟩) rfl (fun K hK => ?_) AllReadyH.nil)
        go_simp
        refine hK.out _ _ ((Below.heap_setCell _ _ _ _ HT.out.2.2.2.2.2.2.2.2.1).trans HI2.out.2.2.2) (fun hHeld => ?_)
        clear hK K
        try simp only [Act.put, List.setIfInBounds_toArray, List.set_cons_zero, List.set_cons_succ]
        refine wpAnyH_done (by kernel_rfl) ?_ _
        go_wp2
        go_ret
        exact set_fin HT.out.2.2.2.2.2.2.2.2.2.1 HT.out.2.2.2.2.2.2.2.2.2.2.1 HT.out.2.2.2.2.2.2.2.2.2.2.2.1 HT.out.1 HT.out.2.2.2.2.2.2.2.2.2.2.2.2.1 HB9.out HI2.out.1 HI2.out.2.1 HI2.out.2.2.1 HT.out.2.2.2.2.2.2.2.2.2.2.2.2.2
  · go_simp
    obtain ⟨v11, hv11⟩ : ∃ v, (w4.alloc (.cells #[.int .i64 (S.now + d), .int .i64 i] 36)).drew = v := ⟨_, rfl⟩
    rw [hv11]
    have HB11 : Hid (Below w4.heap.size w4 v11) := hv11 ▸ HB0.out.alloc HB0.out.size _
    have hN11 : v11.heap[(w4.drew).heap.size]? = some (.cells #[.int .i64 (S.now + d), .int .i64 i] 36 (0, 0)) := by rw [← hv11]; exact heap_alloc_new w4 _
    have HN := Lib.hid (And.intro hN11 (fun e => by have h1 := (HT.out.1.row.block _ e).2; have h2 := HB0.out.size; omega : A1.map (·.block) ≠ some (w4.drew).heap.size))
    clear hv11 hN11
    refine hK.out _ _ (((HB11.out.block _ HT.out.2.2.2.2.2.1).trans HT.out.2.2.2.2.2.2.1)) (fun hHeld => ?_)
    clear hK K
    try simp only [Act.put, List.setIfInBounds_toArray, List.set_cons_zero, List.set_cons_succ]
    refine wpAnyH_ready (rs := [4, 7]) (by kernel_rfl) (by simp) (AllReadyH.cons (o := ⟨some 57, _, _, _, _, _⟩) rfl (fun K hK => ?_) (AllReadyH.cons (o := ⟨some 60, _, _, _, _, _⟩) rfl (fun K hK => ?_) AllReadyH.nil))
    · have c4 : (v11).cell? ⟨g, 4, none⟩ = some (.slice A1 n cap1) := by rw [(HT.out.1.below HB11.out).c4, HT.out.2.1]
      go_simp
      refine hK.out _ _ (((HB11.out.block _ HT.out.2.2.2.2.2.1).trans HT.out.2.2.2.2.2.2.1)) (fun hHeld => ?_)
      clear hK K c4
      try simp only [Act.put, List.setIfInBounds_toArray, List.set_cons_zero, List.set_cons_succ]
      refine wpAnyH_ready (rs := [7]) (by kernel_rfl) (by simp) (AllReadyH.cons (o := ⟨some 60, _, _, _, _, _⟩) rfl (fun K hK => ?_) AllReadyH.nil)
      · go_simp
        refine (place_is (v11) (HT.out.1.below HB11.out) HP.out.1 HP.out.2.1 ⟨S.now + d, i⟩).mono ?_
        rintro _ v13 ⟨rfl, hb13⟩
        rw [HP.out.2.2]
        have HB13 : Hid (Below w4.heap.size w4 v13) := HB11.out.trans (hb13.mono HB11.out.size)
        replace HN := Lib.hid (And.intro ((hb13.block _ (Array.getElem?_eq_some_iff.1 HN.out.1).1).trans HN.out.1) HN.out.2)
        clear hb13
        refine hK.out _ _ (((HB13.out.block _ HT.out.2.2.2.2.2.1).trans HT.out.2.2.2.2.2.2.1)) (fun hHeld => ?_)
        clear hK K
        try simp only [Act.put, List.setIfInBounds_toArray, List.set_cons_zero, List.set_cons_succ]
        refine wpAnyH_ready (rs := [10]) (by kernel_rfl) (by simp) (AllReadyH.cons (o := ⟨some 63, _, _, _, _, _⟩) rfl (fun K hK => ?_) AllReadyH.nil)
        go_simp
        refine (insert_is v13 (x := ⟨S.now + d, i⟩) (row_n (HT.out.1.below HB13.out) HT.out.2.1) HT.out.2.1 (by have := HT.out.2.2.1; omega) HT.out.2.2.2.1 (Nat.le_trans HT.out.2.2.2.2.1 HB13.out.size) HN.out.1 HN.out.2).mono ?_
        rintro _ vI ⟨A', c', rfl, hrow, hbI, hAI⟩
        have hbx := hbI.cells ((HB13.out.block _ HT.out.2.2.2.2.2.1).trans HT.out.2.2.2.2.2.2.1) HT.out.2.2.2.2.2.2.2.1
        have hgI := hbI.cells (HT.out.1.below HB13.out).blk (fun hk => HT.out.1.Ag (by simpa using hk))
        have c4I := cell_of_row _ g 4 _ 57 (0, 0) hgI
        have f4I := frozen_of_row vI g 4 _ 57 hgI
        simp at c4I
        have HI2 := Lib.hid (And.intro hrow (And.intro hbI (And.intro hAI hbx)))
        clear hrow hbI hAI hbx hgI
        refine hK.out _ _ (HI2.out.2.2.2) (fun hHeld => ?_)
        clear hK K
        try simp only [Act.put, List.setIfInBounds_toArray, List.set_cons_zero, List.set_cons_succ]
        refine wpAnyH_take (i := 11) (oi := ⟨some 64, _, _, _, _, _⟩) (v := ?_) rfl (by kernel_rfl) (by kernel_rfl) (by kernel_rfl) (fun _ _ _ h => h) (Or.inl ⟨by rfl, ?_⟩) (by assumption) ?_
        rotate_left
        · intro w hSw
          (try dsimp only at hSw)
          go_simp
          all_goals (with_reducible rfl)
        try simp only [Act.put, List.setIfInBounds_toArray, List.set_cons_zero, List.set_cons_succ]
        refine wpAnyH_take (i := 12) (oi := ⟨some 65, _, _, _, _, _⟩) (v := ?_) rfl (by kernel_rfl) (by kernel_rfl) (by kernel_rfl) (fun _ _ _ h => h) (Or.inl ⟨by rfl, ?_⟩) (by assumption) ?_
        rotate_left
        · intro w hSw
          (try dsimp only at hSw)
          go_simp
          all_goals (with_reducible rfl)
        try simp only [Act.put, List.setIfInBounds_toArray, List.set_cons_zero, List.set_cons_succ]
        refine wpAnyH_ready (rs := [13]) (by kernel_rfl) (by simp) (AllReadyH.cons (o := ⟨none, _, _, _, _, _⟩) rfl (fun K hK => ?_) AllReadyH.nil)
        go_simp
        refine hK.out _ _ ((Below.heap_setCell _ _ _ _ HT.out.2.2.2.2.2.2.2.2.1).trans HI2.out.2.2.2) (fun hHeld => ?_)
        clear hK K
        try simp only [Act.put, List.setIfInBounds_toArray, List.set_cons_zero, List.set_cons_succ]
        refine wpAnyH_done (by kernel_rfl) ?_ _
        go_wp2
        go_ret
        exact set_fin HT.out.2.2.2.2.2.2.2.2.2.1 HT.out.2.2.2.2.2.2.2.2.2.2.1 HT.out.2.2.2.2.2.2.2.2.2.2.2.1 HT.out.1 HT.out.2.2.2.2.2.2.2.2.2.2.2.2.1 HB13.out HI2.out.1 HI2.out.2.1 HI2.out.2.2.1 HT.out.2.2.2.2.2.2.2.2.2.2.2.2.2
    · go_simp
      refine (place_is (v11) (HT.out.1.below HB11.out) HP.out.1 HP.out.2.1 ⟨S.now + d, i⟩).mono ?_
      rintro _ v14 ⟨rfl, hb14⟩
      rw [HP.out.2.2]
      have HB14 : Hid (Below w4.heap.size w4 v14) := HB11.out.trans (hb14.mono HB11.out.size)
      replace HN := Lib.hid (And.intro ((hb14.block _ (Array.getElem?_eq_some_iff.1 HN.out.1).1).trans HN.out.1) HN.out.2)
      clear hb14
      refine hK.out _ _ (((HB14.out.block _ HT.out.2.2.2.2.2.1).trans HT.out.2.2.2.2.2.2.1)) (fun hHeld => ?_)
      clear hK K
      try simp only [Act.put, List.setIfInBounds_toArray, List.set_cons_zero, List.set_cons_succ]
      refine wpAnyH_ready (rs := [4]) (by kernel_rfl) (by simp) (AllReadyH.cons (o := ⟨some 57, _, _, _, _, _⟩) rfl (fun K hK => ?_) AllReadyH.nil)
      · have c4 : (v14).cell? ⟨g, 4, none⟩ = some (.slice A1 n cap1) := by rw [(HT.out.1.below HB14.out).c4, HT.out.2.1]
        go_simp
        refine hK.out _ _ (((HB14.out.block _ HT.out.2.2.2.2.2.1).trans HT.out.2.2.2.2.2.2.1)) (fun hHeld => ?_)
        clear hK K c4
        try simp only [Act.put, List.setIfInBounds_toArray, List.set_cons_zero, List.set_cons_succ]
        refine wpAnyH_ready (rs := [10]) (by kernel_rfl) (by simp) (AllReadyH.cons (o := ⟨some 63, _, _, _, _, _⟩) rfl (fun K hK => ?_) AllReadyH.nil)
        go_simp
        refine (insert_is v14 (x := ⟨S.now + d, i⟩) (row_n (HT.out.1.below HB14.out) HT.out.2.1) HT.out.2.1 (by have := HT.out.2.2.1; omega) HT.out.2.2.2.1 (Nat.le_trans HT.out.2.2.2.2.1 HB14.out.size) HN.out.1 HN.out.2).mono ?_
        rintro _ vI ⟨A', c', rfl, hrow, hbI, hAI⟩
        have hbx := hbI.cells ((HB14.out.block _ HT.out.2.2.2.2.2.1).trans HT.out.2.2.2.2.2.2.1) HT.out.2.2.2.2.2.2.2.1
        have hgI := hbI.cells (HT.out.1.below HB14.out).blk (fun hk => HT.out.1.Ag (by simpa using hk))
        have c4I := cell_of_row _ g 4 _ 57 (0, 0) hgI
        have f4I := frozen_of_row vI g 4 _ 57 hgI
        simp at c4I
        have HI2 := Lib.hid (And.intro hrow (And.intro hbI (And.intro hAI hbx)))
        clear hrow hbI hAI hbx hgI
        refine hK.out _ _ (HI2.out.2.2.2) (fun hHeld => ?_)
        clear hK K
        try simp only [Act.put, List.setIfInBounds_toArray, List.set_cons_zero, List.set_cons_succ]
        refine wpAnyH_take (i := 11) (oi := ⟨some 64, _, _, _, _, _⟩) (v := ?_) rfl (by kernel_rfl) (by kernel_rfl) (by kernel_rfl) (fun _ _ _ h => h) (Or.inl ⟨by rfl, ?_⟩) (by assumption) ?_
        rotate_left
        · intro w hSw
          (try dsimp only at hSw)
          go_simp
          all_goals (with_reducible rfl)
        try simp only [Act.put, List.setIfInBounds_toArray, List.set_cons_zero, List.set_cons_succ]
        refine wpAnyH_take (i := 12) (oi := ⟨some 65, _, _, _, _, _⟩) (v := ?_) rfl (by kernel_rfl) (by kernel_rfl) (by kernel_rfl) (fun _ _ _ h => h) (Or.inl ⟨by rfl, ?_⟩) (by assumption) ?_
        rotate_left
        · intro w hSw
          (try dsimp only at hSw)
          go_simp
          all_goals (with_reducible rfl)
        try simp only [Act.put, List.setIfInBounds_toArray, List.set_cons_zero, List.set_cons_succ]
        refine wpAnyH_ready (rs := [13]) (by kernel_rfl) (by simp) (AllReadyH.cons (o := ⟨none, _, _, _, _, _⟩) rfl (fun K hK => ?_) AllReadyH.nil)
        go_simp
        refine hK.out _ _ ((Below.heap_setCell _ _ _ _ HT.out.2.2.2.2.2.2.2.2.1).trans HI2.out.2.2.2) (fun hHeld => ?_)
        clear hK K
        try simp only [Act.put, List.setIfInBounds_toArray, List.set_cons_zero, List.set_cons_succ]
        refine wpAnyH_done (by kernel_rfl) ?_ _
        go_wp2
        go_ret
        exact set_fin HT.out.2.2.2.2.2.2.2.2.2.1 HT.out.2.2.2.2.2.2.2.2.2.2.1 HT.out.2.2.2.2.2.2.2.2.2.2.2.1 HT.out.1 HT.out.2.2.2.2.2.2.2.2.2.2.2.2.1 HB14.out HI2.out.1 HI2.out.2.1 HI2.out.2.2.1 HT.out.2.2.2.2.2.2.2.2.2.2.2.2.2
end
end Go.Proofs.Ytncjbohpaanpaaa
