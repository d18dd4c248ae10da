/- Set, whatever comes; what is due is told: tell, Tick, Skip. Made by gtell8.py. -/
import Derived.Test.YtncjbohpaanpaaaClkG
namespace Go.Proofs.Ytncjbohpaanpaaa
open Go.RowKit Go.Coop Go.Maps
set_option maxRecDepth 100000
theorem Nl.but {w w' : World} {B : Nat} {r : Value} {l : List Tm} {gs : List Nat} (h : Nl w B r l) (hb : But gs w w') (hn : ∀ k, k ∈ gs → k < B) : Nl w' B r l := by
  obtain ⟨A, c, rfl, h⟩ := h
  exact ⟨A, c, rfl, h.but hb fun j hj hm => by have := (h.block j hj).1; have := hn j hm; omega⟩
theorem Nl.lower {w : World} {B B' : Nat} {r : Value} {l : List Tm} (h : Nl w B r l) (hl : B' ≤ B) : Nl w B' r l := by
  obtain ⟨A, c, rfl, h⟩ := h
  exact ⟨A, c, rfl, h.lower hl⟩
/-- what has been told, the clock behind it -/
def TellP (w : World) (B g : Nat) (A : Option Addr) (c most : Nat) (now : Int) (l1 l2 : List Tm) (e : Ending) (w' : World) : Prop :=
  ∃ r A' cap' D', e = .returned r ∧ Nl w' w.heap.size r l1 ∧ ClkRaw w' B g A' cap' c most now l2 D' ∧ DueIs D' (fun i => findD i l2) ∧ A'.map (·.block) = A.map (·.block) ∧ But (Nb g A c) w w'
/-- which are due -/
theorem due_at {L : List Tm} (hs : Srt L) (n : Int) {i : Nat} {y : Tm} (hy : L[i]? = some y) : decide (y.due ≤ n) = decide (i < L.countP fun t => decide (t.due ≤ n)) := by
  obtain ⟨h1, h2⟩ := prefix_of (R := fun a b : Tm => a.lt b = true) (p := fun t => decide (t.due ≤ n)) (fun a b hab hb => by
    rw [Tm.lt_iff] at hab
    simp at hb ⊢
    omega) hs
  obtain ⟨k, hk⟩ : ∃ k, (L.countP fun t => decide (t.due ≤ n)) = k := ⟨_, rfl⟩
  rw [hk] at h1 h2 ⊢
  by_cases hi : i < k
  · have : y ∈ L.take k := List.mem_of_getElem? (i := i) (by rw [List.getElem?_take, if_pos hi, hy])
    rw [← h1] at this
    rw [(List.mem_filter.1 this).2]
    simp [hi]
  · have : y ∈ L.drop k := List.mem_of_getElem? (i := i - k) (by rw [List.getElem?_drop, show k + (i - k) = i by omega, hy])
    rw [← h2] at this
    have := (List.mem_filter.1 this).2
    simp at this
    simp [hi]
    exact this
theorem due_del {L : List Tm} {D : DataW Value} {j : Nat} {y : Tm} (hn : Nod L) (hy : L[j]? = some y) (hD : DueIs D (fun i => findD i (L.drop j))) : DueIs (D.del (.int .i64 y.id)) (fun i => findD i (L.drop (j + 1))) := by
  have hj := (List.getElem?_eq_some_iff.1 hy).1
  have e : L.drop j = y :: L.drop (j + 1) := by rw [List.drop_eq_getElem_cons hj, (List.getElem?_eq_some_iff.1 hy).2]
  have hn' : Nod (y :: L.drop (j + 1)) := by
    rw [← e]
    exact List.Nodup.sublist ((List.drop_sublist j L).map _) hn
  refine hD.del (findD_none.2 fun t ht he => ?_) (fun i hi => ?_)
  · unfold Nod at hn'
    rw [List.map_cons, List.nodup_cons] at hn'
    exact hn'.1 (he ▸ List.mem_map_of_mem ht)
  · show findD i (L.drop j) = _
    rw [e]
    show (if y.id = i then some y.due else findD i (L.drop (j + 1))) = _
    rw [if_neg (fun h => hi h.symm)]
theorem map_add (A : Option Addr) (k : Nat) : (A.map (·.add k)).map (·.block) = A.map (·.block) := by cases A <;> simp [addr_add_block]
section
variable (w : World) {B g c cap : Nat} {A : Option Addr} {S : CS}
theorem set_any (h : ClkAt w B g A cap c S) {i d : Int} (hi1 : -9223372036854775808 ≤ i) (hi2 : i ≤ 9223372036854775807) : Calls Try.prog 11 #[.pointer (some ⟨g, 0, none⟩), .int .i64 i, .int .i64 d] w (CkDid w B g A c (S.set i d) (.int .i64 (S.setE i d))) := by
  by_cases h1 : d < 1 ∨ 1152921504606846976 - S.now < d
  · have e1 : S.setE i d = 2 := by unfold CS.setE; rw [if_pos h1]
    have e2 : S.set i d = S := by unfold CS.set; rw [e1]; rfl
    rw [e1, e2]
    exact (set_arg w h i h1).mono fun e w' ⟨he, hw⟩ => by subst he hw; exact CkDid.same h (Below.refl _ _) _
  · cases hf : S.find i with
    | none =>
      by_cases hl : S.most ≤ S.L.length
      · have e1 : S.setE i d = 71 := by unfold CS.setE; rw [if_neg h1, if_pos ⟨hf, hl⟩]
        have e2 : S.set i d = S := by unfold CS.set; rw [e1]; rfl
        rw [e1, e2]
        exact (set_full w h hi1 hi2 (by omega) (by omega) hf hl).mono fun e w' ⟨he, hw⟩ => by subst he; exact CkDid.same h hw _
      · have e1 : S.setE i d = 0 := by unfold CS.setE; rw [if_neg h1, if_neg (fun h => hl h.2)]
        have e2 : S.set i d = S.laid i d := by unfold CS.set; rw [e1]; rfl
        rw [e1, e2]
        exact set_new w h hi1 hi2 (by omega) (by omega) hf (by omega)
    | some e =>
      have e1 : S.setE i d = 0 := by unfold CS.setE; rw [if_neg h1, if_neg (fun h => by rw [hf] at h; cases h.1)]
      have e2 : S.set i d = S.laid i d := by unfold CS.set; rw [e1]; rfl
      rw [e1, e2]
      exact set_old w h hi1 hi2 (by omega) (by omega) hf
set_option maxHeartbeats 1000000 in
theorem tell_is {most : Nat} {now : Int} {L : List Tm} {D : DataW Value} (h : ClkRaw w B g A cap c most now L D) (hD : DueIs D (fun i => findD i L)) (hs : Srt L) (hn : Nod L) (hl : L.length ≤ 65536) (hit : ∀ t ∈ L, -9223372036854775808 ≤ t.id ∧ t.id ≤ 9223372036854775807) {k : Nat} (hk : (L.countP fun t => decide (t.due ≤ now)) = k) :
    Calls Try.prog 34 #[.pointer (some ⟨g, 0, none⟩)] w (TellP w B g A c most now (L.take k) (L.drop k)) := by
  have mixed : Try.prog.follows Departure.mixedOrders = true := by kernel_rfl
  have hkl : k ≤ L.length := by rw [← hk]; exact List.countP_le_length
  have HK := Lib.hid (And.intro hk (And.intro hkl (And.intro hs (And.intro hl (And.intro hn hit)))))
  have H := Lib.hid (And.intro h hD)
  clear h hD hs hn hl hit hk hkl
  go_enter Try.func34, Try.ntmps34
  go_wp2
  go_loopw [3] (fun s3 wr => ∃ j : Nat, s3 = .int .i64 j ∧ Hid (j ≤ k ∧ w.heap.size ≤ wr.heap.size ∧ But [c] w wr ∧ ∃ Dj, ClkRaw wr B g A cap c most now L Dj ∧ DueIs Dj (fun i => findD i (L.drop j)))) (fun s3 _ => k - (Go.RowKit.intOf s3).toNat)
  case atStart => exact ⟨0, rfl, (⟨Nat.zero_le _, Nat.le_refl _, But.refl _ _, D, H.out.1, H.out.2⟩ : 0 ≤ k ∧ w.heap.size ≤ w.heap.size ∧ But [c] w w ∧ ∃ Dj, ClkRaw w B g A cap c most now L Dj ∧ DueIs Dj (fun i => findD i (L.drop 0)))⟩
  case round =>
    obtain ⟨j, rfl, HL0⟩ := hrel
    obtain ⟨hj0, hj1, hj2, Dj, hr, hDj⟩ := HL0.out
    have HL := Lib.hid (And.intro hj0 (And.intro hj1 (And.intro hj2 (And.intro hr hDj))))
    have c2 := hr.c2
    have c3 := hr.c3
    have c4 := hr.c4
    clear HL0 hj0 hj1 hj2 hDj
    by_cases hjk : j < k
    · obtain ⟨y, hy⟩ : ∃ y, L[j]? = some y := ⟨_, List.getElem?_eq_getElem (Nat.lt_of_lt_of_le hjk HK.out.2.1)⟩
      have hdue := due_at HK.out.2.2.1 now hy
      rw [HK.out.1, decide_eq_true hjk] at hdue
      obtain ⟨r, o, rfl, d0, d1, _⟩ := row_get hr.row hy
      have hi1 : (0 : Int) ≤ (j : Int) := by omega
      have hi2 : (j : Int) < (L.length : Int) := by have := HK.out.2.1; omega
      have hw1 : IntKind.i64.wrap ((j : Int) + 1) = (j : Int) + 1 := IntWalk.i64_in _ (by have := HK.out.2.1; have := HK.out.2.2.2.1; omega)
      have hyi := HK.out.2.2.2.2.2 y (List.mem_of_getElem? hy)
      have HY := Lib.hid (And.intro hy (And.intro hjk (key3 hyi.1 hyi.2)))
      clear hr hy hyi hjk
      go_wp2
      go_quiet (fail)
      obtain ⟨w1, hw1'⟩ : ∃ w1, wr.drewN nq = w1 := ⟨_, rfl⟩
      rw [hw1']
      go_wp2
      obtain ⟨w2, hw2⟩ : ∃ w2, w1.drew = w2 := ⟨_, rfl⟩
      have hB2 : Below wr.heap.size wr w2 := by rw [← hw2, ← hw1']; exact ⟨rfl, rfl, rfl, Nat.le_refl _, fun _ _ => rfl⟩
      have hr2 := HL.out.2.2.2.1.below hB2
      obtain ⟨_, _, e2, d02, d12, _⟩ := row_get hr2.row HY.out.1
      injection e2 with e2
      injection e2 with e2 e3
      subst e2 e3
      have c32 := hr2.c3
      have c42 := hr2.c4
      have H2 := Lib.hid (And.intro hr2 hB2)
      clear hr2 hB2 hdue c2 c3 c4 d0 d1
      refine wp_region_still_tail 12 (by kernel_rfl) (by kernel_rfl) ?_
      simp only [List.take_succ_cons, List.take_zero, List.drop_succ_cons, List.drop_zero]
      show wpStill Try.prog _ w1.drew (fun a' => wpList Try.prog _ _ _ a' w1.drew) _ _
      rw [hw2]
      clear hw2 hw1'
      iterate 12 still_step
      refine wpStill_nil ?_
      refine wpList_delete_own _ rfl _ _ 55 3 rfl 2 (Maps.int_keyed Try.underlying3) Try.underlying55 (plainElem Try.prog 2) c 65537 Dj rfl H2.out.1.map _ _ rfl HY.out.2.2 ?_
      intro w5 hown5 hg5
      have HZ := Lib.hid (And.intro hown5 hg5.grown)
      clear hown5 hg5 c32 c42 d02 d12
      go_wp2
      go_roundw
      case rel =>
        have hb5 := grown_but HZ.out.2
        refine ⟨j + 1, by go_num, (⟨HY.out.2.1, ?_, ?_, _, H2.out.1.map_ HZ.out.1 hb5, due_del HK.out.2.2.2.2.1 HY.out.1 HL.out.2.2.2.2⟩ : j + 1 ≤ k ∧ w.heap.size ≤ w5.heap.size ∧ But [c] w w5 ∧ ∃ Dj, ClkRaw w5 B g _ cap c most now L Dj ∧ DueIs Dj (fun i => findD i (L.drop (j + 1))))⟩
        · have := HL.out.2.1; have := H2.out.2.size; have := hb5.size; omega
        · exact (HL.out.2.2.1.trans (But.of_below H2.out.2)).trans hb5
      case measure =>
        have := HY.out.2.1
        simp [Go.RowKit.intOf]; omega
    · have HJ : Hid (j = k) := by have := HL.out.1; show j = k; omega
      by_cases hlt : j < L.length
      · obtain ⟨y, hy⟩ : ∃ y, L[j]? = some y := ⟨_, List.getElem?_eq_getElem hlt⟩
        have hdue := due_at HK.out.2.2.1 now hy
        rw [HK.out.1, decide_eq_false hjk] at hdue
        obtain ⟨r, o, rfl, d0, d1, _⟩ := row_get hr.row hy
        have hi1 : (0 : Int) ≤ (j : Int) := by omega
        have hi2 : (j : Int) < (L.length : Int) := by omega
        clear hr hy hjk hlt
        go_wp2
        go_quiet (fail)
        have hjk := HJ.out
        subst hjk
        have hr1 := HL.out.2.2.2.1.below (w' := wr.drewN nq) ⟨rfl, rfl, rfl, Nat.le_refl _, fun _ _ => rfl⟩
        obtain ⟨w1, hw1⟩ : ∃ w1, wr.drewN nq = w1 := ⟨_, rfl⟩
        have hbw1 : But (Nb g (some ⟨r, o, none⟩) c) w w1 := hw1 ▸ (HL.out.2.2.1.mono (by simp [Nb])).drewN nq
        rw [hw1] at hr1 ⊢
        have c41 := hr1.c4
        have s1 := fun W => slice_hk (P := Try.prog) 30 Try.underlying30 size36 (some ⟨r, o, none⟩) hr1.row.addr L.length cap j (Nat.le_trans HK.out.2.1 hr1.row.nc.1) W
        have hrh : Tl w1 B (some ⟨r, o, none⟩) j cap (L.take j) := by
          have := row_head hr1.row HK.out.2.1
          rw [tvs_take] at this
          exact this
        have HC := Lib.hid (And.intro hr1 (And.intro hbw1 (clone_is w1 hrh (by have := HK.out.2.1; have := HK.out.2.2.2.1; omega))))
        clear hw1 hr1 hrh hbw1
        go_wp2_with fail
        refine HC.out.2.2.mono ?_
        rintro e w2 ⟨rv, rfl, hN, hB⟩
        have hr2 := HC.out.1.below hB
        have c42 := hr2.c4
        have f42 := hr2.fr 4
        obtain ⟨A2, hA2⟩ : ∃ A2 : Option Addr, (if cap = j then ((some ⟨r, o, none⟩) : Option Addr) else ((some ⟨r, o, none⟩) : Option Addr).map (·.add (j * 2))) = A2 := ⟨_, rfl⟩
        have s2 := fun W => slice_lk (P := Try.prog) 30 Try.underlying30 size36 (some ⟨r, o, none⟩) L.length cap j HK.out.2.1 W
        rw [hA2] at s2
        have hrt := hr2.row.tail HK.out.2.1
        rw [hA2, tvs_drop] at hrt
        have hAb : A2.map (·.block) = ((some ⟨r, o, none⟩) : Option Addr).map (·.block) := by
          rw [← hA2]
          split
          · rfl
          · exact map_add _ _
        obtain ⟨hr3, hb3⟩ := hr2.row_ (l := L.drop j) (by rw [List.length_drop]) hrt (But.refl [] w2) (by simp) (.inl hAb)
        have HF := Lib.hid (And.intro hN (And.intro hB (And.intro hr3 (And.intro hb3 hAb))))
        clear c41 hN hB hr2 hrt hAb hr3 hb3 hA2
        go_wp2
        go_ret
        have hg2 := HC.out.1.g_lt
        refine ⟨rv, A2, _, _, rfl, ?_, HF.out.2.2.1, ?_, HF.out.2.2.2.2, ?_⟩
        · refine ((HF.out.1.but (w' := w2.setCell ⟨g, 4, none⟩ (.slice A2 (L.length - j) (cap - j))) ((But.refl [g] _).setCell (by simp) _) (by simp; exact hg2))).lower HC.out.2.1.size
        · have := HL.out.2.2.2.2
          exact this
        · exact HC.out.2.1.trans ((But.of_below HF.out.2.1).trans HF.out.2.2.2.1)
      · have hge : decide ((j : Int) < (L.length : Int)) = false := by simp; omega
        have hge2 : decide (j < L.length) = false := by simp; omega
        clear hr hjk hlt
        go_wp2
        go_quiet (fail)
        have hjk := HJ.out
        subst hjk
        have hr1 := HL.out.2.2.2.1.below (w' := wr.drewN nq) ⟨rfl, rfl, rfl, Nat.le_refl _, fun _ _ => rfl⟩
        obtain ⟨w1, hw1⟩ : ∃ w1, wr.drewN nq = w1 := ⟨_, rfl⟩
        have hbw1 : But (Nb g A c) w w1 := hw1 ▸ (HL.out.2.2.1.mono (by simp [Nb])).drewN nq
        rw [hw1] at hr1 ⊢
        have c41 := hr1.c4
        have s1 := fun W => slice_hk (P := Try.prog) 30 Try.underlying30 size36 A hr1.row.addr L.length cap j (Nat.le_trans HK.out.2.1 hr1.row.nc.1) W
        have hrh : Tl w1 B A j cap (L.take j) := by
          have := row_head hr1.row HK.out.2.1
          rw [tvs_take] at this
          exact this
        have HC := Lib.hid (And.intro hr1 (And.intro hbw1 (clone_is w1 hrh (by have := HK.out.2.1; have := HK.out.2.2.2.1; omega))))
        clear hw1 hr1 hrh hbw1
        go_wp2_with fail
        refine HC.out.2.2.mono ?_
        rintro e w2 ⟨rv, rfl, hN, hB⟩
        have hr2 := HC.out.1.below hB
        have c42 := hr2.c4
        have f42 := hr2.fr 4
        obtain ⟨A2, hA2⟩ : ∃ A2 : Option Addr, (if cap = j then (A : Option Addr) else (A : Option Addr).map (·.add (j * 2))) = A2 := ⟨_, rfl⟩
        have s2 := fun W => slice_lk (P := Try.prog) 30 Try.underlying30 size36 A L.length cap j HK.out.2.1 W
        rw [hA2] at s2
        have hrt := hr2.row.tail HK.out.2.1
        rw [hA2, tvs_drop] at hrt
        have hAb : A2.map (·.block) = (A : Option Addr).map (·.block) := by
          rw [← hA2]
          split
          · rfl
          · exact map_add _ _
        obtain ⟨hr3, hb3⟩ := hr2.row_ (l := L.drop j) (by rw [List.length_drop]) hrt (But.refl [] w2) (by simp) (.inl hAb)
        have HF := Lib.hid (And.intro hN (And.intro hB (And.intro hr3 (And.intro hb3 hAb))))
        clear c41 hN hB hr2 hrt hAb hr3 hb3 hA2
        go_wp2
        go_ret
        have hg2 := HC.out.1.g_lt
        refine ⟨rv, A2, _, _, rfl, ?_, HF.out.2.2.1, ?_, HF.out.2.2.2.2, ?_⟩
        · refine ((HF.out.1.but (w' := w2.setCell ⟨g, 4, none⟩ (.slice A2 (L.length - j) (cap - j))) ((But.refl [g] _).setCell (by simp) _) (by simp; exact hg2))).lower HC.out.2.1.size
        · have := HL.out.2.2.2.2
          exact this
        · exact HC.out.2.1.trans ((But.of_below HF.out.2.1).trans HF.out.2.2.2.1)
/-- what Tick and Skip leave -/
def TkDid (w : World) (B g : Nat) (A : Option Addr) (c : Nat) (S' : CS) (l : List Tm) (e : Ending) (w' : World) : Prop :=
  ∃ r A' cap', e = .returned r ∧ Nl w' w.heap.size r l ∧ ClkAt w' B g A' cap' c S' ∧ A'.map (·.block) = A.map (·.block) ∧ But (Nb g A c) w w'
theorem turn_of {w w1 : World} {n : Int} (h : ClkAt w B g A cap c S) (h1 : S.now ≤ n) (h2 : n ≤ 1152921504606846976) (hb : But (Nb g A c) w w1) {e : Ending} {w' : World} {k : Nat} (hk : (S.L.countP fun t => decide (t.due ≤ n)) = k) (ht : TellP w1 B g A c S.most n (S.L.take k) (S.L.drop k) e w') : TkDid w B g A c (S.turn n) (S.told n) e w' := by
  obtain ⟨r, A', cap', D', he, hN, hr, hD, hA, hb'⟩ := ht
  obtain ⟨e1, e2⟩ := CS.due_first h.ok n
  rw [hk] at e1 e2
  refine ⟨r, A', cap', he, ?_, ⟨CS.turn_ok h.ok h1 h2, D', ?_, ?_⟩, hA, hb.trans hb'⟩
  · rw [e1]; exact hN.lower hb.size
  · rw [e2]; exact hr
  · rw [e2]; exact hD
theorem tick_none {p : Option Addr} (h : NoC w p) : Calls Try.prog 17 #[.pointer p] w fun e w' => e = .returned (.slice none 0 0) ∧ w = w' := by
  have H := Lib.hid h
  clear h
  go_enter Try.func17, Try.ntmps17
  go_wp2_with (go_at_call 30; refine (made_none _ H.out).mono ?_; rintro e w' ⟨rfl, rfl⟩)
  go_ret
  exact ⟨rfl, rfl⟩
theorem tick_is (h : ClkAt w B g A cap c S) : Calls Try.prog 17 #[.pointer (some ⟨g, 0, none⟩)] w (TkDid w B g A c S.tick S.tickL) := by
  obtain ⟨D, hr, hD⟩ := h.raw
  obtain ⟨n, hn⟩ : ∃ n, S.tickN = n := ⟨_, rfl⟩
  obtain ⟨k, hk⟩ : ∃ k, (S.L.countP fun t => decide (t.due ≤ n)) = k := ⟨_, rfl⟩
  obtain ⟨hr1, hb1⟩ := hr.now_ n
  obtain ⟨w1, hw1⟩ : ∃ w1, w.setCell ⟨g, 2, none⟩ (.int .i64 n) = w1 := ⟨_, rfl⟩
  rw [hw1] at hr1 hb1
  have ht := tell_is w1 hr1 hD h.ok.srt h.ok.nod (by have := h.ok.len; have := h.ok.m2; omega) (fun t ht => (h.ok.its t ht).2.2) hk
  have c2 := h.c2
  have f2 := h.fr 2
  have hwr : IntKind.i64.wrap (S.now + 1) = S.now + 1 := IntWalk.i64_in _ (by have := h.ok.n0; have := h.ok.n1; omega)
  have hmin : min (S.now + 1) 1152921504606846976 = n := by
    rw [← hn]
    unfold CS.tickN
    split <;> omega
  have hle := S.tickN_le h.ok
  rw [hn] at hle
  have H := Lib.hid (And.intro h (And.intro ht (And.intro hb1 (And.intro hle hk))))
  have e1 : S.tick = S.turn n := by unfold CS.tick; rw [hn]
  have e2 : S.tickL = S.told n := by unfold CS.tickL; rw [hn]
  rw [e1, e2]
  clear h hr hD hr1 hb1 ht hle hn e1 e2 hk
  go_enter Try.func17, Try.ntmps17
  go_wp2_with fail
  refine (made_yes _ H.out.1).mono ?_
  rintro e w' ⟨rfl, rfl⟩
  go_wp2_with fail
  refine H.out.2.1.mono ?_
  rintro e w2 ht
  have ht2 := turn_of H.out.1 H.out.2.2.2.1.1 H.out.2.2.2.1.2 (H.out.2.2.1.mono (by simp [Nb])) H.out.2.2.2.2 ht
  obtain ⟨r, A', cap', rfl, hx⟩ := ht2
  have HX := Lib.hid hx
  clear hx ht
  go_wp2
  go_ret
  exact ⟨r, A', cap', rfl, HX.out⟩
theorem skip_none {p : Option Addr} (h : NoC w p) : Calls Try.prog 14 #[.pointer p] w fun e w' => e = .returned (.slice none 0 0) ∧ Below w.heap.size w w' := by
  have H := Lib.hid (next_none w h)
  clear h
  go_enter Try.func14, Try.ntmps14
  go_wp2_with fail
  refine H.out.mono ?_
  rintro e w1 ⟨rfl, hB⟩
  have HB := Lib.hid (hB.alloc hB.size (.cells #[.int .i64 0, .int .i64 0] 36))
  clear hB
  unfold noT
  go_wp2
  go_ret
  exact ⟨rfl, HB.out⟩
theorem skip_is (h : ClkAt w B g A cap c S) : Calls Try.prog 14 #[.pointer (some ⟨g, 0, none⟩)] w (TkDid w B g A c S.skip S.skipL) := by
  cases hL : S.L with
  | nil =>
    obtain ⟨e1, e2⟩ := CS.skip_nil hL
    rw [e1, e2]
    have hx := next_is w h
    rw [hL] at hx
    have H := Lib.hid (And.intro h hx)
    clear h hx hL e1 e2
    go_enter Try.func14, Try.ntmps14
    go_wp2_with fail
    refine H.out.2.mono ?_
    rintro e w1 ⟨rfl, hB⟩
    have HB := Lib.hid (hB.alloc hB.size (.cells #[.int .i64 0, .int .i64 0] 36))
    clear hB
    simp only [List.head?_nil, Option.getD_none, Option.isSome_none]
    unfold noT
    go_wp2
    go_ret
    exact ⟨_, A, cap, rfl, ⟨none, 0, rfl, RowW.nil _ _ _ _⟩, H.out.1.below HB.out, rfl, But.of_below HB.out⟩
  | cons t l =>
    have hx := next_is w h
    rw [hL] at hx
    simp only [List.head?_cons, Option.getD_some, Option.isSome_some] at hx
    obtain ⟨n, hn⟩ : ∃ n, S.skipN = n := ⟨_, rfl⟩
    have htn : t.due = n := by rw [← hn]; unfold CS.skipN; rw [hL]
    obtain ⟨td, ti⟩ := t
    simp only at htn
    subst htn
    obtain ⟨k, hk⟩ : ∃ k, (S.L.countP fun t => decide (t.due ≤ td)) = k := ⟨_, rfl⟩
    have hle := S.skipN_le h.ok
    rw [hn] at hle
    have H := Lib.hid (And.intro h (And.intro hx (And.intro hle hk)))
    have e1 : S.skip = S.turn td := by unfold CS.skip; rw [hn]
    have e2 : S.skipL = S.told td := by unfold CS.skipL; rw [hn]
    rw [e1, e2]
    clear h hx hL hn hle hk e1 e2
    go_enter Try.func14, Try.ntmps14
    go_wp2_with fail
    refine H.out.2.1.mono ?_
    rintro e w1 ⟨rfl, hB⟩
    obtain ⟨w2, hw2⟩ : ∃ w2, w1.alloc (.cells #[.int .i64 td, .int .i64 ti] 36) = w2 := ⟨_, rfl⟩
    have hB2 : Below w.heap.size w w2 := hw2 ▸ hB.alloc hB.size _
    have h2 := H.out.1.below hB2
    obtain ⟨D, hr, hD⟩ := h2.raw
    obtain ⟨hr1, hb1⟩ := hr.now_ td
    obtain ⟨w3, hw3⟩ : ∃ w3, w2.setCell ⟨g, 2, none⟩ (.int .i64 td) = w3 := ⟨_, rfl⟩
    rw [hw3] at hr1 hb1
    have ht := tell_is w3 hr1 hD h2.ok.srt h2.ok.nod (by have := h2.ok.len; have := h2.ok.m2; omega) (fun t ht => (h2.ok.its t ht).2.2) H.out.2.2.2
    have c2 := h2.c2
    have f2 := h2.fr 2
    have HT := Lib.hid (And.intro ht ((But.of_below (gs := Nb g A c) hB2).trans (hb1.mono (by simp [Nb]))))
    have hx0 : w2.cell? ⟨w1.heap.size, 0, none⟩ = some (.int .i64 td) := hw2 ▸ cell_of_row _ _ 0 _ 36 (0, 0) (heap_alloc_new w1 _)
    clear hB hB2 h2 hr hD hr1 hb1 ht
    go_wp2_with fail
    refine HT.out.1.mono ?_
    rintro e w4 ht
    have ht2 := turn_of H.out.1 H.out.2.2.1.1 H.out.2.2.1.2 HT.out.2 H.out.2.2.2 ht
    obtain ⟨r, A', cap', rfl, hx⟩ := ht2
    have HX := Lib.hid hx
    clear hx ht
    go_wp2
    go_ret
    exact ⟨r, A', cap', rfl, HX.out⟩
end
end Go.Proofs.Ytncjbohpaanpaaa
