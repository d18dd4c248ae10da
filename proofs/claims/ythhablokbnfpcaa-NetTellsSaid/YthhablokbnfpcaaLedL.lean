/- The law NetLedger: its walk. -/
import Derived.Test.YthhablokbnfpcaaLedB
import Derived.Test.YthhablokbnfpcaaOthE
namespace Go.Proofs.Ythhablokbnfpcaa
open Go.RowKit Go.Coop Go.Maps
set_option maxRecDepth 100000
theorem OMap.kp {w w' : World} {b n c : Nat} {D : DataW Value} (h : OMap w b n D) (hk : Kp c w w') (hc : b ≠ c) : OMap w' b n D := by
  obtain ⟨es, clock, hb, r⟩ := h
  exact ⟨es, clock, hk.maps b es clock hc hb, r⟩
/-- where the law stands: a net, a map of what is owed, which says f -/
structure LeR (w0 w : World) (g c m nn J : Nat) (S : NS) (D : DataW Value) (f : List UInt8 → Nat) : Prop where
  nt : Nt w w0.heap.size g c S
  own : OMap w m nn D
  owed : OwedIs D f
  mc : m ≠ c
  ml : w0.heap.size ≤ m
  n5 : S.ends = 5
  nb : nn ≤ 20000 * J
  bel : Below w0.heap.size w0 w
section
variable {w0 w w' : World} {g c m nn J : Nat} {S : NS} {D : DataW Value} {f : List UInt8 → Nat}
theorem LeR.below (h : LeR w0 w g c m nn J S D f) (hb : Below w.heap.size w w') : LeR w0 w' g c m nn J S D f :=
  ⟨h.nt.below hb, h.own.below hb, h.owed, h.mc, h.ml, h.n5, h.nb, h.bel.trans (hb.mono h.bel.size)⟩
theorem LeR.more {J' : Nat} (h : LeR w0 w g c m nn J S D f) (hJ : J ≤ J') : LeR w0 w g c m nn J' S D f :=
  ⟨h.nt, h.own, h.owed, h.mc, h.ml, h.n5, by have := h.nb; omega, h.bel⟩
theorem LeR.congr {f' : List UInt8 → Nat} (h : LeR w0 w g c m nn J S D f) (e : ∀ s, f s = f' s) : LeR w0 w g c m nn J S D f' :=
  ⟨h.nt, h.own, h.owed.congr e, h.mc, h.ml, h.n5, h.nb, h.bel⟩
theorem LeR.net {S' : NS} (h : LeR w0 w g c m nn J S D f) (hn : Nt w' w0.heap.size g c S') (hb : Below w0.heap.size w w') (hk : Kp c w w') (h5 : S'.ends = 5) : LeR w0 w' g c m nn J S' D f :=
  ⟨hn, h.own.kp hk h.mc, h.owed, h.mc, h.ml, h5, h.nb, h.bel.trans hb⟩
theorem Nt.turned (h : Nt w w0.heap.size g c S) (ho : OMap w m nn D) (hc : m ≠ c) (hg : w.grownBy w' (some m)) : Nt w' w0.heap.size g c S := by
  obtain ⟨h0, A, cap, hA, h1⟩ := h
  refine ⟨Nat.le_trans h0 hg.size, A, cap, hA, h1.but (grown_but hg) fun k hk hm => ?_⟩
  simp at hm
  subst hm
  obtain ⟨es, clock, hb, _⟩ := ho
  obtain ⟨D', hr, _⟩ := h1.raw
  rcases mem_nb.1 hk with e | e | e
  · subst e
    have := hb.symm.trans hr.blk
    injection this with e
    cases e
  · exact hc e
  · obtain ⟨cur, hcur⟩ := cells80 hr.row e
    have := hb.symm.trans hcur
    injection this with e
    cases e
theorem LeR.put {f' : List UInt8 → Nat} {J' : Nat} (h : LeR w0 w g c m nn J S D f) {s : List UInt8} {x : Int} (hx : (f' s : Int) = x) (he : ∀ r, r ≠ s → f r = f' r) (ho : OMap w' m (nn + 1) (D.put (.string s) (.lit (.int .i64 x)))) (hg : w.grownBy w' (some m)) (hJ : nn + 1 ≤ 20000 * J') :
    LeR w0 w' g c m (nn + 1) J' S (D.put (.string s) (.lit (.int .i64 x))) f' :=
  ⟨h.nt.turned h.own h.mc hg, ho, h.owed.put (World.ownsMap.isMap h.own) hx he, h.mc, h.ml, h.n5, hJ, h.bel.grown hg h.bel.size fun k hk => by injection hk with hk; have := h.ml; omega⟩
/-- .. in the midst of a round: the deed's box, and that of what was looked at -/
structure LeM (w0 w : World) (g c m nn J : Nat) (S : NS) (D : DataW Value) (f : List UInt8 → Nat) (bx : Nat) (cs : Array Value) (b10 : Nat) (ds : Array Value) (lk : Option Dt) (X : Option Addr) (cx : Nat) : Prop where
  rel : LeR w0 w g c m nn J S D f
  row : w.heap[bx]? = some (.cells cs 46 (0, 0))
  box : w.heap[b10]? = some (.cells ds 34 (0, 0))
  told : Told w w0.heap.size lk X cx
theorem Told.below' {w w' : World} {lo : Nat} {o : Option Dt} {X : Option Addr} {cx : Nat} (h : Told w lo o X cx) (hb : Below w.heap.size w w') : Told w' lo o X cx := by
  cases o with
  | none => exact h
  | some d => exact Nw.below h hb
theorem Told.lower' {w : World} {lo lo' : Nat} {o : Option Dt} {X : Option Addr} {cx : Nat} (h : Told w lo o X cx) (hl : lo' ≤ lo) : Told w lo' o X cx := by
  cases o with
  | none => exact h
  | some d => exact Nw.lower h hl
variable {bx b10 : Nat} {cs ds : Array Value} {lk : Option Dt} {X : Option Addr} {cx : Nat}
theorem LeM.below (h : LeM w0 w g c m nn J S D f bx cs b10 ds lk X cx) (hb : Below w.heap.size w w') : LeM w0 w' g c m nn J S D f bx cs b10 ds lk X cx :=
  ⟨h.rel.below hb, rowk2 hb h.row, rowk2 hb h.box, h.told.below' hb⟩
theorem LeM.net {S' : NS} (h : LeM w0 w g c m nn J S D f bx cs b10 ds lk X cx) (hn : Nt w' w0.heap.size g c S') (hb : Below w0.heap.size w w') (hk : Kp c w w') (h5 : S'.ends = 5) : LeM w0 w' g c m nn J S' D f bx cs b10 ds lk X cx :=
  ⟨h.rel.net hn hb hk h5, hk.cells _ _ _ _ h.row (by decide) (by decide), hk.cells _ _ _ _ h.box (by decide) (by decide), h.told.kp hk⟩
end
theorem joins5 {S : NS} (h : S.ends = 5) {k : Nat} (hk : k < 5) : S.joins (k : Int) = true := NS.joins_iff.2 ⟨by omega, by rw [h]; omega⟩
theorem send_full {S : NS} (h : S.ends = 5) {f t : Nat} (hf : f < 5) (ht : t < 5) {l : List UInt8} (hl : l.length ≤ 100) (hF : S.full t = true) : S.sendE (f : Int) (t : Int) l = 5 ∧ S.send (f : Int) (t : Int) l = S := by
  unfold NS.sendE NS.send
  rw [joins5 h hf, joins5 h ht]
  simp only [Bool.and_self, if_true]
  rw [if_pos (by omega), if_pos (by omega)]
  simp [NS.layE, NS.lay, hF]
theorem send_room {S : NS} (h : S.ends = 5) {f t : Nat} (hf : f < 5) (ht : t < 5) {l : List UInt8} (hl : l.length ≤ 100) (hF : S.full t = false) : S.sendE (f : Int) (t : Int) l = 0 ∧ S.send (f : Int) (t : Int) l = S.laid ⟨f, t, l⟩ := by
  unfold NS.sendE NS.send
  rw [joins5 h hf, joins5 h ht]
  simp only [Bool.and_self, if_true]
  rw [if_pos (by omega), if_pos (by omega)]
  simp [NS.layE, NS.lay, hF]
theorem copy_full {S : NS} {i : Int} {d : Dt} (h : S.look i = some d) (hF : S.full d.to = true) : S.copyE i = 5 ∧ S.copy i = S := by
  simp [NS.copyE, NS.copy, h, NS.layE, NS.lay, hF]
theorem copy_room {S : NS} {i : Int} {d : Dt} (h : S.look i = some d) (hF : S.full d.to = false) : S.copyE i = 0 ∧ S.copy i = S.laid d := by
  simp [NS.copyE, NS.copy, h, NS.layE, NS.lay, hF]
theorem copy_no {S : NS} {i : Int} (h : S.look i = none) : S.copyE i = 2 ∧ S.copy i = S := by
  simp [NS.copyE, NS.copy, h]
theorem drop_no {S : NS} {i : Int} (h : S.look i = none) : S.drop i = S := by simp [NS.drop, h]
theorem drop_ends (S : NS) (i : Int) : (S.drop i).ends = S.ends := by unfold NS.drop; split <;> rfl
theorem drop_cnt {S : NS} {i : Int} {d : Dt} (h : S.look i = some d) (s : List UInt8) : cntL S.heap s = cntL (S.drop i).heap s + if tg d = s then 1 else 0 := by
  have e : S.drop i = S.without i.toNat := by simp [NS.drop, h]
  rw [e]
  exact cntL_without S (NS.look_lt h).2.2 s
theorem look_yes {S : NS} {i : Int} {lk : Option Dt} {dd : Dt} (h : S.look i = lk) (hd : lk.getD nod = dd) (hb : lk.isSome = true) : S.look i = some dd := by
  cases lk with
  | none => cases hb
  | some d => rw [h]; simp at hd; rw [hd]
theorem look_no {S : NS} {i : Int} {lk : Option Dt} (h : S.look i = lk) (hb : lk.isSome = false) : S.look i = none := by
  cases lk with
  | none => exact h
  | some d => cases hb
theorem look_in {S : NS} (hS : S.Ok) (h5 : S.ends = 5) {i : Int} {lk : Option Dt} {dd : Dt} (h : S.look i = lk) (hd : lk.getD nod = dd) : dd.fr < 256 ∧ dd.to < 256 ∧ dd.b.length ≤ 131072 := by
  cases lk with
  | none => simp at hd; subst hd; exact ⟨by decide, by decide, by decide⟩
  | some d =>
    simp at hd
    subst hd
    have := hS.its d (NS.look_mem h)
    exact ⟨by omega, by omega, this.2.2⟩
set_option maxHeartbeats 8000000 in
theorem ledger_law (F : Option Addr) (mo co : Nat) (os : List DeedV) (w : World) (ho : DeedsAt w F mo os) (hm : mo ≤ 9223372036854775807) : Calls Try.prog 6 #[.slice F mo co] w (Awake w) := by
  have HO := Lib.hid ho
  have hmo : (mo : Int) ≤ 9223372036854775807 := by omega
  have hmm := @run_makeMap Try.prog
  clear ho hm
  go_enter Try.func6, Try.ntmps6
  go_wp2_with fail
  refine (nt_new _ 5 12 (by decide) (by decide) (by decide) (by decide)).mono ?_
  rintro e w1 ⟨g, c, rfl, hN, hb⟩
  obtain ⟨m, hm⟩ : ∃ m, w1.heap.size = m := ⟨_, rfl⟩
  obtain ⟨w2, hw2⟩ : ∃ v, w1.alloc (.map #[] 0) = v := ⟨_, rfl⟩
  have hown : OMap (w1.alloc (.map #[] 0)) w1.heap.size 0 (.map []) := World.ownsMap_made w1 Try.prog 9 (plainElem Try.prog 3)
  have hmc : m ≠ c := by
    obtain ⟨_, A, cap, _, h1⟩ := hN
    have := h1.in_ c (by simp [Nb])
    omega
  rw [hw2, hm] at hown
  have hW : Below w1.heap.size w1 w2 := hw2 ▸ (Below.refl _ _).alloc (Nat.le_refl _) _
  have h0 : Hid (LeR w w2 g c m 0 0 (NS.new 5 12) (.map []) fun s => cntL (NS.new 5 12).heap s) :=
    Lib.hid ⟨hN.below hW, hown, OwedIs.empty.congr fun s => by simp [cntL, NS.new], hmc, by rw [← hm]; exact hb.size, rfl, by omega, hb.trans (hW.mono hb.size)⟩
  have HW0 := Lib.hid (And.intro hm hw2)
  clear hN hb hown hmc hW hm hw2
  go_wp2
  clear hmm
  rw [HW0.out.1, HW0.out.2]
  go_loopw [6] (fun i wr => ∃ (j nn : Nat) (S : NS) (D : DataW Value), j ≤ mo ∧ j ≤ 80 ∧ i = .int .i64 j ∧ Hid (LeR w wr g c m nn j S D fun s => cntL S.heap s)) (fun i _ => 80 - (Go.RowKit.intOf i).toNat)
  case atStart => exact ⟨0, 0, _, _, by omega, by omega, rfl, h0⟩
  case round =>
    obtain ⟨j, nn, S, D, hj, hj8, rfl, HR⟩ := hrel
    clear h0
    by_cases hjm : j < mo
    · by_cases hj80 : j < 80
      · obtain ⟨o, ad, hoj, hok, rfl, hload⟩ := (DeedsAt.below HO.out HR.out.bel (Nat.le_refl _)).get hjm
        have hok0 := (HO.out.at_ j o hoj).1
        obtain ⟨y, hy⟩ : ∃ y, o.kd = y := ⟨_, rfl⟩
        rw [hy] at hload
        have hij : (0 : Int) ≤ (j : Int) := by omega
        have hjn : (j : Int) < (mo : Int) := by omega
        have hj8i : (j : Int) < 80 := by omega
        have hw1 : IntKind.i64.wrap ((j : Int) + 1) = (j : Int) + 1 := IntWalk.i64_in _ (by omega)
        obtain ⟨cs, hcs⟩ : ∃ cs : Array Value, #[.int .u8 y, .int .i64 o.fr, .int .i64 o.tt, .int .i64 o.at_, .slice o.X o.n o.c] = cs := ⟨_, rfl⟩
        obtain ⟨w3, hw3⟩ : ∃ v, wr.alloc (.cells #[.int .u8 y, .int .i64 o.fr, .int .i64 o.tt, .int .i64 o.at_, .slice o.X o.n o.c] 46) = v := ⟨_, rfl⟩
        have hB3 : Below wr.heap.size wr w3 := hw3 ▸ (Below.refl _ _).alloc (Nat.le_refl _) _
        have hr3 : w3.heap[wr.heap.size]? = some (.cells #[.int .u8 y, .int .i64 o.fr, .int .i64 o.tt, .int .i64 o.at_, .slice o.X o.n o.c] 46 (0, 0)) := hw3 ▸ heap_alloc_new _ _
        obtain ⟨bx, hbx⟩ : ∃ b, wr.heap.size = b := ⟨_, rfl⟩
        have hk255 : 0 ≤ y ∧ y ≤ 255 := hy ▸ hok.kd
        have hlen := hok.rd.len
        by_cases hn100 : o.n ≤ 100
        · have hn1 : (o.n : Int) ≤ 100 := by omega
          have hl100 : o.l.length ≤ 100 := by omega
          have HRD0 : Hid (Rd w o.X o.n o.l) := Lib.hid hok0.rd
          obtain ⟨f5, hf5⟩ : ∃ f, pk o.fr 5 = f := ⟨_, rfl⟩
          obtain ⟨t5, ht5⟩ : ∃ f, pk o.tt 5 = f := ⟨_, rfl⟩
          have hf5l : f5 < 5 := by rw [← hf5]; exact pk_lt _ (by decide)
          have ht5l : t5 < 5 := by rw [← ht5]; exact pk_lt _ (by decide)
          have HX := Lib.hid (And.intro hok (And.intro hjm (And.intro hj80 (And.intro hf5l (And.intro ht5l hl100)))))
          have HP := Lib.hid (And.intro hf5 ht5)
          have HW := Lib.hid (And.intro hw3 hbx)
          have H3 := Lib.hid (And.intro (HR.out.below hB3) (hbx ▸ hr3))
          have HC := Lib.hid hcs
          clear hok hjm hj80 hf5 ht5 hf5l ht5l hw3 hbx hB3 hr3 hn100 hl100 hj hj8 HR hoj hok0 hlen hy hcs
          go_upto_region 10 with (refine wpList_load rfl 46 _ rfl _ rfl _ hload ?_)
          rw [HW.out.1, HW.out.2]
          clear HW hload
          refine wp_region_held_drew (S := fun v => Below w3.heap.size w3 v) (by kernel_rfl) (((Below.refl w3.heap.size w3).drew)) (fun hHeld => ?_)
          refine wpAnyH_take (i := 0) (oi := ⟨some 42, _, _, _, _, _⟩) (v := ?_) rfl (by kernel_rfl) (by kernel_rfl) (by kernel_rfl) (fun _ _ _ h => h) (Or.inl ⟨by rfl, ?_⟩) (by assumption) ?_
          rotate_left
          · intro w hSw
            (try dsimp only at hSw)
            go_simp
            all_goals (with_reducible rfl)
          try simp only [Act.put, List.setIfInBounds_toArray, List.set_cons_zero, List.set_cons_succ]
          refine wpAnyH_take (i := 1) (oi := ⟨some 43, _, _, _, _, _⟩) (v := ?_) rfl (by kernel_rfl) (by kernel_rfl) (by kernel_rfl) (fun _ _ _ h => h) (Or.inl ⟨by rfl, ?_⟩) (by assumption) ?_
          rotate_left
          · intro w hSw
            have cc : w.cell? ⟨bx, 1, none⟩ = some (.int .i64 o.fr) := (cell_of_row _ _ 1 _ 46 (0, 0) (rowk2 hSw H3.out.2)).trans rfl
            go_simp
            all_goals (with_reducible rfl)
          try simp only [Act.put, List.setIfInBounds_toArray, List.set_cons_zero, List.set_cons_succ]
          refine wpAnyH_take (i := 3) (oi := ⟨some 45, _, _, _, _, _⟩) (v := ?_) rfl (by kernel_rfl) (by kernel_rfl) (by kernel_rfl) (fun _ _ _ h => h) (Or.inl ⟨by rfl, ?_⟩) (by assumption) ?_
          rotate_left
          · intro w hSw
            (try dsimp only at hSw)
            go_simp
            all_goals (with_reducible rfl)
          try simp only [Act.put, List.setIfInBounds_toArray, List.set_cons_zero, List.set_cons_succ]
          refine wpAnyH_take (i := 4) (oi := ⟨some 46, _, _, _, _, _⟩) (v := ?_) rfl (by kernel_rfl) (by kernel_rfl) (by kernel_rfl) (fun _ _ _ h => h) (Or.inl ⟨by rfl, ?_⟩) (by assumption) ?_
          rotate_left
          · intro w hSw
            have cc : w.cell? ⟨bx, 2, none⟩ = some (.int .i64 o.tt) := (cell_of_row _ _ 2 _ 46 (0, 0) (rowk2 hSw H3.out.2)).trans rfl
            go_simp
            all_goals (with_reducible rfl)
          try simp only [Act.put, List.setIfInBounds_toArray, List.set_cons_zero, List.set_cons_succ]
          refine wpAnyH_ready (rs := [2]) (by kernel_rfl) (by simp) (AllReadyH.cons (o := ⟨some 44, _, _, _, _, _⟩) rfl (fun K hK => ?_) AllReadyH.nil)
          go_simp
          refine (pick_any o.fr 5 (by decide) (by decide) HX.out.1.fr _).mono ?_
          rintro e _ ⟨rfl, rfl⟩
          rw [HP.out.1]
          refine hK.out _ _ (((Below.refl w3.heap.size w3).drew)) (fun hHeld => ?_)
          clear hK K
          try simp only [Act.put, List.setIfInBounds_toArray, List.set_cons_zero, List.set_cons_succ]
          refine wpAnyH_ready (rs := [5]) (by kernel_rfl) (by simp) (AllReadyH.cons (o := ⟨some 47, _, _, _, _, _⟩) rfl (fun K hK => ?_) AllReadyH.nil)
          go_simp
          refine (pick_any o.tt 5 (by decide) (by decide) HX.out.1.tt _).mono ?_
          rintro e _ ⟨rfl, rfl⟩
          rw [HP.out.2]
          refine hK.out _ _ (((Below.refl w3.heap.size w3).drew)) (fun hHeld => ?_)
          clear hK K
          try simp only [Act.put, List.setIfInBounds_toArray, List.set_cons_zero, List.set_cons_succ]
          refine wpAnyH_take (i := 6) (oi := ⟨some 8, _, _, _, _, _⟩) (v := ?_) rfl (by kernel_rfl) (by kernel_rfl) (by kernel_rfl) (fun _ _ _ h => h) (Or.inl ⟨by rfl, ?_⟩) (by assumption) ?_
          rotate_left
          · intro w hSw
            (try dsimp only at hSw)
            go_simp
            all_goals (with_reducible rfl)
          try simp only [Act.put, List.setIfInBounds_toArray, List.set_cons_zero, List.set_cons_succ]
          refine wpAnyH_take (i := 7) (oi := ⟨some 9, _, _, _, _, _⟩) (v := ?_) rfl (by kernel_rfl) (by kernel_rfl) (by kernel_rfl) (fun _ _ _ h => h) (Or.inl ⟨by rfl, ?_⟩) (by assumption) ?_
          rotate_left
          · intro w hSw
            (try dsimp only at hSw)
            go_simp
            all_goals (with_reducible rfl)
          try simp only [Act.put, List.setIfInBounds_toArray, List.set_cons_zero, List.set_cons_succ]
          refine wpAnyH_done (by kernel_rfl) ?_ _
          clear hHeld
          obtain ⟨w4, hw4⟩ : ∃ v, w3.drew = v := ⟨_, rfl⟩
          have hd4 : Below w3.heap.size w3 w4 := hw4 ▸ (Below.refl w3.heap.size w3).drew
          have H4 := Lib.hid (And.intro (H3.out.1.below hd4) (rowk2 hd4 H3.out.2))
          rw [hw4]
          clear hw4 hd4 H3 HP
          have c3 : w4.cell? ⟨bx, 3, none⟩ = some (.int .i64 o.at_) := (cell_of_row _ _ 3 _ 46 (0, 0) H4.out.2).trans rfl
          obtain ⟨lk, hlk⟩ : ∃ lk, S.look o.at_ = lk := ⟨_, rfl⟩
          obtain ⟨dd, hdd⟩ : ∃ dd, lk.getD nod = dd := ⟨_, rfl⟩
          obtain ⟨bt, hbt⟩ : ∃ bt, lk.isSome = bt := ⟨_, rfl⟩
          have hin := look_in H4.out.1.nt.ok H4.out.1.n5 hlk hdd
          obtain ⟨f, hf⟩ : ∃ f, dd.fr = f := ⟨_, rfl⟩
          obtain ⟨t, ht⟩ : ∃ f, dd.to = f := ⟨_, rfl⟩
          rw [hf, ht] at hin
          have HL := Lib.hid (And.intro hlk (And.intro hdd (And.intro hbt (And.intro hf (And.intro ht hin)))))
          clear hlk hdd hbt hf ht hin
          go_wp2_with fail
          refine (nt_look _ H4.out.1.nt o.at_ HL.out.1).mono ?_
          rintro e w5 ⟨X2, cx2, rfl, hT, hb⟩
          rw [HL.out.2.1, HL.out.2.2.1, HL.out.2.2.2.1, HL.out.2.2.2.2.1]
          obtain ⟨w6, hw6⟩ : ∃ v, w5.alloc (.cells #[.int .i64 (f : Int), .int .i64 (t : Int), .slice X2 dd.b.length cx2] 34) = v := ⟨_, rfl⟩
          have hB6 : Below w5.heap.size w5 w6 := hw6 ▸ (Below.refl _ _).alloc (Nat.le_refl _) _
          have hr6 : w6.heap[w5.heap.size]? = some (.cells #[.int .i64 (f : Int), .int .i64 (t : Int), .slice X2 dd.b.length cx2] 34 (0, 0)) := hw6 ▸ heap_alloc_new _ _
          obtain ⟨b10, hb10⟩ : ∃ b, w5.heap.size = b := ⟨_, rfl⟩
          have hb46 : Below w4.heap.size w4 w6 := hb.trans (hB6.mono hb.size)
          have HM : Hid (LeM w w6 g c m nn j S D (fun s => cntL S.heap s) bx #[.int .u8 y, .int .i64 o.fr, .int .i64 o.tt, .int .i64 o.at_, .slice o.X o.n o.c] b10 #[.int .i64 (f : Int), .int .i64 (t : Int), .slice X2 dd.b.length cx2] lk X2 cx2) :=
            Lib.hid ⟨H4.out.1.below hb46, rowk2 hb46 H4.out.2, hb10 ▸ hr6, (hT.below' hB6).lower' H4.out.1.bel.size⟩
          have HW6 := Lib.hid (And.intro hw6 hb10)
          have hmax : nn < maxLen := by have := H4.out.1.nb; have := HX.out.2.2.1; unfold maxLen; omega
          clear hT hb hB6 hr6 hb46 H4 c3 hw6 hb10
          go_upto_region 12 with (fail)
          rw [HW6.out.1, HW6.out.2]
          clear HW6
          by_cases hy0 : y = 0
          · subst hy0
            have c0 : w6.cell? ⟨bx, 0, none⟩ = some (.int .u8 0) := (cell_of_row _ _ 0 _ 46 (0, 0) HM.out.row).trans rfl
            have c4 : w6.cell? ⟨bx, 4, none⟩ = some (.slice o.X o.n o.c) := (cell_of_row _ _ 4 _ 46 (0, 0) HM.out.row).trans rfl
            by_cases hF : S.full t5 = true
            · obtain ⟨e1, e2⟩ := send_full HM.out.rel.n5 HX.out.2.2.2.1 HX.out.2.2.2.2.1 HX.out.2.2.2.2.2 hF
              have HE12 := Lib.hid (And.intro e1 e2)
              clear e1 e2 hF
              go_wp2_with fail
              refine (nt_send _ HM.out.rel.nt (f5 : Int) (t5 : Int) (HRD0.out.below HM.out.rel.bel (Nat.le_refl _)) o.c HE12.out.1 HE12.out.2).mono ?_
              rintro e w7 ⟨rfl, hn, hb, hk⟩
              have HF := Lib.hid ((HM.out.rel.net hn hb hk HM.out.rel.n5).more (Nat.le_succ j))
              clear hn hb hk HM c0 c4
              go_wp2_with fail
              refine (balanced_is _ HF.out.nt (by have := HF.out.n5; omega) HF.out.own HF.out.owed).mono ?_
              rintro e v9 ⟨rfl, hb⟩
              have HE : Hid (LeR w v9 g c m _ (j + 1) _ _ _) := Lib.hid (HF.out.below hb)
              have HJ := Lib.hid (And.intro HX.out.2.1 HX.out.2.2.1)
              clear hb HF
              go_wp2
              go_roundw
              case rel => exact ⟨j + 1, _, _, _, by have := HJ.out.1; omega, by have := HJ.out.2; omega, by go_num, HE⟩
              case measure => have := HJ.out; simp [Go.RowKit.intOf]; omega
            · have hF : S.full t5 = false := by simpa using hF
              obtain ⟨e1, e2⟩ := send_room HM.out.rel.n5 HX.out.2.2.2.1 HX.out.2.2.2.2.1 HX.out.2.2.2.2.2 hF
              have HE12 := Lib.hid (And.intro e1 e2)
              clear e1 e2 hF
              obtain ⟨s, hs⟩ : ∃ s, tagL f5 t5 o.l = s := ⟨_, rfl⟩
              obtain ⟨k0, hk0⟩ : ∃ k0, cntL S.heap s = k0 := ⟨_, rfl⟩
              have hk1 : k0 ≤ 10000 := by have := cntL_le S.heap s; have := HM.out.rel.nt.ok.len; omega
              have hws : IntKind.i64.wrap ((k0 : Int) + 1) = (k0 : Int) + 1 := IntWalk.i64_in _ (by omega)
              have hpl : plainElem (H := Value) Try.prog 3 (.int .i64 ((k0 : Int) + 1)) = some (.lit (.int .i64 ((k0 : Int) + 1)), []) := plainElem_int Try.underlying3 (i64_wf (by omega) (by omega))
              have hkey : keyOf Try.prog 9 (.string ⟨s.toArray⟩) = some (.string s) := keyS (by have := HX.out.2.2.2.2.2; rw [← hs]; simp [tagL]; omega)
              have HK := Lib.hid (And.intro hk0 hs)
              clear hk0 hs hk1
              go_wp2_with fail
              refine (nt_send _ HM.out.rel.nt (f5 : Int) (t5 : Int) (HRD0.out.below HM.out.rel.bel (Nat.le_refl _)) o.c HE12.out.1 HE12.out.2).mono ?_
              rintro e w7 ⟨rfl, hn, hb, hk⟩
              have H7 := Lib.hid (HM.out.net hn hb hk HM.out.rel.n5)
              clear hn hb hk HM c0 c4
              have c4 : w7.cell? ⟨bx, 4, none⟩ = some (.slice o.X o.n o.c) := (cell_of_row _ _ 4 _ 46 (0, 0) H7.out.row).trans rfl
              go_wp2_with fail
              refine (tag_is w7 (f := f5) (t := t5) (by have := HX.out.2.2.2.1; omega) (by have := HX.out.2.2.2.2.1; omega) (HRD0.out.below H7.out.rel.bel (Nat.le_refl _)) (by have := HX.out.2.2.2.2.2; omega)).mono ?_
              rintro e v7 ⟨rfl, hb⟩
              rw [HK.out.2]
              have HN := Lib.hid (H7.out.rel.below hb)
              clear hb H7 c4
              go_wp2_with (first
                | (at_lookup; refine wpList_lookup_own_int _ rfl _ _ 62 rfl 9 3 .i64 (Maps.string_keyed Try.underlying9) Try.underlying62 Try.underlying3 (Try.zeroValue3 _) m nn D rfl HN.out.own _ _ rfl hkey ?_; intro c0 hat hwc; obtain rfl : (k0 : Int) = c0 := HN.out.owed.num HK.out.1 hat; clear hat hwc)
                | (at_mapUpdate; refine wpList_mapUpdate_own _ rfl _ _ _ 62 rfl 9 3 (Maps.string_keyed Try.underlying9) Try.underlying62 (plainElem Try.prog 3) m nn D rfl HN.out.own hmax _ _ (.string s) rfl rfl hkey _ [] hpl ?_; intro v8 hown8 hgrow8))
              have HF := Lib.hid (HN.out.put (J' := j + 1) (f' := fun s => cntL (S.laid ⟨f5, t5, o.l⟩).heap s) (by show ((cntL (S.laid ⟨f5, t5, o.l⟩).heap s : Nat) : Int) = _; rw [cntL_laid, HK.out.1, if_pos (show tg ⟨f5, t5, o.l⟩ = s from HK.out.2)]; omega) (fun r hr => by show _ = cntL (S.laid ⟨f5, t5, o.l⟩).heap r; rw [cntL_laid, if_neg (show ¬ tg ⟨f5, t5, o.l⟩ = r from fun e => hr (e.symm.trans HK.out.2))]; rfl) hown8 hgrow8 (by have := HN.out.nb; omega))
              clear hown8 hgrow8 HN
              go_wp2_with fail
              refine (balanced_is _ HF.out.nt (by have := HF.out.n5; omega) HF.out.own HF.out.owed).mono ?_
              rintro e v9 ⟨rfl, hb⟩
              have HE : Hid (LeR w v9 g c m _ (j + 1) _ _ _) := Lib.hid (HF.out.below hb)
              have HJ := Lib.hid (And.intro HX.out.2.1 HX.out.2.2.1)
              clear hb HF
              go_wp2
              go_roundw
              case rel => exact ⟨j + 1, _, _, _, by have := HJ.out.1; omega, by have := HJ.out.2; omega, by go_num, HE⟩
              case measure => have := HJ.out; simp [Go.RowKit.intOf]; omega
          by_cases hy1 : y = 1
          · subst hy1
            have c0 : w6.cell? ⟨bx, 0, none⟩ = some (.int .u8 1) := (cell_of_row _ _ 0 _ 46 (0, 0) HM.out.row).trans rfl
            have c4 : w6.cell? ⟨bx, 4, none⟩ = some (.slice o.X o.n o.c) := (cell_of_row _ _ 4 _ 46 (0, 0) HM.out.row).trans rfl
            by_cases hF : S.full t5 = true
            · obtain ⟨e1, e2⟩ := send_full HM.out.rel.n5 HX.out.2.2.2.1 HX.out.2.2.2.2.1 HX.out.2.2.2.2.2 hF
              have HE12 := Lib.hid (And.intro e1 e2)
              clear e1 e2 hF
              go_wp2_with fail
              refine (nt_send _ HM.out.rel.nt (f5 : Int) (t5 : Int) (HRD0.out.below HM.out.rel.bel (Nat.le_refl _)) o.c HE12.out.1 HE12.out.2).mono ?_
              rintro e w7 ⟨rfl, hn, hb, hk⟩
              have HF := Lib.hid ((HM.out.rel.net hn hb hk HM.out.rel.n5).more (Nat.le_succ j))
              clear hn hb hk HM c0 c4
              go_wp2_with fail
              refine (balanced_is _ HF.out.nt (by have := HF.out.n5; omega) HF.out.own HF.out.owed).mono ?_
              rintro e v9 ⟨rfl, hb⟩
              have HE : Hid (LeR w v9 g c m _ (j + 1) _ _ _) := Lib.hid (HF.out.below hb)
              have HJ := Lib.hid (And.intro HX.out.2.1 HX.out.2.2.1)
              clear hb HF
              go_wp2
              go_roundw
              case rel => exact ⟨j + 1, _, _, _, by have := HJ.out.1; omega, by have := HJ.out.2; omega, by go_num, HE⟩
              case measure => have := HJ.out; simp [Go.RowKit.intOf]; omega
            · have hF : S.full t5 = false := by simpa using hF
              obtain ⟨e1, e2⟩ := send_room HM.out.rel.n5 HX.out.2.2.2.1 HX.out.2.2.2.2.1 HX.out.2.2.2.2.2 hF
              have HE12 := Lib.hid (And.intro e1 e2)
              clear e1 e2 hF
              obtain ⟨s, hs⟩ : ∃ s, tagL f5 t5 o.l = s := ⟨_, rfl⟩
              obtain ⟨k0, hk0⟩ : ∃ k0, cntL S.heap s = k0 := ⟨_, rfl⟩
              have hk1 : k0 ≤ 10000 := by have := cntL_le S.heap s; have := HM.out.rel.nt.ok.len; omega
              have hws : IntKind.i64.wrap ((k0 : Int) + 1) = (k0 : Int) + 1 := IntWalk.i64_in _ (by omega)
              have hpl : plainElem (H := Value) Try.prog 3 (.int .i64 ((k0 : Int) + 1)) = some (.lit (.int .i64 ((k0 : Int) + 1)), []) := plainElem_int Try.underlying3 (i64_wf (by omega) (by omega))
              have hkey : keyOf Try.prog 9 (.string ⟨s.toArray⟩) = some (.string s) := keyS (by have := HX.out.2.2.2.2.2; rw [← hs]; simp [tagL]; omega)
              have HK := Lib.hid (And.intro hk0 hs)
              clear hk0 hs hk1
              go_wp2_with fail
              refine (nt_send _ HM.out.rel.nt (f5 : Int) (t5 : Int) (HRD0.out.below HM.out.rel.bel (Nat.le_refl _)) o.c HE12.out.1 HE12.out.2).mono ?_
              rintro e w7 ⟨rfl, hn, hb, hk⟩
              have H7 := Lib.hid (HM.out.net hn hb hk HM.out.rel.n5)
              clear hn hb hk HM c0 c4
              have c4 : w7.cell? ⟨bx, 4, none⟩ = some (.slice o.X o.n o.c) := (cell_of_row _ _ 4 _ 46 (0, 0) H7.out.row).trans rfl
              go_wp2_with fail
              refine (tag_is w7 (f := f5) (t := t5) (by have := HX.out.2.2.2.1; omega) (by have := HX.out.2.2.2.2.1; omega) (HRD0.out.below H7.out.rel.bel (Nat.le_refl _)) (by have := HX.out.2.2.2.2.2; omega)).mono ?_
              rintro e v7 ⟨rfl, hb⟩
              rw [HK.out.2]
              have HN := Lib.hid (H7.out.rel.below hb)
              clear hb H7 c4
              go_wp2_with (first
                | (at_lookup; refine wpList_lookup_own_int _ rfl _ _ 62 rfl 9 3 .i64 (Maps.string_keyed Try.underlying9) Try.underlying62 Try.underlying3 (Try.zeroValue3 _) m nn D rfl HN.out.own _ _ rfl hkey ?_; intro c0 hat hwc; obtain rfl : (k0 : Int) = c0 := HN.out.owed.num HK.out.1 hat; clear hat hwc)
                | (at_mapUpdate; refine wpList_mapUpdate_own _ rfl _ _ _ 62 rfl 9 3 (Maps.string_keyed Try.underlying9) Try.underlying62 (plainElem Try.prog 3) m nn D rfl HN.out.own hmax _ _ (.string s) rfl rfl hkey _ [] hpl ?_; intro v8 hown8 hgrow8))
              have HF := Lib.hid (HN.out.put (J' := j + 1) (f' := fun s => cntL (S.laid ⟨f5, t5, o.l⟩).heap s) (by show ((cntL (S.laid ⟨f5, t5, o.l⟩).heap s : Nat) : Int) = _; rw [cntL_laid, HK.out.1, if_pos (show tg ⟨f5, t5, o.l⟩ = s from HK.out.2)]; omega) (fun r hr => by show _ = cntL (S.laid ⟨f5, t5, o.l⟩).heap r; rw [cntL_laid, if_neg (show ¬ tg ⟨f5, t5, o.l⟩ = r from fun e => hr (e.symm.trans HK.out.2))]; rfl) hown8 hgrow8 (by have := HN.out.nb; omega))
              clear hown8 hgrow8 HN
              go_wp2_with fail
              refine (balanced_is _ HF.out.nt (by have := HF.out.n5; omega) HF.out.own HF.out.owed).mono ?_
              rintro e v9 ⟨rfl, hb⟩
              have HE : Hid (LeR w v9 g c m _ (j + 1) _ _ _) := Lib.hid (HF.out.below hb)
              have HJ := Lib.hid (And.intro HX.out.2.1 HX.out.2.2.1)
              clear hb HF
              go_wp2
              go_roundw
              case rel => exact ⟨j + 1, _, _, _, by have := HJ.out.1; omega, by have := HJ.out.2; omega, by go_num, HE⟩
              case measure => have := HJ.out; simp [Go.RowKit.intOf]; omega
          by_cases hy2 : y = 2
          · subst hy2
            have c0 : w6.cell? ⟨bx, 0, none⟩ = some (.int .u8 2) := (cell_of_row _ _ 0 _ 46 (0, 0) HM.out.row).trans rfl
            have c4 : w6.cell? ⟨bx, 4, none⟩ = some (.slice o.X o.n o.c) := (cell_of_row _ _ 4 _ 46 (0, 0) HM.out.row).trans rfl
            by_cases hF : S.full t5 = true
            · obtain ⟨e1, e2⟩ := send_full HM.out.rel.n5 HX.out.2.2.2.1 HX.out.2.2.2.2.1 HX.out.2.2.2.2.2 hF
              have HE12 := Lib.hid (And.intro e1 e2)
              clear e1 e2 hF
              go_wp2_with fail
              refine (nt_send _ HM.out.rel.nt (f5 : Int) (t5 : Int) (HRD0.out.below HM.out.rel.bel (Nat.le_refl _)) o.c HE12.out.1 HE12.out.2).mono ?_
              rintro e w7 ⟨rfl, hn, hb, hk⟩
              have HF := Lib.hid ((HM.out.rel.net hn hb hk HM.out.rel.n5).more (Nat.le_succ j))
              clear hn hb hk HM c0 c4
              go_wp2_with fail
              refine (balanced_is _ HF.out.nt (by have := HF.out.n5; omega) HF.out.own HF.out.owed).mono ?_
              rintro e v9 ⟨rfl, hb⟩
              have HE : Hid (LeR w v9 g c m _ (j + 1) _ _ _) := Lib.hid (HF.out.below hb)
              have HJ := Lib.hid (And.intro HX.out.2.1 HX.out.2.2.1)
              clear hb HF
              go_wp2
              go_roundw
              case rel => exact ⟨j + 1, _, _, _, by have := HJ.out.1; omega, by have := HJ.out.2; omega, by go_num, HE⟩
              case measure => have := HJ.out; simp [Go.RowKit.intOf]; omega
            · have hF : S.full t5 = false := by simpa using hF
              obtain ⟨e1, e2⟩ := send_room HM.out.rel.n5 HX.out.2.2.2.1 HX.out.2.2.2.2.1 HX.out.2.2.2.2.2 hF
              have HE12 := Lib.hid (And.intro e1 e2)
              clear e1 e2 hF
              obtain ⟨s, hs⟩ : ∃ s, tagL f5 t5 o.l = s := ⟨_, rfl⟩
              obtain ⟨k0, hk0⟩ : ∃ k0, cntL S.heap s = k0 := ⟨_, rfl⟩
              have hk1 : k0 ≤ 10000 := by have := cntL_le S.heap s; have := HM.out.rel.nt.ok.len; omega
              have hws : IntKind.i64.wrap ((k0 : Int) + 1) = (k0 : Int) + 1 := IntWalk.i64_in _ (by omega)
              have hpl : plainElem (H := Value) Try.prog 3 (.int .i64 ((k0 : Int) + 1)) = some (.lit (.int .i64 ((k0 : Int) + 1)), []) := plainElem_int Try.underlying3 (i64_wf (by omega) (by omega))
              have hkey : keyOf Try.prog 9 (.string ⟨s.toArray⟩) = some (.string s) := keyS (by have := HX.out.2.2.2.2.2; rw [← hs]; simp [tagL]; omega)
              have HK := Lib.hid (And.intro hk0 hs)
              clear hk0 hs hk1
              go_wp2_with fail
              refine (nt_send _ HM.out.rel.nt (f5 : Int) (t5 : Int) (HRD0.out.below HM.out.rel.bel (Nat.le_refl _)) o.c HE12.out.1 HE12.out.2).mono ?_
              rintro e w7 ⟨rfl, hn, hb, hk⟩
              have H7 := Lib.hid (HM.out.net hn hb hk HM.out.rel.n5)
              clear hn hb hk HM c0 c4
              have c4 : w7.cell? ⟨bx, 4, none⟩ = some (.slice o.X o.n o.c) := (cell_of_row _ _ 4 _ 46 (0, 0) H7.out.row).trans rfl
              go_wp2_with fail
              refine (tag_is w7 (f := f5) (t := t5) (by have := HX.out.2.2.2.1; omega) (by have := HX.out.2.2.2.2.1; omega) (HRD0.out.below H7.out.rel.bel (Nat.le_refl _)) (by have := HX.out.2.2.2.2.2; omega)).mono ?_
              rintro e v7 ⟨rfl, hb⟩
              rw [HK.out.2]
              have HN := Lib.hid (H7.out.rel.below hb)
              clear hb H7 c4
              go_wp2_with (first
                | (at_lookup; refine wpList_lookup_own_int _ rfl _ _ 62 rfl 9 3 .i64 (Maps.string_keyed Try.underlying9) Try.underlying62 Try.underlying3 (Try.zeroValue3 _) m nn D rfl HN.out.own _ _ rfl hkey ?_; intro c0 hat hwc; obtain rfl : (k0 : Int) = c0 := HN.out.owed.num HK.out.1 hat; clear hat hwc)
                | (at_mapUpdate; refine wpList_mapUpdate_own _ rfl _ _ _ 62 rfl 9 3 (Maps.string_keyed Try.underlying9) Try.underlying62 (plainElem Try.prog 3) m nn D rfl HN.out.own hmax _ _ (.string s) rfl rfl hkey _ [] hpl ?_; intro v8 hown8 hgrow8))
              have HF := Lib.hid (HN.out.put (J' := j + 1) (f' := fun s => cntL (S.laid ⟨f5, t5, o.l⟩).heap s) (by show ((cntL (S.laid ⟨f5, t5, o.l⟩).heap s : Nat) : Int) = _; rw [cntL_laid, HK.out.1, if_pos (show tg ⟨f5, t5, o.l⟩ = s from HK.out.2)]; omega) (fun r hr => by show _ = cntL (S.laid ⟨f5, t5, o.l⟩).heap r; rw [cntL_laid, if_neg (show ¬ tg ⟨f5, t5, o.l⟩ = r from fun e => hr (e.symm.trans HK.out.2))]; rfl) hown8 hgrow8 (by have := HN.out.nb; omega))
              clear hown8 hgrow8 HN
              go_wp2_with fail
              refine (balanced_is _ HF.out.nt (by have := HF.out.n5; omega) HF.out.own HF.out.owed).mono ?_
              rintro e v9 ⟨rfl, hb⟩
              have HE : Hid (LeR w v9 g c m _ (j + 1) _ _ _) := Lib.hid (HF.out.below hb)
              have HJ := Lib.hid (And.intro HX.out.2.1 HX.out.2.2.1)
              clear hb HF
              go_wp2
              go_roundw
              case rel => exact ⟨j + 1, _, _, _, by have := HJ.out.1; omega, by have := HJ.out.2; omega, by go_num, HE⟩
              case measure => have := HJ.out; simp [Go.RowKit.intOf]; omega
          by_cases hy3 : y = 3
          · subst hy3
            have c0 : w6.cell? ⟨bx, 0, none⟩ = some (.int .u8 3) := (cell_of_row _ _ 0 _ 46 (0, 0) HM.out.row).trans rfl
            have c4 : w6.cell? ⟨bx, 4, none⟩ = some (.slice o.X o.n o.c) := (cell_of_row _ _ 4 _ 46 (0, 0) HM.out.row).trans rfl
            by_cases hF : S.full t5 = true
            · obtain ⟨e1, e2⟩ := send_full HM.out.rel.n5 HX.out.2.2.2.1 HX.out.2.2.2.2.1 HX.out.2.2.2.2.2 hF
              have HE12 := Lib.hid (And.intro e1 e2)
              clear e1 e2 hF
              go_wp2_with fail
              refine (nt_send _ HM.out.rel.nt (f5 : Int) (t5 : Int) (HRD0.out.below HM.out.rel.bel (Nat.le_refl _)) o.c HE12.out.1 HE12.out.2).mono ?_
              rintro e w7 ⟨rfl, hn, hb, hk⟩
              have HF := Lib.hid ((HM.out.rel.net hn hb hk HM.out.rel.n5).more (Nat.le_succ j))
              clear hn hb hk HM c0 c4
              go_wp2_with fail
              refine (balanced_is _ HF.out.nt (by have := HF.out.n5; omega) HF.out.own HF.out.owed).mono ?_
              rintro e v9 ⟨rfl, hb⟩
              have HE : Hid (LeR w v9 g c m _ (j + 1) _ _ _) := Lib.hid (HF.out.below hb)
              have HJ := Lib.hid (And.intro HX.out.2.1 HX.out.2.2.1)
              clear hb HF
              go_wp2
              go_roundw
              case rel => exact ⟨j + 1, _, _, _, by have := HJ.out.1; omega, by have := HJ.out.2; omega, by go_num, HE⟩
              case measure => have := HJ.out; simp [Go.RowKit.intOf]; omega
            · have hF : S.full t5 = false := by simpa using hF
              obtain ⟨e1, e2⟩ := send_room HM.out.rel.n5 HX.out.2.2.2.1 HX.out.2.2.2.2.1 HX.out.2.2.2.2.2 hF
              have HE12 := Lib.hid (And.intro e1 e2)
              clear e1 e2 hF
              obtain ⟨s, hs⟩ : ∃ s, tagL f5 t5 o.l = s := ⟨_, rfl⟩
              obtain ⟨k0, hk0⟩ : ∃ k0, cntL S.heap s = k0 := ⟨_, rfl⟩
              have hk1 : k0 ≤ 10000 := by have := cntL_le S.heap s; have := HM.out.rel.nt.ok.len; omega
              have hws : IntKind.i64.wrap ((k0 : Int) + 1) = (k0 : Int) + 1 := IntWalk.i64_in _ (by omega)
              have hpl : plainElem (H := Value) Try.prog 3 (.int .i64 ((k0 : Int) + 1)) = some (.lit (.int .i64 ((k0 : Int) + 1)), []) := plainElem_int Try.underlying3 (i64_wf (by omega) (by omega))
              have hkey : keyOf Try.prog 9 (.string ⟨s.toArray⟩) = some (.string s) := keyS (by have := HX.out.2.2.2.2.2; rw [← hs]; simp [tagL]; omega)
              have HK := Lib.hid (And.intro hk0 hs)
              clear hk0 hs hk1
              go_wp2_with fail
              refine (nt_send _ HM.out.rel.nt (f5 : Int) (t5 : Int) (HRD0.out.below HM.out.rel.bel (Nat.le_refl _)) o.c HE12.out.1 HE12.out.2).mono ?_
              rintro e w7 ⟨rfl, hn, hb, hk⟩
              have H7 := Lib.hid (HM.out.net hn hb hk HM.out.rel.n5)
              clear hn hb hk HM c0 c4
              have c4 : w7.cell? ⟨bx, 4, none⟩ = some (.slice o.X o.n o.c) := (cell_of_row _ _ 4 _ 46 (0, 0) H7.out.row).trans rfl
              go_wp2_with fail
              refine (tag_is w7 (f := f5) (t := t5) (by have := HX.out.2.2.2.1; omega) (by have := HX.out.2.2.2.2.1; omega) (HRD0.out.below H7.out.rel.bel (Nat.le_refl _)) (by have := HX.out.2.2.2.2.2; omega)).mono ?_
              rintro e v7 ⟨rfl, hb⟩
              rw [HK.out.2]
              have HN := Lib.hid (H7.out.rel.below hb)
              clear hb H7 c4
              go_wp2_with (first
                | (at_lookup; refine wpList_lookup_own_int _ rfl _ _ 62 rfl 9 3 .i64 (Maps.string_keyed Try.underlying9) Try.underlying62 Try.underlying3 (Try.zeroValue3 _) m nn D rfl HN.out.own _ _ rfl hkey ?_; intro c0 hat hwc; obtain rfl : (k0 : Int) = c0 := HN.out.owed.num HK.out.1 hat; clear hat hwc)
                | (at_mapUpdate; refine wpList_mapUpdate_own _ rfl _ _ _ 62 rfl 9 3 (Maps.string_keyed Try.underlying9) Try.underlying62 (plainElem Try.prog 3) m nn D rfl HN.out.own hmax _ _ (.string s) rfl rfl hkey _ [] hpl ?_; intro v8 hown8 hgrow8))
              have HF := Lib.hid (HN.out.put (J' := j + 1) (f' := fun s => cntL (S.laid ⟨f5, t5, o.l⟩).heap s) (by show ((cntL (S.laid ⟨f5, t5, o.l⟩).heap s : Nat) : Int) = _; rw [cntL_laid, HK.out.1, if_pos (show tg ⟨f5, t5, o.l⟩ = s from HK.out.2)]; omega) (fun r hr => by show _ = cntL (S.laid ⟨f5, t5, o.l⟩).heap r; rw [cntL_laid, if_neg (show ¬ tg ⟨f5, t5, o.l⟩ = r from fun e => hr (e.symm.trans HK.out.2))]; rfl) hown8 hgrow8 (by have := HN.out.nb; omega))
              clear hown8 hgrow8 HN
              go_wp2_with fail
              refine (balanced_is _ HF.out.nt (by have := HF.out.n5; omega) HF.out.own HF.out.owed).mono ?_
              rintro e v9 ⟨rfl, hb⟩
              have HE : Hid (LeR w v9 g c m _ (j + 1) _ _ _) := Lib.hid (HF.out.below hb)
              have HJ := Lib.hid (And.intro HX.out.2.1 HX.out.2.2.1)
              clear hb HF
              go_wp2
              go_roundw
              case rel => exact ⟨j + 1, _, _, _, by have := HJ.out.1; omega, by have := HJ.out.2; omega, by go_num, HE⟩
              case measure => have := HJ.out; simp [Go.RowKit.intOf]; omega
          by_cases hy4 : y = 4
          · subst hy4
            have c0 : w6.cell? ⟨bx, 0, none⟩ = some (.int .u8 4) := (cell_of_row _ _ 0 _ 46 (0, 0) HM.out.row).trans rfl
            have c3 : w6.cell? ⟨bx, 3, none⟩ = some (.int .i64 o.at_) := (cell_of_row _ _ 3 _ 46 (0, 0) HM.out.row).trans rfl
            by_cases hb0 : bt = true
            · subst hb0
              by_cases hF : S.full dd.to = true
              · obtain ⟨e1, e2⟩ := copy_full (look_yes HL.out.1 HL.out.2.1 HL.out.2.2.1) hF
                have HE12 := Lib.hid (And.intro e1 e2)
                clear e1 e2
                go_wp2_with fail
                refine (nt_copy _ HM.out.rel.nt o.at_ HE12.out.1 HE12.out.2).mono ?_
                rintro e w7 ⟨rfl, hn, hb, hk⟩
                have HF := Lib.hid ((HM.out.rel.net hn hb hk HM.out.rel.n5).more (Nat.le_succ j))
                clear hn hb hk HM c0 c3
                go_wp2_with fail
                refine (balanced_is _ HF.out.nt (by have := HF.out.n5; omega) HF.out.own HF.out.owed).mono ?_
                rintro e v9 ⟨rfl, hb⟩
                have HE : Hid (LeR w v9 g c m _ (j + 1) _ _ _) := Lib.hid (HF.out.below hb)
                have HJ := Lib.hid (And.intro HX.out.2.1 HX.out.2.2.1)
                clear hb HF
                go_wp2
                go_roundw
                case rel => exact ⟨j + 1, _, _, _, by have := HJ.out.1; omega, by have := HJ.out.2; omega, by go_num, HE⟩
                case measure => have := HJ.out; simp [Go.RowKit.intOf]; omega
              · have hF : S.full dd.to = false := by simpa using hF
                obtain ⟨e1, e2⟩ := copy_room (look_yes HL.out.1 HL.out.2.1 HL.out.2.2.1) hF
                have HE12 := Lib.hid (And.intro e1 e2)
                clear e1 e2 hF
                obtain ⟨s, hs⟩ : ∃ s, tagL f t dd.b = s := ⟨_, rfl⟩
                obtain ⟨k0, hk0⟩ : ∃ k0, cntL S.heap s = k0 := ⟨_, rfl⟩
                have hk1 : k0 ≤ 10000 := by have := cntL_le S.heap s; have := HM.out.rel.nt.ok.len; omega
                have hws : IntKind.i64.wrap ((k0 : Int) + 1) = (k0 : Int) + 1 := IntWalk.i64_in _ (by omega)
                have hpl : plainElem (H := Value) Try.prog 3 (.int .i64 ((k0 : Int) + 1)) = some (.lit (.int .i64 ((k0 : Int) + 1)), []) := plainElem_int Try.underlying3 (i64_wf (by omega) (by omega))
                have htg : tg dd = s := by unfold tg; rw [HL.out.2.2.2.1, HL.out.2.2.2.2.1, hs]
                have hkey : keyOf Try.prog 9 (.string ⟨s.toArray⟩) = some (.string s) := keyS (by have := HL.out.2.2.2.2.2.2.2; rw [← hs]; simp [tagL]; omega)
                have HK := Lib.hid (And.intro hk0 (And.intro hs htg))
                clear hk0 hs hk1 htg
                go_wp2_with fail
                refine (nt_copy _ HM.out.rel.nt o.at_ HE12.out.1 HE12.out.2).mono ?_
                rintro e w7 ⟨rfl, hn, hb, hk⟩
                have H7 := Lib.hid (HM.out.net hn hb hk HM.out.rel.n5)
                clear hn hb hk HM c0 c3
                obtain ⟨⟨q0, q1, q2⟩, _, _, _⟩ := three H7.out.box
                go_wp2_with fail
                refine (tag_is w7 (f := f) (t := t) HL.out.2.2.2.2.2.1 HL.out.2.2.2.2.2.2.1 (by have := H7.out.told.rd; rw [HL.out.2.1] at this; exact this) (by have := HL.out.2.2.2.2.2.2.2; omega)).mono ?_
                rintro e v7 ⟨rfl, hb⟩
                rw [HK.out.2.1]
                have HN := Lib.hid (H7.out.rel.below hb)
                clear hb H7 q0 q1 q2
                go_wp2_with (first
                  | (at_lookup; refine wpList_lookup_own_int _ rfl _ _ 62 rfl 9 3 .i64 (Maps.string_keyed Try.underlying9) Try.underlying62 Try.underlying3 (Try.zeroValue3 _) m nn D rfl HN.out.own _ _ rfl hkey ?_; intro c0 hat hwc; obtain rfl : (k0 : Int) = c0 := HN.out.owed.num HK.out.1 hat; clear hat hwc)
                  | (at_mapUpdate; refine wpList_mapUpdate_own _ rfl _ _ _ 62 rfl 9 3 (Maps.string_keyed Try.underlying9) Try.underlying62 (plainElem Try.prog 3) m nn D rfl HN.out.own hmax _ _ (.string s) rfl rfl hkey _ [] hpl ?_; intro v8 hown8 hgrow8))
                have HF := Lib.hid (HN.out.put (J' := j + 1) (f' := fun s => cntL (S.laid dd).heap s) (by show ((cntL (S.laid dd).heap s : Nat) : Int) = _; rw [cntL_laid, HK.out.1, if_pos HK.out.2.2]; omega) (fun r hr => by show _ = cntL (S.laid dd).heap r; rw [cntL_laid, if_neg (fun e => hr (e.symm.trans HK.out.2.2))]; rfl) hown8 hgrow8 (by have := HN.out.nb; omega))
                clear hown8 hgrow8 HN
                go_wp2_with fail
                refine (balanced_is _ HF.out.nt (by have := HF.out.n5; omega) HF.out.own HF.out.owed).mono ?_
                rintro e v9 ⟨rfl, hb⟩
                have HE : Hid (LeR w v9 g c m _ (j + 1) _ _ _) := Lib.hid (HF.out.below hb)
                have HJ := Lib.hid (And.intro HX.out.2.1 HX.out.2.2.1)
                clear hb HF
                go_wp2
                go_roundw
                case rel => exact ⟨j + 1, _, _, _, by have := HJ.out.1; omega, by have := HJ.out.2; omega, by go_num, HE⟩
                case measure => have := HJ.out; simp [Go.RowKit.intOf]; omega
            · obtain rfl : bt = false := by simpa using hb0
              obtain ⟨e1, e2⟩ := copy_no (look_no HL.out.1 HL.out.2.2.1)
              have HE12 := Lib.hid (And.intro e1 e2)
              clear e1 e2
              go_wp2_with fail
              refine (nt_copy _ HM.out.rel.nt o.at_ HE12.out.1 HE12.out.2).mono ?_
              rintro e w7 ⟨rfl, hn, hb, hk⟩
              have HF := Lib.hid ((HM.out.rel.net hn hb hk HM.out.rel.n5).more (Nat.le_succ j))
              clear hn hb hk HM c0 c3
              go_wp2_with fail
              refine (balanced_is _ HF.out.nt (by have := HF.out.n5; omega) HF.out.own HF.out.owed).mono ?_
              rintro e v9 ⟨rfl, hb⟩
              have HE : Hid (LeR w v9 g c m _ (j + 1) _ _ _) := Lib.hid (HF.out.below hb)
              have HJ := Lib.hid (And.intro HX.out.2.1 HX.out.2.2.1)
              clear hb HF
              go_wp2
              go_roundw
              case rel => exact ⟨j + 1, _, _, _, by have := HJ.out.1; omega, by have := HJ.out.2; omega, by go_num, HE⟩
              case measure => have := HJ.out; simp [Go.RowKit.intOf]; omega
          by_cases hy5 : y = 5
          · subst hy5
            have c0 : w6.cell? ⟨bx, 0, none⟩ = some (.int .u8 5) := (cell_of_row _ _ 0 _ 46 (0, 0) HM.out.row).trans rfl
            have c3 : w6.cell? ⟨bx, 3, none⟩ = some (.int .i64 o.at_) := (cell_of_row _ _ 3 _ 46 (0, 0) HM.out.row).trans rfl
            by_cases hb0 : bt = true
            · subst hb0
              obtain ⟨s, hs⟩ : ∃ s, tagL f t dd.b = s := ⟨_, rfl⟩
              obtain ⟨k0, hk0⟩ : ∃ k0, cntL S.heap s = k0 := ⟨_, rfl⟩
              have hk1 : k0 ≤ 10000 := by have := cntL_le S.heap s; have := HM.out.rel.nt.ok.len; omega
              have hk2 : 1 ≤ k0 := by have := drop_cnt (look_yes HL.out.1 HL.out.2.1 HL.out.2.2.1) s; rw [hk0, if_pos (show tg dd = s by unfold tg; rw [HL.out.2.2.2.1, HL.out.2.2.2.2.1, hs])] at this; omega
              have hws : IntKind.i64.wrap ((k0 : Int) - 1) = (k0 : Int) - 1 := IntWalk.i64_in _ (by omega)
              have hpl : plainElem (H := Value) Try.prog 3 (.int .i64 ((k0 : Int) - 1)) = some (.lit (.int .i64 ((k0 : Int) - 1)), []) := plainElem_int Try.underlying3 (i64_wf (by omega) (by omega))
              have htg : tg dd = s := by unfold tg; rw [HL.out.2.2.2.1, HL.out.2.2.2.2.1, hs]
              have hkey : keyOf Try.prog 9 (.string ⟨s.toArray⟩) = some (.string s) := keyS (by have := HL.out.2.2.2.2.2.2.2; rw [← hs]; simp [tagL]; omega)
              have HK := Lib.hid (And.intro hk0 (And.intro hs htg))
              clear hk0 hs hk1 htg
              clear hk2
              go_wp2_with fail
              refine (nt_take _ HM.out.rel.nt o.at_ HL.out.1 (S' := S.drop o.at_) rfl).mono ?_
              rintro e w7 ⟨X3, cx3, rfl, hT, hn, hb, hk⟩
              rw [HL.out.2.1, HL.out.2.2.1, HL.out.2.2.2.1, HL.out.2.2.2.2.1]
              obtain ⟨w8, hw8⟩ : ∃ v, w7.alloc (.cells #[.int .i64 (f : Int), .int .i64 (t : Int), .slice X3 dd.b.length cx3] 34) = v := ⟨_, rfl⟩
              have hB8 : Below w7.heap.size w7 w8 := hw8 ▸ (Below.refl _ _).alloc (Nat.le_refl _) _
              have hr8 : w8.heap[w7.heap.size]? = some (.cells #[.int .i64 (f : Int), .int .i64 (t : Int), .slice X3 dd.b.length cx3] 34 (0, 0)) := hw8 ▸ heap_alloc_new _ _
              have H8 := Lib.hid (And.intro ((HM.out.net hn hb hk (by rw [drop_ends]; exact HM.out.rel.n5)).below hB8) (show Rd w8 X3 dd.b.length dd.b by have := (hT.below' hB8).rd; rw [HL.out.2.1] at this; exact this))
              obtain ⟨⟨kk0, k1, k2⟩, _, _, _⟩ := three hr8
              obtain ⟨⟨q0, q1, q2⟩, _, _, _⟩ := three H8.out.1.box
              clear hT hn hb hk hB8 hr8 c0 c3
              go_wp2_with fail
              refine (like_is _ H8.out.2 (by have := H8.out.1.told.rd; rw [HL.out.2.1] at this; exact this) (q := true) (by simp)).mono ?_
              rintro e w9 ⟨rfl, hb⟩
              have H9 := Lib.hid (H8.out.1.below hb)
              clear hb H8 kk0 k1 k2 q0 q1 q2 hw8
              clear HM
              obtain ⟨⟨q0, q1, q2⟩, _, _, _⟩ := three H9.out.box
              go_wp2_with fail
              refine (tag_is w9 (f := f) (t := t) HL.out.2.2.2.2.2.1 HL.out.2.2.2.2.2.2.1 (by have := H9.out.told.rd; rw [HL.out.2.1] at this; exact this) (by have := HL.out.2.2.2.2.2.2.2; omega)).mono ?_
              rintro e v7 ⟨rfl, hb⟩
              rw [HK.out.2.1]
              have HN := Lib.hid (H9.out.rel.below hb)
              clear hb H9 q0 q1 q2
              go_wp2_with (first
                | (at_lookup; refine wpList_lookup_own_int _ rfl _ _ 62 rfl 9 3 .i64 (Maps.string_keyed Try.underlying9) Try.underlying62 Try.underlying3 (Try.zeroValue3 _) m nn D rfl HN.out.own _ _ rfl hkey ?_; intro c0 hat hwc; obtain rfl : (k0 : Int) = c0 := HN.out.owed.num HK.out.1 hat; clear hat hwc)
                | (at_mapUpdate; refine wpList_mapUpdate_own _ rfl _ _ _ 62 rfl 9 3 (Maps.string_keyed Try.underlying9) Try.underlying62 (plainElem Try.prog 3) m nn D rfl HN.out.own hmax _ _ (.string s) rfl rfl hkey _ [] hpl ?_; intro v8 hown8 hgrow8))
              have HF := Lib.hid (HN.out.put (J' := j + 1) (f' := fun s => cntL (S.drop o.at_).heap s) (by have := drop_cnt (look_yes HL.out.1 HL.out.2.1 HL.out.2.2.1) s; rw [HK.out.1, if_pos HK.out.2.2] at this; show ((cntL (S.drop o.at_).heap s : Nat) : Int) = _; omega) (fun r hr => by have := drop_cnt (look_yes HL.out.1 HL.out.2.1 HL.out.2.2.1) r; rw [if_neg (fun e => hr (e.symm.trans HK.out.2.2))] at this; exact this) hown8 hgrow8 (by have := HN.out.nb; omega))
              clear hown8 hgrow8 HN
              go_wp2_with fail
              refine (balanced_is _ HF.out.nt (by have := HF.out.n5; omega) HF.out.own HF.out.owed).mono ?_
              rintro e v9 ⟨rfl, hb⟩
              have HE : Hid (LeR w v9 g c m _ (j + 1) _ _ _) := Lib.hid (HF.out.below hb)
              have HJ := Lib.hid (And.intro HX.out.2.1 HX.out.2.2.1)
              clear hb HF
              go_wp2
              go_roundw
              case rel => exact ⟨j + 1, _, _, _, by have := HJ.out.1; omega, by have := HJ.out.2; omega, by go_num, HE⟩
              case measure => have := HJ.out; simp [Go.RowKit.intOf]; omega
            · obtain rfl : bt = false := by simpa using hb0
              go_wp2_with fail
              refine (nt_take _ HM.out.rel.nt o.at_ HL.out.1 (S' := S.drop o.at_) rfl).mono ?_
              rintro e w7 ⟨X3, cx3, rfl, hT, hn, hb, hk⟩
              rw [HL.out.2.1, HL.out.2.2.1, HL.out.2.2.2.1, HL.out.2.2.2.2.1]
              obtain ⟨w8, hw8⟩ : ∃ v, w7.alloc (.cells #[.int .i64 (f : Int), .int .i64 (t : Int), .slice X3 dd.b.length cx3] 34) = v := ⟨_, rfl⟩
              have hB8 : Below w7.heap.size w7 w8 := hw8 ▸ (Below.refl _ _).alloc (Nat.le_refl _) _
              have hr8 : w8.heap[w7.heap.size]? = some (.cells #[.int .i64 (f : Int), .int .i64 (t : Int), .slice X3 dd.b.length cx3] 34 (0, 0)) := hw8 ▸ heap_alloc_new _ _
              have H8 := Lib.hid (And.intro ((HM.out.net hn hb hk (by rw [drop_ends]; exact HM.out.rel.n5)).below hB8) (show Rd w8 X3 dd.b.length dd.b by have := (hT.below' hB8).rd; rw [HL.out.2.1] at this; exact this))
              obtain ⟨⟨k0, k1, k2⟩, _, _, _⟩ := three hr8
              obtain ⟨⟨q0, q1, q2⟩, _, _, _⟩ := three H8.out.1.box
              clear hT hn hb hk hB8 hr8 c0 c3
              go_wp2_with fail
              refine (like_is _ H8.out.2 (by have := H8.out.1.told.rd; rw [HL.out.2.1] at this; exact this) (q := true) (by simp)).mono ?_
              rintro e w9 ⟨rfl, hb⟩
              have H9 := Lib.hid (H8.out.1.below hb)
              clear hb H8 k0 k1 k2 q0 q1 q2 hw8
              have HF := Lib.hid ((H9.out.rel.more (Nat.le_succ j)).congr (f' := fun s => cntL (S.drop o.at_).heap s) (fun s => by rw [drop_no (look_no HL.out.1 HL.out.2.2.1)]))
              clear H9 HM
              go_wp2_with fail
              refine (balanced_is _ HF.out.nt (by have := HF.out.n5; omega) HF.out.own HF.out.owed).mono ?_
              rintro e v9 ⟨rfl, hb⟩
              have HE : Hid (LeR w v9 g c m _ (j + 1) _ _ _) := Lib.hid (HF.out.below hb)
              have HJ := Lib.hid (And.intro HX.out.2.1 HX.out.2.2.1)
              clear hb HF
              go_wp2
              go_roundw
              case rel => exact ⟨j + 1, _, _, _, by have := HJ.out.1; omega, by have := HJ.out.2; omega, by go_num, HE⟩
              case measure => have := HJ.out; simp [Go.RowKit.intOf]; omega
          by_cases hy6 : y = 6
          · subst hy6
            have c0 : w6.cell? ⟨bx, 0, none⟩ = some (.int .u8 6) := (cell_of_row _ _ 0 _ 46 (0, 0) HM.out.row).trans rfl
            have c3 : w6.cell? ⟨bx, 3, none⟩ = some (.int .i64 o.at_) := (cell_of_row _ _ 3 _ 46 (0, 0) HM.out.row).trans rfl
            by_cases hb0 : bt = true
            · subst hb0
              obtain ⟨s, hs⟩ : ∃ s, tagL f t dd.b = s := ⟨_, rfl⟩
              obtain ⟨k0, hk0⟩ : ∃ k0, cntL S.heap s = k0 := ⟨_, rfl⟩
              have hk1 : k0 ≤ 10000 := by have := cntL_le S.heap s; have := HM.out.rel.nt.ok.len; omega
              have hk2 : 1 ≤ k0 := by have := drop_cnt (look_yes HL.out.1 HL.out.2.1 HL.out.2.2.1) s; rw [hk0, if_pos (show tg dd = s by unfold tg; rw [HL.out.2.2.2.1, HL.out.2.2.2.2.1, hs])] at this; omega
              have hws : IntKind.i64.wrap ((k0 : Int) - 1) = (k0 : Int) - 1 := IntWalk.i64_in _ (by omega)
              have hpl : plainElem (H := Value) Try.prog 3 (.int .i64 ((k0 : Int) - 1)) = some (.lit (.int .i64 ((k0 : Int) - 1)), []) := plainElem_int Try.underlying3 (i64_wf (by omega) (by omega))
              have htg : tg dd = s := by unfold tg; rw [HL.out.2.2.2.1, HL.out.2.2.2.2.1, hs]
              have hkey : keyOf Try.prog 9 (.string ⟨s.toArray⟩) = some (.string s) := keyS (by have := HL.out.2.2.2.2.2.2.2; rw [← hs]; simp [tagL]; omega)
              have HK := Lib.hid (And.intro hk0 (And.intro hs htg))
              clear hk0 hs hk1 htg
              clear hk2
              go_wp2_with fail
              refine (nt_drop _ HM.out.rel.nt o.at_ (q := true) (by rw [HL.out.1]; exact HL.out.2.2.1) (S' := S.drop o.at_) rfl).mono ?_
              rintro e w7 ⟨rfl, hn, hb, hk⟩
              have H9 := Lib.hid (HM.out.net hn hb hk (by rw [drop_ends]; exact HM.out.rel.n5))
              clear hn hb hk c0 c3 HM
              obtain ⟨⟨q0, q1, q2⟩, _, _, _⟩ := three H9.out.box
              go_wp2_with fail
              refine (tag_is w7 (f := f) (t := t) HL.out.2.2.2.2.2.1 HL.out.2.2.2.2.2.2.1 (by have := H9.out.told.rd; rw [HL.out.2.1] at this; exact this) (by have := HL.out.2.2.2.2.2.2.2; omega)).mono ?_
              rintro e v7 ⟨rfl, hb⟩
              rw [HK.out.2.1]
              have HN := Lib.hid (H9.out.rel.below hb)
              clear hb H9 q0 q1 q2
              go_wp2_with (first
                | (at_lookup; refine wpList_lookup_own_int _ rfl _ _ 62 rfl 9 3 .i64 (Maps.string_keyed Try.underlying9) Try.underlying62 Try.underlying3 (Try.zeroValue3 _) m nn D rfl HN.out.own _ _ rfl hkey ?_; intro c0 hat hwc; obtain rfl : (k0 : Int) = c0 := HN.out.owed.num HK.out.1 hat; clear hat hwc)
                | (at_mapUpdate; refine wpList_mapUpdate_own _ rfl _ _ _ 62 rfl 9 3 (Maps.string_keyed Try.underlying9) Try.underlying62 (plainElem Try.prog 3) m nn D rfl HN.out.own hmax _ _ (.string s) rfl rfl hkey _ [] hpl ?_; intro v8 hown8 hgrow8))
              have HF := Lib.hid (HN.out.put (J' := j + 1) (f' := fun s => cntL (S.drop o.at_).heap s) (by have := drop_cnt (look_yes HL.out.1 HL.out.2.1 HL.out.2.2.1) s; rw [HK.out.1, if_pos HK.out.2.2] at this; show ((cntL (S.drop o.at_).heap s : Nat) : Int) = _; omega) (fun r hr => by have := drop_cnt (look_yes HL.out.1 HL.out.2.1 HL.out.2.2.1) r; rw [if_neg (fun e => hr (e.symm.trans HK.out.2.2))] at this; exact this) hown8 hgrow8 (by have := HN.out.nb; omega))
              clear hown8 hgrow8 HN
              go_wp2_with fail
              refine (balanced_is _ HF.out.nt (by have := HF.out.n5; omega) HF.out.own HF.out.owed).mono ?_
              rintro e v9 ⟨rfl, hb⟩
              have HE : Hid (LeR w v9 g c m _ (j + 1) _ _ _) := Lib.hid (HF.out.below hb)
              have HJ := Lib.hid (And.intro HX.out.2.1 HX.out.2.2.1)
              clear hb HF
              go_wp2
              go_roundw
              case rel => exact ⟨j + 1, _, _, _, by have := HJ.out.1; omega, by have := HJ.out.2; omega, by go_num, HE⟩
              case measure => have := HJ.out; simp [Go.RowKit.intOf]; omega
            · obtain rfl : bt = false := by simpa using hb0
              go_wp2_with fail
              refine (nt_drop _ HM.out.rel.nt o.at_ (q := false) (by rw [HL.out.1]; exact HL.out.2.2.1) (S' := S.drop o.at_) rfl).mono ?_
              rintro e w7 ⟨rfl, hn, hb, hk⟩
              have H9 := Lib.hid (HM.out.net hn hb hk (by rw [drop_ends]; exact HM.out.rel.n5))
              clear hn hb hk c0 c3 HM
              have HF := Lib.hid ((H9.out.rel.more (Nat.le_succ j)).congr (f' := fun s => cntL (S.drop o.at_).heap s) (fun s => by rw [drop_no (look_no HL.out.1 HL.out.2.2.1)]))
              clear H9
              go_wp2_with fail
              refine (balanced_is _ HF.out.nt (by have := HF.out.n5; omega) HF.out.own HF.out.owed).mono ?_
              rintro e v9 ⟨rfl, hb⟩
              have HE : Hid (LeR w v9 g c m _ (j + 1) _ _ _) := Lib.hid (HF.out.below hb)
              have HJ := Lib.hid (And.intro HX.out.2.1 HX.out.2.2.1)
              clear hb HF
              go_wp2
              go_roundw
              case rel => exact ⟨j + 1, _, _, _, by have := HJ.out.1; omega, by have := HJ.out.2; omega, by go_num, HE⟩
              case measure => have := HJ.out; simp [Go.RowKit.intOf]; omega
          by_cases hy7 : y = 7
          · subst hy7
            have c0 : w6.cell? ⟨bx, 0, none⟩ = some (.int .u8 7) := (cell_of_row _ _ 0 _ 46 (0, 0) HM.out.row).trans rfl
            have c3 : w6.cell? ⟨bx, 3, none⟩ = some (.int .i64 o.at_) := (cell_of_row _ _ 3 _ 46 (0, 0) HM.out.row).trans rfl
            obtain ⟨n, hn⟩ : ∃ n, S.heap.length = n := ⟨_, rfl⟩
            have hn0 : n ≤ 10000 := by have := HM.out.rel.nt.ok.len; omega
            have HN0 := Lib.hid (And.intro hn hn0)
            have h0 : Hid (LeR w w6 g c m nn j S D fun s => cntL (restL t5 0 S.heap) s) := Lib.hid (HM.out.rel.congr fun s => by rw [restL_zero])
            have hnb := HM.out.rel.nb
            have HNB := Lib.hid hnb
            clear hnb HM hn hn0
            go_wp2
            go_loopw [14] (fun i wq => ∃ (k n2 : Nat) (D2 : DataW Value), k ≤ n ∧ n2 ≤ nn + k ∧ i = .int .i64 k ∧ Hid (LeR w wq g c m n2 (j + 1) S D2 fun s => cntL (restL t5 k S.heap) s)) (fun i _ => n - (Go.RowKit.intOf i).toNat)
            case atStart => exact ⟨0, nn, _, by omega, by omega, rfl, Lib.hid (h0.out.more (Nat.le_succ j))⟩
            case round =>
              obtain ⟨k, n2, D2, hk, hn2, rfl, HR⟩ := hrel
              clear h0 c0 c3
              by_cases hkn : k < n
              · obtain ⟨d, hd⟩ : ∃ d, S.heap[k]? = some d := ⟨_, List.getElem?_eq_getElem (by rw [HN0.out.1]; exact hkn)⟩
                have hki : (0 : Int) ≤ (k : Int) := by omega
                have hkj : (k : Int) < (n : Int) := by omega
                have hk1 : (k : Int) < 10000 := by have := HN0.out.2; omega
                have hw2 : IntKind.i64.wrap ((k : Int) + 1) = (k : Int) + 1 := IntWalk.i64_in _ (by omega)
                have hnb2 : n2 + 1 ≤ 20000 * (j + 1) := by have := HNB.out; have := HN0.out.2; omega
                have hmax2 : n2 < maxLen := by have := HX.out.2.2.1; unfold maxLen; omega
                obtain ⟨tp, htp⟩ : ∃ t, d.to = t := ⟨_, rfl⟩
                obtain ⟨fp, hfp⟩ : ∃ t, d.fr = t := ⟨_, rfl⟩
                have hits := HR.out.nt.ok.its d (List.mem_of_getElem? hd)
                have hf2 : fp < 256 := by have := HR.out.n5; rw [← hfp]; omega
                have ht2 : tp < 256 := by have := HR.out.n5; rw [← htp]; omega
                have hdl : d.b.length ≤ 131072 := hits.2.2
                have HD := Lib.hid (And.intro hd (And.intro hkn (And.intro hn2 (And.intro htp (And.intro hfp (And.intro hf2 (And.intro ht2 (And.intro hdl hnb2))))))))
                clear hd hkn hk hn2 hits hf2 ht2 hdl hnb2
                go_wp2_with fail
                refine (nt_flying _ HR.out.nt (q := (n : Int)) (by rw [HN0.out.1])).mono ?_
                rintro e _ ⟨rfl, rfl⟩
                go_wp2_with fail
                refine (nt_look _ HR.out.nt (k : Int) (o := some d) (by rw [NS.look_at]; exact HD.out.1)).mono ?_
                rintro e v2 ⟨X3, cx3, rfl, hT, hb⟩
                dsimp only [Option.getD, Option.isSome, Told] at hT ⊢
                rw [htp, hfp]
                obtain ⟨v3, hv3⟩ : ∃ v, v2.alloc (.cells #[.int .i64 (fp : Int), .int .i64 (tp : Int), .slice X3 d.b.length cx3] 34) = v := ⟨_, rfl⟩
                have hB3 : Below v2.heap.size v2 v3 := hv3 ▸ (Below.refl _ _).alloc (Nat.le_refl _) _
                have hr3 : v3.heap[v2.heap.size]? = some (.cells #[.int .i64 (fp : Int), .int .i64 (tp : Int), .slice X3 d.b.length cx3] 34 (0, 0)) := hv3 ▸ heap_alloc_new _ _
                have H3 := Lib.hid (And.intro ((HR.out.below hb).below hB3) (hT.rd.below hB3 (Nat.le_refl _)))
                obtain ⟨⟨kk0, k1, k2⟩, _, _, _⟩ := three hr3
                clear hT hb hB3 hr3 HR htp hfp
                by_cases htm : tp = t5
                · subst htm
                  obtain ⟨s, hs⟩ : ∃ s, tagL fp tp d.b = s := ⟨_, rfl⟩
                  have htg : tg d = s := by unfold tg; rw [HD.out.2.2.2.1, HD.out.2.2.2.2.1, hs]
                  obtain ⟨k0, hk0⟩ : ∃ k0, cntL (restL tp k S.heap) s = k0 := ⟨_, rfl⟩
                  have hst := restL_yes tp HD.out.1 HD.out.2.2.2.1 s
                  rw [hk0, if_pos htg] at hst
                  have hkle : k0 ≤ 20000 := by
                    have h1 := cntL_le (restL tp k S.heap) s
                    have h2 : (restL tp k S.heap).length ≤ S.heap.length + S.heap.length := by
                      unfold restL
                      rw [List.length_append]
                      have := List.length_filter_le (fun d : Dt => !decide ((d.to : Int) = (tp : Int))) (S.heap.take k)
                      have := List.length_take_le' k S.heap
                      have := List.length_drop (i := k) (l := S.heap)
                      omega
                    have := HN0.out
                    omega
                  have hws : IntKind.i64.wrap ((k0 : Int) - 1) = (k0 : Int) - 1 := IntWalk.i64_in _ (by omega)
                  have hpl : plainElem (H := Value) Try.prog 3 (.int .i64 ((k0 : Int) - 1)) = some (.lit (.int .i64 ((k0 : Int) - 1)), []) := plainElem_int Try.underlying3 (i64_wf (by omega) (by omega))
                  have hkey : keyOf Try.prog 9 (.string ⟨s.toArray⟩) = some (.string s) := keyS (by have := HD.out.2.2.2.2.2.2.2.1; rw [← hs]; simp [tagL]; omega)
                  have HK := Lib.hid (And.intro hk0 (And.intro hs (And.intro htg hst)))
                  clear hk0 hs htg hst hkle
                  go_wp2_with fail
                  refine (tag_is v3 (f := fp) (t := tp) HD.out.2.2.2.2.2.1 HD.out.2.2.2.2.2.2.1 H3.out.2 (by have := HD.out.2.2.2.2.2.2.2.1; omega)).mono ?_
                  rintro e v4 ⟨rfl, hb⟩
                  rw [HK.out.2.1]
                  have HN := Lib.hid (H3.out.1.below hb)
                  clear hb H3 kk0 k1 k2 hv3
                  go_wp2_with (first
                    | (at_lookup; refine wpList_lookup_own_int _ rfl _ _ 62 rfl 9 3 .i64 (Maps.string_keyed Try.underlying9) Try.underlying62 Try.underlying3 (Try.zeroValue3 _) m n2 D2 rfl HN.out.own _ _ rfl hkey ?_; intro c0 hat hwc; obtain rfl : (k0 : Int) = c0 := HN.out.owed.num HK.out.1 hat; clear hat hwc)
                    | (at_mapUpdate; refine wpList_mapUpdate_own _ rfl _ _ _ 62 rfl 9 3 (Maps.string_keyed Try.underlying9) Try.underlying62 (plainElem Try.prog 3) m n2 D2 rfl HN.out.own hmax2 _ _ (.string s) rfl rfl hkey _ [] hpl ?_; intro v8 hown8 hgrow8))
                  have HF := Lib.hid (HN.out.put (J' := j + 1) (f' := fun s => cntL (restL tp (k + 1) S.heap) s) (by have := HK.out.2.2.2; show ((cntL (restL tp (k + 1) S.heap) s : Nat) : Int) = _; omega) (fun r hr => by have := restL_yes tp HD.out.1 HD.out.2.2.2.1 r; rw [if_neg (fun e => hr (e.symm.trans HK.out.2.2.1))] at this; exact this) hown8 hgrow8 HD.out.2.2.2.2.2.2.2.2)
                  have HJ := Lib.hid (And.intro HD.out.2.1 HD.out.2.2.1)
                  clear hown8 hgrow8 HN
                  go_wp2
                  go_roundw
                  case rel => exact ⟨k + 1, n2 + 1, _, by have := HJ.out.1; omega, by have := HJ.out.2; omega, by go_num, HF⟩
                  case measure => have := HJ.out; simp [Go.RowKit.intOf]; omega
                · have htn : ¬ (tp : Int) = (t5 : Int) := by omega
                  have HF := Lib.hid (H3.out.1.congr (f' := fun s => cntL (restL t5 (k + 1) S.heap) s) fun s => by rw [restL_no t5 HD.out.1 (by rw [HD.out.2.2.2.1]; exact htm)])
                  have HJ := Lib.hid (And.intro HD.out.2.1 HD.out.2.2.1)
                  clear H3 htm
                  go_wp2
                  go_roundw
                  case rel => exact ⟨k + 1, n2, _, by have := HJ.out.1; omega, by have := HJ.out.2; omega, by go_num, HF⟩
                  case measure => have := HJ.out; simp [Go.RowKit.intOf]; omega
              · obtain rfl : k = n := by omega
                clear hkn hk
                go_wp2_with fail
                refine (nt_flying _ HR.out.nt (q := (k : Int)) (by rw [HN0.out.1])).mono ?_
                rintro e _ ⟨rfl, rfl⟩
                go_wp2_with fail
                refine (nt_forget _ HR.out.nt (k := (t5 : Int)) (by omega) (by have := HX.out.2.2.2.2.1; omega) rfl (S' := S.forget (t5 : Int)) rfl).mono ?_
                rintro e w7 ⟨rfl, hn, hb, hk⟩
                have HF := Lib.hid ((HR.out.net hn hb hk HR.out.n5).congr (f' := fun s => cntL (S.forget (t5 : Int)).heap s) (fun s => by rw [restL_all _ _ _ (by rw [HN0.out.1]; exact Nat.le_refl _)]; rfl))
                clear hn hb hk HR
                go_wp2_with fail
                refine (balanced_is _ HF.out.nt (by have := HF.out.n5; omega) HF.out.own HF.out.owed).mono ?_
                rintro e v9 ⟨rfl, hb⟩
                have HE : Hid (LeR w v9 g c m _ (j + 1) _ _ _) := Lib.hid (HF.out.below hb)
                have HJ := Lib.hid (And.intro HX.out.2.1 HX.out.2.2.1)
                clear hb HF
                go_wp2
                go_roundw
                case rel => exact ⟨j + 1, _, _, _, by have := HJ.out.1; omega, by have := HJ.out.2; omega, by go_num, HE⟩
                case measure => have := HJ.out; simp [Go.RowKit.intOf]; omega
          have c0 : w6.cell? ⟨bx, 0, none⟩ = some (.int .u8 y) := (cell_of_row _ _ 0 _ 46 (0, 0) HM.out.row).trans rfl
          have HF := Lib.hid (HM.out.rel.more (Nat.le_succ j))
          clear HM
          go_wp2_with fail
          refine (balanced_is _ HF.out.nt (by have := HF.out.n5; omega) HF.out.own HF.out.owed).mono ?_
          rintro e v9 ⟨rfl, hb⟩
          have HE : Hid (LeR w v9 g c m _ (j + 1) _ _ _) := Lib.hid (HF.out.below hb)
          have HJ := Lib.hid (And.intro HX.out.2.1 HX.out.2.2.1)
          clear hb HF
          go_wp2
          go_roundw
          case rel => exact ⟨j + 1, _, _, _, by have := HJ.out.1; omega, by have := HJ.out.2; omega, by go_num, HE⟩
          case measure => have := HJ.out; simp [Go.RowKit.intOf]; omega
        · have hn1 : ¬ (o.n : Int) ≤ 100 := by omega
          have hn2 : (100 : Int) < (o.n : Int) := by omega
          have HW := Lib.hid (And.intro hw3 hbx)
          have H3 := Lib.hid (And.intro (HR.out.below hB3) (hbx ▸ hr3))
          have HJ := Lib.hid (And.intro hjm hj80)
          clear hok hjm hj80 hw3 hbx hB3 hr3 hn100 hj hj8 HR hoj hok0 hlen hy hcs
          go_upto_region 9 with (refine wpList_load rfl 46 _ rfl _ rfl _ hload ?_)
          rw [HW.out.1, HW.out.2]
          clear HW hload
          have c4 : w3.cell? ⟨bx, 4, none⟩ = some (.slice o.X o.n o.c) := (cell_of_row _ _ 4 _ 46 (0, 0) H3.out.2).trans rfl
          have HE : Hid (LeR w w3 g c m nn (j + 1) S D fun s => cntL S.heap s) := Lib.hid (H3.out.1.more (Nat.le_succ j))
          clear H3
          go_wp2
          go_roundw
          case rel => exact ⟨j + 1, _, _, _, by have := HJ.out.1; omega, by have := HJ.out.2; omega, by go_num, HE⟩
          case measure => have := HJ.out; simp [Go.RowKit.intOf]; omega
      · obtain rfl : j = 80 := by omega
        have hjn : ((80 : Nat) : Int) < (mo : Int) := by omega
        have HE := Lib.hid HR.out.bel
        clear HR hjm hj80 hj hj8
        go_wp2_with fail
        refine (awake_is _).mono ?_
        rintro e wz ⟨rfl, hz⟩
        have HZ := Lib.hid hz
        clear hz
        go_wp2
        go_ret
        exact ⟨rfl, HE.out.trans (HZ.out.mono HE.out.size)⟩
    · obtain rfl : j = mo := by omega
      have HE := Lib.hid HR.out.bel
      clear HR hjm hj hj8
      go_wp2_with fail
      refine (awake_is _).mono ?_
      rintro e wz ⟨rfl, hz⟩
      have HZ := Lib.hid hz
      clear hz
      go_wp2
      go_ret
      exact ⟨rfl, HE.out.trans (HZ.out.mono HE.out.size)⟩
end Go.Proofs.Ythhablokbnfpcaa
