/- The law NetQueue. -/
import Derived.Test.YthhablokbnfpcaaQueB
namespace Go.Proofs.Ythhablokbnfpcaa
open Go.RowKit Go.Coop Go.Maps
set_option maxRecDepth 100000
theorem own34_lower {w : World} {base base' E k n cc : Nat} {A : Option Addr} {vs : List Value} (h : OwnK w base E k A n cc vs) (hb : base' ≤ base) : OwnK w base' E k A n cc vs := by
  rcases h.row.2 with ⟨hv, h0⟩ | ⟨g, cap, cur, hv, hg, r⟩
  · exact ⟨⟨h.row.1, .inl ⟨hv, h0⟩⟩⟩
  · exact ⟨⟨h.row.1, .inr ⟨g, cap, cur, hv, Nat.le_trans hb hg, r⟩⟩⟩
/-- the a-th of both -/
theorem LRel.at_ {w0 w : World} {g c : Nat} {S : NS} {A : Option Addr} {q cc a : Nat} {L : List DatV} (h : LRel w0 w g c S A q cc L) (ha : a < q) : ∃ o r, L[a]? = some o ∧ S.look (a : Int) = some o.dt ∧ o.In w0 ∧ A = some ⟨r, 0, none⟩ ∧
    (w.cell? ⟨r, a * 3, none⟩ = some (.int .i64 o.fr) ∧ w.cell? ⟨r, a * 3 + 1, none⟩ = some (.int .i64 o.tt) ∧ w.cell? ⟨r, a * 3 + 2, none⟩ = some (.slice o.X o.n o.c)) ∧ r < w.heap.size ∧ a < cc ∧ q ≤ cc := by
  obtain ⟨o, ho⟩ : ∃ o, L[a]? = some o := ⟨_, List.getElem?_eq_getElem (by rw [h.len]; exact ha)⟩
  obtain ⟨r, sp, hA, hb, hlt, hr, hn, hc, _⟩ := h.own.head (by omega)
  have hx : ∀ j v, o.cells[j]? = some v → w.cell? ⟨r, a * 3 + j, none⟩ = some v := fun j v hj => by
    have := dcs_get ho hj
    simp only [World.cell?, hr]
    simp only [List.getElem?_toArray]
    rw [List.getElem?_append_left (List.getElem?_eq_some_iff.1 this).1, this]
    rfl
  refine ⟨o, r, ho, ?_, h.its o (List.mem_of_getElem? ho), hA, ⟨hx 0 _ rfl, hx 1 _ rfl, hx 2 _ rfl⟩, hlt, by omega, hn⟩
  rw [NS.look_at, h.hp, List.getElem?_map, ho]
  rfl
theorem map_erase {α β : Type} (f : α → β) : ∀ (l : List α) (a : Nat), (l.map f).eraseIdx a = (l.eraseIdx a).map f
  | [], a => by simp
  | x :: l, 0 => rfl
  | x :: l, a + 1 => by simp [map_erase f l a]
/-- what goes away -/
theorem LRel.without {w0 w w' w'' : World} {g c : Nat} {S : NS} {A A' : Option Addr} {q cc cc' a q' B' : Nat} {L : List DatV} {d : Dt} (h : LRel w0 w g c S A q cc L) (hl : S.look (a : Int) = some d) (hn : Nt w' w0.heap.size g c (S.drop (a : Int))) (hb : Below w0.heap.size w0 w') (hb2 : Below w'.heap.size w' w'') (hB : w0.heap.size ≤ B')
    (ho : OwnK w'' B' 34 3 A' q' cc' (dcs (L.eraseIdx a))) : LRel w0 w'' g c (S.drop (a : Int)) A' q' cc' (L.eraseIdx a) := by
  have e : S.drop (a : Int) = S.without a := by
    simp only [NS.drop, hl]
    rfl
  rw [e] at hn ⊢
  refine ⟨hn.below hb2, own34_lower ho hB, fun o ho => h.its o (List.mem_of_mem_eraseIdx ho), h.e, h.m, ?_, hb.trans (hb2.mono hb.size)⟩
  show S.heap.eraseIdx a = _
  rw [h.hp, map_erase]
theorem two_rows {w : World} {base q cc r a : Nat} {L : List DatV} {o : DatV} (h : OwnK w base 34 3 (some ⟨r, 0, none⟩) q cc (dcs L)) (ho : L[a]? = some o) :
    (w.cell? ⟨r, a * 3, none⟩ = some (.int .i64 o.fr) ∧ w.cell? ⟨r, a * 3 + 1, none⟩ = some (.int .i64 o.tt) ∧ w.cell? ⟨r, a * 3 + 2, none⟩ = some (.slice o.X o.n o.c)) ∧ ∀ j u, (dcs L)[j]? = some u → w.cell? ⟨r, j, none⟩ = some u := by
  have hn : 0 < q := by
    have := h.len
    rw [dcs_len] at this
    have := (List.getElem?_eq_some_iff.1 ho).1
    omega
  obtain ⟨r', sp, hA, hb, hlt, hr, _, hc, _⟩ := h.head hn
  injection hA with hA
  injection hA with hA _ _
  subst hA
  have key : ∀ j u, (dcs L)[j]? = some u → w.cell? ⟨r, j, none⟩ = some u := fun j u hj => by
    simp only [World.cell?, hr]
    simp only [List.getElem?_toArray]
    rw [List.getElem?_append_left (List.getElem?_eq_some_iff.1 hj).1, hj]
    rfl
  have hx : ∀ j v, o.cells[j]? = some v → w.cell? ⟨r, a * 3 + j, none⟩ = some v := fun j v hj => key _ _ (dcs_get ho hj)
  exact ⟨⟨hx 0 _ rfl, hx 1 _ rfl, hx 2 _ rfl⟩, key⟩
theorem own_block {w : World} {base q cc r : Nat} {L : List Value} (h : OwnK w base 34 3 (some ⟨r, 0, none⟩) q cc L) : base ≤ r ∧ r < w.heap.size := h.block r rfl
theorem own_block_lo {w : World} {base q cc : Nat} {A : Option Addr} {L : List Value} (h : OwnK w base 34 3 A q cc L) (k : Nat) (hk : A.map (·.block) = some k) : base ≤ k := (h.block k hk).1
theorem take_get {l : List Value} {n j : Nat} {u : Value} (h : (l.take n)[j]? = some u) : l[j]? = some u := by
  rw [List.getElem?_take] at h
  split at h
  · exact h
  · cases h
theorem drop_get {l : List Value} {n j : Nat} {u : Value} (h : (l.drop n)[j]? = some u) : l[n + j]? = some u := by
  rwa [List.getElem?_drop] at h
theorem addr_zero (r j : Nat) : (⟨r, 0, none⟩ : Addr).add j = ⟨r, j, none⟩ := by unfold Addr.add; split <;> simp_all
theorem addr_base (r k j : Nat) : (⟨r, k, none⟩ : Addr).add j = ⟨r, k + j, none⟩ := by unfold Addr.add; split <;> simp_all
theorem second_part (r q2 cc2 a a1 q3 c3 : Nat) (ha2 : a1 = a + 1) (hq3 : q2 - (a + 1) = q3) (hc3 : cc2 - (a + 1) = c3) (ha : a + 1 ≤ q2) (hqc : q2 ≤ cc2) : ∃ ad2 : Addr, (∀ v, (Instr.slice 67 (.slice (some ⟨r, 0, none⟩) q2 cc2) (some (.int .i64 (a1 : Int))) none none).run Try.prog v = .ok (.slice (some ad2) q3 c3) v) ∧ (0 < q3 → ad2 = ⟨r, (a + 1) * 3, none⟩) := by
  subst ha2 hq3 hc3
  have h := fun v => slice_lk (P := Try.prog) 67 Try.underlying67 size34 (some ⟨r, 0, none⟩) q2 cc2 (a + 1) ha v
  by_cases e : cc2 = a + 1
  · refine ⟨⟨r, 0, none⟩, fun v => ?_, fun h0 => by omega⟩
    have := h v
    rwa [if_pos e] at this
  · refine ⟨⟨r, (a + 1) * 3, none⟩, fun v => ?_, fun _ => rfl⟩
    have := h v
    rw [if_neg e] at this
    rw [this]
    show Result.ok (Value.slice (some ((⟨r, 0, none⟩ : Addr).add ((a + 1) * 3))) _ _) v = _
    rw [addr_zero]
theorem DatV.In.alike {o : DatV} {w : World} (h : o.In w) : (decide ((o.dt.fr : Int) = o.fr) && decide ((o.dt.to : Int) = o.tt) && decide (o.dt.b = o.l)) = true := by
  have h1 : (o.dt.fr : Int) = o.fr := by have := h.fr; show ((o.fr.toNat : Nat) : Int) = _; omega
  have h2 : (o.dt.to : Int) = o.tt := by have := h.tt; show ((o.tt.toNat : Nat) : Int) = _; omega
  rw [decide_eq_true h1, decide_eq_true h2, decide_eq_true (show o.dt.b = o.l from rfl)]
  rfl
theorem queue_law (F : Option Addr) (mo co : Nat) (os : List DatV) (P : Option Addr) (np cp : Nat) (lp : List UInt8) (w : World) (ho : DatsAt w F mo os) (hm : mo ≤ 9223372036854775807) (hp : Rd w P np lp) (hpm : np ≤ 9223372036854775807) : Calls Try.prog 7 #[.slice F mo co, .slice P np cp] w (Awake w) := by
  have HO := Lib.hid (And.intro ho (And.intro hm hp))
  have hpi : (np : Int) ≤ 9223372036854775807 := by omega
  clear ho hm hp
  go_enter Try.func7, Try.ntmps7
  go_wp2
  go_loopw [5] (fun v wr => ∃ y : Nat, y ≤ 3 ∧ v = .int .i64 y ∧ Hid (Below w.heap.size w wr)) (fun v _ => 3 - (Go.RowKit.intOf v).toNat)
  case atStart => exact ⟨0, by omega, rfl, Below.refl _ _⟩
  case round =>
    obtain ⟨y, hy, rfl, HB⟩ := hrel
    by_cases hy3 : y < 3
    · have hyi : (0 : Int) ≤ (y : Int) := by omega
      have hyj : (y : Int) < 3 := by omega
      obtain ⟨wo, hwo⟩ : ∃ v, v = wr := ⟨_, rfl⟩
      subst hwo
      go_wp2_with fail
      refine (laid_is _ F mo co os (DatsAt.below HO.out.1 HB.out (Nat.le_refl _)) HO.out.2.1).mono ?_
      rintro e w1 ⟨g, c, A, q, cc, L, S, rfl, hq, hL⟩
      have H1 := Lib.hid (And.intro hL (And.intro hq hy3))
      clear hL hq hy3 hy
      go_wp2
      go_loopw [7, 9] (fun all k wr => ∃ (A : Option Addr) (q cc m : Nat) (L : List DatV) (S : NS), all = .slice A q cc ∧ k = .int .i64 m ∧ m + q ≤ 50 ∧ Hid (LRel wo wr g c S A q cc L)) (fun all _ _ => match all with | .slice _ n _ => n | _ => 0)
      case atStart => exact ⟨A, q, cc, 0, L, S, rfl, rfl, by have := H1.out.2.1; omega, H1.out.1⟩
      case round =>
        obtain ⟨A2, q2, cc2, m, L2, S2, rfl, rfl, hmq, HR⟩ := hrel
        by_cases hq0 : 0 < q2
        · have hqi : (0 : Int) < (q2 : Int) := by omega
          go_upto_block 4 with (fail)
          go_cut [10] from 32 to 54 (fun v wc => ∃ a : Nat, v = .int .i64 a ∧ wc = wr ∧ Hid (a < q2))
          case first =>
            by_cases hy0 : y = 0
            · subst hy0
              go_wp2
              go_meet
              case rel => exact ⟨0, by simp, rfl, hq0⟩
            · by_cases hy1 : y = 1
              · subst hy1
                obtain ⟨a, ha, hal⟩ : ∃ a : Nat, (q2 : Int) - 1 = (a : Int) ∧ a < q2 := ⟨q2 - 1, by omega, by omega⟩
                have HA := Lib.hid hal
                clear hal
                go_wp2
                go_meet
                case rel => exact ⟨a, rfl, rfl, HA.out⟩
              · obtain rfl : y = 2 := by omega
                by_cases hmn : m < np
                · obtain ⟨ad, cb, rfl, hlt, _, hcell⟩ := (HO.out.2.2.below (HB.out.trans (HR.out.bel.mono HB.out.size)) (Nat.le_refl _) : Rd wr P np lp).at_ hmn
                  have hmi : (0 : Int) ≤ (m : Int) := by omega
                  have hmj : (m : Int) < (np : Int) := by omega
                  have hcb : wr.cell? (ad.add m) = some (.int .u8 (cb.toNat : Int)) := hcell
                  have hcb2 : (0 : Int) ≤ (cb.toNat : Int) := by omega
                  have hcb3 : (cb.toNat : Int) < 256 := by have := cb.toNat_lt; omega
                  obtain ⟨a, ha, hal⟩ : ∃ a : Nat, (cb.toNat : Int) % (q2 : Int) = (a : Int) ∧ a < q2 := ⟨cb.toNat % q2, by omega, Nat.mod_lt _ hq0⟩
                  have hq2ne : ¬ (q2 : Int) = 0 := by omega
                  have HA := Lib.hid (And.intro hal ha)
                  clear hal hcell hlt ha
                  go_wp2
                  go_meet
                  case rel => exact ⟨a, by rw [HA.out.2], rfl, HA.out.1⟩
                · go_wp2
                  go_meet
                  case rel => exact ⟨0, by simp, rfl, hq0⟩
          case rest =>
            obtain ⟨a, rfl, rfl, HA⟩ := hcut
            obtain ⟨o, r, hoa, hlook, hin, rfl, hcl, hrlt, hacc, hqc⟩ := HR.out.at_ HA.out
            have hai : (0 : Int) ≤ (a : Int) := by omega
            have haj : (a : Int) < (q2 : Int) := by have := HA.out; omega
            have HX := Lib.hid (And.intro hoa (And.intro hlook (And.intro hin (And.intro hcl (And.intro hrlt (And.intro hacc hqc))))))
            clear hoa hlook hin hcl hrlt hacc hqc hyi hyj
            go_wp2_with fail
            refine (nt_take _ HR.out.nt (a : Int) (o := some o.dt) HX.out.2.1 rfl).mono ?_
            rintro e w3 ⟨X, cx, rfl, hT, hn, hb, hk⟩
            dsimp only [Option.getD, Option.isSome, Told] at hT ⊢
            obtain ⟨w4, hw4⟩ : ∃ v, w3.alloc (.cells #[.int .i64 (o.dt.fr : Int), .int .i64 (o.dt.to : Int), .slice X o.dt.b.length cx] 34) = v := ⟨_, rfl⟩
            have hB4 : Below w3.heap.size w3 w4 := hw4 ▸ (Below.refl _ _).alloc (Nat.le_refl _) _
            have hr4 : w4.heap[w3.heap.size]? = some (.cells #[.int .i64 (o.dt.fr : Int), .int .i64 (o.dt.to : Int), .slice X o.dt.b.length cx] 34 (0, 0)) := hw4 ▸ heap_alloc_new _ _
            have hown4 := (own34_kp HR.out.own hk).below hB4 (Nat.le_refl _)
            have hlk4 := two_rows hown4 HX.out.1
            have H4 := Lib.hid (And.intro hn (And.intro (HR.out.bel.trans hb) (And.intro hB4 (And.intro hr4 (And.intro hown4 (And.intro hlk4 (hT.below hB4)))))))
            clear hT hn hb hk hB4 hr4 hown4 hlk4
            obtain ⟨b4, hb4⟩ : ∃ b, w3.heap.size = b := ⟨_, rfl⟩
            have HW := Lib.hid (And.intro hw4 hb4)
            clear hb4
            go_upto_region 16 with (fail)
            rw [HW.out.2]
            have hr4b : w4.heap[b4]? = some (.cells #[.int .i64 (o.dt.fr : Int), .int .i64 (o.dt.to : Int), .slice X o.dt.b.length cx] 34 (0, 0)) := HW.out.2 ▸ H4.out.2.2.2.1
            have HR4 := Lib.hid hr4b
            clear hr4b
            have hrw4 : r < w4.heap.size := by have := block_lt_of_cell H4.out.2.2.2.2.2.1.1.1; simpa using this
            have HC4 : Hid (∀ v, Below w4.heap.size w4 v → (v.cell? ⟨r, a * 3, none⟩ = some (.int .i64 o.fr) ∧ v.cell? ⟨r, a * 3 + 1, none⟩ = some (.int .i64 o.tt) ∧ v.cell? ⟨r, a * 3 + 2, none⟩ = some (.slice o.X o.n o.c))) := Lib.hid fun v hv => ⟨(hv.cell (by exact hrw4)).trans H4.out.2.2.2.2.2.1.1.1, (hv.cell (by exact hrw4)).trans H4.out.2.2.2.2.2.1.1.2.1, (hv.cell (by exact hrw4)).trans H4.out.2.2.2.2.2.1.1.2.2⟩
            have HRD : Hid (Rd w4 o.X o.n o.l) := Lib.hid (HX.out.2.2.1.rd.below (H4.out.2.1.trans (H4.out.2.2.1.mono H4.out.2.1.size)) (Nat.le_refl _))
            clear hrw4
            refine wp_region_held_drew (S := fun v => Below w4.heap.size w4 v) (by kernel_rfl) (((Below.refl w4.heap.size w4).drew)) (fun hHeld => ?_)
            refine wpAnyH_take (i := 0) (oi := ⟨some 61, _, _, _, _, _⟩) (v := ?_) rfl (by kernel_rfl) (by kernel_rfl) (by kernel_rfl) (fun _ _ _ h => h) (Or.inl ⟨by rfl, ?_⟩) (by assumption) ?_
            rotate_left
            · intro w hSw
              (try dsimp only at hSw)
              go_simp
              all_goals (with_reducible rfl)
            try simp only [Act.put, List.setIfInBounds_toArray, List.set_cons_zero, List.set_cons_succ]
            refine wpAnyH_take (i := 1) (oi := ⟨some 62, _, _, _, _, _⟩) (v := ?_) rfl (by kernel_rfl) (by kernel_rfl) (by kernel_rfl) (fun _ _ _ h => h) (Or.inl ⟨by rfl, ?_⟩) (by assumption) ?_
            rotate_left
            · intro w hSw
              (try dsimp only at hSw)
              go_simp
              all_goals (with_reducible rfl)
            try simp only [Act.put, List.setIfInBounds_toArray, List.set_cons_zero, List.set_cons_succ]
            refine wpAnyH_take (i := 2) (oi := ⟨some 63, _, _, _, _, _⟩) (v := ?_) rfl (by kernel_rfl) (by kernel_rfl) (by kernel_rfl) (fun _ _ _ h => h) (Or.inl ⟨by rfl, ?_⟩) (by assumption) ?_
            rotate_left
            · intro w hSw
              (try dsimp only at hSw)
              go_simp
              all_goals (with_reducible rfl)
            try simp only [Act.put, List.setIfInBounds_toArray, List.set_cons_zero, List.set_cons_succ]
            refine wpAnyH_take (i := 3) (oi := ⟨some 64, _, _, _, _, _⟩) (v := ?_) rfl (by kernel_rfl) (by kernel_rfl) (by kernel_rfl) (fun _ _ _ h => h) (Or.inl ⟨by rfl, ?_⟩) (by assumption) ?_
            rotate_left
            · intro w hSw
              obtain ⟨⟨k0, k1, k2⟩, _, _, _⟩ := three (b := b4) ((hSw.block _ (Array.getElem?_eq_some_iff.1 HR4.out).1).trans HR4.out)
              go_simp
              all_goals (with_reducible rfl)
            try simp only [Act.put, List.setIfInBounds_toArray, List.set_cons_zero, List.set_cons_succ]
            refine wpAnyH_take (i := 4) (oi := ⟨some 65, _, _, _, _, _⟩) (v := ?_) rfl (by kernel_rfl) (by kernel_rfl) (by kernel_rfl) (fun _ _ _ h => h) (Or.inl ⟨by rfl, ?_⟩) (by assumption) ?_
            rotate_left
            · intro w hSw
              (try dsimp only at hSw)
              go_simp
              all_goals (with_reducible rfl)
            try simp only [Act.put, List.setIfInBounds_toArray, List.set_cons_zero, List.set_cons_succ]
            refine wpAnyH_take (i := 5) (oi := ⟨some 66, _, _, _, _, _⟩) (v := ?_) rfl (by kernel_rfl) (by kernel_rfl) (by kernel_rfl) (fun _ _ _ h => h) (Or.inl ⟨by rfl, ?_⟩) (by assumption) ?_
            rotate_left
            · intro w hSw
              (try dsimp only at hSw)
              go_simp
              all_goals (with_reducible rfl)
            try simp only [Act.put, List.setIfInBounds_toArray, List.set_cons_zero, List.set_cons_succ]
            refine wpAnyH_take (i := 6) (oi := ⟨some 67, _, _, _, _, _⟩) (v := ?_) rfl (by kernel_rfl) (by kernel_rfl) (by kernel_rfl) (fun _ _ _ h => h) (Or.inl ⟨by rfl, ?_⟩) (by assumption) ?_
            rotate_left
            · intro w hSw
              (try dsimp only at hSw)
              go_simp
              all_goals (with_reducible rfl)
            try simp only [Act.put, List.setIfInBounds_toArray, List.set_cons_zero, List.set_cons_succ]
            refine wpAnyH_take (i := 7) (oi := ⟨some 68, _, _, _, _, _⟩) (v := ?_) rfl (by kernel_rfl) (by kernel_rfl) (by kernel_rfl) (fun _ _ _ h => h) (Or.inl ⟨by rfl, ?_⟩) (by assumption) ?_
            rotate_left
            · intro w hSw
              obtain ⟨k0, k1, k2⟩ := HC4.out w hSw
              go_simp
              all_goals (with_reducible rfl)
            try simp only [Act.put, List.setIfInBounds_toArray, List.set_cons_zero, List.set_cons_succ]
            refine wpAnyH_ready (rs := [8]) (by kernel_rfl) (by simp) (AllReadyH.cons (o := ⟨some 69, _, _, _, _, _⟩) rfl (fun K hK => ?_) AllReadyH.nil)
            go_simp
            refine (like_is _ (H4.out.2.2.2.2.2.2.rd.below (by exact ((Below.refl w4.heap.size w4).drew)) (Nat.le_refl _)) (HRD.out.below (by exact ((Below.refl w4.heap.size w4).drew)) (Nat.le_refl _)) (q := true) HX.out.2.2.1.alike).mono ?_
            rintro e v5 ⟨rfl, hb⟩
            have B5 : Hid (Below w4.heap.size w4 v5) := Lib.hid (Below.trans ((Below.refl w4.heap.size w4).drew) hb)
            clear hb
            refine hK.out _ _ (B5.out) (fun hHeld => ?_)
            clear hK K
            try simp only [Act.put, List.setIfInBounds_toArray, List.set_cons_zero, List.set_cons_succ]
            refine wpAnyH_take (i := 9) (oi := ⟨some 70, _, _, _, _, _⟩) (v := ?_) rfl (by kernel_rfl) (by kernel_rfl) (by kernel_rfl) (fun _ _ _ h => h) (Or.inl ⟨by rfl, ?_⟩) (by assumption) ?_
            rotate_left
            · intro w hSw
              (try dsimp only at hSw)
              go_simp
              all_goals (with_reducible rfl)
            try simp only [Act.put, List.setIfInBounds_toArray, List.set_cons_zero, List.set_cons_succ]
            refine wpAnyH_take (i := 10) (oi := ⟨some 71, _, _, _, _, _⟩) (v := ?_) rfl (by kernel_rfl) (by kernel_rfl) (by kernel_rfl) (fun _ _ _ h => h) (Or.inl ⟨by rfl, ?_⟩) (by assumption) ?_
            rotate_left
            · intro w hSw
              (try dsimp only at hSw)
              go_simp
              all_goals (with_reducible rfl)
            try simp only [Act.put, List.setIfInBounds_toArray, List.set_cons_zero, List.set_cons_succ]
            refine wpAnyH_done (by kernel_rfl) ?_ _
            clear hHeld
            obtain ⟨a1, ha1, ha2⟩ : ∃ a1 : Nat, (a : Int) + 1 = (a1 : Int) ∧ a1 = a + 1 := ⟨a + 1, by omega, rfl⟩
            have ha3 : IntKind.i64.wrap (a1 : Int) = (a1 : Int) := IntWalk.i64_in _ (by omega)
            obtain ⟨q3, hq3⟩ : ∃ v, q2 - (a + 1) = v := ⟨_, rfl⟩
            obtain ⟨c3, hc3⟩ : ∃ v, cc2 - (a + 1) = v := ⟨_, rfl⟩
            have hs1 : ∀ v, (Instr.slice 67 (.slice (some ⟨r, 0, none⟩) q2 cc2) none (some (.int .i64 (a : Int))) none).run Try.prog v = .ok (.slice (some ⟨r, 0, none⟩) a cc2) v := fun v => slice_hk 67 Try.underlying67 size34 r q2 cc2 a (by have := HX.out.2.2.2.2.2.1; omega) v
            obtain ⟨ad2, hs2, hk2⟩ : ∃ ad2 : Addr, (∀ v, (Instr.slice 67 (.slice (some ⟨r, 0, none⟩) q2 cc2) (some (.int .i64 (a1 : Int))) none none).run Try.prog v = .ok (.slice (some ad2) q3 c3) v) ∧ (0 < q3 → ad2 = ⟨r, (a + 1) * 3, none⟩) := second_part r q2 cc2 a a1 q3 c3 ha2 hq3 hc3 (by have := HA.out; omega) HX.out.2.2.2.2.2.2
            have hown5 : OwnK v5 wo.heap.size 34 3 (some ⟨r, 0, none⟩) q2 cc2 (dcs L2) := H4.out.2.2.2.2.1.below B5.out (Nat.le_refl _)
            have hkey := (two_rows hown5 HX.out.1).2
            have hr5 : r < v5.heap.size := (own_block hown5).2
            have hr6 : ∀ v, Below v5.heap.size v5 v → ∀ j u, (dcs L2)[j]? = some u → v.cell? ⟨r, j, none⟩ = some u := fun v hv j u hj => (hv.cell (by exact hr5)).trans (hkey j u hj)
            have HK5 := Lib.hid (And.intro hr6 (And.intro hk2 (And.intro ha2 (And.intro hq3 (And.intro hc3 (by have := hown5.len; have := dcs_len L2; omega : L2.length = q2))))))
            clear hown5 hkey hr5 hr6 hk2 hq3 hc3 ha2 HC4 HR4 HRD
            go_upto_region 18 with (fail)
            refine wp_region_held_drew (S := fun v => Below v5.heap.size v5 v) (by kernel_rfl) (((Below.refl v5.heap.size v5).drew)) (fun hHeld => ?_)
            refine wpAnyH_take (i := 1) (oi := ⟨some 73, _, _, _, _, _⟩) (v := ?_) rfl (by kernel_rfl) (by kernel_rfl) (by kernel_rfl) (fun _ _ _ h => h) (Or.inl ⟨by rfl, ?_⟩) (by assumption) ?_
            rotate_left
            · intro w hSw
              (try dsimp only at hSw)
              go_simp
              all_goals (with_reducible rfl)
            try simp only [Act.put, List.setIfInBounds_toArray, List.set_cons_zero, List.set_cons_succ]
            refine wpAnyH_take (i := 2) (oi := ⟨some 74, _, _, _, _, _⟩) (v := ?_) rfl (by kernel_rfl) (by kernel_rfl) (by kernel_rfl) (fun _ _ _ h => h) (Or.inl ⟨by rfl, ?_⟩) (by assumption) ?_
            rotate_left
            · intro w hSw
              (try dsimp only at hSw)
              go_simp
              all_goals (with_reducible rfl)
            try simp only [Act.put, List.setIfInBounds_toArray, List.set_cons_zero, List.set_cons_succ]
            refine wpAnyH_take (i := 3) (oi := ⟨some 75, _, _, _, _, _⟩) (v := ?_) rfl (by kernel_rfl) (by kernel_rfl) (by kernel_rfl) (fun _ _ _ h => h) (Or.inl ⟨by rfl, ?_⟩) (by assumption) ?_
            rotate_left
            · intro w hSw
              have hs := hs1 w
              go_simp
              all_goals (with_reducible rfl)
            try simp only [Act.put, List.setIfInBounds_toArray, List.set_cons_zero, List.set_cons_succ]
            refine wpAnyH_take (i := 5) (oi := ⟨some 77, _, _, _, _, _⟩) (v := ?_) rfl (by kernel_rfl) (by kernel_rfl) (by kernel_rfl) (fun _ _ _ h => h) (Or.inl ⟨by rfl, ?_⟩) (by assumption) ?_
            rotate_left
            · intro w hSw
              (try dsimp only at hSw)
              go_simp
              all_goals (with_reducible rfl)
            try simp only [Act.put, List.setIfInBounds_toArray, List.set_cons_zero, List.set_cons_succ]
            refine wpAnyH_take (i := 6) (oi := ⟨some 78, _, _, _, _, _⟩) (v := ?_) rfl (by kernel_rfl) (by kernel_rfl) (by kernel_rfl) (fun _ _ _ h => h) (Or.inl ⟨by rfl, ?_⟩) (by assumption) ?_
            rotate_left
            · intro w hSw
              (try dsimp only at hSw)
              go_simp
              all_goals (with_reducible rfl)
            try simp only [Act.put, List.setIfInBounds_toArray, List.set_cons_zero, List.set_cons_succ]
            refine wpAnyH_take (i := 7) (oi := ⟨some 79, _, _, _, _, _⟩) (v := ?_) rfl (by kernel_rfl) (by kernel_rfl) (by kernel_rfl) (fun _ _ _ h => h) (Or.inl ⟨by rfl, ?_⟩) (by assumption) ?_
            rotate_left
            · intro w hSw
              (try dsimp only at hSw)
              go_simp
              all_goals (with_reducible rfl)
            try simp only [Act.put, List.setIfInBounds_toArray, List.set_cons_zero, List.set_cons_succ]
            refine wpAnyH_take (i := 8) (oi := ⟨some 80, _, _, _, _, _⟩) (v := ?_) rfl (by kernel_rfl) (by kernel_rfl) (by kernel_rfl) (fun _ _ _ h => h) (Or.inl ⟨by rfl, ?_⟩) (by assumption) ?_
            rotate_left
            · intro w hSw
              have hs := hs2 w
              go_simp
              all_goals (with_reducible rfl)
            try simp only [Act.put, List.setIfInBounds_toArray, List.set_cons_zero, List.set_cons_succ]
            refine wpAnyH_ready (rs := [0]) (by kernel_rfl) (by simp) (AllReadyH.cons (o := ⟨some 72, _, _, _, _, _⟩) rfl (fun K hK => ?_) AllReadyH.nil)
            go_simp
            obtain ⟨va, hva⟩ : ∃ v, (v5.alloc (.cells #[] 34)).drew = v := ⟨_, rfl⟩
            have hBa : Below v5.heap.size v5 va := hva ▸ ((Below.refl v5.heap.size v5).alloc (Nat.le_refl _) _).drew
            have hwa : va.heap[v5.heap.size]? = some (.cells ([] ++ [] : List Value).toArray 34 (0, 0)) := hva ▸ heap_alloc_new v5 _
            refine hK.out _ _ (((Below.refl v5.heap.size v5).alloc (Nat.le_refl _) _).drew) (fun hHeld => ?_)
            clear hK K
            rw [hva]
            try simp only [Act.put, List.setIfInBounds_toArray, List.set_cons_zero, List.set_cons_succ]
            have Ha := Lib.hid (And.intro hBa (OwnK.mk' (k := 3) (n := 0) (c := 0) (vs := []) (Nat.le_refl _) hwa (Nat.le_refl _) (by decide) rfl rfl))
            clear hBa hwa hva hHeld
            refine wpAnyH_ready (rs := [4]) (by kernel_rfl) (by simp) (AllReadyH.cons (o := ⟨some 76, _, _, _, _, _⟩) rfl (fun K hK => ?_) AllReadyH.nil)
            refine step_appKs rfl (.tmp 72) (.tmp 75) 67 rfl v5.heap.size 34 3 _ 40 Try.underlying67 info34 rfl (by omega) (A := some ⟨v5.heap.size, 0, none⟩) (n := 0) (c := 0) (vs := []) rfl Ha.out.2 (ad := ⟨r, 0, none⟩) (m := a) (d := cc2) (us := (dcs L2).take (a * 3)) rfl (by rw [List.length_take, dcs_len, HK5.out.2.2.2.2.2]; have := HA.out; omega) (fun j u hj => by rw [addr_zero]; exact HK5.out.1 _ Ha.out.1 j u (take_get hj)) (fun u hu => dcs_one _ _ (List.mem_of_mem_take hu)) (by omega) (by omega) Ha.out.1.size a (by omega) ?_
            intro A' c' vb hob hgr hA
            have Hb := Lib.hid (And.intro (Ha.out.1.grown hgr Ha.out.1.size (fun k hk => (own_block_lo Ha.out.2 k hk))) hob)
            clear hob hgr hA
            refine hK.out _ _ (Hb.out.1) (fun hHeld => ?_)
            clear hK K
            try simp only [Act.put, List.setIfInBounds_toArray, List.set_cons_zero, List.set_cons_succ]
            refine wpAnyH_ready (rs := [9]) (by kernel_rfl) (by simp) (AllReadyH.cons (o := ⟨some 81, _, _, _, _, _⟩) rfl (fun K hK => ?_) AllReadyH.nil)
            refine step_appKs rfl (.tmp 76) (.tmp 80) 67 rfl v5.heap.size 34 3 _ 40 Try.underlying67 info34 rfl (by omega) (A := A') (n := a) (c := c') (vs := [] ++ (dcs L2).take (a * 3)) rfl Hb.out.2 (ad := ad2) (m := q3) (d := c3) (us := (dcs L2).drop ((a + 1) * 3)) rfl (by rw [List.length_drop, dcs_len, HK5.out.2.2.2.2.2]; have := HK5.out.2.2.2.1; omega) (fun j u hj => by have h3 := drop_get hj; have h0 : 0 < q3 := (by have := (List.getElem?_eq_some_iff.1 h3).1; rw [dcs_len, HK5.out.2.2.2.2.2] at this; have := HK5.out.2.2.2.1; omega); rw [HK5.out.2.1 h0, addr_base]; exact HK5.out.1 _ Hb.out.1 _ u h3) (fun u hu => dcs_one _ _ (List.mem_of_mem_drop hu)) (by have := HK5.out.2.2.2.1; omega) (by have := HK5.out.2.2.2.1; omega) Hb.out.1.size (a + q3) rfl ?_
            intro A3 c4 vc hoc hgr hA
            have Hc := Lib.hid (And.intro (Hb.out.1.grown hgr Hb.out.1.size (fun k hk => (own_block_lo Hb.out.2 k hk))) hoc)
            clear hoc hgr hA
            refine hK.out _ _ (Hc.out.1) (fun hHeld => ?_)
            clear hK K
            try simp only [Act.put, List.setIfInBounds_toArray, List.set_cons_zero, List.set_cons_succ]
            refine wpAnyH_take (i := 10) (oi := ⟨some 7, _, _, _, _, _⟩) (v := ?_) rfl (by kernel_rfl) (by kernel_rfl) (by kernel_rfl) (fun _ _ _ h => h) (Or.inl ⟨by rfl, ?_⟩) (by assumption) ?_
            rotate_left
            · intro w hSw
              (try dsimp only at hSw)
              go_simp
              all_goals (with_reducible rfl)
            try simp only [Act.put, List.setIfInBounds_toArray, List.set_cons_zero, List.set_cons_succ]
            refine wpAnyH_done (by kernel_rfl) ?_ _
            clear hHeld
            obtain ⟨q5, hq5⟩ : ∃ v, a + q3 = v := ⟨_, rfl⟩
            rw [hq5] at Hc ⊢
            have hq6 : q5 + 1 = q2 := by have := HK5.out.2.2.2.1; have := HA.out; omega
            have HE : Hid (LRel wo vc g c (S2.drop (a : Int)) A3 q5 c4 (L2.eraseIdx a)) := Lib.hid (HR.out.without HX.out.2.1 H4.out.1 H4.out.2.1 ((H4.out.2.2.1.trans (B5.out.mono H4.out.2.2.1.size)).trans (Hc.out.1.mono (Nat.le_trans H4.out.2.2.1.size B5.out.size))) (B' := v5.heap.size) (Nat.le_trans (Nat.le_trans H4.out.2.1.size H4.out.2.2.1.size) B5.out.size) (by rw [dcs_erase]; exact Hc.out.2))
            have HQ6 := Lib.hid hq6
            clear hq6 hq5 Ha Hb Hc HK5 H4 HX B5 hs1 hs2 HA ha1 ha3 hai haj HR
            go_wp2
            go_roundw
            case rel => exact ⟨A3, q5, c4, m + 1, _, _, rfl, by go_num, by have := HQ6.out; omega, HE.out⟩
            case measure => have := HQ6.out; simp; omega
        · obtain rfl : q2 = 0 := by omega
          have hlen0 : S2.heap.length = 0 := by rw [HR.out.hp, List.length_map, HR.out.len]
          have hno : S2.look 0 = none := NS.look_out (by omega)
          have hdr : S2.drop 0 = S2 := by simp [NS.drop, hno]
          have HX := Lib.hid (And.intro hlen0 (And.intro hno (And.intro hdr H1.out.2.2)))
          clear hlen0 hno hdr hq0 hmq
          go_wp2_with fail
          refine (nt_take _ HR.out.nt 0 (o := none) HX.out.2.1 HX.out.2.2.1).mono ?_
          rintro e w3 ⟨X, cx, rfl, ⟨rfl, rfl⟩, hn, hb, hk⟩
          dsimp only [nod, Option.getD, Option.isSome, List.length]
          obtain ⟨w4, hw4⟩ : ∃ v, w3.alloc (.cells #[.int .i64 0, .int .i64 0, .slice none 0 0] 34) = v := ⟨_, rfl⟩
          have hB4 : Below w3.heap.size w3 w4 := hw4 ▸ (Below.refl _ _).alloc (Nat.le_refl _) _
          have H4 := Lib.hid (And.intro (hn.below hB4) ((HR.out.bel.trans hb).trans (hB4.mono (HR.out.bel.trans hb).size)))
          have HW := Lib.hid hw4
          clear hn hb hk hB4 hw4 HR
          go_wp2_with fail
          rw [HW.out]
          clear HW
          refine (nt_flying _ H4.out.1 (q := 0) (by rw [HX.out.1]; rfl)).mono ?_
          rintro e _ ⟨rfl, rfl⟩
          have HE := Lib.hid (HB.out.trans (H4.out.2.mono HB.out.size))
          have HY := Lib.hid HX.out.2.2.2
          clear H4 HX H1
          go_wp2
          go_roundw
          case rel => exact ⟨y + 1, by have := HY.out; omega, by go_num, HE.out⟩
          case measure => have := HY.out; simp [Go.RowKit.intOf]; omega
    · obtain rfl : y = 3 := by omega
      go_wp2_with fail
      refine (awake_is _).mono ?_
      rintro e wz ⟨rfl, hz⟩
      have HZ := Lib.hid hz
      clear hz
      go_wp2
      go_ret
      exact ⟨rfl, HB.out.trans (HZ.out.mono HB.out.size)⟩
end Go.Proofs.Ythhablokbnfpcaa
