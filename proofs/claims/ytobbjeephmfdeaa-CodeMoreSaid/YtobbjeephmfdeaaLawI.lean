/- The laws' own helpers: picked, some. -/
import Derived.Test.YtobbjeephmfdeaaJoinB
import Derived.Test.YtobbjeephmfdeaaPickN
import Derived.Deep.LoopGhost
namespace Go.Proofs.Ytobbjeephmfdeaa
open Go.RowKit Go.Coop
set_option maxRecDepth 100000

theorem info4 : (Try.prog.info? 4).map (fun i => (i.zero, i.size, i.bytes)) = some (some (.bool false), 1, 1) := by kernel_rfl
/-- which places are taken -/
def tkV (n : Nat) (la : List Nat) : List Value := (List.range n).map fun j => .bool (decide (j ∈ la))
theorem tkV_len (n : Nat) (la : List Nat) : (tkV n la).length = n := by simp [tkV]
theorem tkV_at {n j : Nat} {la : List Nat} (h : j < n) : (tkV n la)[j]? = some (.bool (decide (j ∈ la))) := by simp [tkV, h]
theorem tkV_set {n x : Nat} {la : List Nat} : (tkV n la).set x (.bool true) = tkV n (la ++ [x]) := by
  apply List.ext_getElem?
  intro j
  by_cases hj : j < n
  · rw [tkV_at hj, List.getElem?_set]
    by_cases e : x = j
    · subst e
      rw [if_pos rfl, if_pos (by rw [tkV_len]; exact hj)]
      simp
    · rw [if_neg e, tkV_at hj]
      congr 3
      simp [show j ≠ x from fun h => e h.symm]
  · rw [List.getElem?_eq_none (by rw [List.length_set, tkV_len]; omega), List.getElem?_eq_none (by rw [tkV_len]; omega)]
theorem make101 (n : Nat) (hn : n ≤ 1000) (W : World) : (Instr.makeSlice 101 (.int .i64 (n : Int)) (.int .i64 (n : Int))).run Try.prog W = .ok (.slice (some ⟨W.heap.size, 0, none⟩) n n) (W.alloc (.cells (tkV n []).toArray 4)) := by
  obtain ⟨i, hi, hz, hs, hb⟩ := info_parts info4
  have := run_make (P := Try.prog) W 101 4 i (.bool false) Try.underlying101 hi hz .i64 .i64 n n (by omega) (by omega) (by rw [hb]; omega) (by omega)
  rw [hs, Int.toNat_natCast] at this
  have e : madeCells (Value.bool false).cells (n * 1) = (tkV n []).toArray := by
    apply Array.ext_getElem?
    intro j
    by_cases hj : j < n
    · have := tkV_at (la := []) hj
      simp only [List.getElem?_toArray, this]
      simp [madeCells, Value.cells, hj, Nat.mod_one]
    · rw [Array.getElem?_eq_none (by simp [madeCells]; omega), Array.getElem?_eq_none (by simp [tkV]; omega)]
  rw [e] at this
  exact this
/-- of more places than are taken one is free -/
theorem free_one {n a0 : Nat} {la : List Nat} (hl : la.length < n) : ∃ t, t < n ∧ (a0 + t) % n ∉ la := by
  refine Classical.byContradiction fun hno => ?_
  have hall : ∀ j, j ∈ List.range n → j ∈ la := fun j hj => by
    have hj := List.mem_range.1 hj
    refine Classical.byContradiction fun hj2 => hno ⟨(j + n - a0 % n) % n, Nat.mod_lt _ (by omega), ?_⟩
    have h0 : a0 % n < n := Nat.mod_lt _ (by omega)
    have e : (a0 + (j + n - a0 % n) % n) % n = j := by
      rw [Nat.add_mod, Nat.mod_mod]
      by_cases h : a0 % n ≤ j
      · have e1 : (j + n - a0 % n) % n = j - a0 % n := by
          rw [show j + n - a0 % n = (j - a0 % n) + n by omega, Nat.add_mod_right, Nat.mod_eq_of_lt (by omega)]
        rw [e1, show a0 % n + (j - a0 % n) = j by omega, Nat.mod_eq_of_lt hj]
      · have e1 : (j + n - a0 % n) % n = j + n - a0 % n := Nat.mod_eq_of_lt (by omega)
        rw [e1, show a0 % n + (j + n - a0 % n) = j + n by omega, Nat.add_mod_right, Nat.mod_eq_of_lt hj]
    rw [e]; exact hj2
  have := sub_len _ la List.nodup_range hall
  rw [List.length_range] at this
  omega

set_option maxHeartbeats 2000000 in
theorem lpicked_any (B : Option Addr) (m d : Nat) (l : List UInt8) (k n : Nat) (w : World) (h : Rd w B m l) (hk : k ≤ n) (hn1 : 1 ≤ n) (hn : n ≤ 20) :
    Calls Try.prog 37 #[.slice B m d, .int .i64 (k : Int), .int .i64 (n : Int)] w fun e w' => ∃ la A c, e = .returned (.slice A k c) ∧ la.length = k ∧ Places n la ∧ OwnV w' w.heap.size 3 A k c (nvs la) ∧ Below w.heap.size w w' := by
  have HR := Lib.hid h
  have hmk := make101 n (by omega)
  clear h
  go_enter Try.func37, Try.ntmps37
  go_wp2
  have HT0 : Hid (OwnV (w.alloc (.cells (tkV n []).toArray 4)) w.heap.size 4 (some ⟨w.heap.size, 0, none⟩) n n (tkV n [])) := by
    refine ⟨tkV_len _ _, by simp [tkV], .inr ⟨w.heap.size, n, _, rfl, Nat.le_refl _, heap_alloc_new w _, Nat.le_refl _, by simp only [maxLen]; omega, by simp [tkV], ?_⟩⟩
    have e : (tkV n []).toArray.toList = tkV n [] := rfl
    rw [e, Nat.mul_one, List.take_of_length_le (by rw [tkV_len]; omega)]
  go_loopw [8, 9] (fun v i wr => ∃ (q : Nat) (A : Option Addr) (c : Nat) (la : List Nat), q ≤ k ∧ i = .int .i64 q ∧ v = .slice A q c ∧ Hid (la.length = q) ∧ Hid (Places n la) ∧ Hid (OwnV wr (w.heap.size + 1) 3 A q c (nvs la)) ∧ Hid (OwnV wr w.heap.size 4 (some ⟨w.heap.size, 0, none⟩) n n (tkV n la)) ∧ Hid (Below w.heap.size w wr) ∧ w.heap.size + 1 ≤ wr.heap.size) (fun _ i _ => k - (intOf i).toNat)
  case atStart => exact ⟨0, none, 0, [], by omega, rfl, rfl, rfl, ⟨fun i x h => by simp at h, List.nodup_nil⟩, OwnV.nil _ _ _, HT0.out, (Below.refl _ _).alloc (Nat.le_refl _) _, by simp⟩
  case round =>
    obtain ⟨q, A, c, la, hq, rfl, rfl, HL, HP, HO, HT, HB, hws⟩ := hrel
    clear hmk
    by_cases hlt : q < k
    · obtain ⟨wo, rfl⟩ : ∃ wo : World, wo = wr := ⟨_, rfl⟩
      obtain ⟨tf, htf, hfree⟩ := free_one (n := n) (a0 := if q < m then ((l.getD q 0).toNat % n) else 0) (la := la) (by rw [HL.out]; omega)
      obtain ⟨a0, ha0⟩ : ∃ a0, (if q < m then ((l.getD q 0).toNat % n) else 0) = a0 := ⟨_, rfl⟩
      rw [ha0] at hfree
      have HF := Lib.hid hfree
      have ha0n : a0 < n := by rw [← ha0]; split; exact Nat.mod_lt _ (by omega); omega
      clear hfree
      by_cases hqm : q < m
      · rw [if_pos hqm] at ha0
        obtain ⟨ad, x, rfl, _, hx, hcx⟩ := (HR.out.below HB.out (Nat.le_refl _)).at_ hqm
        unfold BV at hcx
        have hgx : l.getD q 0 = x := by rw [List.getD_eq_getElem?_getD, hx]; rfl
        rw [hgx] at ha0
        have hyb := x.toNat_lt
        obtain ⟨y, hy⟩ : ∃ y, x.toNat = y := ⟨_, rfl⟩
        rw [hy] at hcx ha0 hyb
        have hqm' : (q : Int) < m := by omega
        have hyw : wrap64 (y : Int) = (y : Int) := by unfold wrap64; omega
        have hym : ((y : Int)).tmod (n : Int) = (a0 : Int) := by rw [← ha0]; rfl
        clear hx hgx hy
        go_wp2
        (try simp only [hyw])
        go_loopg [10] n (fun gs u wr' => ∃ s : Nat, gs = n - s ∧ s ≤ tf ∧ u = .int .i64 (((a0 + s) % n : Nat) : Int) ∧ Hid (wr' = wo))
        case atStart => exact ⟨0, rfl, Nat.zero_le _, by simp [Nat.mod_eq_of_lt ha0n], rfl⟩
        case round =>
          obtain ⟨s, rfl, hst, rfl, HW⟩ := hrel
          obtain rfl := HW.out
          obtain ⟨a, ha⟩ : ∃ a, (a0 + s) % n = a := ⟨_, rfl⟩
          have han : a < n := by rw [← ha]; exact Nat.mod_lt _ (by omega)
          obtain ⟨a2, ha2⟩ : ∃ a2, (a0 + (s + 1)) % n = a2 := ⟨_, rfl⟩
          have hnx : ((a : Int) + 1).tmod (n : Int) = (a2 : Int) := by
            have e : (a0 + (s + 1)) % n = (a + 1) % n := by rw [← ha, Nat.mod_add_mod]; rfl
            rw [← ha2, e]; rfl
          have HA2 := Lib.hid ha2
          clear ha2
          rw [ha]
          obtain ⟨aT, vT, eT, hlT, hvT, hcT⟩ := HT.out.rd.at_ han
          injection eT with eT
          subst eT
          rw [tkV_at han] at hvT
          injection hvT with hvT
          rw [← hvT, add_zero_off] at hcT
          have hfz := (HT.out.addr (show 0 < n by omega))
          obtain ⟨gT, eg, _, _, hfzT⟩ := hfz
          injection eg with eg
          injection eg with eg _ _
          subst eg
          have hfa := hfzT a
          have han1 : (a : Int) < n := by omega
          have HA := Lib.hid ha
          clear ha hvT hfzT hlT
          by_cases hin : a ∈ la
          · rw [decide_eq_true hin] at hcT
            have hstf : s ≠ tf := fun e => HF.out (by rw [← e, HA.out]; exact hin)
            go_wp2
            go_roundg (n - (s + 1))
            case measure => omega
            case rel =>
              refine ⟨s + 1, ?_, ?_, ?_, ?_⟩
              · first | rfl | omega
              · omega
              · rw [HA2.out]
              · first | exact rfl | trivial
          · rw [decide_eq_false hin] at hcT
            have HT2 : Hid (OwnV (wr.setCell ⟨w.heap.size, a, none⟩ (.bool true)) w.heap.size 4 (some ⟨w.heap.size, 0, none⟩) n n (tkV n (la ++ [a]))) := by
              show OwnV _ _ _ _ _ _ _
              rw [← tkV_set]
              exact HT.out.set rfl _
            have HO2 : Hid (OwnV (wr.setCell ⟨w.heap.size, a, none⟩ (.bool true)) (w.heap.size + 1) 3 A q c (nvs la)) := HO.out.at_block fun g hA => Below.heap_setCell _ _ _ _ (by
              obtain ⟨_, _, hb⟩ := HO.out.cells_at g hA
              show g ≠ w.heap.size
              omega)
            have HB2 : Hid (Below w.heap.size w (wr.setCell ⟨w.heap.size, a, none⟩ (.bool true))) := HB.out.setCell (Nat.le_refl _) _
            have hs2 : w.heap.size + 1 ≤ (wr.setCell ⟨w.heap.size, a, none⟩ (.bool true)).heap.size := by simpa [World.setCell] using hws
            have HP2 : Hid (Places n (la ++ [a])) := by
              refine ⟨fun i x hx => ?_, ?_⟩
              · rw [List.getElem?_append] at hx
                split at hx
                · exact HP.out.lt i x hx
                · have e0 : i - la.length = 0 := by have := (List.getElem?_eq_some_iff.1 hx).1; simpa using this
                  rw [e0] at hx
                  simp at hx
                  omega
              · rw [List.nodup_append]
                exact ⟨HP.out.ap, by simp, fun x hx y hy e => by simp at hy; subst hy; exact hin (e ▸ hx)⟩
            have HL2 : Hid ((la ++ [a]).length = q + 1) := by show _ = _; rw [List.length_append, HL.out]; rfl
            have HX1 : Hid (RdV ((wr.setCell ⟨w.heap.size, a, none⟩ (.bool true)).alloc (.cells #[.int .i64 (a : Int)] 3)) (some ⟨wr.heap.size, 0, none⟩) 1 [.int .i64 (a : Int)]) := by
              have h0 := RdV.one (wr.setCell ⟨w.heap.size, a, none⟩ (.bool true)) (.int .i64 (a : Int)) 3 (0, 0)
              rwa [show (wr.setCell ⟨w.heap.size, a, none⟩ (.bool true)).heap.size = wr.heap.size by simp [World.setCell]] at h0
            clear HT HO HB HP
            go_wp2_with (at_builtin; refine wpList_appV _ rfl (.tmp 40) (.tmp 42) _ rfl (w.heap.size + 1) 3 (.int .i64 0) 8 Try.underlying38 info3 rfl rfl (HO2.out.alloc _) rfl HX1.out (fun u hu => by rw [List.mem_singleton] at hu; subst hu; rfl) (by omega) (by omega) (by rw [size_alloc]; omega) (q + 1) rfl ?_; intro A' c' w' ho hg hat)
            have hne : ∀ j, A.map (·.block) = some j → w.heap.size + 1 ≤ j := fun j hj => (HO2.out.block j hj).1
            go_roundw
            case rel =>
              refine ⟨q + 1, A', c', la ++ [a], by omega, by go_num, rfl, HL2.out, HP2.out, ?_, ?_, ?_, ?_⟩
              · rw [nvs_snoc]; exact ho
              · exact (HT2.out.alloc _).kept hg (.inr fun e => by
                  have h' : w.heap.size + 1 ≤ w.heap.size := hne _ e.symm
                  omega)
              · exact (HB2.out.alloc (by omega) _).grown hg (by rw [size_alloc]; omega) (fun j hj => by have := hne j hj; omega)
              · have := hg.size; rw [size_alloc] at this; omega
            case measure => simp [intOf]; omega
      · rw [if_neg hqm] at ha0
        have hqm' : ¬ (q : Int) < m := by omega
        have hz : (a0 : Int) = 0 := by omega
        subst ha0
        go_wp2
        go_loopg [10] n (fun gs u wr' => ∃ s : Nat, gs = n - s ∧ s ≤ tf ∧ u = .int .i64 (((0 + s) % n : Nat) : Int) ∧ Hid (wr' = wo))
        case atStart => exact ⟨0, rfl, Nat.zero_le _, by simp [Nat.mod_eq_of_lt ha0n], rfl⟩
        case round =>
          obtain ⟨s, rfl, hst, rfl, HW⟩ := hrel
          obtain rfl := HW.out
          obtain ⟨a, ha⟩ : ∃ a, (0 + s) % n = a := ⟨_, rfl⟩
          have han : a < n := by rw [← ha]; exact Nat.mod_lt _ (by omega)
          obtain ⟨a2, ha2⟩ : ∃ a2, (0 + (s + 1)) % n = a2 := ⟨_, rfl⟩
          have hnx : ((a : Int) + 1).tmod (n : Int) = (a2 : Int) := by
            have e : (0 + (s + 1)) % n = (a + 1) % n := by rw [← ha, Nat.mod_add_mod]; rfl
            rw [← ha2, e]; rfl
          have HA2 := Lib.hid ha2
          clear ha2
          rw [ha]
          obtain ⟨aT, vT, eT, hlT, hvT, hcT⟩ := HT.out.rd.at_ han
          injection eT with eT
          subst eT
          rw [tkV_at han] at hvT
          injection hvT with hvT
          rw [← hvT, add_zero_off] at hcT
          have hfz := (HT.out.addr (show 0 < n by omega))
          obtain ⟨gT, eg, _, _, hfzT⟩ := hfz
          injection eg with eg
          injection eg with eg _ _
          subst eg
          have hfa := hfzT a
          have han1 : (a : Int) < n := by omega
          have HA := Lib.hid ha
          clear ha hvT hfzT hlT
          by_cases hin : a ∈ la
          · rw [decide_eq_true hin] at hcT
            have hstf : s ≠ tf := fun e => HF.out (by rw [← e, HA.out]; exact hin)
            go_wp2
            go_roundg (n - (s + 1))
            case measure => omega
            case rel =>
              refine ⟨s + 1, ?_, ?_, ?_, ?_⟩
              · first | rfl | omega
              · omega
              · rw [HA2.out]
              · first | exact rfl | trivial
          · rw [decide_eq_false hin] at hcT
            have HT2 : Hid (OwnV (wr.setCell ⟨w.heap.size, a, none⟩ (.bool true)) w.heap.size 4 (some ⟨w.heap.size, 0, none⟩) n n (tkV n (la ++ [a]))) := by
              show OwnV _ _ _ _ _ _ _
              rw [← tkV_set]
              exact HT.out.set rfl _
            have HO2 : Hid (OwnV (wr.setCell ⟨w.heap.size, a, none⟩ (.bool true)) (w.heap.size + 1) 3 A q c (nvs la)) := HO.out.at_block fun g hA => Below.heap_setCell _ _ _ _ (by
              obtain ⟨_, _, hb⟩ := HO.out.cells_at g hA
              show g ≠ w.heap.size
              omega)
            have HB2 : Hid (Below w.heap.size w (wr.setCell ⟨w.heap.size, a, none⟩ (.bool true))) := HB.out.setCell (Nat.le_refl _) _
            have hs2 : w.heap.size + 1 ≤ (wr.setCell ⟨w.heap.size, a, none⟩ (.bool true)).heap.size := by simpa [World.setCell] using hws
            have HP2 : Hid (Places n (la ++ [a])) := by
              refine ⟨fun i x hx => ?_, ?_⟩
              · rw [List.getElem?_append] at hx
                split at hx
                · exact HP.out.lt i x hx
                · have e0 : i - la.length = 0 := by have := (List.getElem?_eq_some_iff.1 hx).1; simpa using this
                  rw [e0] at hx
                  simp at hx
                  omega
              · rw [List.nodup_append]
                exact ⟨HP.out.ap, by simp, fun x hx y hy e => by simp at hy; subst hy; exact hin (e ▸ hx)⟩
            have HL2 : Hid ((la ++ [a]).length = q + 1) := by show _ = _; rw [List.length_append, HL.out]; rfl
            have HX1 : Hid (RdV ((wr.setCell ⟨w.heap.size, a, none⟩ (.bool true)).alloc (.cells #[.int .i64 (a : Int)] 3)) (some ⟨wr.heap.size, 0, none⟩) 1 [.int .i64 (a : Int)]) := by
              have h0 := RdV.one (wr.setCell ⟨w.heap.size, a, none⟩ (.bool true)) (.int .i64 (a : Int)) 3 (0, 0)
              rwa [show (wr.setCell ⟨w.heap.size, a, none⟩ (.bool true)).heap.size = wr.heap.size by simp [World.setCell]] at h0
            clear HT HO HB HP
            go_wp2_with (at_builtin; refine wpList_appV _ rfl (.tmp 40) (.tmp 42) _ rfl (w.heap.size + 1) 3 (.int .i64 0) 8 Try.underlying38 info3 rfl rfl (HO2.out.alloc _) rfl HX1.out (fun u hu => by rw [List.mem_singleton] at hu; subst hu; rfl) (by omega) (by omega) (by rw [size_alloc]; omega) (q + 1) rfl ?_; intro A' c' w' ho hg hat)
            have hne : ∀ j, A.map (·.block) = some j → w.heap.size + 1 ≤ j := fun j hj => (HO2.out.block j hj).1
            go_roundw
            case rel =>
              refine ⟨q + 1, A', c', la ++ [a], by omega, by go_num, rfl, HL2.out, HP2.out, ?_, ?_, ?_, ?_⟩
              · rw [nvs_snoc]; exact ho
              · exact (HT2.out.alloc _).kept hg (.inr fun e => by
                  have h' : w.heap.size + 1 ≤ w.heap.size := hne _ e.symm
                  omega)
              · exact (HB2.out.alloc (by omega) _).grown hg (by rw [size_alloc]; omega) (fun j hj => by have := hne j hj; omega)
              · have := hg.size; rw [size_alloc] at this; omega
            case measure => simp [intOf]; omega
    · obtain rfl : q = k := by omega
      go_wp2
      go_ret
      exact ⟨la, A, c, rfl, HL.out, HP.out, HO.out.lower (by omega), HB.out⟩

/-- rows of others, picked -/
theorem lsome_any (A : Option Addr) (m c s : Nat) (D : Fn2) (R : Option Addr) (k d : Nat) (la : List Nat) (w : World) (h : MR w A m (tabM m s D)) (hR : RdV w R k (nvs la)) (hla : ∀ x ∈ la, x < m) (hk : k ≤ 1000000) :
    Calls Try.prog 38 #[.slice A m c, .slice R k d] w fun e w' => ∃ B e', e = .returned (.slice B k e') ∧ k ≤ e' ∧ MR w' B k (tabM k s (pickF la D)) ∧ Below w.heap.size w w' := by
  have HA := Lib.hid h
  have HR := Lib.hid hR
  have hlen : Hid (la.length = k) := by have := hR.len; rwa [nvs_len] at this
  have HLA := Lib.hid hla
  clear h hR hla
  go_enter Try.func38, Try.ntmps38
  go_wp2
  go_loopw [5, 10] (fun v i wr => ∃ (q : Nat) (B : Option Addr) (e : Nat), q ≤ k ∧ i = .int .i64 q ∧ v = .slice B q e ∧ Hid (∃ vs, OwnV wr w.heap.size 31 B q e vs ∧ RowsV w vs (tabM q s (pickF la D))) ∧ Hid (Below w.heap.size w wr)) (fun _ i _ => k - (intOf i).toNat)
  case atStart => exact ⟨0, none, 0, by omega, rfl, rfl, ⟨[], OwnV.nil _ _ _, rfl, fun i r h => by simp [tabM] at h⟩, Below.refl _ _⟩
  case round =>
    obtain ⟨q, B, e, hq, rfl, rfl, HO, HB⟩ := hrel
    by_cases hlt : q < k
    · obtain ⟨ad, v, rfl, _, hv, hcx⟩ := (HR.out.below HB.out (Nat.le_refl _)).at_ hlt
      obtain ⟨x, hx, rfl⟩ := nvs_at hv
      have hxm := HLA.out x (List.mem_of_getElem? hx)
      obtain ⟨aa, X, dd, r, rfl, hal, hr, hc0, hd⟩ := HA.out.row hxm
      rw [tabM_at s D hxm] at hr
      injection hr with hr
      have hxq : pickF la D q = D x := by unfold pickF; rw [List.getD_eq_getElem?_getD, hx]; rfl
      have hr2 : rowL s (pickF la D q) = r := by rw [hxq]; exact hr
      rw [← hr, rowL_len] at hc0 hd
      have hc := (HB.out.cell (p := aa.add x) (by rw [addr_add_block]; exact hal)).trans hc0
      obtain ⟨vs, hvs, hrv⟩ := HO.out
      have HV := Lib.hid hvs
      have HRV := Lib.hid hrv
      have HD : Hid (RowsV w [.slice X s dd] [rowL s (pickF la D q)]) := ⟨rfl, fun i r' hi => by
        match i, hi with
        | 0, hi =>
          simp at hi
          subst hi
          rw [rowL_len, hxq]
          exact ⟨X, dd, rfl, hd⟩⟩
      have hqk : (q : Int) < k := by omega
      have hx0 : (0 : Int) ≤ (x : Int) := by omega
      have hxm2 : (x : Int) < m := by omega
      have hbs := HB.out.size
      clear hv hx hr hc0 hd hvs hrv hxq hr2
      go_wp2_with (at_builtin; refine wpList_appV _ rfl (.tmp 14) (.tmp 19) _ rfl w.heap.size 31 (.slice none 0 0) 24 Try.underlying32 info31 rfl rfl (HV.out.alloc _) rfl (RdV.one _ _ _ _) (fun u hu => by simp at hu; subst hu; rfl) (by omega) (by omega) (by simp; omega) (q + 1) rfl ?_; intro A' c' w' ho hg hat)
      go_roundw
      case rel => exact ⟨q + 1, A', c', by omega, by go_num, rfl, ⟨_, ho, by rw [tabM_snoc]; exact HRV.out.append HD.out⟩, (HB.out.alloc hbs _).grown hg (by simp; omega) (fun j hj => (HV.out.block j hj).1)⟩
      case measure => simp [intOf]; omega
    · obtain rfl : q = k := by omega
      go_wp2
      go_ret
      obtain ⟨vs, hvs, hrv⟩ := HO.out
      exact ⟨B, e, rfl, hvs.cap, ⟨tabM_len _ _ _, vs, hvs.rd, (hrv.below HB.out (Nat.le_refl _)).2⟩, HB.out⟩
end Go.Proofs.Ytobbjeephmfdeaa
