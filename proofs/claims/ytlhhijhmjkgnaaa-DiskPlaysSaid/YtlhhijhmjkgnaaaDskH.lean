/- Crash. -/
import Derived.Test.YtlhhijhmjkgnaaaDskG
namespace Go.Proofs.Ytlhhijhmjkgnaaa
open Go.RowKit Go.Coop
set_option maxRecDepth 100000

section
variable {P : Program} {ops : Array Oper} {rest : List Oper} {o : Oper} {a : Act} {w : World}
theorem wpStill_lookup {Q : Act → Prop} (hgd : o.guard = none) (t : TypeId) (x y : Operand) (ok : Bool) (ho : o.op = .lookup t x y ok) (mv kv : Value) (hx : a.eval x = mv) (hy : a.eval y = kv) (v : Value) (hrun : (Instr.lookup t mv kv ok).run P w = .ok v w)
    (h : wpStill P ops w Q rest (a.put o.dst v)) : wpStill P ops w Q (o :: rest) a := by
  refine wpStill_step fun K hK => ?_
  simp only [Region.wanted, hgd, if_true]
  unfold Oper.still execOp
  simp only [ho, hx, hy, Sem.run_bind, hrun, Result.andThen_ok]
  exact ⟨rfl, hK _ h⟩
end
theorem rdv_but {w w' : World} {gs : List Nat} {ad : Addr} {n : Nat} {l : List Value} (hr : RdV w (some ad) n l) (hb : But gs w w') (hn : ad.block ∉ gs) : RdV w' (some ad) n l :=
  ⟨hr.len, fun h0 => by
    obtain ⟨ad', e, hlt, hc⟩ := hr.cells h0
    injection e with e
    subst e
    refine ⟨ad, rfl, Nat.lt_of_lt_of_le hlt hb.size, fun j c' hj => ?_⟩
    have := hc j c' hj
    have e : w'.heap[ad.block]? = w.heap[ad.block]? := hb.block _ hlt hn
    exact (World.cell?_of_block (w := w) (by rw [addr_add_block]; exact e)).trans this⟩
theorem flat_mem {n : Nat} {f : Nat → List UInt8} {v : Value} (h : v ∈ flat n f) : ∃ b, v = BV b := by
  unfold flat at h
  obtain ⟨i, _, hv⟩ := List.mem_flatMap.1 h
  unfold bvs at hv
  obtain ⟨b, _, rfl⟩ := List.mem_map.1 hv
  exact ⟨b, rfl⟩
/-- what is no bytes lies elsewhere than the medium -/
theorem DiskAt.rdv_ne {w : World} {g m c : Nat} {S : DS} (h : DiskAt w g m c S) {ad : Addr} {n : Nat} {l : List Value} (hr : RdV w (some ad) n l) (hn : 0 < n) (hv : ∀ v ∈ l, ∀ b, v ≠ BV b) : ad.block ≠ m := by
  rintro rfl
  obtain ⟨ad', v, e, _, hj, hc⟩ := hr.at_ hn
  injection e with e
  subst e
  have e0 : ad.add 0 = ad := by simp [Addr.add]
  rw [e0] at hc
  have hb := h.med
  simp only [World.cell?, hb] at hc
  split at hc
  · cases hc
  · simp only [List.getElem?_toArray] at hc
    obtain ⟨b, rfl⟩ := flat_mem (List.mem_of_getElem? hc)
    exact hv _ (List.mem_of_getElem? hj) b rfl
/-- .. nor the block of the disk, if it has no slices, maps, bools, numbers of that kind -/
theorem rdv_keep {w w' : World} {g m c : Nat} {S : DS} (h : DiskAt w g m c S) {A : Option Addr} {n : Nat} {l : List Value} (hr : RdV w A n l) (hv : ∀ v ∈ l, ∀ b, v ≠ BV b) (hb : But [m] w w') : RdV w' A n l := by
  rcases Nat.eq_zero_or_pos n with h0 | h0
  · subst h0
    have := List.eq_nil_of_length_eq_zero hr.len
    subst this
    exact RdV.nil _ _
  · obtain ⟨ad, rfl, _⟩ := hr.cells h0
    exact rdv_but hr hb (by simpa using h.rdv_ne hr h0 hv)
def bools (ks : List Bool) : List Value := ks.map Value.bool
theorem ints_no (l : List Nat) : ∀ v ∈ ints l, ∀ b, v ≠ BV b := by
  intro v hv b e
  obtain ⟨i, _, rfl⟩ := List.mem_map.1 hv
  cases e
theorem bools_no (l : List Bool) : ∀ v ∈ bools l, ∀ b, v ≠ BV b := by
  intro v hv b e
  obtain ⟨i, _, rfl⟩ := List.mem_map.1 hv
  cases e
theorem crashed_eq {S : DS} (h : S.Ok) (ks : List Bool) : (⟨S.n, (S.crashing ks S.cached.length).med, fun _ => none, false, S.left, false⟩ : DS) = S.crashed ks := by
  rw [show (S.crashing ks S.cached.length).med = (S.crashed ks).med from funext (DS.crashing_all h ks)]
  rfl

theorem crash_round {w : World} {g m c : Nat} {S : DS} {ks : List Bool} {k i : Nat} (h : DiskAt w g m c (S.crashing ks k)) (hi : i < S.n) (hc : (S.cache i).isSome) (hS : S.Ok) :
    (Instr.lookup 57 (.map (some c)) (.int .i64 (i : Int)) false).run Try.prog w.drew = .ok (secV (S.at_ i)) w.drew ∧
    (Instr.storeAt 77 (.pointer (some ⟨m, i * 64, none⟩)) (secV (S.at_ i))).run Try.prog w.drew = .ok () (w.drew.setRow m (flat i (S.crashing ks k).med ++ bvs (S.at_ i) ++ behind (S.crashing ks k).n i (S.crashing ks k).med).toArray) ∧ (S.at_ i).length = 64 := by
  obtain ⟨D, hown, hC⟩ := h.drew.cache
  have hn := hS.n2
  have e : (S.cache i).getD noughts = S.at_ i := by
    obtain ⟨l, hl⟩ := Option.isSome_iff_exists.1 hc
    simp [DS.at_, hl]
  have := look1_run hown hC (i := i) (by omega)
  refine ⟨?_, store_med h hi (hS.at_ i), hS.at_ i⟩
  rw [← e]
  exact this

section
variable (w : World) {g m c : Nat} {S : DS}
theorem crash_none {p : Option Addr} (h : NoD w p) (v : Value) : Calls Try.prog 18 #[.pointer p, v] w fun e w' => e = .returned (.tuple #[]) ∧ w = w' := by
  have H := Lib.hid h
  clear h
  go_enter Try.func18, Try.ntmps18
  go_wp2_with (go_at_call 37; refine (made_none _ H.out).mono ?_; rintro e w' ⟨rfl, rfl⟩)
  exact bodyPost_ret (v := .tuple #[]) (by simp [results, Try.results18, go_sem]) rfl ⟨rfl, rfl⟩

def CrashRel (w0 : World) (g m c : Nat) (S : DS) (ks : List Bool) (k : Nat) (wr : World) : Prop := DiskAt wr g m c (S.crashing ks k) ∧ But [m] w0 wr
theorem crash_yes (h : DiskAt w g m c S) (A : Option Addr) (n cap : Nat) (ks : List Bool) (hk : RdV w A n (bools ks)) (hn : n ≤ 9223372036854775807) : Calls Try.prog 18 #[.pointer (some ⟨g, 0, none⟩), .slice A n cap] w fun e w' => e = .returned (.tuple #[]) ∧ ∃ c', DiskAt w' g m c' (S.crashed ks) ∧ But [g, m] w w' ∧ w.heap.size ≤ c' := by
  have H := Lib.hid h
  have HKS := Lib.hid hk
  have HN := Lib.hid hn
  clear h hk
  go_enter Try.func18, Try.ntmps18
  go_wp2_with (first
    | (go_at_call 37; refine (made_yes _ H.out).mono ?_; rintro e w' ⟨rfl, rfl⟩)
    | (go_at_call 32; refine (cached_yes _ H.out).mono ?_; rintro e w1 ⟨A1, cap1, rfl, hR1, hB1⟩))
  have HD1 := Lib.hid (H.out.below hB1 (Nat.le_refl _))
  have HK1 := Lib.hid (HKS.out.below hB1 (Nat.le_refl _))
  obtain ⟨L, hL⟩ : ∃ L, S.cached.length = L := ⟨_, rfl⟩
  have hL6 : L ≤ 65536 := by
    rw [← hL]
    unfold DS.cached
    have := List.length_filter_le (fun i => (S.cache i).isSome) (List.range S.n)
    rw [List.length_range] at this
    have := H.out.ok.n2
    omega
  rw [hL] at hR1 ⊢
  have HR1 := Lib.hid hR1
  have HB1 := Lib.hid hB1
  have HL := Lib.hid hL
  clear hR1 hB1 hL HKS
  go_loopw [12] (fun i wr => ∃ k : Nat, k ≤ L ∧ i = .int .i64 k ∧ Hid (CrashRel w1 g m c S ks k wr)) (fun i _ => L - (Go.RowKit.intOf i).toNat)
  case atStart => exact ⟨0, by omega, rfl, ⟨by rw [DS.crashing_zero]; exact HD1.out, But.refl _ _⟩⟩
  case round =>
    obtain ⟨k, hkl, rfl, HC⟩ := hrel
    by_cases hlt : k < L
    · obtain ⟨i, hi⟩ : ∃ i, S.cached[k]? = some i := ⟨_, List.getElem?_eq_getElem (by rw [HL.out]; exact hlt)⟩
      have hRr := rdv_keep HD1.out HR1.out (ints_no _) HC.out.2
      have hKr := rdv_keep HD1.out HK1.out (bools_no _) HC.out.2
      obtain ⟨ad, v, rfl, _, hv, hcell⟩ := hRr.at_ hlt
      obtain rfl : v = .int .i64 (i : Int) := by
        unfold ints at hv
        rw [List.getElem?_map, hi] at hv
        injection hv with hv
        exact hv.symm
      have HST := Lib.hid (DS.crashing_step ks hi)
      have HI := Lib.hid (DS.cached_at hi)
      clear hRr hv hi
      by_cases hkn : k < n
      · obtain ⟨adk, v', rfl, _, hv', hcellk⟩ := hKr.at_ hkn
        obtain ⟨b, hb⟩ : ∃ b, ks[k]? = some b := by
          have := hKr.len
          exact ⟨_, List.getElem?_eq_getElem (by unfold bools at this; rw [List.length_map] at this; omega)⟩
        obtain rfl : v' = .bool b := by
          unfold bools at hv'
          rw [List.getElem?_map, hb] at hv'
          injection hv' with hv'
          exact hv'.symm
        have HBK := Lib.hid hb
        clear hKr hv' hb
        cases b
        · have hstep : Hid (S.crashing ks (k + 1) = S.crashing ks k) := by
            show S.crashing ks (k + 1) = _
            rw [HST.out, HBK.out]
            rfl
          go_wp2
          go_roundw
          case rel => exact ⟨k + 1, by omega, by go_num, by show CrashRel _ _ _ _ _ _ _ _; unfold CrashRel; rw [hstep.out]; exact HC.out⟩
          case measure => simp [Go.RowKit.intOf]; omega
        · have hstep : Hid (S.crashing ks (k + 1) = (S.crashing ks k).spoilt i (S.at_ i)) := by
            show S.crashing ks (k + 1) = _
            rw [HST.out, HBK.out]
            rfl
          obtain ⟨hlk, hst, hl64⟩ := crash_round HC.out.1 HI.out.1 HI.out.2.1 H.out.ok
          have HLK := Lib.hid hlk
          have HSTO := Lib.hid hst
          have hin : (i : Int) < ((S.crashing ks k).n : Int) := by have : i < (S.crashing ks k).n := HI.out.1; omega
          have c0 := HC.out.1.c0
          have c1 := HC.out.1.c1
          have he := HC.out.1.drew.med_ (i := i) HI.out.1 hl64
          rw [List.append_assoc] at he
          have HE := Lib.hid he
          clear hlk hst hl64 he
          go_wp2
          refine wp_region_still_tail 12 (by kernel_rfl) (by kernel_rfl) ?_
          simp only [List.take_succ_cons, List.take_zero, List.drop_succ_cons, List.drop_zero]
          iterate 10 still_step
          refine wpStill_lookup rfl 57 _ _ _ rfl _ _ rfl rfl _ HLK.out ?_
          still_step
          refine wpStill_nil ?_
          refine wpList_store rfl 77 _ _ rfl _ _ rfl rfl _ HSTO.out ?_
          go_wp2
          go_roundw
          case rel => exact ⟨k + 1, by omega, by go_num, by show CrashRel _ _ _ _ _ _ _ _; unfold CrashRel; rw [hstep.out]; exact ⟨HE.out, HC.out.2.drew.setRow (by simp) _⟩⟩
          case measure => simp [Go.RowKit.intOf]; omega
      · have hstep : Hid (S.crashing ks (k + 1) = S.crashing ks k) := by
          show S.crashing ks (k + 1) = _
          have hkl := hKr.len
          unfold bools at hkl
          rw [List.length_map] at hkl
          rw [HST.out, List.getElem?_eq_none (by omega)]
          rfl
        clear hKr
        go_wp2
        go_roundw
        case rel => exact ⟨k + 1, by omega, by go_num, by show CrashRel _ _ _ _ _ _ _ _; unfold CrashRel; rw [hstep.out]; exact HC.out⟩
        case measure => simp [Go.RowKit.intOf]; omega
    · obtain rfl : k = L := by omega
      go_wp2_with (go_at_call 41; refine (empty_any _ HC.out.1).mono ?_; rintro e w5 ⟨rfl, hD5, hB5⟩; have c2 := hD5.c2; have c4 := hD5.c4; have f2 := hD5.fr 2; have f4 := hD5.fr 4; have HD5 := Lib.hid hD5; have HB5 := Lib.hid hB5; clear hD5 hB5)
      go_end0
      refine ⟨rfl, wr.heap.size, ?_, ?_, ?_⟩
      · have := (HD5.out.armed_ false).down_ false
        rw [← crashed_eq H.out.ok ks, HL.out]
        exact this
      · exact ((((But.of_below HB1.out).trans (HC.out.2.mono (by simp))).trans (HB5.out.mono (by simp))).setCell (by simp) _).setCell (by simp) _
      · have := HB1.out.size
        have := HC.out.2.size
        omega
end
end Go.Proofs.Ytlhhijhmjkgnaaa
