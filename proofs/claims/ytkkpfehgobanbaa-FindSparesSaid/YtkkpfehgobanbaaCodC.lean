/- What is done for each row: products, copies; Matrix. -/
import Derived.Test.YtkkpfehgobanbaaCodB
import Derived.Test.YtkkpfehgobanbaaMtxN
namespace Go.Proofs.Ytkkpfehgobanbaa
open Go.RowKit Go.Coop
set_option maxRecDepth 100000

/-- rows that were made -/
def GotL (w : World) (n : Nat) (M : List (List UInt8)) (e : Ending) (w' : World) : Prop :=
  ∃ A c, e = .returned (.slice A n c) ∧ MO w' w.heap.size w.heap.size A n c M ∧ Below w.heap.size w w'

theorem each_prod (gf : Nat) (S : Option Addr) (m d s : Nat) (D : Fn2) (A : Option Addr) (n c k : Nat) (F : Fn2) (w : World) (hf : FldAt w gf) (hS : MR w S m (tabM m s D)) (hA : MR w A n (tabM n k F)) (hkm : k ≤ m) (hm1 : 1 ≤ m) (hm : m ≤ 1000000) (hs : s ≤ 140737488355328) (hn : n ≤ 1000) :
    Calls Try.prog 60 #[.slice A n c, .func (.func 61) #[.agg #[.pointer (some ⟨gf, 0, none⟩), .slice S m d]] #[]] w (GotL w n (tabM n s (mulF k F D))) := by
  have HF := Lib.hid hf
  have HS := Lib.hid hS
  have HA := Lib.hid hA
  clear hf hS hA
  go_enter Try.func60, Try.ntmps60
  go_wp2
  go_loopw [5, 10] (fun v i wr => ∃ (q : Nat) (B : Option Addr) (e : Nat), q ≤ n ∧ i = .int .i64 q ∧ v = .slice B q e ∧ Hid (MO wr w.heap.size w.heap.size B q e (tabM q s (mulF k F D))) ∧ Hid (Below w.heap.size w wr)) (fun _ i _ => n - (intOf i).toNat)
  case atStart => exact ⟨0, none, 0, by omega, rfl, rfl, MO.nil _ _ _, Below.refl _ _⟩
  case round =>
    obtain ⟨q, B, e, hq, rfl, rfl, HM, HB⟩ := hrel
    by_cases hlt : q < n
    · obtain ⟨ad, R, rc, r, rfl, _, hr, hc, hd⟩ := (HA.out.below HB.out (Nat.le_refl _)).row hlt
      rw [tabM_at k F hlt] at hr
      injection hr with hr
      rw [← hr, rowL_len] at hc hd
      have hq1 : (q : Int) < n := by omega
      have HD := Lib.hid hd
      clear hr hd
      go_wp2_with fail
      refine (product_any gf S m d s D R k rc (F q) wr (HF.out.below HB.out HF.out.lt) (HS.out.below HB.out (Nat.le_refl _)) HD.out hkm hm1 hm hs).mono ?_
      rintro e' w2 ⟨X, xc, rfl, hX, hB2⟩
      have HM2 := Lib.hid (HM.out.below hB2 (Nat.le_refl _))
      have HB2 := Lib.hid (HB.out.trans (hB2.mono HB.out.size))
      have hsz := HB.out.size
      have HX := Lib.hid (hX.lower hsz)
      have hsz2 := HB2.out.size
      have HL := Lib.hid (lit_one HX.out)
      clear hX hB2
      go_wp2_with (at_builtin; refine wpList_appMM _ rfl (.tmp 14) (.tmp 18) 25 Try.underlying25 rfl rfl (HM2.out.alloc _) rfl HL.out (by omega) (by omega) (by simp; omega) (q + 1) rfl ?_; intro B' e' w3 hM3 hg3)
      go_roundw
      case rel => exact ⟨q + 1, B', e', by omega, by go_num, rfl, by rw [tabM_snoc]; exact hM3, (HB2.out.alloc hsz2 _).grown hg3 (by simp; omega) (fun j hj => (mo_block HM2.out j hj).1)⟩
      case measure => simp [intOf]; omega
    · obtain rfl : q = n := by omega
      go_wp2
      go_ret
      exact ⟨B, e, rfl, HM.out, HB.out⟩

theorem clone_row (R : Option Addr) (k rc : Nat) (l : List UInt8) (w : World) (h : Rd w R k l) (hk : 1 ≤ k) (hk2 : k ≤ 140737488355328) : Calls Try.prog 39 #[.slice R k rc] w (Fresh w k l) := by
  obtain ⟨ad, _, rfl, _⟩ := h.at_ (show 0 < k by omega)
  have HR := Lib.hid h
  have hnil := fun W => Lib.run_eql_slice_nil (P := Try.prog) W 35 5 (some ad) k rc 0 0 Try.underlying35
  simp only [Option.isNone_some] at hnil
  have HN : Hid (Own (w.alloc (.cells #[] 5)) w.heap.size 5 (some ⟨w.heap.size, 0, none⟩) 0 0 []) := ⟨rfl, World.ownsRow_lit (base := w.heap.size) (e := 5) (size := 1) w #[] 0 (Nat.le_refl _) (by simp) rfl⟩
  clear h
  go_enter Try.func39, Try.ntmps39
  go_wp2_with (at_builtin; refine wpList_app _ rfl (.tmp 5) (.tmp 6) _ rfl w.heap.size 5 Try.underlying35 info5 rfl HN.out rfl (HR.out.alloc _) (by omega) (by simp) k (by omega) ?_; intro A' c' w' ho hg hat)
  go_ret
  refine ⟨A', c', rfl, by simpa using ho, ((Below.refl _ _).alloc (Nat.le_refl _) _).grown hg (by simp) (fun j hj => by simp at hj; omega)⟩

theorem each_clone (A : Option Addr) (n c k : Nat) (F : Fn2) (w : World) (hA : MR w A n (tabM n k F)) (hk : 1 ≤ k) (hk2 : k ≤ 1000) (hn : n ≤ 1000) :
    Calls Try.prog 60 #[.slice A n c, .func (.func 39) #[] #[]] w (GotL w n (tabM n k F)) := by
  have HA := Lib.hid hA
  clear hA
  go_enter Try.func60, Try.ntmps60
  go_wp2
  go_loopw [5, 10] (fun v i wr => ∃ (q : Nat) (B : Option Addr) (e : Nat), q ≤ n ∧ i = .int .i64 q ∧ v = .slice B q e ∧ Hid (MO wr w.heap.size w.heap.size B q e (tabM q k F)) ∧ Hid (Below w.heap.size w wr)) (fun _ i _ => n - (intOf i).toNat)
  case atStart => exact ⟨0, none, 0, by omega, rfl, rfl, MO.nil _ _ _, Below.refl _ _⟩
  case round =>
    obtain ⟨q, B, e, hq, rfl, rfl, HM, HB⟩ := hrel
    by_cases hlt : q < n
    · obtain ⟨ad, R, rc, r, rfl, _, hr, hc, hd⟩ := (HA.out.below HB.out (Nat.le_refl _)).row hlt
      rw [tabM_at k F hlt] at hr
      injection hr with hr
      rw [← hr, rowL_len] at hc hd
      have hq1 : (q : Int) < n := by omega
      have HD := Lib.hid hd
      clear hr hd
      go_wp2_with fail
      refine (clone_row R k rc _ wr HD.out hk (by omega)).mono ?_
      rintro e' w2 ⟨X, xc, rfl, hX, hB2⟩
      have HM2 := Lib.hid (HM.out.below hB2 (Nat.le_refl _))
      have HB2 := Lib.hid (HB.out.trans (hB2.mono HB.out.size))
      have hsz := HB.out.size
      have HX := Lib.hid (hX.lower hsz)
      have hsz2 := HB2.out.size
      have HL := Lib.hid (lit_one HX.out)
      clear hX hB2
      go_wp2_with (at_builtin; refine wpList_appMM _ rfl (.tmp 14) (.tmp 18) 25 Try.underlying25 rfl rfl (HM2.out.alloc _) rfl HL.out (by omega) (by omega) (by simp; omega) (q + 1) rfl ?_; intro B' e' w3 hM3 hg3)
      go_roundw
      case rel => exact ⟨q + 1, B', e', by omega, by go_num, rfl, by rw [tabM_snoc]; exact hM3, (HB2.out.alloc hsz2 _).grown hg3 (by simp; omega) (fun j hj => (mo_block HM2.out j hj).1)⟩
      case measure => simp [intOf]; omega
    · obtain rfl : q = n := by omega
      go_wp2
      go_ret
      exact ⟨B, e, rfl, HM.out, HB.out⟩
end Go.Proofs.Ytkkpfehgobanbaa
