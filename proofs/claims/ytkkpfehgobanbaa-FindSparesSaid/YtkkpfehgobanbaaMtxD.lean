import Derived.Test.YtkkpfehgobanbaaMtxC
namespace Go.Proofs.Ytkkpfehgobanbaa
open Go.RowKit Go.Coop
set_option maxRecDepth 100000

theorem pick_shape {bo br : Nat} (A : Option Addr) (n c : Nat) (M : List (List UInt8)) (R : Option Addr) (m d : Nat) (w : World) (h : MO w bo br A n c M) (hn : n ≤ 140737488355328) (hr : rightB M = false) :
    Calls Try.prog 69 #[.slice A n c, .slice R m d] w (NotM w 30) := by
  have K := right_any A n c M w h hn
  rw [hr] at K
  go_enter Try.func69, Try.ntmps69
  go_wp2_with (go_at_call 84; refine K.mono ?_; rintro e w' ⟨rfl, rfl⟩)
  go_ret2
  exact ⟨rfl, Below.refl _ _⟩
theorem pick_len {bo br : Nat} (A : Option Addr) (n c : Nat) (M : List (List UInt8)) (R : Option Addr) (m d : Nat) (w : World) (h : MO w bo br A n c M) (hn : n ≤ 140737488355328) (hr : rightB M = true) (hm : m < 1 ∨ 255 < m) :
    Calls Try.prog 69 #[.slice A n c, .slice R m d] w (NotM w 2) := by
  have K := right_any A n c M w h hn
  rw [hr] at K
  go_enter Try.func69, Try.ntmps69
  go_wp2_with (first | (go_at_call 84; refine K.mono ?_; rintro e w' ⟨rfl, rfl⟩) | (go_at_call 55; refine (side_no _ _ (by omega)).mono ?_; rintro e w' ⟨rfl, rfl⟩))
  go_ret2
  exact ⟨rfl, Below.refl _ _⟩

theorem concat_one (B : Option Addr) (k e : Nat) (r : List UInt8) (w : World) (hr : Rd w B k r) (hk : k ≤ 140737488355328) :
    Calls Try.prog 85 #[.slice (some ⟨w.heap.size, 0, none⟩) 1 1] (w.alloc (.cells #[.slice B k e] 35)) (Fresh (w.alloc (.cells #[.slice B k e] 35)) k r) := by
  have K := concat_any ⟨w.heap.size, 0, none⟩ [(B, k, e, r)] 1 1 _ rfl (parts_one w B k e r hr (0, 0)) (by omega) (by simp [tot]; omega)
  rwa [show tot [(B, k, e, r)] = k from by simp [tot], show cat [(B, k, e, r)] = r from by simp [cat]] at K

def ivs (l : List Int) : List Value := l.map (Value.int .i64)
theorem ivs_at {l : List Int} {j : Nat} {u : Value} (h : (ivs l)[j]? = some u) : ∃ x, l[j]? = some x ∧ u = .int .i64 x := by
  simp only [ivs, List.getElem?_map, Option.map_eq_some_iff] at h
  obtain ⟨c, hc, e⟩ := h
  exact ⟨c, hc, e.symm⟩
def pickL (M : List (List UInt8)) (ls : List Int) : List (List UInt8) := ls.map fun x => M.getD x.toNat []
def Picked (w : World) (M : List (List UInt8)) (m : Nat) (ls : List Int) (e : Ending) (w' : World) : Prop :=
  ((∀ x ∈ ls, 0 ≤ x ∧ x < M.length) ∧ GotM w m (pickL M ls) e w') ∨ ((¬ ∀ x ∈ ls, 0 ≤ x ∧ x < M.length) ∧ NotM w 2 e w')
theorem pickL_snoc {M : List (List UInt8)} {ls : List Int} {q : Nat} {x : Int} {r : List UInt8} (hx : ls[q]? = some x) (hr : M[x.toNat]? = some r) : pickL M (ls.take (q + 1)) = pickL M (ls.take q) ++ [r] := by
  unfold pickL
  rw [List.take_add_one, hx, List.map_append]
  simp [List.getD_eq_getElem?_getD, hr]

set_option maxRecDepth 100000 in
theorem pick_any {bo br : Nat} (A : Option Addr) (n c : Nat) (M : List (List UInt8)) (R : Option Addr) (m d : Nat) (ls : List Int) (w : World) (h : MO w bo br A n c M) (hr : rightB M = true) (hR : RdV w R m (ivs ls)) (hm1 : 1 ≤ m) (hm2 : m ≤ 255)
    (hls : ∀ x ∈ ls, -9223372036854775808 ≤ x ∧ x ≤ 9223372036854775807) :
    Calls Try.prog 69 #[.slice A n c, .slice R m d] w (Picked w M m ls) := by
  have hn : 1 ≤ n ∧ n ≤ 255 := by
    unfold rightB at hr
    simp only [Bool.and_eq_true, decide_eq_true_eq] at hr
    have := hr.1.1
    rw [h.len] at this
    exact this
  have hrows : Hid (∀ (i : Nat) (r : List UInt8), M[i]? = some r → r.length ≤ 255) := by
    unfold rightB at hr
    simp only [Bool.and_eq_true, decide_eq_true_eq, List.all_eq_true, beq_iff_eq] at hr
    intro i r hi
    have := hr.2 r (List.mem_of_getElem? hi)
    have := hr.1.2.2
    omega
  obtain ⟨hn1, hn2⟩ := hn
  have K := right_any A n c M w h (by omega)
  rw [hr] at K
  have HK := Lib.hid K
  have HM := Lib.hid h
  have HR := Lib.hid hR
  have HLS := Lib.hid hls
  have HMl := Lib.hid h.len
  have HLl : Hid (ls.length = m) := by have := hR.len; show ls.length = m; simpa [ivs] using this
  clear h hR K hr hls
  go_enter Try.func69, Try.ntmps69
  go_wp2_with (first | (go_at_call 84; refine HK.out.mono ?_; rintro e w' ⟨rfl, rfl⟩) | (go_at_call 55; refine (side_yes _ _ (by omega) (by omega)).mono ?_; rintro e w' ⟨rfl, rfl⟩))
  clear HK
  go_loopw [6, 18] (fun v i wr => ∃ (q : Nat) (A' : Option Addr) (c' : Nat), q ≤ m ∧ i = .int .i64 q ∧ v = .slice A' q c' ∧ Hid (MO wr w.heap.size w.heap.size A' q c' (pickL M (ls.take q))) ∧ Hid (Below w.heap.size w wr) ∧ Hid (∀ x ∈ ls.take q, 0 ≤ x ∧ x < M.length)) (fun _ i _ => m - (intOf i).toNat)
  case atStart => exact ⟨0, none, 0, by omega, rfl, rfl, MO.nil _ _ _, Below.refl _ _, by intro x hx; simp at hx⟩
  case round =>
    obtain ⟨q, A', c', hq, rfl, rfl, HO, HB, HQ⟩ := hrel
    by_cases hlt : q < m
    · obtain ⟨ad, v, rfl, _, hv, hcv⟩ := (HR.out.below HB.out (Nat.le_refl _)).at_ hlt
      obtain ⟨x, hx, rfl⟩ := ivs_at hv
      clear hv
      have hxb := HLS.out x (List.mem_of_getElem? hx)
      obtain ⟨hxb1, hxb2⟩ := hxb
      by_cases hin : 0 ≤ x ∧ x < n
      · obtain ⟨X, rfl⟩ := Int.eq_ofNat_of_zero_le hin.1
        have hXn : X < n := by omega
        obtain ⟨g, B, e, r, rfl, _, _, _, hrr, hcr, hor⟩ := (HM.out.below HB.out (Nat.le_refl _)).row hXn
        have hrl := hrows.out X r hrr
        obtain ⟨k, hk⟩ : ∃ k, r.length = k := ⟨_, rfl⟩
        rw [hk] at hcr hor hrl
        have HX := Lib.hid (And.intro hx (And.intro hrr hk))
        have HOR := Lib.hid hor
        have hin1 : (X : Int) < n := by omega
        have hd : decide ((X : Int) < 0) = false := by simp
        have hd2 : decide ((n : Int) ≤ (X : Int)) = false := by simp; omega
        clear hx hrr hk hor hin
        go_wp2_with fail
        refine (concat_one B k e r wr HOR.out.rd (by omega)).mono ?_
        rintro e1 w1 ⟨A1, c1, rfl, ho1, hb1⟩
        have hba : Below wr.heap.size wr w1 := ((Below.refl _ _).alloc (Nat.le_refl _) _).trans (hb1.mono (by simp))
        have hbs := HB.out.size
        have HO1 := Lib.hid (HO.out.below hba (Nat.le_refl _))
        have HN1 := Lib.hid (ho1.lower (show w.heap.size ≤ _ by rw [size_alloc]; omega))
        have HB1 : Hid (Below w.heap.size w w1) := HB.out.trans (hba.mono hbs)
        clear ho1 hb1 hba
        go_wp2_with (at_builtin; refine wpList_appM _ rfl (.tmp 30) (.tmp 37) rfl rfl (HO1.out.alloc _) rfl (RdV.one _ _ _ _) HX.out.2.2 (HN1.out.alloc _) (by omega) (by rw [size_alloc]; have := HB1.out.size; omega) (q + 1) rfl ?_; intro A2 c2 w2 hM2 hg2)
        have HM2 := Lib.hid hM2
        have HB2 : Hid (Below w.heap.size w w2) := (HB1.out.alloc HB1.out.size _).grown hg2 (by rw [size_alloc]; have := HB1.out.size; omega) (fun k hk => (mo_block HO1.out k hk).1)
        clear hM2 hg2
        go_roundw
        case rel =>
          refine ⟨q + 1, A2, c2, by omega, by go_num, rfl, ?_, HB2.out, ?_⟩
          · rw [pickL_snoc HX.out.1 HX.out.2.1]; exact HM2.out
          · intro y hy
            rw [List.take_add_one, HX.out.1] at hy
            rcases List.mem_append.1 hy with hy | hy
            · exact HQ.out y hy
            · simp at hy
              subst hy
              rw [HMl.out]
              omega
        case measure => simp [intOf]; omega
      · have HXX := Lib.hid hx
        obtain ⟨b, hb⟩ : ∃ b, b = decide (x < 0) := ⟨_, rfl⟩
        have HE : Hid (¬ ∀ x ∈ ls, 0 ≤ x ∧ x < M.length) := fun hall => hin (by have := hall x (List.mem_of_getElem? hx); rw [HMl.out] at this; exact this)
        clear hx
        by_cases hx0 : x < 0
        · go_wp2
          go_ret2
          exact .inr ⟨HE.out, rfl, HB.out⟩
        · have hd : decide (x < 0) = false := by simp; omega
          have hd2 : decide ((n : Int) ≤ x) = true := by simp; omega
          go_wp2
          go_ret2
          exact .inr ⟨HE.out, rfl, HB.out⟩
    · obtain rfl : q = m := by omega
      go_wp2
      go_ret2
      have e : ls.take q = ls := List.take_of_length_le (by rw [HLl.out]; omega)
      have h1 := HO.out
      have h2 := HQ.out
      rw [e] at h1 h2
      exact .inl ⟨h2, A', c', rfl, h1, HB.out⟩
end Go.Proofs.Ytkkpfehgobanbaa
