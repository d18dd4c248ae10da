/- MatrixRows. -/
import Derived.Test.YtcggcbfddgfigaaMtxQ
namespace Go.Proofs.Ytcggcbfddgfigaa
open Go.RowKit Go.Coop

/-- rows that are picked -/
def pickF (ls : List Nat) (F : Fn2) : Fn2 := fun i j => F (ls.getD i 0) j
theorem nvs_ivs (ls : List Nat) : nvs ls = ivs (ls.map fun x : Nat => (x : Int)) := by simp [nvs, ivs]
theorem pickL_tab {n k m : Nat} {F : Fn2} {ls : List Nat} (hm : ls.length = m) (h : ∀ x ∈ ls, x < n) : pickL (tabM n k F) (ls.map fun x : Nat => (x : Int)) = tabM m k (pickF ls F) := by
  apply List.ext_getElem?
  intro i
  unfold pickL
  by_cases hi : i < m
  · rw [tabM_at k _ hi]
    have hil : i < ls.length := by omega
    have hx := h _ (List.getElem_mem hil)
    simp only [List.getElem?_map, List.getElem?_eq_getElem hil, Option.map_some, Int.toNat_natCast]
    congr 1
    rw [List.getD_eq_getElem?_getD, tabM_at k F hx]
    show rowL k (F ls[i]) = rowL k (pickF ls F i)
    congr 1
    funext j
    unfold pickF
    rw [List.getD_eq_getElem?_getD, List.getElem?_eq_getElem hil]
    rfl
  · rw [List.getElem?_eq_none (by simp; omega), List.getElem?_eq_none (by rw [tabM_len]; omega)]
theorem pick_nat {bo br : Nat} (A : Option Addr) (n c k : Nat) (F : Fn2) (R : Option Addr) (m d : Nat) (ls : List Nat) (w : World) (h : MO w bo br A n c (tabM n k F)) (hn1 : 1 ≤ n) (hn2 : n ≤ 255) (hk1 : 1 ≤ k) (hk2 : k ≤ 255) (hR : RdV w R m (nvs ls)) (hm1 : 1 ≤ m) (hm2 : m ≤ 255) (hls : ∀ x ∈ ls, x < n) :
    Calls Try.prog 16 #[.slice A n c, .slice R m d] w (GotM w m (tabM m k (pickF ls F))) := by
  have hl : ls.length = m := by have := hR.len; rwa [nvs_len] at this
  rw [nvs_ivs] at hR
  refine (pick_any A n c _ R m d _ w h (right_tab hn1 hn2 hk1 hk2) hR hm1 hm2 (fun x hx => ?_)).mono ?_
  · simp at hx
    obtain ⟨y, hy, rfl⟩ := hx
    have := hls y hy
    omega
  · rintro e w' (⟨_, hg⟩ | ⟨hno, _⟩)
    · rwa [pickL_tab hl hls] at hg
    · exact absurd (fun x hx => by
        simp at hx
        obtain ⟨y, hy, rfl⟩ := hx
        have := hls y hy
        rw [tabM_len]
        omega) hno
theorem rank_mono {k k' n : Nat} {F F' : Fn2} (h : ∀ i, i < k → ∃ i', i' < k' ∧ F' i' = F i) : rankF k n F unitF ≤ rankF k' n F' unitF :=
  (rankF_is k n F unitF).le_of (rankF_is k' n F' unitF) fun i hi => by
    obtain ⟨i', hi', e⟩ := h i hi
    have := Span.self (m := n) hi' (nf_lt F')
    exact this.congr fun j _ => by unfold nf; rw [e]
theorem getD_at {ls : List Nat} {i : Nat} (h : i < ls.length) : ls.getD i 0 = ls[i] := by rw [List.getD_eq_getElem?_getD, List.getElem?_eq_getElem h]; rfl
theorem rank_twice {k n : Nat} {F : Fn2} {ls : List Nat} (hl : ls.length = k) : rankF (k + k) n (pickF (ls ++ ls) F) unitF = rankF k n (pickF ls F) unitF := by
  apply Nat.le_antisymm
  · refine rank_mono fun i hi => ?_
    by_cases h : i < k
    · exact ⟨i, h, by funext j; unfold pickF; rw [getD_at (by omega), getD_at (by simp; omega), List.getElem_append_left (by omega)]⟩
    · exact ⟨i - k, by omega, by funext j; unfold pickF; rw [getD_at (by omega), getD_at (by simp; omega), List.getElem_append_right (by omega)]; simp [hl]⟩
  · refine rank_mono fun i hi => ⟨i, by omega, by funext j; unfold pickF; rw [getD_at (by simp; omega), getD_at (by omega), List.getElem_append_left (by omega)]⟩
def downs (n : Nat) : List Nat := (List.range n).map fun i => n - 1 - i
theorem downs_len (n : Nat) : (downs n).length = n := by simp [downs]
theorem downs_lt {n : Nat} : ∀ x ∈ downs n, x < n := by
  intro x hx
  simp [downs] at hx
  obtain ⟨i, hi, rfl⟩ := hx
  omega
theorem downs_at {n i : Nat} (h : i < n) : (downs n).getD i 0 = n - 1 - i := by
  rw [getD_at (by rw [downs_len]; exact h)]; simp [downs]
theorem downs_snoc {n q : Nat} (h : q < n) : (downs n).take (q + 1) = (downs n).take q ++ [n - 1 - q] := by
  rw [List.take_add_one]
  have : (downs n)[q]? = some (n - 1 - q) := by simp [downs, h]
  rw [this]
  rfl
theorem rank_turned {n k : Nat} {F : Fn2} : rankF n k (pickF (downs n) F) unitF = rankF n k F unitF := by
  apply Nat.le_antisymm
  · exact rank_mono fun i hi => ⟨n - 1 - i, by omega, by funext j; unfold pickF; rw [downs_at hi]⟩
  · exact rank_mono fun i hi => ⟨n - 1 - i, by omega, by funext j; unfold pickF; rw [downs_at (by omega)]; congr 1; omega⟩
theorem rank_min {n : Nat} {F G : Fn2} : rankF n n (mulF n F G) unitF ≤ rankF n n F unitF ∧ rankF n n (mulF n F G) unitF ≤ rankF n n G unitF := by
  have hp := rankF_is n n (mulF n F G) unitF
  generalize rankF n n (mulF n F G) unitF = r at hp
  rw [nf_mulF_eq] at hp
  exact ⟨(rankF_is n n F unitF).prod_l hp, (rankF_is n n G unitF).prod_r (nf_lt F) hp⟩
theorem pick_mul (ls : List Nat) (k : Nat) (F G : Fn2) : mulF k (pickF ls F) G = pickF ls (mulF k F G) := rfl
theorem OwnV.rdx {w : World} {base E c : Nat} {A : Option Addr} {n : Nat} {vs : List Value} (h : OwnV w base E A n c vs) : RdV w A n vs := h.rd

set_option maxHeartbeats 1000000 in
/-- the rows' places that the law gathers -/
theorem gather_step (z n : Nat) : Int.tmod (z : Int) (n : Int) = ((z % n : Nat) : Int) := by
  rw [Int.tmod_eq_emod_of_nonneg (by omega)]; rfl

set_option maxHeartbeats 8000000 in
set_option maxRecDepth 100000 in
theorem rows_any (z : Nat) (B : Option Addr) (m d : Nat) (l : List UInt8) (B' : Option Addr) (m' d' : Nat) (l' : List UInt8) (B'' : Option Addr) (m'' d'' : Nat) (l'' : List UInt8) (w : World) (hz : z < 256) (h : Rd w B m l) (hm : m ≤ 9223372036854775807) (h' : Rd w B' m' l') (hm' : m' ≤ 9223372036854775807) (h'' : Rd w B'' m'' l'') (hm'' : m'' ≤ 9223372036854775807) :
    Calls Try.prog 8 #[.int .u8 (z : Int), .slice B m d, .slice B' m' d', .slice B'' m'' d''] w fun e w' => e = .returned (.bool true) ∧ Below w.heap.size w w' := by
  have HR0 := Lib.hid h
  have HS0 := Lib.hid h'
  have HT0 := Lib.hid h''
  obtain ⟨n, hn⟩ : ∃ n, n = 1 + z % 8 := ⟨_, rfl⟩
  have hn' : (1 : Int) + (z : Int) % 8 = (n : Int) := by omega
  have hn1 : 1 ≤ n := by omega
  have hn2 : n ≤ 8 := by omega
  clear h h' h'' hn
  go_enter Try.func8, Try.ntmps8
  go_wp2_with fail
  refine (new_any _).mono ?_
  rintro e w1 ⟨g, rfl, hF, hg, hB⟩
  have hW : Below w.heap.size w w1 := hB
  have HR1 := Lib.hid (HR0.out.below hW (Nat.le_refl _))
  have HS1 := Lib.hid (HS0.out.below hW (Nat.le_refl _))
  have HT1 := Lib.hid (HT0.out.below hW (Nat.le_refl _))
  have HB1 : Hid (Below w.heap.size w w1) := hW
  have HF1 := Lib.hid (hF)
  clear hW HR0 HS0 HT0
  clear hF hg hB
  go_wp2_with fail
  refine (square_any n B m d l w1 HR1.out (by omega) hm).mono ?_
  rintro e w2 ⟨Ax, cx, rfl, hM, hB⟩
  obtain ⟨F, hF⟩ : ∃ F, sqF n l = F := ⟨_, rfl⟩
  rw [hF] at hM
  have HHF := Lib.hid hF
  clear hF
  have hW : Below w1.heap.size w1 w2 := hB
  have HS2 := Lib.hid (HS1.out.below hW (Nat.le_refl _))
  have HT2 := Lib.hid (HT1.out.below hW (Nat.le_refl _))
  have HF2 := Lib.hid (HF1.out.below hW HF1.out.lt)
  have HB2 : Hid (Below w.heap.size w w2) := HB1.out.trans (hW.mono HB1.out.size)
  have Hx2 := Lib.hid (hM)
  clear hW HR1 HS1 HT1 HF1 HB1
  clear hM hB HHF
  go_wp2_with fail
  refine (square_any n B' m' d' l' w2 HS2.out (by omega) hm').mono ?_
  rintro e w3 ⟨Ay, cy, rfl, hM, hB⟩
  obtain ⟨G, hG⟩ : ∃ G, sqF n l' = G := ⟨_, rfl⟩
  rw [hG] at hM
  have HHG := Lib.hid hG
  clear hG
  have hW : Below w2.heap.size w2 w3 := hB
  have HT3 := Lib.hid (HT2.out.below hW (Nat.le_refl _))
  have HF3 := Lib.hid (HF2.out.below hW HF2.out.lt)
  have Hx3 := Lib.hid (Hx2.out.below hW (Nat.le_refl _))
  have HB3 : Hid (Below w.heap.size w w3) := HB2.out.trans (hW.mono HB2.out.size)
  have Hy3 := Lib.hid (hM)
  clear hW HS2 HT2 HF2 Hx2 HB2
  clear hM hB HHG
  go_wp2_with fail
  go_loopw [13, 14] (fun v i wr => ∃ (q : Nat) (ls : List Nat) (A : Option Addr) (c : Nat), q ≤ m'' ∧ q ≤ 16 ∧ i = .int .i64 q ∧ v = .slice A q c ∧ Hid (OwnV wr w3.heap.size 3 A q c (nvs ls)) ∧ Hid (∀ x ∈ ls, x < n) ∧ Hid (Below w3.heap.size w3 wr)) (fun _ i _ => 16 - (intOf i).toNat)
  case atStart => exact ⟨0, [], none, 0, by omega, by omega, rfl, rfl, OwnV.nil _ _ _, fun x hx => by simp at hx, Below.refl _ _⟩
  case round =>
    obtain ⟨q, ls, A, c, hq, hq16, rfl, rfl, HO, HS, HB⟩ := hrel
    by_cases hin : q < m'' ∧ q < 16
    · obtain ⟨hin1, hin2⟩ := hin
      obtain ⟨ad, y, rfl, _, hy, hcy⟩ := (HT3.out.below HB.out (Nat.le_refl _)).at_ hin1
      unfold BV at hcy
      have hyb := y.toNat_lt
      obtain ⟨Y, hY⟩ : ∃ Y, y.toNat = Y := ⟨_, rfl⟩
      rw [hY] at hcy hyb
      have hn0 : ((n : Int) == 0) = false := beq_eq_false_iff_ne.2 (by omega)
      have hmod := gather_step Y n
      have hmod2 : (Y : Int) % (n : Int) = ((Y % n : Nat) : Int) := rfl
      have hlt := Nat.mod_lt Y (show n > 0 by omega)
      obtain ⟨X, hX⟩ : ∃ X, Y % n = X := ⟨_, rfl⟩
      rw [hX] at hmod hmod2 hlt
      have hn00 : ¬ ((n : Int) = 0) := by omega
      have hbs := HB.out.size
      clear hy hY hX
      go_wp2_with (at_builtin; refine wpList_appV _ rfl (.tmp 51) (.tmp 59) _ rfl w3.heap.size 3 (.int .i64 0) 8 Try.underlying29 info3 rfl rfl (HO.out.alloc _) rfl (RdV.one _ _ _ _) (by intro u hu; simp at hu; subst hu; rfl) (by omega) (by omega) (by rw [size_alloc]; omega) (q + 1) rfl ?_; intro A2 c2 w2 ho hg _)
      have HO2 := Lib.hid ho
      have HB2 : Hid (Below w3.heap.size w3 w2) := (HB.out.alloc hbs _).grown hg (by rw [size_alloc]; omega) (fun k hk => (HO.out.block k hk).1)
      clear ho hg
      go_roundw
      case rel => exact ⟨q + 1, ls ++ [X], A2, c2, by omega, by omega, by go_num, rfl, by rw [nvs_snoc]; exact HO2.out, fun x hx => by
        rcases List.mem_append.1 hx with hx | hx
        · exact HS.out x hx
        · simp at hx
          omega, HB2.out⟩
      case measure => simp [intOf]; omega
    · by_cases hin1 : q < m''
      · obtain ⟨w4, rfl⟩ : ∃ w4 : World, w4 = wr := ⟨_, rfl⟩
        have Hx4 := Lib.hid (Hx3.out.below HB.out (Nat.le_refl _))
        have Hy4 := Lib.hid (Hy3.out.below HB.out (Nat.le_refl _))
        have HF4 := Lib.hid (HF3.out.below HB.out HF3.out.lt)
        have HB4 : Hid (Below w.heap.size w w4) := HB3.out.trans (HB.out.mono HB3.out.size)
        have HO4 := Lib.hid (HO.out.lower (Nat.zero_le _))
        clear HT3 HO HB HB3 Hx3 Hy3 HF3
        have hin2 : decide ((q : Int) < 16) = false := by simp; omega
        have hk1 : 1 ≤ q := by omega
        have hk0 : ((q : Int) == 0) = false := beq_eq_false_iff_ne.2 (by omega)
        clear hin
        obtain ⟨k, rfl⟩ : ∃ k, k = q := ⟨_, rfl⟩
        obtain ⟨A0, rfl⟩ : ∃ A0, A0 = A := ⟨_, rfl⟩
        obtain ⟨c0, rfl⟩ : ∃ c0, c0 = c := ⟨_, rfl⟩
        go_wp2_with fail
        refine (mul_yes g _ n cx n F _ cy n G w4 HF4.out Hx4.out Hy4.out (by omega) (by omega) hn1 (by omega) hn1 (by omega)).mono ?_
        rintro e w5 ⟨Ap, cp, rfl, hM, hB⟩
        obtain ⟨P, hP⟩ : ∃ P, mulF n F G = P := ⟨_, rfl⟩
        rw [hP] at hM
        have HHP := Lib.hid hP
        clear hP
        have hW : Below w4.heap.size w4 w5 := hB
        have HF5 := Lib.hid (HF4.out.below hW HF4.out.lt)
        have Hx5 := Lib.hid (Hx4.out.below hW (Nat.le_refl _))
        have Hy5 := Lib.hid (Hy4.out.below hW (Nat.le_refl _))
        have HO5 := Lib.hid (HO4.out.below hW (Nat.le_refl _))
        have HB5 : Hid (Below w.heap.size w w5) := HB4.out.trans (hW.mono HB4.out.size)
        have Hp5 := Lib.hid (hM)
        clear hW HF4 Hx4 Hy4 HO4 HB4
        clear hM hB
        go_wp2_with fail
        refine (pick_nat _ n cp n P A0 k c0 ls _ (Hp5.out) hn1 (by omega) hn1 (by omega) (HO5.out.rd) (by omega) (by omega) HS.out).mono ?_
        rintro e w6 ⟨Ao, co, rfl, hM, hB⟩
        have hW : Below w5.heap.size w5 w6 := hB
        have HF6 := Lib.hid (HF5.out.below hW HF5.out.lt)
        have Hx6 := Lib.hid (Hx5.out.below hW (Nat.le_refl _))
        have Hy6 := Lib.hid (Hy5.out.below hW (Nat.le_refl _))
        have HO6 := Lib.hid (HO5.out.below hW (Nat.le_refl _))
        have Hp6 := Lib.hid (Hp5.out.below hW (Nat.le_refl _))
        have HB6 : Hid (Below w.heap.size w w6) := HB5.out.trans (hW.mono HB5.out.size)
        have Ho6 := Lib.hid (hM)
        clear hW HF5 Hx5 Hy5 HO5 Hp5 HB5
        clear hM hB
        go_wp2_with fail
        refine (pick_nat _ n cx n F A0 k c0 ls _ (Hx6.out) hn1 (by omega) hn1 (by omega) (HO6.out.rd) (by omega) (by omega) HS.out).mono ?_
        rintro e w7 ⟨At, ct, rfl, hM, hB⟩
        obtain ⟨T, hT⟩ : ∃ T, pickF ls F = T := ⟨_, rfl⟩
        rw [hT] at hM
        have HHT := Lib.hid hT
        clear hT
        have hW : Below w6.heap.size w6 w7 := hB
        have HF7 := Lib.hid (HF6.out.below hW HF6.out.lt)
        have Hx7 := Lib.hid (Hx6.out.below hW (Nat.le_refl _))
        have Hy7 := Lib.hid (Hy6.out.below hW (Nat.le_refl _))
        have HO7 := Lib.hid (HO6.out.below hW (Nat.le_refl _))
        have Hp7 := Lib.hid (Hp6.out.below hW (Nat.le_refl _))
        have Ho7 := Lib.hid (Ho6.out.below hW (Nat.le_refl _))
        have HB7 : Hid (Below w.heap.size w w7) := HB6.out.trans (hW.mono HB6.out.size)
        have Ht7 := Lib.hid (hM)
        clear hW HF6 Hx6 Hy6 HO6 Hp6 Ho6 HB6
        clear hM hB
        go_wp2_with fail
        refine (mul_yes g _ k ct n T _ cy n G w7 HF7.out Ht7.out Hy7.out (by omega) (by omega) hn1 (by omega) hn1 (by omega)).mono ?_
        rintro e w8 ⟨As, cs, rfl, hM, hB⟩
        rw [← HHT.out, pick_mul, HHP.out] at hM
        have hW : Below w7.heap.size w7 w8 := hB
        have HF8 := Lib.hid (HF7.out.below hW HF7.out.lt)
        have Hx8 := Lib.hid (Hx7.out.below hW (Nat.le_refl _))
        have Hy8 := Lib.hid (Hy7.out.below hW (Nat.le_refl _))
        have HO8 := Lib.hid (HO7.out.below hW (Nat.le_refl _))
        have Hp8 := Lib.hid (Hp7.out.below hW (Nat.le_refl _))
        have Ho8 := Lib.hid (Ho7.out.below hW (Nat.le_refl _))
        have Ht8 := Lib.hid (Ht7.out.below hW (Nat.le_refl _))
        have HB8 : Hid (Below w.heap.size w w8) := HB7.out.trans (hW.mono HB7.out.size)
        have Hs8 := Lib.hid (hM)
        clear hW HF7 Hx7 Hy7 HO7 Hp7 Ho7 Ht7 HB7
        clear hM hB
        go_wp2_with fail
        refine (samem_yes _ k co _ _ cs w8 Ho8.out.mr Hs8.out.mr (by omega)).mono ?_
        rintro e w9 ⟨rfl, j9, hw⟩
        have hW : Below w8.heap.size w8 w9 := by rw [hw]; exact ⟨rfl, rfl, rfl, Nat.le_refl _, fun _ _ => rfl⟩
        have HF9 := Lib.hid (HF8.out.below hW HF8.out.lt)
        have Hx9 := Lib.hid (Hx8.out.below hW (Nat.le_refl _))
        have Hy9 := Lib.hid (Hy8.out.below hW (Nat.le_refl _))
        have HO9 := Lib.hid (HO8.out.below hW (Nat.le_refl _))
        have Hp9 := Lib.hid (Hp8.out.below hW (Nat.le_refl _))
        have Ho9 := Lib.hid (Ho8.out.below hW (Nat.le_refl _))
        have Ht9 := Lib.hid (Ht8.out.below hW (Nat.le_refl _))
        have Hs9 := Lib.hid (Hs8.out.below hW (Nat.le_refl _))
        have HB9 : Hid (Below w.heap.size w w9) := HB8.out.trans (hW.mono HB8.out.size)
        clear hW HF8 Hx8 Hy8 HO8 Hp8 Ho8 Ht8 Hs8 HB8
        clear hw
        have hL1 := Lib.hid (nvs_one ls)
        have HE : Hid (OwnV (w9.alloc (.cells #[] 3)) w9.heap.size 3 (some ⟨w9.heap.size, 0, none⟩) 0 0 []) := ⟨rfl, World.ownsRow_lit (base := w9.heap.size) (e := 3) (size := 1) w9 #[] 0 (Nat.le_refl _) (by simp) rfl⟩
        go_wp2_with (at_builtin; first
          | (refine wpList_appV _ rfl (.tmp 107) (.tmp 108) _ rfl w9.heap.size 3 (.int .i64 0) 8 Try.underlying29 info3 rfl rfl HE.out rfl (HO9.out.rd.alloc _) hL1.out (by omega) (by omega) (by simp) k (by omega) ?_; intro Aa ca wa hoa hga _; have HOa := Lib.hid hoa; have HGa : Hid (Below w9.heap.size w9 wa) := ((Below.refl _ _).alloc (Nat.le_refl _) _).grown hga (by simp) (fun q hq => by simp at hq; omega); clear hoa hga)
          | (refine wpList_appV _ rfl (.tmp 109) (.tmp 110) _ rfl w9.heap.size 3 (.int .i64 0) 8 Try.underlying29 info3 rfl rfl HOa.out rfl (HO9.out.rd.below HGa.out (Nat.le_refl _)) hL1.out (by omega) (by omega) HGa.out.size (k + k) rfl ?_; intro Ab cb wb hob hgb _; have HOb := Lib.hid hob; have HGb : Hid (Below w9.heap.size w9 wb) := HGa.out.grown hgb HGa.out.size (fun q hq => (HOa.out.block q hq).1); clear hob hgb))
        have HTW : Hid (RdV wb Ab (k + k) (nvs (ls ++ ls))) := by have := HOb.out.rd; show RdV _ _ _ _; rwa [show nvs (ls ++ ls) = [] ++ nvs ls ++ nvs ls from by simp [nvs]]
        obtain ⟨w10, rfl⟩ : ∃ w10 : World, w10 = wb := ⟨_, rfl⟩
        have HF10 := Lib.hid (HF9.out.below HGb.out HF9.out.lt)
        have Hx10 := Lib.hid (Hx9.out.below HGb.out (Nat.le_refl _))
        have Hy10 := Lib.hid (Hy9.out.below HGb.out (Nat.le_refl _))
        have HO10 := Lib.hid (HO9.out.below HGb.out (Nat.le_refl _))
        have Hp10 := Lib.hid (Hp9.out.below HGb.out (Nat.le_refl _))
        have Ho10 := Lib.hid (Ho9.out.below HGb.out (Nat.le_refl _))
        have Ht10 := Lib.hid (Ht9.out.below HGb.out (Nat.le_refl _))
        have Hs10 := Lib.hid (Hs9.out.below HGb.out (Nat.le_refl _))
        have HB10 := Lib.hid (HB9.out.trans (HGb.out.mono HB9.out.size))
        clear HE HOa HGa HOb HGb HB9 HF9 Hx9 Hy9 HO9 Hp9 Ho9 Ht9 Hs9
        go_wp2_with fail
        refine (pick_nat _ n cx n F Ab (k + k) cb (ls ++ ls) w10 Hx10.out hn1 (by omega) hn1 (by omega) HTW.out (by omega) (by omega) (by intro q hq; rcases List.mem_append.1 hq with hq | hq <;> exact HS.out q hq)).mono ?_
        rintro e w11 ⟨Av, cv, rfl, hM, hB⟩
        obtain ⟨V, hV⟩ : ∃ V, pickF (ls ++ ls) F = V := ⟨_, rfl⟩
        rw [hV] at hM
        have HHV := Lib.hid hV
        clear hV
        have hW : Below w10.heap.size w10 w11 := hB
        have HF11 := Lib.hid (HF10.out.below hW HF10.out.lt)
        have Hx11 := Lib.hid (Hx10.out.below hW (Nat.le_refl _))
        have Hy11 := Lib.hid (Hy10.out.below hW (Nat.le_refl _))
        have HO11 := Lib.hid (HO10.out.below hW (Nat.le_refl _))
        have Hp11 := Lib.hid (Hp10.out.below hW (Nat.le_refl _))
        have Ho11 := Lib.hid (Ho10.out.below hW (Nat.le_refl _))
        have Ht11 := Lib.hid (Ht10.out.below hW (Nat.le_refl _))
        have Hs11 := Lib.hid (Hs10.out.below hW (Nat.le_refl _))
        have HB11 : Hid (Below w.heap.size w w11) := HB10.out.trans (hW.mono HB10.out.size)
        have Hv11 := Lib.hid (hM)
        clear hW HF10 Hx10 Hy10 HO10 Hp10 Ho10 Ht10 Hs10 HB10
        clear hM hB HTW
        go_wp2_with fail
        go_loopw [25, 26] (fun v i wr => ∃ (q : Nat) (A : Option Addr) (c : Nat), q ≤ n ∧ i = .int .i64 ((n : Int) - 1 - q) ∧ v = .slice A q c ∧ Hid (OwnV wr w11.heap.size 3 A q c (nvs ((downs n).take q))) ∧ Hid (Below w11.heap.size w11 wr)) (fun _ i _ => ((intOf i) + 1).toNat)
        case atStart => exact ⟨0, none, 0, by omega, by simp, rfl, OwnV.nil _ _ _, Below.refl _ _⟩
        case round =>
          obtain ⟨q, A, c, hq, rfl, rfl, HQ, HBQ⟩ := hrel
          by_cases hlt : q < n
          · have hge : (0 : Int) ≤ (n : Int) - 1 - q := by omega
            have hbs := HBQ.out.size
            obtain ⟨E, hE⟩ : ∃ E : Nat, n - 1 - q = E := ⟨_, rfl⟩
            have hE2 : (n : Int) - 1 - (q : Int) = (E : Int) := by omega
            rw [hE2] at *
            go_wp2_with (at_builtin; refine wpList_appV _ rfl (.tmp 121) (.tmp 123) _ rfl w11.heap.size 3 (.int .i64 0) 8 Try.underlying29 info3 rfl rfl (HQ.out.alloc _) rfl (RdV.one _ _ _ _) (by intro u hu; simp at hu; subst hu; rfl) (by omega) (by omega) (by rw [size_alloc]; omega) (q + 1) rfl ?_; intro A2 c2 w2 ho hg _)
            have HO2 := Lib.hid ho
            have HB2 : Hid (Below w11.heap.size w11 w2) := (HBQ.out.alloc hbs _).grown hg (by rw [size_alloc]; omega) (fun k hk => (HQ.out.block k hk).1)
            clear ho hg
            go_roundw
            case rel => exact ⟨q + 1, A2, c2, by omega, by first | (congr 1; omega) | congr 1, rfl, by rw [downs_snoc hlt, hE, nvs_snoc]; exact HO2.out, HB2.out⟩
            case measure => (simp [intOf]; try omega)
          · obtain rfl : q = n := by omega
            obtain ⟨w12, rfl⟩ : ∃ w12 : World, w12 = wr := ⟨_, rfl⟩
            have HF12 := Lib.hid (HF11.out.below HBQ.out HF11.out.lt)
            have Hx12 := Lib.hid (Hx11.out.below HBQ.out (Nat.le_refl _))
            have Hy12 := Lib.hid (Hy11.out.below HBQ.out (Nat.le_refl _))
            have HO12 := Lib.hid (HO11.out.below HBQ.out (Nat.le_refl _))
            have Hp12 := Lib.hid (Hp11.out.below HBQ.out (Nat.le_refl _))
            have Ho12 := Lib.hid (Ho11.out.below HBQ.out (Nat.le_refl _))
            have Ht12 := Lib.hid (Ht11.out.below HBQ.out (Nat.le_refl _))
            have Hs12 := Lib.hid (Hs11.out.below HBQ.out (Nat.le_refl _))
            have Hv12 := Lib.hid (Hv11.out.below HBQ.out (Nat.le_refl _))
            have HB12 := Lib.hid (HB11.out.trans (HBQ.out.mono HB11.out.size))
            have HDN : Hid (RdV w12 A q (nvs (downs q))) := by have := HQ.out.rd; rwa [List.take_of_length_le (by rw [downs_len]; omega)] at this
            have hneg : (q : Int) - 1 - (q : Int) = -1 := by omega
            clear HQ HBQ HB11 HF11 Hx11 Hy11 HO11 Hp11 Ho11 Ht11 Hs11 Hv11
            go_wp2_with fail
            refine (pick_nat _ q cx q F A q c (downs q) w12 Hx12.out hn1 (by omega) hn1 (by omega) HDN.out (by omega) (by omega) downs_lt).mono ?_
            rintro e w13 ⟨Ad, cd, rfl, hM, hB⟩
            obtain ⟨D, hD⟩ : ∃ D, pickF (downs q) F = D := ⟨_, rfl⟩
            rw [hD] at hM
            have HHD := Lib.hid hD
            clear hD
            have hW : Below w12.heap.size w12 w13 := hB
            have HF13 := Lib.hid (HF12.out.below hW HF12.out.lt)
            have Hx13 := Lib.hid (Hx12.out.below hW (Nat.le_refl _))
            have Hy13 := Lib.hid (Hy12.out.below hW (Nat.le_refl _))
            have HO13 := Lib.hid (HO12.out.below hW (Nat.le_refl _))
            have Hp13 := Lib.hid (Hp12.out.below hW (Nat.le_refl _))
            have Ho13 := Lib.hid (Ho12.out.below hW (Nat.le_refl _))
            have Ht13 := Lib.hid (Ht12.out.below hW (Nat.le_refl _))
            have Hs13 := Lib.hid (Hs12.out.below hW (Nat.le_refl _))
            have Hv13 := Lib.hid (Hv12.out.below hW (Nat.le_refl _))
            have HB13 : Hid (Below w.heap.size w w13) := HB12.out.trans (hW.mono HB12.out.size)
            have Hd13 := Lib.hid (hM)
            clear hW HF12 Hx12 Hy12 HO12 Hp12 Ho12 Ht12 Hs12 Hv12 HB12
            clear hM hB HDN
            have HRK : Hid (rankF (k + k) q V unitF = rankF k q T unitF ∧ rankF q q D unitF = rankF q q F unitF ∧ rankF k q T unitF ≤ k ∧ rankF k q T unitF ≤ q ∧ rankF q q P unitF ≤ rankF q q F unitF ∧ rankF q q P unitF ≤ rankF q q G unitF) := by
              have hl : ls.length = k := by have := HO13.out.len; rwa [nvs_len] at this
              refine ⟨?_, ?_, (rankF_le _ _ _ _).1, (rankF_le _ _ _ _).2, ?_, ?_⟩
              · rw [← HHV.out, ← HHT.out]; exact rank_twice hl
              · rw [← HHD.out]; exact rank_turned
              · rw [← HHP.out]; exact rank_min.1
              · rw [← HHP.out]; exact rank_min.2
            obtain ⟨rT, hrT⟩ : ∃ r, rankF k q T unitF = r := ⟨_, rfl⟩
            obtain ⟨rF, hrF⟩ : ∃ r, rankF q q F unitF = r := ⟨_, rfl⟩
            obtain ⟨rP, hrP⟩ : ∃ r, rankF q q P unitF = r := ⟨_, rfl⟩
            obtain ⟨rG, hrG⟩ : ∃ r, rankF q q G unitF = r := ⟨_, rfl⟩
            have HRR := HRK.out
            rw [hrT, hrF, hrP, hrG] at HRR
            obtain ⟨hV, hD, hT1, hT2, hP1, hP2⟩ := HRR
            have HVV := Lib.hid (And.intro hV hD)
            have HTT := Lib.hid (And.intro hrT (And.intro hrF (And.intro hrP hrG)))
            obtain ⟨s1, hs1, hs1'⟩ : ∃ s1 : Nat, min (q : Int) (k : Int) = (s1 : Int) ∧ rT ≤ s1 := ⟨min q k, by omega, by omega⟩
            obtain ⟨s2, hs2, hs2'⟩ : ∃ s2 : Nat, min (rF : Int) (rG : Int) = (s2 : Int) ∧ rP ≤ s2 := ⟨min rF rG, by omega, by omega⟩
            clear HRK hV hD hrT hrF hrP hrG hT1 hT2 hP1 hP2
            go_wp2_with fail
            refine (rank_any g _ k ct q T w13 HF13.out Ht13.out (by omega) (by omega) hn1 (by omega)).mono ?_
            rintro e w14 ⟨rfl, hB⟩
            rw [HTT.out.1]
            have hW : Below w13.heap.size w13 w14 := hB
            have HF14 := Lib.hid (HF13.out.below hW HF13.out.lt)
            have Hx14 := Lib.hid (Hx13.out.below hW (Nat.le_refl _))
            have Hy14 := Lib.hid (Hy13.out.below hW (Nat.le_refl _))
            have HO14 := Lib.hid (HO13.out.below hW (Nat.le_refl _))
            have Hp14 := Lib.hid (Hp13.out.below hW (Nat.le_refl _))
            have Ho14 := Lib.hid (Ho13.out.below hW (Nat.le_refl _))
            have Ht14 := Lib.hid (Ht13.out.below hW (Nat.le_refl _))
            have Hs14 := Lib.hid (Hs13.out.below hW (Nat.le_refl _))
            have Hv14 := Lib.hid (Hv13.out.below hW (Nat.le_refl _))
            have Hd14 := Lib.hid (Hd13.out.below hW (Nat.le_refl _))
            have HB14 : Hid (Below w.heap.size w w14) := HB13.out.trans (hW.mono HB13.out.size)
            clear hW HF13 Hx13 Hy13 HO13 Hp13 Ho13 Ht13 Hs13 Hv13 Hd13 HB13
            clear hB
            go_wp2_with fail
            refine (rank_any g _ (k + k) cv q V w14 HF14.out Hv14.out (by omega) (by omega) hn1 (by omega)).mono ?_
            rintro e w15 ⟨rfl, hB⟩
            rw [HVV.out.1]
            have hW : Below w14.heap.size w14 w15 := hB
            have HF15 := Lib.hid (HF14.out.below hW HF14.out.lt)
            have Hx15 := Lib.hid (Hx14.out.below hW (Nat.le_refl _))
            have Hy15 := Lib.hid (Hy14.out.below hW (Nat.le_refl _))
            have HO15 := Lib.hid (HO14.out.below hW (Nat.le_refl _))
            have Hp15 := Lib.hid (Hp14.out.below hW (Nat.le_refl _))
            have Ho15 := Lib.hid (Ho14.out.below hW (Nat.le_refl _))
            have Ht15 := Lib.hid (Ht14.out.below hW (Nat.le_refl _))
            have Hs15 := Lib.hid (Hs14.out.below hW (Nat.le_refl _))
            have Hv15 := Lib.hid (Hv14.out.below hW (Nat.le_refl _))
            have Hd15 := Lib.hid (Hd14.out.below hW (Nat.le_refl _))
            have HB15 : Hid (Below w.heap.size w w15) := HB14.out.trans (hW.mono HB14.out.size)
            clear hW HF14 Hx14 Hy14 HO14 Hp14 Ho14 Ht14 Hs14 Hv14 Hd14 HB14
            clear hB
            go_wp2_with fail
            refine (rank_any g _ q cd q D w15 HF15.out Hd15.out (by omega) (by omega) hn1 (by omega)).mono ?_
            rintro e w16 ⟨rfl, hB⟩
            rw [HVV.out.2]
            have hW : Below w15.heap.size w15 w16 := hB
            have HF16 := Lib.hid (HF15.out.below hW HF15.out.lt)
            have Hx16 := Lib.hid (Hx15.out.below hW (Nat.le_refl _))
            have Hy16 := Lib.hid (Hy15.out.below hW (Nat.le_refl _))
            have HO16 := Lib.hid (HO15.out.below hW (Nat.le_refl _))
            have Hp16 := Lib.hid (Hp15.out.below hW (Nat.le_refl _))
            have Ho16 := Lib.hid (Ho15.out.below hW (Nat.le_refl _))
            have Ht16 := Lib.hid (Ht15.out.below hW (Nat.le_refl _))
            have Hs16 := Lib.hid (Hs15.out.below hW (Nat.le_refl _))
            have Hv16 := Lib.hid (Hv15.out.below hW (Nat.le_refl _))
            have Hd16 := Lib.hid (Hd15.out.below hW (Nat.le_refl _))
            have HB16 : Hid (Below w.heap.size w w16) := HB15.out.trans (hW.mono HB15.out.size)
            clear hW HF15 Hx15 Hy15 HO15 Hp15 Ho15 Ht15 Hs15 Hv15 Hd15 HB15
            clear hB
            go_wp2_with fail
            refine (rank_any g _ q cx q F w16 HF16.out Hx16.out (by omega) (by omega) hn1 (by omega)).mono ?_
            rintro e w17 ⟨rfl, hB⟩
            rw [HTT.out.2.1]
            have hW : Below w16.heap.size w16 w17 := hB
            have HF17 := Lib.hid (HF16.out.below hW HF16.out.lt)
            have Hx17 := Lib.hid (Hx16.out.below hW (Nat.le_refl _))
            have Hy17 := Lib.hid (Hy16.out.below hW (Nat.le_refl _))
            have HO17 := Lib.hid (HO16.out.below hW (Nat.le_refl _))
            have Hp17 := Lib.hid (Hp16.out.below hW (Nat.le_refl _))
            have Ho17 := Lib.hid (Ho16.out.below hW (Nat.le_refl _))
            have Ht17 := Lib.hid (Ht16.out.below hW (Nat.le_refl _))
            have Hs17 := Lib.hid (Hs16.out.below hW (Nat.le_refl _))
            have Hv17 := Lib.hid (Hv16.out.below hW (Nat.le_refl _))
            have Hd17 := Lib.hid (Hd16.out.below hW (Nat.le_refl _))
            have HB17 : Hid (Below w.heap.size w w17) := HB16.out.trans (hW.mono HB16.out.size)
            clear hW HF16 Hx16 Hy16 HO16 Hp16 Ho16 Ht16 Hs16 Hv16 Hd16 HB16
            clear hB
            go_wp2_with fail
            refine (rank_any g _ q cp q P w17 HF17.out Hp17.out (by omega) (by omega) hn1 (by omega)).mono ?_
            rintro e w18 ⟨rfl, hB⟩
            rw [HTT.out.2.2.1]
            have hW : Below w17.heap.size w17 w18 := hB
            have HF18 := Lib.hid (HF17.out.below hW HF17.out.lt)
            have Hx18 := Lib.hid (Hx17.out.below hW (Nat.le_refl _))
            have Hy18 := Lib.hid (Hy17.out.below hW (Nat.le_refl _))
            have HO18 := Lib.hid (HO17.out.below hW (Nat.le_refl _))
            have Hp18 := Lib.hid (Hp17.out.below hW (Nat.le_refl _))
            have Ho18 := Lib.hid (Ho17.out.below hW (Nat.le_refl _))
            have Ht18 := Lib.hid (Ht17.out.below hW (Nat.le_refl _))
            have Hs18 := Lib.hid (Hs17.out.below hW (Nat.le_refl _))
            have Hv18 := Lib.hid (Hv17.out.below hW (Nat.le_refl _))
            have Hd18 := Lib.hid (Hd17.out.below hW (Nat.le_refl _))
            have HB18 : Hid (Below w.heap.size w w18) := HB17.out.trans (hW.mono HB17.out.size)
            clear hW HF17 Hx17 Hy17 HO17 Hp17 Ho17 Ht17 Hs17 Hv17 Hd17 HB17
            clear hB
            go_wp2_with fail
            refine (rank_any g _ q cx q F w18 HF18.out Hx18.out (by omega) (by omega) hn1 (by omega)).mono ?_
            rintro e w19 ⟨rfl, hB⟩
            rw [HTT.out.2.1]
            have hW : Below w18.heap.size w18 w19 := hB
            have HF19 := Lib.hid (HF18.out.below hW HF18.out.lt)
            have Hx19 := Lib.hid (Hx18.out.below hW (Nat.le_refl _))
            have Hy19 := Lib.hid (Hy18.out.below hW (Nat.le_refl _))
            have HO19 := Lib.hid (HO18.out.below hW (Nat.le_refl _))
            have Hp19 := Lib.hid (Hp18.out.below hW (Nat.le_refl _))
            have Ho19 := Lib.hid (Ho18.out.below hW (Nat.le_refl _))
            have Ht19 := Lib.hid (Ht18.out.below hW (Nat.le_refl _))
            have Hs19 := Lib.hid (Hs18.out.below hW (Nat.le_refl _))
            have Hv19 := Lib.hid (Hv18.out.below hW (Nat.le_refl _))
            have Hd19 := Lib.hid (Hd18.out.below hW (Nat.le_refl _))
            have HB19 : Hid (Below w.heap.size w w19) := HB18.out.trans (hW.mono HB18.out.size)
            clear hW HF18 Hx18 Hy18 HO18 Hp18 Ho18 Ht18 Hs18 Hv18 Hd18 HB18
            clear hB
            go_wp2_with fail
            refine (rank_any g _ q cy q G w19 HF19.out Hy19.out (by omega) (by omega) hn1 (by omega)).mono ?_
            rintro e w20 ⟨rfl, hB⟩
            rw [HTT.out.2.2.2]
            have hW : Below w19.heap.size w19 w20 := hB
            have HF20 := Lib.hid (HF19.out.below hW HF19.out.lt)
            have Hx20 := Lib.hid (Hx19.out.below hW (Nat.le_refl _))
            have Hy20 := Lib.hid (Hy19.out.below hW (Nat.le_refl _))
            have HO20 := Lib.hid (HO19.out.below hW (Nat.le_refl _))
            have Hp20 := Lib.hid (Hp19.out.below hW (Nat.le_refl _))
            have Ho20 := Lib.hid (Ho19.out.below hW (Nat.le_refl _))
            have Ht20 := Lib.hid (Ht19.out.below hW (Nat.le_refl _))
            have Hs20 := Lib.hid (Hs19.out.below hW (Nat.le_refl _))
            have Hv20 := Lib.hid (Hv19.out.below hW (Nat.le_refl _))
            have Hd20 := Lib.hid (Hd19.out.below hW (Nat.le_refl _))
            have HB20 : Hid (Below w.heap.size w w20) := HB19.out.trans (hW.mono HB19.out.size)
            clear hW HF19 Hx19 Hy19 HO19 Hp19 Ho19 Ht19 Hs19 Hv19 Hd19 HB19
            clear hB
            go_wp2_with fail
            refine (awake_any w20).mono ?_
            rintro e w21 ⟨rfl, hB⟩
            have hW : Below w20.heap.size w20 w21 := hB
            have HF21 := Lib.hid (HF20.out.below hW HF20.out.lt)
            have Hx21 := Lib.hid (Hx20.out.below hW (Nat.le_refl _))
            have Hy21 := Lib.hid (Hy20.out.below hW (Nat.le_refl _))
            have HO21 := Lib.hid (HO20.out.below hW (Nat.le_refl _))
            have Hp21 := Lib.hid (Hp20.out.below hW (Nat.le_refl _))
            have Ho21 := Lib.hid (Ho20.out.below hW (Nat.le_refl _))
            have Ht21 := Lib.hid (Ht20.out.below hW (Nat.le_refl _))
            have Hs21 := Lib.hid (Hs20.out.below hW (Nat.le_refl _))
            have Hv21 := Lib.hid (Hv20.out.below hW (Nat.le_refl _))
            have Hd21 := Lib.hid (Hd20.out.below hW (Nat.le_refl _))
            have HB21 : Hid (Below w.heap.size w w21) := HB20.out.trans (hW.mono HB20.out.size)
            clear hW HF20 Hx20 Hy20 HO20 Hp20 Ho20 Ht20 Hs20 Hv20 Hd20 HB20
            clear hB
            go_wp2
            go_ret
            exact ⟨rfl, HB21.out⟩
      · obtain ⟨w4, rfl⟩ : ∃ w4 : World, w4 = wr := ⟨_, rfl⟩
        have Hx4 := Lib.hid (Hx3.out.below HB.out (Nat.le_refl _))
        have Hy4 := Lib.hid (Hy3.out.below HB.out (Nat.le_refl _))
        have HF4 := Lib.hid (HF3.out.below HB.out HF3.out.lt)
        have HB4 : Hid (Below w.heap.size w w4) := HB3.out.trans (HB.out.mono HB3.out.size)
        have HO4 := Lib.hid (HO.out.lower (Nat.zero_le _))
        clear HT3 HO HB HB3 Hx3 Hy3 HF3
        by_cases hk0 : q = 0
        · subst hk0
          clear hin
          go_wp2_with fail
          obtain ⟨w5, hw5⟩ : ∃ w5, w4.alloc (.cells #[.int .i64 0] 3) = w5 := ⟨_, rfl⟩
          rw [hw5]
          obtain ⟨k, hk1⟩ : ∃ k : Nat, k = 1 := ⟨_, rfl⟩
          skip
          have Hx5 := Lib.hid (Hx4.out.alloc (.cells #[.int .i64 0] 3))
          have Hy5 := Lib.hid (Hy4.out.alloc (.cells #[.int .i64 0] 3))
          have HF5 := Lib.hid (HF4.out.alloc (.cells #[.int .i64 0] 3))
          have HB5 := Lib.hid (HB4.out.alloc HB4.out.size (.cells #[.int .i64 0] 3))
          have HO5 : Hid (OwnV (w4.alloc (.cells #[.int .i64 0] 3)) 0 3 (some ⟨w4.heap.size, 0, none⟩) 1 1 (nvs [0])) := ⟨rfl, rfl, .inr ⟨w4.heap.size, 1, #[.int .i64 0], rfl, Nat.zero_le _, heap_alloc_new _ _, Nat.le_refl _, by simp [maxLen], rfl, rfl⟩⟩
          rw [hw5] at Hx5 Hy5 HF5 HB5 HO5
          have HS : Hid (∀ x ∈ [0], x < n) := fun x hx => by simp at hx; omega
          obtain ⟨b5, hb5⟩ : ∃ b5, w4.heap.size = b5 := ⟨_, rfl⟩
          try rw [hb5]
          rw [hb5] at HO5
          clear HO4 HB4 Hx4 Hy4 HF4 hw5 hb5
          refine (mul_yes g _ n cx n F _ cy n G w5 HF5.out Hx5.out Hy5.out (by omega) (by omega) hn1 (by omega) hn1 (by omega)).mono ?_
          rintro e w6 ⟨Ap, cp, rfl, hM, hB⟩
          obtain ⟨P, hP⟩ : ∃ P, mulF n F G = P := ⟨_, rfl⟩
          rw [hP] at hM
          have HHP := Lib.hid hP
          clear hP
          have hW : Below w5.heap.size w5 w6 := hB
          have HF6 := Lib.hid (HF5.out.below hW HF5.out.lt)
          have Hx6 := Lib.hid (Hx5.out.below hW (Nat.le_refl _))
          have Hy6 := Lib.hid (Hy5.out.below hW (Nat.le_refl _))
          have HO6 := Lib.hid (HO5.out.below hW (Nat.le_refl _))
          have HB6 : Hid (Below w.heap.size w w6) := HB5.out.trans (hW.mono HB5.out.size)
          have Hp6 := Lib.hid (hM)
          clear hW HF5 Hx5 Hy5 HO5 HB5
          clear hM hB
          go_wp2_with fail
          refine (pick_nat _ n cp n P (some ⟨b5, 0, none⟩) 1 1 [0] _ (Hp6.out) hn1 (by omega) hn1 (by omega) (HO6.out.rd) (by omega) (by omega) HS.out).mono ?_
          rintro e w7 ⟨Ao, co, rfl, hM, hB⟩
          have hW : Below w6.heap.size w6 w7 := hB
          have HF7 := Lib.hid (HF6.out.below hW HF6.out.lt)
          have Hx7 := Lib.hid (Hx6.out.below hW (Nat.le_refl _))
          have Hy7 := Lib.hid (Hy6.out.below hW (Nat.le_refl _))
          have HO7 := Lib.hid (HO6.out.below hW (Nat.le_refl _))
          have Hp7 := Lib.hid (Hp6.out.below hW (Nat.le_refl _))
          have HB7 : Hid (Below w.heap.size w w7) := HB6.out.trans (hW.mono HB6.out.size)
          have Ho7 := Lib.hid (hM)
          clear hW HF6 Hx6 Hy6 HO6 Hp6 HB6
          clear hM hB
          go_wp2_with fail
          refine (pick_nat _ n cx n F (some ⟨b5, 0, none⟩) 1 1 [0] _ (Hx7.out) hn1 (by omega) hn1 (by omega) (HO7.out.rd) (by omega) (by omega) HS.out).mono ?_
          rintro e w8 ⟨At, ct, rfl, hM, hB⟩
          obtain ⟨T, hT⟩ : ∃ T, pickF [0] F = T := ⟨_, rfl⟩
          rw [hT] at hM
          have HHT := Lib.hid hT
          clear hT
          have hW : Below w7.heap.size w7 w8 := hB
          have HF8 := Lib.hid (HF7.out.below hW HF7.out.lt)
          have Hx8 := Lib.hid (Hx7.out.below hW (Nat.le_refl _))
          have Hy8 := Lib.hid (Hy7.out.below hW (Nat.le_refl _))
          have HO8 := Lib.hid (HO7.out.below hW (Nat.le_refl _))
          have Hp8 := Lib.hid (Hp7.out.below hW (Nat.le_refl _))
          have Ho8 := Lib.hid (Ho7.out.below hW (Nat.le_refl _))
          have HB8 : Hid (Below w.heap.size w w8) := HB7.out.trans (hW.mono HB7.out.size)
          have Ht8 := Lib.hid (hM)
          clear hW HF7 Hx7 Hy7 HO7 Hp7 Ho7 HB7
          clear hM hB
          go_wp2_with fail
          refine (mul_yes g _ 1 ct n T _ cy n G w8 HF8.out Ht8.out Hy8.out (by omega) (by omega) hn1 (by omega) hn1 (by omega)).mono ?_
          rintro e w9 ⟨As, cs, rfl, hM, hB⟩
          rw [← HHT.out, pick_mul, HHP.out] at hM
          have hW : Below w8.heap.size w8 w9 := hB
          have HF9 := Lib.hid (HF8.out.below hW HF8.out.lt)
          have Hx9 := Lib.hid (Hx8.out.below hW (Nat.le_refl _))
          have Hy9 := Lib.hid (Hy8.out.below hW (Nat.le_refl _))
          have HO9 := Lib.hid (HO8.out.below hW (Nat.le_refl _))
          have Hp9 := Lib.hid (Hp8.out.below hW (Nat.le_refl _))
          have Ho9 := Lib.hid (Ho8.out.below hW (Nat.le_refl _))
          have Ht9 := Lib.hid (Ht8.out.below hW (Nat.le_refl _))
          have HB9 : Hid (Below w.heap.size w w9) := HB8.out.trans (hW.mono HB8.out.size)
          have Hs9 := Lib.hid (hM)
          clear hW HF8 Hx8 Hy8 HO8 Hp8 Ho8 Ht8 HB8
          clear hM hB
          go_wp2_with fail
          refine (samem_yes _ 1 co _ _ cs w9 Ho9.out.mr Hs9.out.mr (by omega)).mono ?_
          rintro e w10 ⟨rfl, j10, hw⟩
          have hW : Below w9.heap.size w9 w10 := by rw [hw]; exact ⟨rfl, rfl, rfl, Nat.le_refl _, fun _ _ => rfl⟩
          have HF10 := Lib.hid (HF9.out.below hW HF9.out.lt)
          have Hx10 := Lib.hid (Hx9.out.below hW (Nat.le_refl _))
          have Hy10 := Lib.hid (Hy9.out.below hW (Nat.le_refl _))
          have HO10 := Lib.hid (HO9.out.below hW (Nat.le_refl _))
          have Hp10 := Lib.hid (Hp9.out.below hW (Nat.le_refl _))
          have Ho10 := Lib.hid (Ho9.out.below hW (Nat.le_refl _))
          have Ht10 := Lib.hid (Ht9.out.below hW (Nat.le_refl _))
          have Hs10 := Lib.hid (Hs9.out.below hW (Nat.le_refl _))
          have HB10 : Hid (Below w.heap.size w w10) := HB9.out.trans (hW.mono HB9.out.size)
          clear hW HF9 Hx9 Hy9 HO9 Hp9 Ho9 Ht9 Hs9 HB9
          clear hw
          have hL1 := Lib.hid (nvs_one [0])
          have HE : Hid (OwnV (w10.alloc (.cells #[] 3)) w10.heap.size 3 (some ⟨w10.heap.size, 0, none⟩) 0 0 []) := ⟨rfl, World.ownsRow_lit (base := w10.heap.size) (e := 3) (size := 1) w10 #[] 0 (Nat.le_refl _) (by simp) rfl⟩
          go_wp2_with (at_builtin; first
            | (refine wpList_appV _ rfl (.tmp 107) (.tmp 108) _ rfl w10.heap.size 3 (.int .i64 0) 8 Try.underlying29 info3 rfl rfl HE.out rfl (HO10.out.rd.alloc _) hL1.out (by omega) (by omega) (by simp) 1 (by omega) ?_; intro Aa ca wa hoa hga _; have HOa := Lib.hid hoa; have HGa : Hid (Below w10.heap.size w10 wa) := ((Below.refl _ _).alloc (Nat.le_refl _) _).grown hga (by simp) (fun q hq => by simp at hq; omega); clear hoa hga)
            | (refine wpList_appV _ rfl (.tmp 109) (.tmp 110) _ rfl w10.heap.size 3 (.int .i64 0) 8 Try.underlying29 info3 rfl rfl HOa.out rfl (HO10.out.rd.below HGa.out (Nat.le_refl _)) hL1.out (by omega) (by omega) HGa.out.size 2 rfl ?_; intro Ab cb wb hob hgb _; have HOb := Lib.hid hob; have HGb : Hid (Below w10.heap.size w10 wb) := HGa.out.grown hgb HGa.out.size (fun q hq => (HOa.out.block q hq).1); clear hob hgb))
          have HTW : Hid (RdV wb Ab 2 (nvs ([0] ++ [0]))) := by have := HOb.out.rd; show RdV _ _ _ _; rwa [show nvs ([0] ++ [0]) = [] ++ nvs [0] ++ nvs [0] from by simp [nvs]]
          obtain ⟨w11, rfl⟩ : ∃ w11 : World, w11 = wb := ⟨_, rfl⟩
          have HF11 := Lib.hid (HF10.out.below HGb.out HF10.out.lt)
          have Hx11 := Lib.hid (Hx10.out.below HGb.out (Nat.le_refl _))
          have Hy11 := Lib.hid (Hy10.out.below HGb.out (Nat.le_refl _))
          have HO11 := Lib.hid (HO10.out.below HGb.out (Nat.le_refl _))
          have Hp11 := Lib.hid (Hp10.out.below HGb.out (Nat.le_refl _))
          have Ho11 := Lib.hid (Ho10.out.below HGb.out (Nat.le_refl _))
          have Ht11 := Lib.hid (Ht10.out.below HGb.out (Nat.le_refl _))
          have Hs11 := Lib.hid (Hs10.out.below HGb.out (Nat.le_refl _))
          have HB11 := Lib.hid (HB10.out.trans (HGb.out.mono HB10.out.size))
          clear HE HOa HGa HOb HGb HB10 HF10 Hx10 Hy10 HO10 Hp10 Ho10 Ht10 Hs10
          go_wp2_with fail
          refine (pick_nat _ n cx n F Ab 2 cb ([0] ++ [0]) w11 Hx11.out hn1 (by omega) hn1 (by omega) HTW.out (by omega) (by omega) (by intro q hq; rcases List.mem_append.1 hq with hq | hq <;> exact HS.out q hq)).mono ?_
          rintro e w12 ⟨Av, cv, rfl, hM, hB⟩
          obtain ⟨V, hV⟩ : ∃ V, pickF ([0] ++ [0]) F = V := ⟨_, rfl⟩
          rw [hV] at hM
          have HHV := Lib.hid hV
          clear hV
          have hW : Below w11.heap.size w11 w12 := hB
          have HF12 := Lib.hid (HF11.out.below hW HF11.out.lt)
          have Hx12 := Lib.hid (Hx11.out.below hW (Nat.le_refl _))
          have Hy12 := Lib.hid (Hy11.out.below hW (Nat.le_refl _))
          have HO12 := Lib.hid (HO11.out.below hW (Nat.le_refl _))
          have Hp12 := Lib.hid (Hp11.out.below hW (Nat.le_refl _))
          have Ho12 := Lib.hid (Ho11.out.below hW (Nat.le_refl _))
          have Ht12 := Lib.hid (Ht11.out.below hW (Nat.le_refl _))
          have Hs12 := Lib.hid (Hs11.out.below hW (Nat.le_refl _))
          have HB12 : Hid (Below w.heap.size w w12) := HB11.out.trans (hW.mono HB11.out.size)
          have Hv12 := Lib.hid (hM)
          clear hW HF11 Hx11 Hy11 HO11 Hp11 Ho11 Ht11 Hs11 HB11
          clear hM hB HTW
          go_wp2_with fail
          go_loopw [25, 26] (fun v i wr => ∃ (q : Nat) (A : Option Addr) (c : Nat), q ≤ n ∧ i = .int .i64 ((n : Int) - 1 - q) ∧ v = .slice A q c ∧ Hid (OwnV wr w12.heap.size 3 A q c (nvs ((downs n).take q))) ∧ Hid (Below w12.heap.size w12 wr)) (fun _ i _ => ((intOf i) + 1).toNat)
          case atStart => exact ⟨0, none, 0, by omega, by simp, rfl, OwnV.nil _ _ _, Below.refl _ _⟩
          case round =>
            obtain ⟨q, A, c, hq, rfl, rfl, HQ, HBQ⟩ := hrel
            by_cases hlt : q < n
            · have hge : (0 : Int) ≤ (n : Int) - 1 - q := by omega
              have hbs := HBQ.out.size
              obtain ⟨E, hE⟩ : ∃ E : Nat, n - 1 - q = E := ⟨_, rfl⟩
              have hE2 : (n : Int) - 1 - (q : Int) = (E : Int) := by omega
              rw [hE2] at *
              go_wp2_with (at_builtin; refine wpList_appV _ rfl (.tmp 121) (.tmp 123) _ rfl w12.heap.size 3 (.int .i64 0) 8 Try.underlying29 info3 rfl rfl (HQ.out.alloc _) rfl (RdV.one _ _ _ _) (by intro u hu; simp at hu; subst hu; rfl) (by omega) (by omega) (by rw [size_alloc]; omega) (q + 1) rfl ?_; intro A2 c2 w2 ho hg _)
              have HO2 := Lib.hid ho
              have HB2 : Hid (Below w12.heap.size w12 w2) := (HBQ.out.alloc hbs _).grown hg (by rw [size_alloc]; omega) (fun k hk => (HQ.out.block k hk).1)
              clear ho hg
              go_roundw
              case rel => exact ⟨q + 1, A2, c2, by omega, by first | (congr 1; omega) | congr 1, rfl, by rw [downs_snoc hlt, hE, nvs_snoc]; exact HO2.out, HB2.out⟩
              case measure => (simp [intOf]; try omega)
            · obtain rfl : q = n := by omega
              obtain ⟨w13, rfl⟩ : ∃ w13 : World, w13 = wr := ⟨_, rfl⟩
              have HF13 := Lib.hid (HF12.out.below HBQ.out HF12.out.lt)
              have Hx13 := Lib.hid (Hx12.out.below HBQ.out (Nat.le_refl _))
              have Hy13 := Lib.hid (Hy12.out.below HBQ.out (Nat.le_refl _))
              have HO13 := Lib.hid (HO12.out.below HBQ.out (Nat.le_refl _))
              have Hp13 := Lib.hid (Hp12.out.below HBQ.out (Nat.le_refl _))
              have Ho13 := Lib.hid (Ho12.out.below HBQ.out (Nat.le_refl _))
              have Ht13 := Lib.hid (Ht12.out.below HBQ.out (Nat.le_refl _))
              have Hs13 := Lib.hid (Hs12.out.below HBQ.out (Nat.le_refl _))
              have Hv13 := Lib.hid (Hv12.out.below HBQ.out (Nat.le_refl _))
              have HB13 := Lib.hid (HB12.out.trans (HBQ.out.mono HB12.out.size))
              have HDN : Hid (RdV w13 A q (nvs (downs q))) := by have := HQ.out.rd; rwa [List.take_of_length_le (by rw [downs_len]; omega)] at this
              have hneg : (q : Int) - 1 - (q : Int) = -1 := by omega
              clear HQ HBQ HB12 HF12 Hx12 Hy12 HO12 Hp12 Ho12 Ht12 Hs12 Hv12
              go_wp2_with fail
              refine (pick_nat _ q cx q F A q c (downs q) w13 Hx13.out hn1 (by omega) hn1 (by omega) HDN.out (by omega) (by omega) downs_lt).mono ?_
              rintro e w14 ⟨Ad, cd, rfl, hM, hB⟩
              obtain ⟨D, hD⟩ : ∃ D, pickF (downs q) F = D := ⟨_, rfl⟩
              rw [hD] at hM
              have HHD := Lib.hid hD
              clear hD
              have hW : Below w13.heap.size w13 w14 := hB
              have HF14 := Lib.hid (HF13.out.below hW HF13.out.lt)
              have Hx14 := Lib.hid (Hx13.out.below hW (Nat.le_refl _))
              have Hy14 := Lib.hid (Hy13.out.below hW (Nat.le_refl _))
              have HO14 := Lib.hid (HO13.out.below hW (Nat.le_refl _))
              have Hp14 := Lib.hid (Hp13.out.below hW (Nat.le_refl _))
              have Ho14 := Lib.hid (Ho13.out.below hW (Nat.le_refl _))
              have Ht14 := Lib.hid (Ht13.out.below hW (Nat.le_refl _))
              have Hs14 := Lib.hid (Hs13.out.below hW (Nat.le_refl _))
              have Hv14 := Lib.hid (Hv13.out.below hW (Nat.le_refl _))
              have HB14 : Hid (Below w.heap.size w w14) := HB13.out.trans (hW.mono HB13.out.size)
              have Hd14 := Lib.hid (hM)
              clear hW HF13 Hx13 Hy13 HO13 Hp13 Ho13 Ht13 Hs13 Hv13 HB13
              clear hM hB HDN
              have HRK : Hid (rankF 2 q V unitF = rankF 1 q T unitF ∧ rankF q q D unitF = rankF q q F unitF ∧ rankF 1 q T unitF ≤ 1 ∧ rankF 1 q T unitF ≤ q ∧ rankF q q P unitF ≤ rankF q q F unitF ∧ rankF q q P unitF ≤ rankF q q G unitF) := by
                have hl : [0].length = 1 := by have := HO14.out.len; rwa [nvs_len] at this
                refine ⟨?_, ?_, (rankF_le _ _ _ _).1, (rankF_le _ _ _ _).2, ?_, ?_⟩
                · rw [← HHV.out, ← HHT.out]; exact rank_twice hl
                · rw [← HHD.out]; exact rank_turned
                · rw [← HHP.out]; exact rank_min.1
                · rw [← HHP.out]; exact rank_min.2
              obtain ⟨rT, hrT⟩ : ∃ r, rankF 1 q T unitF = r := ⟨_, rfl⟩
              obtain ⟨rF, hrF⟩ : ∃ r, rankF q q F unitF = r := ⟨_, rfl⟩
              obtain ⟨rP, hrP⟩ : ∃ r, rankF q q P unitF = r := ⟨_, rfl⟩
              obtain ⟨rG, hrG⟩ : ∃ r, rankF q q G unitF = r := ⟨_, rfl⟩
              have HRR := HRK.out
              rw [hrT, hrF, hrP, hrG] at HRR
              obtain ⟨hV, hD, hT1, hT2, hP1, hP2⟩ := HRR
              have HVV := Lib.hid (And.intro hV hD)
              have HTT := Lib.hid (And.intro hrT (And.intro hrF (And.intro hrP hrG)))
              obtain ⟨s1, hs1, hs1'⟩ : ∃ s1 : Nat, min (q : Int) (1 : Int) = (s1 : Int) ∧ rT ≤ s1 := ⟨min q 1, by omega, by omega⟩
              obtain ⟨s2, hs2, hs2'⟩ : ∃ s2 : Nat, min (rF : Int) (rG : Int) = (s2 : Int) ∧ rP ≤ s2 := ⟨min rF rG, by omega, by omega⟩
              clear HRK hV hD hrT hrF hrP hrG hT1 hT2 hP1 hP2
              go_wp2_with fail
              refine (rank_any g _ 1 ct q T w14 HF14.out Ht14.out (by omega) (by omega) hn1 (by omega)).mono ?_
              rintro e w15 ⟨rfl, hB⟩
              rw [HTT.out.1]
              have hW : Below w14.heap.size w14 w15 := hB
              have HF15 := Lib.hid (HF14.out.below hW HF14.out.lt)
              have Hx15 := Lib.hid (Hx14.out.below hW (Nat.le_refl _))
              have Hy15 := Lib.hid (Hy14.out.below hW (Nat.le_refl _))
              have HO15 := Lib.hid (HO14.out.below hW (Nat.le_refl _))
              have Hp15 := Lib.hid (Hp14.out.below hW (Nat.le_refl _))
              have Ho15 := Lib.hid (Ho14.out.below hW (Nat.le_refl _))
              have Ht15 := Lib.hid (Ht14.out.below hW (Nat.le_refl _))
              have Hs15 := Lib.hid (Hs14.out.below hW (Nat.le_refl _))
              have Hv15 := Lib.hid (Hv14.out.below hW (Nat.le_refl _))
              have Hd15 := Lib.hid (Hd14.out.below hW (Nat.le_refl _))
              have HB15 : Hid (Below w.heap.size w w15) := HB14.out.trans (hW.mono HB14.out.size)
              clear hW HF14 Hx14 Hy14 HO14 Hp14 Ho14 Ht14 Hs14 Hv14 Hd14 HB14
              clear hB
              go_wp2_with fail
              refine (rank_any g _ 2 cv q V w15 HF15.out Hv15.out (by omega) (by omega) hn1 (by omega)).mono ?_
              rintro e w16 ⟨rfl, hB⟩
              rw [HVV.out.1]
              have hW : Below w15.heap.size w15 w16 := hB
              have HF16 := Lib.hid (HF15.out.below hW HF15.out.lt)
              have Hx16 := Lib.hid (Hx15.out.below hW (Nat.le_refl _))
              have Hy16 := Lib.hid (Hy15.out.below hW (Nat.le_refl _))
              have HO16 := Lib.hid (HO15.out.below hW (Nat.le_refl _))
              have Hp16 := Lib.hid (Hp15.out.below hW (Nat.le_refl _))
              have Ho16 := Lib.hid (Ho15.out.below hW (Nat.le_refl _))
              have Ht16 := Lib.hid (Ht15.out.below hW (Nat.le_refl _))
              have Hs16 := Lib.hid (Hs15.out.below hW (Nat.le_refl _))
              have Hv16 := Lib.hid (Hv15.out.below hW (Nat.le_refl _))
              have Hd16 := Lib.hid (Hd15.out.below hW (Nat.le_refl _))
              have HB16 : Hid (Below w.heap.size w w16) := HB15.out.trans (hW.mono HB15.out.size)
              clear hW HF15 Hx15 Hy15 HO15 Hp15 Ho15 Ht15 Hs15 Hv15 Hd15 HB15
              clear hB
              go_wp2_with fail
              refine (rank_any g _ q cd q D w16 HF16.out Hd16.out (by omega) (by omega) hn1 (by omega)).mono ?_
              rintro e w17 ⟨rfl, hB⟩
              rw [HVV.out.2]
              have hW : Below w16.heap.size w16 w17 := hB
              have HF17 := Lib.hid (HF16.out.below hW HF16.out.lt)
              have Hx17 := Lib.hid (Hx16.out.below hW (Nat.le_refl _))
              have Hy17 := Lib.hid (Hy16.out.below hW (Nat.le_refl _))
              have HO17 := Lib.hid (HO16.out.below hW (Nat.le_refl _))
              have Hp17 := Lib.hid (Hp16.out.below hW (Nat.le_refl _))
              have Ho17 := Lib.hid (Ho16.out.below hW (Nat.le_refl _))
              have Ht17 := Lib.hid (Ht16.out.below hW (Nat.le_refl _))
              have Hs17 := Lib.hid (Hs16.out.below hW (Nat.le_refl _))
              have Hv17 := Lib.hid (Hv16.out.below hW (Nat.le_refl _))
              have Hd17 := Lib.hid (Hd16.out.below hW (Nat.le_refl _))
              have HB17 : Hid (Below w.heap.size w w17) := HB16.out.trans (hW.mono HB16.out.size)
              clear hW HF16 Hx16 Hy16 HO16 Hp16 Ho16 Ht16 Hs16 Hv16 Hd16 HB16
              clear hB
              go_wp2_with fail
              refine (rank_any g _ q cx q F w17 HF17.out Hx17.out (by omega) (by omega) hn1 (by omega)).mono ?_
              rintro e w18 ⟨rfl, hB⟩
              rw [HTT.out.2.1]
              have hW : Below w17.heap.size w17 w18 := hB
              have HF18 := Lib.hid (HF17.out.below hW HF17.out.lt)
              have Hx18 := Lib.hid (Hx17.out.below hW (Nat.le_refl _))
              have Hy18 := Lib.hid (Hy17.out.below hW (Nat.le_refl _))
              have HO18 := Lib.hid (HO17.out.below hW (Nat.le_refl _))
              have Hp18 := Lib.hid (Hp17.out.below hW (Nat.le_refl _))
              have Ho18 := Lib.hid (Ho17.out.below hW (Nat.le_refl _))
              have Ht18 := Lib.hid (Ht17.out.below hW (Nat.le_refl _))
              have Hs18 := Lib.hid (Hs17.out.below hW (Nat.le_refl _))
              have Hv18 := Lib.hid (Hv17.out.below hW (Nat.le_refl _))
              have Hd18 := Lib.hid (Hd17.out.below hW (Nat.le_refl _))
              have HB18 : Hid (Below w.heap.size w w18) := HB17.out.trans (hW.mono HB17.out.size)
              clear hW HF17 Hx17 Hy17 HO17 Hp17 Ho17 Ht17 Hs17 Hv17 Hd17 HB17
              clear hB
              go_wp2_with fail
              refine (rank_any g _ q cp q P w18 HF18.out Hp18.out (by omega) (by omega) hn1 (by omega)).mono ?_
              rintro e w19 ⟨rfl, hB⟩
              rw [HTT.out.2.2.1]
              have hW : Below w18.heap.size w18 w19 := hB
              have HF19 := Lib.hid (HF18.out.below hW HF18.out.lt)
              have Hx19 := Lib.hid (Hx18.out.below hW (Nat.le_refl _))
              have Hy19 := Lib.hid (Hy18.out.below hW (Nat.le_refl _))
              have HO19 := Lib.hid (HO18.out.below hW (Nat.le_refl _))
              have Hp19 := Lib.hid (Hp18.out.below hW (Nat.le_refl _))
              have Ho19 := Lib.hid (Ho18.out.below hW (Nat.le_refl _))
              have Ht19 := Lib.hid (Ht18.out.below hW (Nat.le_refl _))
              have Hs19 := Lib.hid (Hs18.out.below hW (Nat.le_refl _))
              have Hv19 := Lib.hid (Hv18.out.below hW (Nat.le_refl _))
              have Hd19 := Lib.hid (Hd18.out.below hW (Nat.le_refl _))
              have HB19 : Hid (Below w.heap.size w w19) := HB18.out.trans (hW.mono HB18.out.size)
              clear hW HF18 Hx18 Hy18 HO18 Hp18 Ho18 Ht18 Hs18 Hv18 Hd18 HB18
              clear hB
              go_wp2_with fail
              refine (rank_any g _ q cx q F w19 HF19.out Hx19.out (by omega) (by omega) hn1 (by omega)).mono ?_
              rintro e w20 ⟨rfl, hB⟩
              rw [HTT.out.2.1]
              have hW : Below w19.heap.size w19 w20 := hB
              have HF20 := Lib.hid (HF19.out.below hW HF19.out.lt)
              have Hx20 := Lib.hid (Hx19.out.below hW (Nat.le_refl _))
              have Hy20 := Lib.hid (Hy19.out.below hW (Nat.le_refl _))
              have HO20 := Lib.hid (HO19.out.below hW (Nat.le_refl _))
              have Hp20 := Lib.hid (Hp19.out.below hW (Nat.le_refl _))
              have Ho20 := Lib.hid (Ho19.out.below hW (Nat.le_refl _))
              have Ht20 := Lib.hid (Ht19.out.below hW (Nat.le_refl _))
              have Hs20 := Lib.hid (Hs19.out.below hW (Nat.le_refl _))
              have Hv20 := Lib.hid (Hv19.out.below hW (Nat.le_refl _))
              have Hd20 := Lib.hid (Hd19.out.below hW (Nat.le_refl _))
              have HB20 : Hid (Below w.heap.size w w20) := HB19.out.trans (hW.mono HB19.out.size)
              clear hW HF19 Hx19 Hy19 HO19 Hp19 Ho19 Ht19 Hs19 Hv19 Hd19 HB19
              clear hB
              go_wp2_with fail
              refine (rank_any g _ q cy q G w20 HF20.out Hy20.out (by omega) (by omega) hn1 (by omega)).mono ?_
              rintro e w21 ⟨rfl, hB⟩
              rw [HTT.out.2.2.2]
              have hW : Below w20.heap.size w20 w21 := hB
              have HF21 := Lib.hid (HF20.out.below hW HF20.out.lt)
              have Hx21 := Lib.hid (Hx20.out.below hW (Nat.le_refl _))
              have Hy21 := Lib.hid (Hy20.out.below hW (Nat.le_refl _))
              have HO21 := Lib.hid (HO20.out.below hW (Nat.le_refl _))
              have Hp21 := Lib.hid (Hp20.out.below hW (Nat.le_refl _))
              have Ho21 := Lib.hid (Ho20.out.below hW (Nat.le_refl _))
              have Ht21 := Lib.hid (Ht20.out.below hW (Nat.le_refl _))
              have Hs21 := Lib.hid (Hs20.out.below hW (Nat.le_refl _))
              have Hv21 := Lib.hid (Hv20.out.below hW (Nat.le_refl _))
              have Hd21 := Lib.hid (Hd20.out.below hW (Nat.le_refl _))
              have HB21 : Hid (Below w.heap.size w w21) := HB20.out.trans (hW.mono HB20.out.size)
              clear hW HF20 Hx20 Hy20 HO20 Hp20 Ho20 Ht20 Hs20 Hv20 Hd20 HB20
              clear hB
              go_wp2_with fail
              refine (awake_any w21).mono ?_
              rintro e w22 ⟨rfl, hB⟩
              have hW : Below w21.heap.size w21 w22 := hB
              have HF22 := Lib.hid (HF21.out.below hW HF21.out.lt)
              have Hx22 := Lib.hid (Hx21.out.below hW (Nat.le_refl _))
              have Hy22 := Lib.hid (Hy21.out.below hW (Nat.le_refl _))
              have HO22 := Lib.hid (HO21.out.below hW (Nat.le_refl _))
              have Hp22 := Lib.hid (Hp21.out.below hW (Nat.le_refl _))
              have Ho22 := Lib.hid (Ho21.out.below hW (Nat.le_refl _))
              have Ht22 := Lib.hid (Ht21.out.below hW (Nat.le_refl _))
              have Hs22 := Lib.hid (Hs21.out.below hW (Nat.le_refl _))
              have Hv22 := Lib.hid (Hv21.out.below hW (Nat.le_refl _))
              have Hd22 := Lib.hid (Hd21.out.below hW (Nat.le_refl _))
              have HB22 : Hid (Below w.heap.size w w22) := HB21.out.trans (hW.mono HB21.out.size)
              clear hW HF21 Hx21 Hy21 HO21 Hp21 Ho21 Ht21 Hs21 Hv21 Hd21 HB21
              clear hB
              go_wp2
              go_ret
              exact ⟨rfl, HB22.out⟩
        · have hk1 : 1 ≤ q := by omega
          have hk0 : ((q : Int) == 0) = false := beq_eq_false_iff_ne.2 (by omega)
          clear hin
          obtain ⟨k, rfl⟩ : ∃ k, k = q := ⟨_, rfl⟩
          obtain ⟨A0, rfl⟩ : ∃ A0, A0 = A := ⟨_, rfl⟩
          obtain ⟨c0, rfl⟩ : ∃ c0, c0 = c := ⟨_, rfl⟩
          go_wp2_with fail
          refine (mul_yes g _ n cx n F _ cy n G w4 HF4.out Hx4.out Hy4.out (by omega) (by omega) hn1 (by omega) hn1 (by omega)).mono ?_
          rintro e w5 ⟨Ap, cp, rfl, hM, hB⟩
          obtain ⟨P, hP⟩ : ∃ P, mulF n F G = P := ⟨_, rfl⟩
          rw [hP] at hM
          have HHP := Lib.hid hP
          clear hP
          have hW : Below w4.heap.size w4 w5 := hB
          have HF5 := Lib.hid (HF4.out.below hW HF4.out.lt)
          have Hx5 := Lib.hid (Hx4.out.below hW (Nat.le_refl _))
          have Hy5 := Lib.hid (Hy4.out.below hW (Nat.le_refl _))
          have HO5 := Lib.hid (HO4.out.below hW (Nat.le_refl _))
          have HB5 : Hid (Below w.heap.size w w5) := HB4.out.trans (hW.mono HB4.out.size)
          have Hp5 := Lib.hid (hM)
          clear hW HF4 Hx4 Hy4 HO4 HB4
          clear hM hB
          go_wp2_with fail
          refine (pick_nat _ n cp n P A0 k c0 ls _ (Hp5.out) hn1 (by omega) hn1 (by omega) (HO5.out.rd) (by omega) (by omega) HS.out).mono ?_
          rintro e w6 ⟨Ao, co, rfl, hM, hB⟩
          have hW : Below w5.heap.size w5 w6 := hB
          have HF6 := Lib.hid (HF5.out.below hW HF5.out.lt)
          have Hx6 := Lib.hid (Hx5.out.below hW (Nat.le_refl _))
          have Hy6 := Lib.hid (Hy5.out.below hW (Nat.le_refl _))
          have HO6 := Lib.hid (HO5.out.below hW (Nat.le_refl _))
          have Hp6 := Lib.hid (Hp5.out.below hW (Nat.le_refl _))
          have HB6 : Hid (Below w.heap.size w w6) := HB5.out.trans (hW.mono HB5.out.size)
          have Ho6 := Lib.hid (hM)
          clear hW HF5 Hx5 Hy5 HO5 Hp5 HB5
          clear hM hB
          go_wp2_with fail
          refine (pick_nat _ n cx n F A0 k c0 ls _ (Hx6.out) hn1 (by omega) hn1 (by omega) (HO6.out.rd) (by omega) (by omega) HS.out).mono ?_
          rintro e w7 ⟨At, ct, rfl, hM, hB⟩
          obtain ⟨T, hT⟩ : ∃ T, pickF ls F = T := ⟨_, rfl⟩
          rw [hT] at hM
          have HHT := Lib.hid hT
          clear hT
          have hW : Below w6.heap.size w6 w7 := hB
          have HF7 := Lib.hid (HF6.out.below hW HF6.out.lt)
          have Hx7 := Lib.hid (Hx6.out.below hW (Nat.le_refl _))
          have Hy7 := Lib.hid (Hy6.out.below hW (Nat.le_refl _))
          have HO7 := Lib.hid (HO6.out.below hW (Nat.le_refl _))
          have Hp7 := Lib.hid (Hp6.out.below hW (Nat.le_refl _))
          have Ho7 := Lib.hid (Ho6.out.below hW (Nat.le_refl _))
          have HB7 : Hid (Below w.heap.size w w7) := HB6.out.trans (hW.mono HB6.out.size)
          have Ht7 := Lib.hid (hM)
          clear hW HF6 Hx6 Hy6 HO6 Hp6 Ho6 HB6
          clear hM hB
          go_wp2_with fail
          refine (mul_yes g _ k ct n T _ cy n G w7 HF7.out Ht7.out Hy7.out (by omega) (by omega) hn1 (by omega) hn1 (by omega)).mono ?_
          rintro e w8 ⟨As, cs, rfl, hM, hB⟩
          rw [← HHT.out, pick_mul, HHP.out] at hM
          have hW : Below w7.heap.size w7 w8 := hB
          have HF8 := Lib.hid (HF7.out.below hW HF7.out.lt)
          have Hx8 := Lib.hid (Hx7.out.below hW (Nat.le_refl _))
          have Hy8 := Lib.hid (Hy7.out.below hW (Nat.le_refl _))
          have HO8 := Lib.hid (HO7.out.below hW (Nat.le_refl _))
          have Hp8 := Lib.hid (Hp7.out.below hW (Nat.le_refl _))
          have Ho8 := Lib.hid (Ho7.out.below hW (Nat.le_refl _))
          have Ht8 := Lib.hid (Ht7.out.below hW (Nat.le_refl _))
          have HB8 : Hid (Below w.heap.size w w8) := HB7.out.trans (hW.mono HB7.out.size)
          have Hs8 := Lib.hid (hM)
          clear hW HF7 Hx7 Hy7 HO7 Hp7 Ho7 Ht7 HB7
          clear hM hB
          go_wp2_with fail
          refine (samem_yes _ k co _ _ cs w8 Ho8.out.mr Hs8.out.mr (by omega)).mono ?_
          rintro e w9 ⟨rfl, j9, hw⟩
          have hW : Below w8.heap.size w8 w9 := by rw [hw]; exact ⟨rfl, rfl, rfl, Nat.le_refl _, fun _ _ => rfl⟩
          have HF9 := Lib.hid (HF8.out.below hW HF8.out.lt)
          have Hx9 := Lib.hid (Hx8.out.below hW (Nat.le_refl _))
          have Hy9 := Lib.hid (Hy8.out.below hW (Nat.le_refl _))
          have HO9 := Lib.hid (HO8.out.below hW (Nat.le_refl _))
          have Hp9 := Lib.hid (Hp8.out.below hW (Nat.le_refl _))
          have Ho9 := Lib.hid (Ho8.out.below hW (Nat.le_refl _))
          have Ht9 := Lib.hid (Ht8.out.below hW (Nat.le_refl _))
          have Hs9 := Lib.hid (Hs8.out.below hW (Nat.le_refl _))
          have HB9 : Hid (Below w.heap.size w w9) := HB8.out.trans (hW.mono HB8.out.size)
          clear hW HF8 Hx8 Hy8 HO8 Hp8 Ho8 Ht8 Hs8 HB8
          clear hw
          have hL1 := Lib.hid (nvs_one ls)
          have HE : Hid (OwnV (w9.alloc (.cells #[] 3)) w9.heap.size 3 (some ⟨w9.heap.size, 0, none⟩) 0 0 []) := ⟨rfl, World.ownsRow_lit (base := w9.heap.size) (e := 3) (size := 1) w9 #[] 0 (Nat.le_refl _) (by simp) rfl⟩
          go_wp2_with (at_builtin; first
            | (refine wpList_appV _ rfl (.tmp 107) (.tmp 108) _ rfl w9.heap.size 3 (.int .i64 0) 8 Try.underlying29 info3 rfl rfl HE.out rfl (HO9.out.rd.alloc _) hL1.out (by omega) (by omega) (by simp) k (by omega) ?_; intro Aa ca wa hoa hga _; have HOa := Lib.hid hoa; have HGa : Hid (Below w9.heap.size w9 wa) := ((Below.refl _ _).alloc (Nat.le_refl _) _).grown hga (by simp) (fun q hq => by simp at hq; omega); clear hoa hga)
            | (refine wpList_appV _ rfl (.tmp 109) (.tmp 110) _ rfl w9.heap.size 3 (.int .i64 0) 8 Try.underlying29 info3 rfl rfl HOa.out rfl (HO9.out.rd.below HGa.out (Nat.le_refl _)) hL1.out (by omega) (by omega) HGa.out.size (k + k) rfl ?_; intro Ab cb wb hob hgb _; have HOb := Lib.hid hob; have HGb : Hid (Below w9.heap.size w9 wb) := HGa.out.grown hgb HGa.out.size (fun q hq => (HOa.out.block q hq).1); clear hob hgb))
          have HTW : Hid (RdV wb Ab (k + k) (nvs (ls ++ ls))) := by have := HOb.out.rd; show RdV _ _ _ _; rwa [show nvs (ls ++ ls) = [] ++ nvs ls ++ nvs ls from by simp [nvs]]
          obtain ⟨w10, rfl⟩ : ∃ w10 : World, w10 = wb := ⟨_, rfl⟩
          have HF10 := Lib.hid (HF9.out.below HGb.out HF9.out.lt)
          have Hx10 := Lib.hid (Hx9.out.below HGb.out (Nat.le_refl _))
          have Hy10 := Lib.hid (Hy9.out.below HGb.out (Nat.le_refl _))
          have HO10 := Lib.hid (HO9.out.below HGb.out (Nat.le_refl _))
          have Hp10 := Lib.hid (Hp9.out.below HGb.out (Nat.le_refl _))
          have Ho10 := Lib.hid (Ho9.out.below HGb.out (Nat.le_refl _))
          have Ht10 := Lib.hid (Ht9.out.below HGb.out (Nat.le_refl _))
          have Hs10 := Lib.hid (Hs9.out.below HGb.out (Nat.le_refl _))
          have HB10 := Lib.hid (HB9.out.trans (HGb.out.mono HB9.out.size))
          clear HE HOa HGa HOb HGb HB9 HF9 Hx9 Hy9 HO9 Hp9 Ho9 Ht9 Hs9
          go_wp2_with fail
          refine (pick_nat _ n cx n F Ab (k + k) cb (ls ++ ls) w10 Hx10.out hn1 (by omega) hn1 (by omega) HTW.out (by omega) (by omega) (by intro q hq; rcases List.mem_append.1 hq with hq | hq <;> exact HS.out q hq)).mono ?_
          rintro e w11 ⟨Av, cv, rfl, hM, hB⟩
          obtain ⟨V, hV⟩ : ∃ V, pickF (ls ++ ls) F = V := ⟨_, rfl⟩
          rw [hV] at hM
          have HHV := Lib.hid hV
          clear hV
          have hW : Below w10.heap.size w10 w11 := hB
          have HF11 := Lib.hid (HF10.out.below hW HF10.out.lt)
          have Hx11 := Lib.hid (Hx10.out.below hW (Nat.le_refl _))
          have Hy11 := Lib.hid (Hy10.out.below hW (Nat.le_refl _))
          have HO11 := Lib.hid (HO10.out.below hW (Nat.le_refl _))
          have Hp11 := Lib.hid (Hp10.out.below hW (Nat.le_refl _))
          have Ho11 := Lib.hid (Ho10.out.below hW (Nat.le_refl _))
          have Ht11 := Lib.hid (Ht10.out.below hW (Nat.le_refl _))
          have Hs11 := Lib.hid (Hs10.out.below hW (Nat.le_refl _))
          have HB11 : Hid (Below w.heap.size w w11) := HB10.out.trans (hW.mono HB10.out.size)
          have Hv11 := Lib.hid (hM)
          clear hW HF10 Hx10 Hy10 HO10 Hp10 Ho10 Ht10 Hs10 HB10
          clear hM hB HTW
          go_wp2_with fail
          go_loopw [25, 26] (fun v i wr => ∃ (q : Nat) (A : Option Addr) (c : Nat), q ≤ n ∧ i = .int .i64 ((n : Int) - 1 - q) ∧ v = .slice A q c ∧ Hid (OwnV wr w11.heap.size 3 A q c (nvs ((downs n).take q))) ∧ Hid (Below w11.heap.size w11 wr)) (fun _ i _ => ((intOf i) + 1).toNat)
          case atStart => exact ⟨0, none, 0, by omega, by simp, rfl, OwnV.nil _ _ _, Below.refl _ _⟩
          case round =>
            obtain ⟨q, A, c, hq, rfl, rfl, HQ, HBQ⟩ := hrel
            by_cases hlt : q < n
            · have hge : (0 : Int) ≤ (n : Int) - 1 - q := by omega
              have hbs := HBQ.out.size
              obtain ⟨E, hE⟩ : ∃ E : Nat, n - 1 - q = E := ⟨_, rfl⟩
              have hE2 : (n : Int) - 1 - (q : Int) = (E : Int) := by omega
              rw [hE2] at *
              go_wp2_with (at_builtin; refine wpList_appV _ rfl (.tmp 121) (.tmp 123) _ rfl w11.heap.size 3 (.int .i64 0) 8 Try.underlying29 info3 rfl rfl (HQ.out.alloc _) rfl (RdV.one _ _ _ _) (by intro u hu; simp at hu; subst hu; rfl) (by omega) (by omega) (by rw [size_alloc]; omega) (q + 1) rfl ?_; intro A2 c2 w2 ho hg _)
              have HO2 := Lib.hid ho
              have HB2 : Hid (Below w11.heap.size w11 w2) := (HBQ.out.alloc hbs _).grown hg (by rw [size_alloc]; omega) (fun k hk => (HQ.out.block k hk).1)
              clear ho hg
              go_roundw
              case rel => exact ⟨q + 1, A2, c2, by omega, by first | (congr 1; omega) | congr 1, rfl, by rw [downs_snoc hlt, hE, nvs_snoc]; exact HO2.out, HB2.out⟩
              case measure => (simp [intOf]; try omega)
            · obtain rfl : q = n := by omega
              obtain ⟨w12, rfl⟩ : ∃ w12 : World, w12 = wr := ⟨_, rfl⟩
              have HF12 := Lib.hid (HF11.out.below HBQ.out HF11.out.lt)
              have Hx12 := Lib.hid (Hx11.out.below HBQ.out (Nat.le_refl _))
              have Hy12 := Lib.hid (Hy11.out.below HBQ.out (Nat.le_refl _))
              have HO12 := Lib.hid (HO11.out.below HBQ.out (Nat.le_refl _))
              have Hp12 := Lib.hid (Hp11.out.below HBQ.out (Nat.le_refl _))
              have Ho12 := Lib.hid (Ho11.out.below HBQ.out (Nat.le_refl _))
              have Ht12 := Lib.hid (Ht11.out.below HBQ.out (Nat.le_refl _))
              have Hs12 := Lib.hid (Hs11.out.below HBQ.out (Nat.le_refl _))
              have Hv12 := Lib.hid (Hv11.out.below HBQ.out (Nat.le_refl _))
              have HB12 := Lib.hid (HB11.out.trans (HBQ.out.mono HB11.out.size))
              have HDN : Hid (RdV w12 A q (nvs (downs q))) := by have := HQ.out.rd; rwa [List.take_of_length_le (by rw [downs_len]; omega)] at this
              have hneg : (q : Int) - 1 - (q : Int) = -1 := by omega
              clear HQ HBQ HB11 HF11 Hx11 Hy11 HO11 Hp11 Ho11 Ht11 Hs11 Hv11
              go_wp2_with fail
              refine (pick_nat _ q cx q F A q c (downs q) w12 Hx12.out hn1 (by omega) hn1 (by omega) HDN.out (by omega) (by omega) downs_lt).mono ?_
              rintro e w13 ⟨Ad, cd, rfl, hM, hB⟩
              obtain ⟨D, hD⟩ : ∃ D, pickF (downs q) F = D := ⟨_, rfl⟩
              rw [hD] at hM
              have HHD := Lib.hid hD
              clear hD
              have hW : Below w12.heap.size w12 w13 := hB
              have HF13 := Lib.hid (HF12.out.below hW HF12.out.lt)
              have Hx13 := Lib.hid (Hx12.out.below hW (Nat.le_refl _))
              have Hy13 := Lib.hid (Hy12.out.below hW (Nat.le_refl _))
              have HO13 := Lib.hid (HO12.out.below hW (Nat.le_refl _))
              have Hp13 := Lib.hid (Hp12.out.below hW (Nat.le_refl _))
              have Ho13 := Lib.hid (Ho12.out.below hW (Nat.le_refl _))
              have Ht13 := Lib.hid (Ht12.out.below hW (Nat.le_refl _))
              have Hs13 := Lib.hid (Hs12.out.below hW (Nat.le_refl _))
              have Hv13 := Lib.hid (Hv12.out.below hW (Nat.le_refl _))
              have HB13 : Hid (Below w.heap.size w w13) := HB12.out.trans (hW.mono HB12.out.size)
              have Hd13 := Lib.hid (hM)
              clear hW HF12 Hx12 Hy12 HO12 Hp12 Ho12 Ht12 Hs12 Hv12 HB12
              clear hM hB HDN
              have HRK : Hid (rankF (k + k) q V unitF = rankF k q T unitF ∧ rankF q q D unitF = rankF q q F unitF ∧ rankF k q T unitF ≤ k ∧ rankF k q T unitF ≤ q ∧ rankF q q P unitF ≤ rankF q q F unitF ∧ rankF q q P unitF ≤ rankF q q G unitF) := by
                have hl : ls.length = k := by have := HO13.out.len; rwa [nvs_len] at this
                refine ⟨?_, ?_, (rankF_le _ _ _ _).1, (rankF_le _ _ _ _).2, ?_, ?_⟩
                · rw [← HHV.out, ← HHT.out]; exact rank_twice hl
                · rw [← HHD.out]; exact rank_turned
                · rw [← HHP.out]; exact rank_min.1
                · rw [← HHP.out]; exact rank_min.2
              obtain ⟨rT, hrT⟩ : ∃ r, rankF k q T unitF = r := ⟨_, rfl⟩
              obtain ⟨rF, hrF⟩ : ∃ r, rankF q q F unitF = r := ⟨_, rfl⟩
              obtain ⟨rP, hrP⟩ : ∃ r, rankF q q P unitF = r := ⟨_, rfl⟩
              obtain ⟨rG, hrG⟩ : ∃ r, rankF q q G unitF = r := ⟨_, rfl⟩
              have HRR := HRK.out
              rw [hrT, hrF, hrP, hrG] at HRR
              obtain ⟨hV, hD, hT1, hT2, hP1, hP2⟩ := HRR
              have HVV := Lib.hid (And.intro hV hD)
              have HTT := Lib.hid (And.intro hrT (And.intro hrF (And.intro hrP hrG)))
              obtain ⟨s1, hs1, hs1'⟩ : ∃ s1 : Nat, min (q : Int) (k : Int) = (s1 : Int) ∧ rT ≤ s1 := ⟨min q k, by omega, by omega⟩
              obtain ⟨s2, hs2, hs2'⟩ : ∃ s2 : Nat, min (rF : Int) (rG : Int) = (s2 : Int) ∧ rP ≤ s2 := ⟨min rF rG, by omega, by omega⟩
              clear HRK hV hD hrT hrF hrP hrG hT1 hT2 hP1 hP2
              go_wp2_with fail
              refine (rank_any g _ k ct q T w13 HF13.out Ht13.out (by omega) (by omega) hn1 (by omega)).mono ?_
              rintro e w14 ⟨rfl, hB⟩
              rw [HTT.out.1]
              have hW : Below w13.heap.size w13 w14 := hB
              have HF14 := Lib.hid (HF13.out.below hW HF13.out.lt)
              have Hx14 := Lib.hid (Hx13.out.below hW (Nat.le_refl _))
              have Hy14 := Lib.hid (Hy13.out.below hW (Nat.le_refl _))
              have HO14 := Lib.hid (HO13.out.below hW (Nat.le_refl _))
              have Hp14 := Lib.hid (Hp13.out.below hW (Nat.le_refl _))
              have Ho14 := Lib.hid (Ho13.out.below hW (Nat.le_refl _))
              have Ht14 := Lib.hid (Ht13.out.below hW (Nat.le_refl _))
              have Hs14 := Lib.hid (Hs13.out.below hW (Nat.le_refl _))
              have Hv14 := Lib.hid (Hv13.out.below hW (Nat.le_refl _))
              have Hd14 := Lib.hid (Hd13.out.below hW (Nat.le_refl _))
              have HB14 : Hid (Below w.heap.size w w14) := HB13.out.trans (hW.mono HB13.out.size)
              clear hW HF13 Hx13 Hy13 HO13 Hp13 Ho13 Ht13 Hs13 Hv13 Hd13 HB13
              clear hB
              go_wp2_with fail
              refine (rank_any g _ (k + k) cv q V w14 HF14.out Hv14.out (by omega) (by omega) hn1 (by omega)).mono ?_
              rintro e w15 ⟨rfl, hB⟩
              rw [HVV.out.1]
              have hW : Below w14.heap.size w14 w15 := hB
              have HF15 := Lib.hid (HF14.out.below hW HF14.out.lt)
              have Hx15 := Lib.hid (Hx14.out.below hW (Nat.le_refl _))
              have Hy15 := Lib.hid (Hy14.out.below hW (Nat.le_refl _))
              have HO15 := Lib.hid (HO14.out.below hW (Nat.le_refl _))
              have Hp15 := Lib.hid (Hp14.out.below hW (Nat.le_refl _))
              have Ho15 := Lib.hid (Ho14.out.below hW (Nat.le_refl _))
              have Ht15 := Lib.hid (Ht14.out.below hW (Nat.le_refl _))
              have Hs15 := Lib.hid (Hs14.out.below hW (Nat.le_refl _))
              have Hv15 := Lib.hid (Hv14.out.below hW (Nat.le_refl _))
              have Hd15 := Lib.hid (Hd14.out.below hW (Nat.le_refl _))
              have HB15 : Hid (Below w.heap.size w w15) := HB14.out.trans (hW.mono HB14.out.size)
              clear hW HF14 Hx14 Hy14 HO14 Hp14 Ho14 Ht14 Hs14 Hv14 Hd14 HB14
              clear hB
              go_wp2_with fail
              refine (rank_any g _ q cd q D w15 HF15.out Hd15.out (by omega) (by omega) hn1 (by omega)).mono ?_
              rintro e w16 ⟨rfl, hB⟩
              rw [HVV.out.2]
              have hW : Below w15.heap.size w15 w16 := hB
              have HF16 := Lib.hid (HF15.out.below hW HF15.out.lt)
              have Hx16 := Lib.hid (Hx15.out.below hW (Nat.le_refl _))
              have Hy16 := Lib.hid (Hy15.out.below hW (Nat.le_refl _))
              have HO16 := Lib.hid (HO15.out.below hW (Nat.le_refl _))
              have Hp16 := Lib.hid (Hp15.out.below hW (Nat.le_refl _))
              have Ho16 := Lib.hid (Ho15.out.below hW (Nat.le_refl _))
              have Ht16 := Lib.hid (Ht15.out.below hW (Nat.le_refl _))
              have Hs16 := Lib.hid (Hs15.out.below hW (Nat.le_refl _))
              have Hv16 := Lib.hid (Hv15.out.below hW (Nat.le_refl _))
              have Hd16 := Lib.hid (Hd15.out.below hW (Nat.le_refl _))
              have HB16 : Hid (Below w.heap.size w w16) := HB15.out.trans (hW.mono HB15.out.size)
              clear hW HF15 Hx15 Hy15 HO15 Hp15 Ho15 Ht15 Hs15 Hv15 Hd15 HB15
              clear hB
              go_wp2_with fail
              refine (rank_any g _ q cx q F w16 HF16.out Hx16.out (by omega) (by omega) hn1 (by omega)).mono ?_
              rintro e w17 ⟨rfl, hB⟩
              rw [HTT.out.2.1]
              have hW : Below w16.heap.size w16 w17 := hB
              have HF17 := Lib.hid (HF16.out.below hW HF16.out.lt)
              have Hx17 := Lib.hid (Hx16.out.below hW (Nat.le_refl _))
              have Hy17 := Lib.hid (Hy16.out.below hW (Nat.le_refl _))
              have HO17 := Lib.hid (HO16.out.below hW (Nat.le_refl _))
              have Hp17 := Lib.hid (Hp16.out.below hW (Nat.le_refl _))
              have Ho17 := Lib.hid (Ho16.out.below hW (Nat.le_refl _))
              have Ht17 := Lib.hid (Ht16.out.below hW (Nat.le_refl _))
              have Hs17 := Lib.hid (Hs16.out.below hW (Nat.le_refl _))
              have Hv17 := Lib.hid (Hv16.out.below hW (Nat.le_refl _))
              have Hd17 := Lib.hid (Hd16.out.below hW (Nat.le_refl _))
              have HB17 : Hid (Below w.heap.size w w17) := HB16.out.trans (hW.mono HB16.out.size)
              clear hW HF16 Hx16 Hy16 HO16 Hp16 Ho16 Ht16 Hs16 Hv16 Hd16 HB16
              clear hB
              go_wp2_with fail
              refine (rank_any g _ q cp q P w17 HF17.out Hp17.out (by omega) (by omega) hn1 (by omega)).mono ?_
              rintro e w18 ⟨rfl, hB⟩
              rw [HTT.out.2.2.1]
              have hW : Below w17.heap.size w17 w18 := hB
              have HF18 := Lib.hid (HF17.out.below hW HF17.out.lt)
              have Hx18 := Lib.hid (Hx17.out.below hW (Nat.le_refl _))
              have Hy18 := Lib.hid (Hy17.out.below hW (Nat.le_refl _))
              have HO18 := Lib.hid (HO17.out.below hW (Nat.le_refl _))
              have Hp18 := Lib.hid (Hp17.out.below hW (Nat.le_refl _))
              have Ho18 := Lib.hid (Ho17.out.below hW (Nat.le_refl _))
              have Ht18 := Lib.hid (Ht17.out.below hW (Nat.le_refl _))
              have Hs18 := Lib.hid (Hs17.out.below hW (Nat.le_refl _))
              have Hv18 := Lib.hid (Hv17.out.below hW (Nat.le_refl _))
              have Hd18 := Lib.hid (Hd17.out.below hW (Nat.le_refl _))
              have HB18 : Hid (Below w.heap.size w w18) := HB17.out.trans (hW.mono HB17.out.size)
              clear hW HF17 Hx17 Hy17 HO17 Hp17 Ho17 Ht17 Hs17 Hv17 Hd17 HB17
              clear hB
              go_wp2_with fail
              refine (rank_any g _ q cx q F w18 HF18.out Hx18.out (by omega) (by omega) hn1 (by omega)).mono ?_
              rintro e w19 ⟨rfl, hB⟩
              rw [HTT.out.2.1]
              have hW : Below w18.heap.size w18 w19 := hB
              have HF19 := Lib.hid (HF18.out.below hW HF18.out.lt)
              have Hx19 := Lib.hid (Hx18.out.below hW (Nat.le_refl _))
              have Hy19 := Lib.hid (Hy18.out.below hW (Nat.le_refl _))
              have HO19 := Lib.hid (HO18.out.below hW (Nat.le_refl _))
              have Hp19 := Lib.hid (Hp18.out.below hW (Nat.le_refl _))
              have Ho19 := Lib.hid (Ho18.out.below hW (Nat.le_refl _))
              have Ht19 := Lib.hid (Ht18.out.below hW (Nat.le_refl _))
              have Hs19 := Lib.hid (Hs18.out.below hW (Nat.le_refl _))
              have Hv19 := Lib.hid (Hv18.out.below hW (Nat.le_refl _))
              have Hd19 := Lib.hid (Hd18.out.below hW (Nat.le_refl _))
              have HB19 : Hid (Below w.heap.size w w19) := HB18.out.trans (hW.mono HB18.out.size)
              clear hW HF18 Hx18 Hy18 HO18 Hp18 Ho18 Ht18 Hs18 Hv18 Hd18 HB18
              clear hB
              go_wp2_with fail
              refine (rank_any g _ q cy q G w19 HF19.out Hy19.out (by omega) (by omega) hn1 (by omega)).mono ?_
              rintro e w20 ⟨rfl, hB⟩
              rw [HTT.out.2.2.2]
              have hW : Below w19.heap.size w19 w20 := hB
              have HF20 := Lib.hid (HF19.out.below hW HF19.out.lt)
              have Hx20 := Lib.hid (Hx19.out.below hW (Nat.le_refl _))
              have Hy20 := Lib.hid (Hy19.out.below hW (Nat.le_refl _))
              have HO20 := Lib.hid (HO19.out.below hW (Nat.le_refl _))
              have Hp20 := Lib.hid (Hp19.out.below hW (Nat.le_refl _))
              have Ho20 := Lib.hid (Ho19.out.below hW (Nat.le_refl _))
              have Ht20 := Lib.hid (Ht19.out.below hW (Nat.le_refl _))
              have Hs20 := Lib.hid (Hs19.out.below hW (Nat.le_refl _))
              have Hv20 := Lib.hid (Hv19.out.below hW (Nat.le_refl _))
              have Hd20 := Lib.hid (Hd19.out.below hW (Nat.le_refl _))
              have HB20 : Hid (Below w.heap.size w w20) := HB19.out.trans (hW.mono HB19.out.size)
              clear hW HF19 Hx19 Hy19 HO19 Hp19 Ho19 Ht19 Hs19 Hv19 Hd19 HB19
              clear hB
              go_wp2_with fail
              refine (awake_any w20).mono ?_
              rintro e w21 ⟨rfl, hB⟩
              have hW : Below w20.heap.size w20 w21 := hB
              have HF21 := Lib.hid (HF20.out.below hW HF20.out.lt)
              have Hx21 := Lib.hid (Hx20.out.below hW (Nat.le_refl _))
              have Hy21 := Lib.hid (Hy20.out.below hW (Nat.le_refl _))
              have HO21 := Lib.hid (HO20.out.below hW (Nat.le_refl _))
              have Hp21 := Lib.hid (Hp20.out.below hW (Nat.le_refl _))
              have Ho21 := Lib.hid (Ho20.out.below hW (Nat.le_refl _))
              have Ht21 := Lib.hid (Ht20.out.below hW (Nat.le_refl _))
              have Hs21 := Lib.hid (Hs20.out.below hW (Nat.le_refl _))
              have Hv21 := Lib.hid (Hv20.out.below hW (Nat.le_refl _))
              have Hd21 := Lib.hid (Hd20.out.below hW (Nat.le_refl _))
              have HB21 : Hid (Below w.heap.size w w21) := HB20.out.trans (hW.mono HB20.out.size)
              clear hW HF20 Hx20 Hy20 HO20 Hp20 Ho20 Ht20 Hs20 Hv20 Hd20 HB20
              clear hB
              go_wp2
              go_ret
              exact ⟨rfl, HB21.out⟩
end Go.Proofs.Ytcggcbfddgfigaa
