/- The reference's code; program and reference side by side. -/
import Derived.Test.YtobbjeephmfdeaaCodD
import Derived.Test.YtobbjeephmfdeaaMtxAA
import Derived.Test.YtobbjeephmfdeaaCodA
import Derived.Laws.ResultCell
import Derived.Laws.Rows
import Derived.Test.YtobbjeephmfdeaaMtxAE
import Derived.Test.YtobbjeephmfdeaaAwkA
import Derived.StillTailTactics
namespace Go.Proofs.Ytobbjeephmfdeaa
open Go.RowKit Go.Coop
set_option maxRecDepth 100000

def smallB (L : List (List UInt8)) : Bool := decide (L.length ≤ 30) && L.all fun r => decide (r.length ≤ 30)
theorem smallB_at {L : List (List UInt8)} (h : smallB L = true) : L.length ≤ 30 ∧ ∀ r ∈ L, r.length ≤ 30 := by
  unfold smallB at h
  rw [Bool.and_eq_true, List.all_eq_true] at h
  exact ⟨of_decide_eq_true h.1, fun r hr => of_decide_eq_true (h.2 r hr)⟩
theorem smallB_yes {L : List (List UInt8)} (h1 : L.length ≤ 30) (h2 : ∀ r ∈ L, r.length ≤ 30) : smallB L = true := by
  unfold smallB
  rw [Bool.and_eq_true, List.all_eq_true]
  exact ⟨decide_eq_true h1, fun r hr => decide_eq_true (h2 r hr)⟩
theorem small_any (S : Option Addr) (m d : Nat) (L : List (List UInt8)) (w : World) (h : MR w S m L) (hm : m ≤ 9223372036854775807) (hL : ∀ r ∈ L, r.length ≤ 9223372036854775807) :
    Calls Try.prog 21 #[.slice S m d] w fun e w' => e = .returned (.bool (smallB L)) ∧ w = w' := by
  have HS := Lib.hid h
  have HL := Lib.hid hL
  clear h hL
  by_cases hb30 : m ≤ 30
  · go_enter Try.func21, Try.ntmps21
    go_wp2
    go_loopw [3] (fun i wr => ∃ q : Nat, q ≤ m ∧ i = .int .i64 q ∧ Hid (∀ (i : Nat) (r : List UInt8), i < q → L[i]? = some r → r.length ≤ 30) ∧ Hid (wr = w)) (fun i _ => m - (intOf i).toNat)
    case atStart => exact ⟨0, by omega, rfl, fun i r h => by omega, rfl⟩
    case round =>
      obtain ⟨q, hq, rfl, HQ, HW⟩ := hrel
      obtain rfl := HW.out
      by_cases hlt : q < m
      · obtain ⟨ad, B, d', r, rfl, _, hr, hc, _⟩ := HS.out.row hlt
        have hb := HL.out _ (List.mem_of_getElem? hr)
        obtain ⟨l1, hl1⟩ : ∃ l1, r.length = l1 := ⟨_, rfl⟩
        rw [hl1] at hc hb
        have HR := Lib.hid (And.intro hr hl1)
        have hq1 : (q : Int) < m := by omega
        clear hr hl1
        by_cases e2 : l1 ≤ 30
        · go_wp2
          go_roundw
          case rel =>
            refine ⟨q + 1, by omega, by go_num, ?_, trivial⟩
            show ∀ (i : Nat) (r : List UInt8), _
            intro i r' hi hr'
            by_cases e : i < q
            · exact HQ.out i r' e hr'
            · obtain rfl : i = q := by omega
              rw [HR.out.1] at hr'
              injection hr' with hr'
              subst hr'
              rw [HR.out.2]
              exact e2
          case measure => simp [intOf]; omega
        · go_wp2
          go_ret
          refine ⟨?_, rfl⟩
          have : smallB L = false := by
            refine Bool.eq_false_iff.2 fun h => ?_
            have := (smallB_at h).2 _ (List.mem_of_getElem? HR.out.1)
            rw [HR.out.2] at this
            omega
          exact by rw [this]; rfl
      · obtain rfl : q = m := by omega
        go_wp2
        go_ret
        refine ⟨?_, rfl⟩
        have hlen := HS.out.len
        exact by rw [smallB_yes (by omega) fun r hr => by
          obtain ⟨i, hi⟩ := List.getElem?_of_mem hr
          exact HQ.out i r (by have := (List.getElem?_eq_some_iff.1 hi).1; omega) hi]; rfl
  · go_enter Try.func21, Try.ntmps21
    go_wp2
    go_ret
    refine ⟨?_, rfl⟩
    have hlen := HS.out.len
    have : smallB L = false := by
      unfold smallB
      rw [decide_eq_false (by omega)]
      rfl
    exact by rw [this]; rfl

def DrewB (w : World) (b : Bool) (e : Ending) (w' : World) : Prop := ∃ p, e = .returned (.bool b) ∧ w' = w.drewN p
theorem reven_any (S : Option Addr) (m d n : Nat) (L : List (List UInt8)) (w : World) (h : MR w S m L) (hm : m ≤ 1000000) (hn1 : 1 ≤ n) (hn : n ≤ 1000000) (hL : ∀ r ∈ L, r.length ≤ 140737488355328) :
    Calls Try.prog 59 #[.slice S m d, .int .i64 (n : Int)] w (DrewB w (stripeB n L)) := by
  have HS := Lib.hid h
  have HL := Lib.hid hL
  have hlen := Lib.hid h.len
  clear h hL
  by_cases hmn : m = n
  · subst hmn
    obtain ⟨ad, B0, d0, r0, rfl, _, hr0, hc0, _⟩ := HS.out.row (show 0 < m by omega)
    rw [addr_add_0] at hc0
    have hh := headD_at hr0
    have hb0 := HL.out _ (List.mem_of_getElem? hr0)
    obtain ⟨l0, hl0⟩ : ∃ l0, r0.length = l0 := ⟨_, rfl⟩
    rw [hl0] at hc0 hb0
    have HH := Lib.hid (show (L.headD []).length = l0 by rw [hh, hl0])
    have HR0 := Lib.hid hr0
    have hm0 : (0 : Int) < m := by omega
    clear hr0 hh hl0
    by_cases e0 : l0 ≤ 65536
    · go_enter Try.func59, Try.ntmps59
      go_wp2
      go_loopw [5] (fun i wr => ∃ q p : Nat, 1 ≤ q ∧ q ≤ m ∧ i = .int .i64 q ∧ Hid (∀ (i : Nat) (r : List UInt8), 1 ≤ i → i < q → L[i]? = some r → r.length = l0) ∧ Hid (wr = w.drewN p)) (fun i _ => m - (intOf i).toNat)
      case atStart => exact ⟨1, 0, Nat.le_refl _, hn1, rfl, fun i r h1 h2 => by omega, rfl⟩
      case round =>
        obtain ⟨q, p, hq1, hq, rfl, HQ, HW⟩ := hrel
        obtain rfl := HW.out
        by_cases hlt : q < m
        · obtain ⟨ad', B, d', r, ea, _, hr, hc, _⟩ := HS.out.row hlt
          injection ea with ea
          subst ea
          have hb := HL.out _ (List.mem_of_getElem? hr)
          obtain ⟨l1, hl1⟩ : ∃ l1, r.length = l1 := ⟨_, rfl⟩
          rw [hl1] at hc hb
          have HR := Lib.hid (And.intro hr hl1)
          have hqm : (q : Int) < m := by omega
          clear hr hl1
          by_cases e1 : l1 = l0
          · subst e1
            go_wp2
            go_quiet (fail)
            go_wp2
            go_roundw
            case rel =>
              refine ⟨q + 1, _, by omega, by omega, by go_num, ?_, by first | exact rfl | (rw [World.drewN_drewN]; rfl)⟩
              show ∀ (i : Nat) (r : List UInt8), _
              intro i r' h1 hi hr'
              by_cases e : i < q
              · exact HQ.out i r' h1 e hr'
              · obtain rfl : i = q := by omega
                rw [HR.out.1] at hr'
                injection hr' with hr'
                subst hr'
                exact HR.out.2
            case measure => simp [intOf]; omega
          · have hne : ((l1 : Int) == (l0 : Int)) = false := beq_eq_false_iff_ne.2 (by omega)
            go_wp2
            go_quiet (fail)
            go_wp2
            go_ret
            have : stripeB m L = false := by
              refine Bool.eq_false_iff.2 fun h => ?_
              unfold stripeB at h
              rw [Bool.and_eq_true] at h
              have := (levelB_at h.2 HR.out.1).1
              rw [HR.out.2, HH.out] at this
              exact e1 this
            exact ⟨_, by rw [this]; rfl, by first | exact rfl | rw [World.drewN_drewN]⟩
        · obtain rfl : q = m := by omega
          go_wp2
          go_ret
          have : stripeB q L = true := by
            unfold stripeB
            rw [Bool.and_eq_true]
            refine ⟨decide_eq_true hlen.out, levelB_yes fun i r hr => ?_⟩
            rw [HH.out]
            by_cases hi : 1 ≤ i
            · have h2 := HQ.out i r hi (by have := (List.getElem?_eq_some_iff.1 hr).1; have := hlen.out; omega) hr
              exact ⟨h2, by omega⟩
            · obtain rfl : i = 0 := by omega
              have h3 := HH.out
              rw [headD_at hr] at h3
              exact ⟨h3, by omega⟩
          exact ⟨p, by rw [this]; rfl, rfl⟩
    · go_enter Try.func59, Try.ntmps59
      go_wp2
      go_ret
      have : stripeB m L = false := by
        refine Bool.eq_false_iff.2 fun h => ?_
        unfold stripeB at h
        rw [Bool.and_eq_true] at h
        have := (levelB_at h.2 HR0.out)
        rw [HH.out] at this
        omega
      exact ⟨0, by rw [this]; rfl, rfl⟩
  · have hne : ((m : Int) == (n : Int)) = false := beq_eq_false_iff_ne.2 (by omega)
    go_enter Try.func59, Try.ntmps59
    go_wp2
    go_ret
    have : stripeB n L = false := by
      unfold stripeB
      rw [decide_eq_false (by rw [hlen.out]; exact hmn)]
      rfl
    exact ⟨0, by rw [this]; rfl, rfl⟩
end Go.Proofs.Ytobbjeephmfdeaa
namespace Go.Proofs.Ytobbjeephmfdeaa
open Go.RowKit Go.Coop
set_option maxRecDepth 100000

theorem load49 {w : World} {g : Nat} {cs : Array Value} (hg : w.heap[g]? = some (.cells cs 49 (0, 0))) (hs : cs.size = 3) : (loadVar 49 ⟨g, 0, none⟩).run Try.prog w = .ok (.agg cs) w :=
  run_loadVar_row w g 49 49 cs _ _ hg Try.underlying49 rfl (by rw [hs]; kernel_rfl)
def RNew (w : World) (n k : Nat) (e : Ending) (w' : World) : Prop := ∃ A c, e = .returned (.tuple #[.agg #[.int .i64 (k : Int), .int .i64 (n : Int), .slice A n c], .int .i64 0]) ∧ MR w' A n (tabM n k (codF k)) ∧ n ≤ c ∧ Below w.heap.size w w'
theorem rnew_arg (x y : Int) (w : World) (h : x < 1 ∨ y < x ∨ 255 < y) : Calls Try.prog 22 #[.int .i64 x, .int .i64 y] w fun e w' => e = .returned (.tuple #[.agg #[.int .i64 0, .int .i64 0, .slice none 0 0], .int .i64 2]) ∧ Below w.heap.size w w' := by
  by_cases h1 : x < 1
  · go_enter Try.func22, Try.ntmps22
    go_wp2
    refine bodyPost_ret (v := .tuple #[.agg #[.int .i64 0, .int .i64 0, .slice none 0 0], .int .i64 2]) ?_ rfl ⟨rfl, (Below.refl _ _).alloc (Nat.le_refl _) _⟩
    rw [results_cell_tmp rfl]
    simp [asAddr, Result.andThen, load49 (heap_alloc_new w (.cells #[.int .i64 0, .int .i64 0, .slice none 0 0] 49)) rfl]
  · by_cases h2 : y < x
    · go_enter Try.func22, Try.ntmps22
      go_wp2
      refine bodyPost_ret (v := .tuple #[.agg #[.int .i64 0, .int .i64 0, .slice none 0 0], .int .i64 2]) ?_ rfl ⟨rfl, (Below.refl _ _).alloc (Nat.le_refl _) _⟩
      rw [results_cell_tmp rfl]
      simp [asAddr, Result.andThen, load49 (heap_alloc_new w (.cells #[.int .i64 0, .int .i64 0, .slice none 0 0] 49)) rfl]
    · have h3 : 255 < y := by omega
      go_enter Try.func22, Try.ntmps22
      go_wp2
      refine bodyPost_ret (v := .tuple #[.agg #[.int .i64 0, .int .i64 0, .slice none 0 0], .int .i64 2]) ?_ rfl ⟨rfl, (Below.refl _ _).alloc (Nat.le_refl _) _⟩
      rw [results_cell_tmp rfl]
      simp [asAddr, Result.andThen, load49 (heap_alloc_new w (.cells #[.int .i64 0, .int .i64 0, .slice none 0 0] 49)) rfl]
end Go.Proofs.Ytobbjeephmfdeaa
namespace Go.Proofs.Ytobbjeephmfdeaa
open Go.RowKit Go.Coop
set_option maxRecDepth 100000
theorem rtimes_yes (A : Option Addr) (n c k : Nat) (F : Fn2) (B : Option Addr) (d m : Nat) (G : Fn2) (w : World) (h : MR w A n (tabM n k F)) (h' : MR w B k (tabM k m G)) (hn2 : n ≤ 255) (hk1 : 1 ≤ k) (hk2 : k ≤ 255) (hm2 : m ≤ 70000) (P : Fn2) (HP : Hid (mulF k F G = P)) :
    Calls Try.prog 60 #[.slice A n c, .slice B k d] w fun e w' => ∃ A' c', e = .returned (.slice A' n c') ∧ MO w' w.heap.size w.heap.size A' n c' (tabM n m P) ∧ Below w.heap.size w w' := by
  have HA2 := Lib.hid h
  have HB2 := Lib.hid h'
  obtain ⟨bd, B0, db, rfl, hlb, hcb, _⟩ := h'.tab (show 0 < k by omega)
  have HC2 : Hid (w.cell? bd = some (.slice B0 m db) ∧ bd.block < w.heap.size) := ⟨hcb, hlb⟩
  have hk0 : (0 : Int) < k := by omega
  have hk0' : 0 < k := by omega
  clear h h' hcb hlb
  obtain ⟨w2, rfl⟩ : ∃ w2 : World, w2 = w := ⟨_, rfl⟩
  go_enter Try.func60, Try.ntmps60
  go_wp2_with fail
  go_loopw [5, 6] (fun v i wr => ∃ (q : Nat) (A : Option Addr) (c : Nat), q ≤ n ∧ i = .int .i64 q ∧ v = .slice A q c ∧ Hid (MO wr w2.heap.size w2.heap.size A q c (tabM q m P)) ∧ Hid (Below w2.heap.size w2 wr)) (fun _ i _ => n - (intOf i).toNat)
  case atStart => exact ⟨0, none, 0, by omega, rfl, rfl, MO.nil _ _ _, Below.refl _ _⟩
  case round =>
    obtain ⟨q, A, c, hq, rfl, rfl, HM, HB⟩ := hrel
    by_cases hlt : q < n
    · obtain ⟨wo, rfl⟩ : ∃ wo : World, wo = wr := ⟨_, rfl⟩
      obtain ⟨ad, Ba, da', rfl, _, hcaq, hra⟩ := (HA2.out.below HB.out (Nat.le_refl _)).tab hlt
      have HRA := Lib.hid (And.intro hcaq hra)
      clear hcaq hra
      go_wp2_with fail
      obtain ⟨b0, hb0⟩ : ∃ b0, wo.heap.size = b0 := ⟨_, rfl⟩
      have hown := own_new wo [] 0 rfl (by decide)
      have hbel : Below wo.heap.size wo (wo.alloc (.cells (bvs []).toArray 5)) := (Below.refl _ _).alloc (Nat.le_refl _) _
      rw [hb0] at hown hbel
      have HOW := Lib.hid (And.intro hown hbel)
      clear hown hbel
      go_loopw [7, 8] (fun v i wr => RRow b0 m q P wo v i wr) (fun _ i _ => m - (intOf i).toNat)
      case atStart => exact ⟨0, some ⟨b0, 0, none⟩, 0, by omega, rfl, by rw [hb0], HOW.out.1, HOW.out.2⟩
      case round =>
        obtain ⟨j, A', c', hj, rfl, rfl, HO, HI⟩ := hrel
        have hBI : Below w2.heap.size w2 wr := HB.out.trans (HI.out.mono (by have := HB.out.size; omega))
        have hcb : wr.cell? bd = some (.slice B0 m db) := (hBI.cell HC2.out.2).trans HC2.out.1
        have HBI := Lib.hid hBI
        clear hBI
        by_cases hjm : j < m
        · obtain ⟨wl, rfl⟩ : ∃ wl : World, wl = wr := ⟨_, rfl⟩
          go_wp2_with fail
          clear hcb
          go_loopw [9, 10] (fun v i wr => RSum k q j F G wl v i wr) (fun _ i _ => k - (intOf i).toNat)
          case atStart => exact ⟨0, 0, 0, by omega, rfl, rfl, by omega, rfl, rfl⟩
          case round =>
            obtain ⟨l, S, p, hl, rfl, rfl, hS, HS, HW⟩ := hrel
            by_cases hlk : l < k
            · have hRA : Rd wr Ba k (rowL k (F q)) := by rw [HW.out]; exact (HRA.out.2.below HI.out (by omega)).drewN p
              obtain ⟨xa, X', rfl, _, hxa, hcx⟩ := hRA.at_ hlk
              obtain ⟨bd', Bl, dl, e', _, hcbl, hrb⟩ := (HB2.out.below HBI.out (Nat.le_refl _)).tab hlk
              injection e' with e'
              subst e'
              obtain ⟨xb, Y', rfl, _, hxb, hcy⟩ := hrb.at_ hjm
              rw [rowL_at _ hlk] at hxa
              rw [rowL_at _ hjm] at hxb
              injection hxa with hxa
              injection hxb with hxb
              have hc1 : wr.cell? (ad.add q) = some (.slice (some xa) k da') := by rw [HW.out]; exact (HI.out.cell (by have := block_lt_of_cell HRA.out.1; omega)).trans HRA.out.1
              have hc2 : wr.cell? (bd.add l) = some (.slice (some xb) m dl) := by rw [HW.out]; exact hcbl
              have hc3 : wr.cell? (xb.add j) = some (BV Y') := by rw [HW.out]; exact hcy
              have hXb := X'.toNat_lt
              have hYb := Y'.toNat_lt
              unfold BV at hcx hc3
              obtain ⟨X, hX⟩ : ∃ X, X'.toNat = X := ⟨_, rfl⟩
              obtain ⟨Y, hY⟩ : ∃ Y, Y'.toNat = Y := ⟨_, rfl⟩
              rw [hX] at hcx hXb
              rw [hY] at hc3 hYb
              have HXY : Hid (nf F q l = X ∧ nf G l j = Y) := by unfold nf; rw [hxa, hxb]; exact ⟨hX, hY⟩
              have KQ := Lib.hid (rmul_q X Y wr hXb hYb)
              have hxor := u8_xor_nat S (mul X Y) hS (mul_lt _ _)
              have hq0 : (0 : Int) ≤ q := by omega
              have hqn : (q : Int) < n := by omega
              have hl0 : (0 : Int) ≤ l := by omega
              have hlk' : (l : Int) < k := by omega
              have hj0 : (0 : Int) ≤ j := by omega
              have hjm' : (j : Int) < m := by omega
              clear hRA hxa hcbl hrb hxb hcy hX hY
              go_wp2_with fail
              go_quiet ((go_at_call 82; exact KQ.out _))
              go_wp2
              go_roundw
              case rel => exact ⟨l + 1, S ^^^ mul X Y, _, by omega, by go_num, rfl, xor_lt _ _ hS (mul_lt _ _), by show _ = xs l _ ^^^ mul (nf F q l) (nf G l j); rw [← HS.out, HXY.out.1, HXY.out.2], by rw [HW.out, World.drewN_drewN]; rfl⟩
              case measure => simp [intOf]; omega
            · obtain rfl : l = k := by omega
              have hPq : (P q j).toNat = S := by
                rw [HS.out, ← HP.out]
                have := nf_mulF l F G q j
                unfold nf at this
                exact this
              have HPQ := Lib.hid hPq
              have HO2 : Hid (Go.Coop.Own wr b0 5 A' j c' (rowL j (P q))) := by show Go.Coop.Own _ _ _ _ _ _ _; rw [HW.out]; exact HO.out.drewN p
              have HI2 : Hid (Below b0 wo wr) := by show Below _ _ _; rw [HW.out]; exact ⟨HI.out.os, HI.out.tape, HI.out.output, HI.out.size, HI.out.block⟩
              have hbs := HI2.out.size
              clear hPq
              go_wp2_with (at_builtin; refine wpList_app _ rfl (.tmp 49) (.tmp 51) _ rfl b0 5 Try.underlying31 info5 rfl (HO2.out.alloc _) rfl (Rd.one wr (S : Int) (by omega) (by omega) 5 (0, 0)) (by omega) (by rw [size_alloc]; omega) (j + 1) rfl ?_; intro A2 c2 w3 ho hg hat)
              have HO3 := Lib.hid ho
              have HI3 : Hid (Below b0 wo w3) := (HI2.out.alloc (by omega) _).grown hg (by rw [size_alloc]; omega) (fun k hk => (HO2.out.block k hk).1)
              clear ho hg hat
              go_roundw
              case rel =>
                refine ⟨j + 1, A2, c2, by omega, by go_num, rfl, ?_, HI3.out⟩
                have e : UInt8.ofNat (S : Int).toNat = P q j := by
                  apply UInt8.toNat_inj.1
                  rw [UInt8.toNat_ofNat', Int.toNat_natCast, HPQ.out]
                  exact Nat.mod_eq_of_lt hS
                rw [rowL_snoc, ← e]
                exact HO3.out
              case measure => simp [intOf]; omega
        · obtain rfl : j = m := by omega
          have hbs := HB.out.size
          have HM2 := Lib.hid (HM.out.below HI.out (by omega))
          have HO2 : Hid (Go.Coop.Own wr w2.heap.size 5 A' j c' (rowL j (P q))) := HO.out.lower (by omega)
          go_wp2_with (at_builtin; refine wpList_appMM _ rfl (.tmp 53) (.tmp 55) 32 Try.underlying32 rfl rfl (HM2.out.alloc _) rfl (lit_one HO2.out) (by omega) (by omega) (by rw [size_alloc]; have := HBI.out.size; omega) (q + 1) rfl ?_; intro A2 c2 w3 hM2 hg2)
          have HM3 := Lib.hid hM2
          have HB3 : Hid (Below w2.heap.size w2 w3) := (HBI.out.alloc HBI.out.size _).grown hg2 (by rw [size_alloc]; have := HBI.out.size; omega) (fun k hk => (mo_block HM2.out k hk).1)
          clear hM2 hg2
          go_roundw
          case rel => exact ⟨q + 1, A2, c2, by omega, by go_num, rfl, by rw [tabM_snoc]; exact HM3.out, HB3.out⟩
          case measure => simp [intOf]; omega
    · obtain rfl : q = n := by omega
      go_wp2
      go_ret
      have hm := HM.out
      exact ⟨A, c, rfl, hm, HB.out⟩
end Go.Proofs.Ytobbjeephmfdeaa
namespace Go.Proofs.Ytobbjeephmfdeaa
open Go.RowKit Go.Coop
set_option maxRecDepth 100000
theorem row3 {w : World} {b : Nat} {T : TypeId} {x0 x1 x2 v0 v1 v2 : Value} (h : w.heap[b]? = some (.cells #[x0, x1, x2] T (0, 0))) : (((w.setCell ⟨b, 0, none⟩ v0).setCell ⟨b, 1, none⟩ v1).setCell ⟨b, 2, none⟩ v2).heap[b]? = some (.cells #[v0, v1, v2] T (0, 0)) := by
  have h1 := heap_setCell_same w b 0 _ T v0 h
  have h2 := heap_setCell_same _ b 1 _ T v1 h1
  exact heap_setCell_same _ b 2 _ T v2 h2
theorem box49 {w w' : World} (h : Below (w.alloc (.cells #[.int .i64 0, .int .i64 0, .slice none 0 0] 49)).heap.size (w.alloc (.cells #[.int .i64 0, .int .i64 0, .slice none 0 0] 49)) w') : w'.heap[w.heap.size]? = some (.cells #[.int .i64 0, .int .i64 0, .slice none 0 0] 49 (0, 0)) ∧ Below w.heap.size w w' :=
  ⟨(h.block _ (by simp)).trans (heap_alloc_new w _), ((Below.refl _ _).alloc (Nat.le_refl _) _).trans (h.mono (by simp))⟩
/-- the code stands in the box of the result -/
theorem rnew_end {w w2 : World} {n k c bo br : Nat} {A : Option Addr} (h : w2.heap[w.heap.size]? = some (.cells #[.int .i64 0, .int .i64 0, .slice none 0 0] 49 (0, 0))) (hB : Below w.heap.size w w2) (hM : MO w2 bo br A n c (tabM n k (codF k))) :
    (((w2.setCell ⟨w.heap.size, 0, none⟩ (.int .i64 k)).setCell ⟨w.heap.size, 1, none⟩ (.int .i64 n)).setCell ⟨w.heap.size, 2, none⟩ (.slice A n c)).heap[w.heap.size]? = some (.cells #[.int .i64 k, .int .i64 n, .slice A n c] 49 (0, 0)) ∧
    RNew w n k (.returned (.tuple #[.agg #[.int .i64 (k : Int), .int .i64 (n : Int), .slice A n c], .int .i64 0])) (((w2.setCell ⟨w.heap.size, 0, none⟩ (.int .i64 k)).setCell ⟨w.heap.size, 1, none⟩ (.int .i64 n)).setCell ⟨w.heap.size, 2, none⟩ (.slice A n c)) := by
  have h1 := heap_setCell_same w2 w.heap.size 0 _ 49 (.int .i64 k) h
  have h2 := heap_setCell_same _ w.heap.size 1 _ 49 (.int .i64 n) h1
  refine ⟨row3 h, A, c, rfl, (((hM.setOther h (by decide) (by decide)).setOther h1 (by decide) (by decide)).setOther h2 (by decide) (by decide)).mr, by obtain ⟨vs, hv, _⟩ := hM.out; exact hv.cap, ?_⟩
  exact ((hB.setCell (by simp) _).setCell (by simp) _).setCell (by simp) _
set_option maxHeartbeats 1000000 in
theorem rnew_yes (n k : Nat) (w : World) (h1 : 1 ≤ k) (h2 : k ≤ n) (h3 : n ≤ 30) : Calls Try.prog 22 #[.int .i64 (k : Int), .int .i64 (n : Int)] w (RNew w n k) := by
  by_cases hnk : k = n
  · subst hnk
    go_enter Try.func22, Try.ntmps22
    go_wp2_with fail
    refine (runit_yes k _ h1 (by omega)).mono ?_
    rintro e w2 ⟨A, c, rfl, hM, hB⟩
    obtain ⟨hh, hb⟩ := box49 hB
    have c40 := cell_of_row w2 w.heap.size 0 _ 49 (0, 0) hh
    have c41 := cell_of_row w2 w.heap.size 1 _ 49 (0, 0) hh
    have c42 := cell_of_row w2 w.heap.size 2 _ 49 (0, 0) hh
    have r40 := frozen_of_row w2 w.heap.size 0 _ 49 hh
    have r41 := frozen_of_row w2 w.heap.size 1 _ 49 hh
    have r42 := frozen_of_row w2 w.heap.size 2 _ 49 hh
    simp at c40 c41 c42
    have e : tabM k k unitF = tabM k k (codF k) := tabM_congr fun i j hi _ => by unfold codF; rw [if_pos hi]
    rw [e] at hM
    have HE := Lib.hid (rnew_end hh hb hM)
    clear hh hb hM hB e
    go_wp2
    refine bodyPost_ret (v := .tuple #[.agg #[.int .i64 (k : Int), .int .i64 (k : Int), .slice A k c], .int .i64 0]) ?_ rfl HE.out.2
    rw [results_cell_tmp rfl]
    simp [asAddr, Result.andThen, load49 HE.out.1 rfl]
  · have hd : (n : Int) - (k : Int) = ((n - k : Nat) : Int) := by omega
    go_enter Try.func22, Try.ntmps22
    go_wp2_with fail
    refine (runit_yes k _ h1 (by omega)).mono ?_
    rintro e w2 ⟨A, c, rfl, hM, hB⟩
    have HM := Lib.hid (And.intro hM hB)
    clear hM hB
    go_wp2_with fail
    refine (rcauchy_yes (n - k) k w2 (by omega) h1 (by omega) (by omega)).mono ?_
    rintro e w3 ⟨Ab, cb, rfl, hN, hB⟩
    have hb3 : Below (w.alloc (.cells #[.int .i64 0, .int .i64 0, .slice none 0 0] 49)).heap.size (w.alloc (.cells #[.int .i64 0, .int .i64 0, .slice none 0 0] 49)) w3 := HM.out.2.trans (hB.mono HM.out.2.size)
    have hlow : (w.alloc (.cells #[.int .i64 0, .int .i64 0, .slice none 0 0] 49)).heap.size ≤ w2.heap.size := HM.out.2.size
    have HN := Lib.hid (And.intro ((HM.out.1.below hB (Nat.le_refl _))) (And.intro (hN.lower (bo' := 0) (br' := (w.alloc (.cells #[.int .i64 0, .int .i64 0, .slice none 0 0] 49)).heap.size) (Nat.zero_le _) hlow) hb3))
    have hs3 := hb3.size
    clear hN hB hb3 hlow HM
    go_wp2_with (at_builtin; refine wpList_appMM _ rfl (.tmp 38) (.tmp 39) 47 Try.underlying47 rfl rfl HN.out.1 rfl HN.out.2.1 (by omega) (by omega) (by omega) n (by omega) ?_; intro A' c' w4 hM4 hg4; have hb4 := HN.out.2.2.grown hg4 hs3 (fun j hj => (mo_block HN.out.1 j hj).1); obtain ⟨hh, hb⟩ := box49 hb4; have e := codF_split (n - k) k; rw [show k + (n - k) = n by omega] at e; rw [e] at hM4; have c40 := cell_of_row w4 w.heap.size 0 _ 49 (0, 0) hh; have c41 := cell_of_row w4 w.heap.size 1 _ 49 (0, 0) hh; have c42 := cell_of_row w4 w.heap.size 2 _ 49 (0, 0) hh; have r40 := frozen_of_row w4 w.heap.size 0 _ 49 hh; have r41 := frozen_of_row w4 w.heap.size 1 _ 49 hh; have r42 := frozen_of_row w4 w.heap.size 2 _ 49 hh; simp at c40 c41 c42; have HE := Lib.hid (rnew_end hh hb hM4); clear hM4 hg4 hb4 hh hb e)
    refine bodyPost_ret (v := .tuple #[.agg #[.int .i64 (k : Int), .int .i64 (n : Int), .slice A' n c'], .int .i64 0]) ?_ rfl HE.out.2
    rw [results_cell_tmp rfl]
    simp [asAddr, Result.andThen, load49 HE.out.1 rfl]
end Go.Proofs.Ytobbjeephmfdeaa
namespace Go.Proofs.Ytobbjeephmfdeaa
open Go.RowKit Go.Coop
set_option maxRecDepth 100000
abbrev CV (n k c : Nat) (A : Option Addr) : Value := .agg #[.int .i64 (k : Int), .int .i64 (n : Int), .slice A n c]
theorem cbox (w : World) (n k c : Nat) (A : Option Addr) : (w.alloc (.cells #[.int .i64 (k : Int), .int .i64 (n : Int), .slice A n c] 49)).heap[w.heap.size]? = some (.cells #[.int .i64 (k : Int), .int .i64 (n : Int), .slice A n c] 49 (0, 0)) := heap_alloc_new w _
theorem renc_no (A : Option Addr) (n k c : Nat) (S : Option Addr) (m d : Nat) (L : List (List UInt8)) (w : World) (hk : 1 ≤ k) (hk2 : k ≤ 255) (h : MR w S m L) (hm : m ≤ 1000000) (hL : ∀ r ∈ L, r.length ≤ 140737488355328) (hno : stripeB k L = false) :
    Calls Try.prog 24 #[CV n k c A, .slice S m d] w (NotM w 40) := by
  have K := reven_any S m d k L (w.alloc (.cells #[.int .i64 (k : Int), .int .i64 (n : Int), .slice A n c] 49)) (h.below (balloc (Below.refl _ _) _) (Nat.le_refl _)) hm hk (by omega) hL
  rw [hno] at K
  have HK := Lib.hid K
  clear K h hL hno
  go_enter Try.func24, Try.ntmps24
  go_wp2_with fail
  refine HK.out.mono ?_
  rintro e w1 ⟨p, rfl, rfl⟩
  go_wp2
  go_ret2
  exact ⟨rfl, (balloc (Below.refl _ _) _).trans ⟨rfl, rfl, rfl, Nat.le_refl _, fun _ _ => rfl⟩⟩
theorem renc_yes (A : Option Addr) (n k c : Nat) (S : Option Addr) (d s : Nat) (D : Fn2) (w : World) (hk : 1 ≤ k) (hk2 : k ≤ 255) (hn : n ≤ 255) (hs : s ≤ 65536) (hM : MR w A n (tabM n k (codF k))) (h : MR w S k (tabM k s D)) :
    Calls Try.prog 24 #[CV n k c A, .slice S k d] w (GotM w n (tabM n s (mulF k (codF k) D))) := by
  have K := reven_any S k d k (tabM k s D) (w.alloc (.cells #[.int .i64 (k : Int), .int .i64 (n : Int), .slice A n c] 49)) (h.below (balloc (Below.refl _ _) _) (Nat.le_refl _)) (by omega) hk (by omega) (fun r hr => by rw [tab_short r hr]; omega)
  rw [tab_stripe hs] at K
  have HK := Lib.hid K
  have HX := Lib.hid (And.intro hM h)
  clear K hM h
  go_enter Try.func24, Try.ntmps24
  go_wp2_with fail
  refine HK.out.mono ?_
  rintro e w1 ⟨p, rfl, hw⟩
  have hb : Below w.heap.size w w1 := by rw [hw]; exact (balloc (Below.refl _ _) _).trans ⟨rfl, rfl, rfl, Nat.le_refl _, fun _ _ => rfl⟩
  have c2 : w1.cell? ⟨w.heap.size, 2, none⟩ = some (.slice A n c) := by rw [hw]; exact cell_of_row _ w.heap.size 2 _ 49 (0, 0) (cbox w n k c A)
  have HB := Lib.hid hb
  clear hw hb HK
  go_wp2_with fail
  refine (rtimes_yes A n c k (codF k) S d s D w1 (HX.out.1.below HB.out (Nat.le_refl _)) (HX.out.2.below HB.out (Nat.le_refl _)) hn hk hk2 (by omega) _ rfl).mono ?_
  rintro e w2 ⟨A', c', rfl, hM, hB⟩
  have H2 := Lib.hid (And.intro hM hB)
  clear hM hB c2
  go_wp2
  go_ret2
  exact ⟨A', c', rfl, H2.out.1.lower HB.out.size HB.out.size, HB.out.trans (H2.out.2.mono HB.out.size)⟩
/-- what Decode tells of places: whether they are places -/
def OkAt (n : Nat) (ls : List Int) (i : Nat) : Prop := ∃ x, ls[i]? = some x ∧ 0 ≤ x ∧ x < n ∧ ∀ j, j < i → ls[j]? ≠ some x
theorem places_of {n m : Nat} {ls : List Int} (hl : ls.length = m) (h : ∀ i, i < m → OkAt n ls i) : ∃ la : List Nat, ls = la.map (fun x : Nat => (x : Int)) ∧ Places n la := by
  refine ⟨ls.map Int.toNat, ?_, ?_⟩
  · rw [List.map_map]
    apply List.ext_getElem?
    intro i
    rw [List.getElem?_map]
    by_cases hi : i < m
    · obtain ⟨x, hx, h0, _⟩ := h i hi
      rw [hx]
      simp
      omega
    · rw [List.getElem?_eq_none (by omega)]
      rfl
  · refine ⟨fun i x hx => ?_, ?_⟩
    · rw [List.getElem?_map] at hx
      have hi : i < m := by
        rcases Nat.lt_or_ge i ls.length with g | g
        · omega
        · rw [List.getElem?_eq_none g] at hx; cases hx
      obtain ⟨y, hy, h0, h1, _⟩ := h i hi
      rw [hy] at hx
      injection hx with hx
      omega
    · refine List.pairwise_iff_getElem.2 fun i j hi hj hij => ?_
      rw [List.length_map] at hi hj
      obtain ⟨x, hx, hx0, _⟩ := h i (by omega)
      obtain ⟨y, hy, hy0, _, hne⟩ := h j (by omega)
      rw [List.getElem?_eq_getElem hi] at hx
      rw [List.getElem?_eq_getElem hj] at hy
      injection hx with hx
      injection hy with hy
      rw [List.getElem_map, List.getElem_map, hx, hy]
      intro e
      exact hne i hij (by rw [List.getElem?_eq_getElem hi, hx]; congr 1; omega)
theorem ok_of {n : Nat} {la : List Nat} (hp : Places n la) {i : Nat} (hi : i < la.length) : OkAt n (la.map (fun x : Nat => (x : Int))) i := by
  refine ⟨(la[i] : Int), by rw [List.getElem?_map, List.getElem?_eq_getElem hi]; rfl, by omega, by have := hp.lt i la[i] (List.getElem?_eq_getElem hi); omega, fun j hj e => ?_⟩
  rw [List.getElem?_map, List.getElem?_eq_getElem (by omega)] at e
  injection e with e
  have e : ((la[j]'(by omega) : Nat) : Int) = ((la[i] : Nat) : Int) := e
  have h2 := List.pairwise_iff_getElem.1 hp.ap j i (by omega) hi hj
  exact h2 (by omega)
def IsPl (n : Nat) (ls : List Int) : Prop := ∃ la : List Nat, ls = la.map (fun x : Nat => (x : Int)) ∧ Places n la
def RDec (w : World) (n k s : Nat) (ls : List Int) (D : Fn2) (e : Ending) (w' : World) : Prop :=
  (∃ la : List Nat, ls = la.map (fun x : Nat => (x : Int)) ∧ Places n la ∧ GotM w k (tabM k s (mulF k (invC k (la.take k)) D)) e w') ∨ (¬ IsPl n ls ∧ NotM w 40 e w')
theorem rdec_len (A : Option Addr) (n k c : Nat) (R : Option Addr) (m rc : Nat) (S : Option Addr) (q d : Nat) (w : World) (h : m ≠ q ∨ m < k) : Calls Try.prog 26 #[CV n k c A, .slice R m rc, .slice S q d] w (NotM w 40) := by
  by_cases h1 : m = q
  · have h2 : m < k := by omega
    subst h1
    go_enter Try.func26, Try.ntmps26
    go_wp2
    go_ret2
    exact ⟨rfl, balloc (Below.refl _ _) _⟩
  · go_enter Try.func26, Try.ntmps26
    go_wp2
    go_ret2
    exact ⟨rfl, balloc (Below.refl _ _) _⟩
theorem rdec_no (A : Option Addr) (n k c : Nat) (R : Option Addr) (m rc : Nat) (S : Option Addr) (d : Nat) (L : List (List UInt8)) (w : World) (hk : 1 ≤ k) (hkm : k ≤ m) (hm : m ≤ 1000000) (h : MR w S m L) (hL : ∀ r ∈ L, r.length ≤ 140737488355328) (hno : stripeB m L = false) : Calls Try.prog 26 #[CV n k c A, .slice R m rc, .slice S m d] w (NotM w 40) := by
  have K := reven_any S m d m L (w.alloc (.cells #[.int .i64 (k : Int), .int .i64 (n : Int), .slice A n c] 49)) (h.below (balloc (Below.refl _ _) _) (Nat.le_refl _)) hm (by omega) (by omega) hL
  rw [hno] at K
  have HK := Lib.hid K
  clear K h hL hno
  go_enter Try.func26, Try.ntmps26
  go_wp2_with fail
  refine HK.out.mono ?_
  rintro e w1 ⟨p, rfl, rfl⟩
  go_wp2
  go_ret2
  exact ⟨rfl, (balloc (Below.refl _ _) _).trans ⟨rfl, rfl, rfl, Nat.le_refl _, fun _ _ => rfl⟩⟩
set_option maxHeartbeats 2000000 in
theorem rdec_any (A : Option Addr) (n k c : Nat) (R : Option Addr) (m rc : Nat) (ls : List Int) (S : Option Addr) (d s : Nat) (D : Fn2) (w : World) (hk : 1 ≤ k) (hkn : k ≤ n) (hn : n ≤ 255) (hkm : k ≤ m) (hm : m ≤ 100000) (hrc : m ≤ rc) (hmd : m ≤ d) (hs : s ≤ 65536) (hM : MR w A n (tabM n k (codF k))) (hR : RdV w R m (ivs ls)) (h : MR w S m (tabM m s D)) :
    Calls Try.prog 26 #[CV n k c A, .slice R m rc, .slice S m d] w (RDec w n k s ls D) := by
  have K := reven_any S m d m (tabM m s D) (w.alloc (.cells #[.int .i64 (k : Int), .int .i64 (n : Int), .slice A n c] 49)) (h.below (balloc (Below.refl _ _) _) (Nat.le_refl _)) (by omega) (by omega) (by omega) (fun r hr => by rw [tab_short r hr]; omega)
  rw [tab_stripe hs] at K
  have HK := Lib.hid K
  have hll : ls.length = m := by have := hR.len; simpa [ivs] using this
  have HX := Lib.hid (And.intro hM (And.intro hR (And.intro h hll)))
  have HB0 := cbox w n k c A
  have HBX := Lib.hid HB0
  clear K hM hR h HB0 hll
  go_enter Try.func26, Try.ntmps26
  go_wp2_with fail
  refine HK.out.mono ?_
  rintro e w1 ⟨p, rfl, hw⟩
  have HW : Hid (Below w.heap.size w w1 ∧ w1.heap[w.heap.size]? = some (.cells #[.int .i64 (k : Int), .int .i64 (n : Int), .slice A n c] 49 (0, 0))) := by rw [hw]; exact ⟨(balloc (Below.refl _ _) _).trans ⟨rfl, rfl, rfl, Nat.le_refl _, fun _ _ => rfl⟩, HBX.out⟩
  clear hw HK HBX
  have hmk : decide (m < k) = false := by simp; omega
  go_wp2_with fail
  clear hmk
  go_loopw [8] (fun i wr => ∃ (j p : Nat), j ≤ m ∧ i = .int .i64 j ∧ Hid (wr = w1.drewN p) ∧ Hid (∀ i', i' < j → OkAt n ls i')) (fun i _ => m - (intOf i).toNat)
  case atStart => exact ⟨0, 0, by omega, rfl, rfl, by intro i' h; omega⟩
  case round =>
    obtain ⟨j, p, hj, rfl, HP, HG⟩ := hrel
    obtain ⟨wo, rfl⟩ : ∃ wo : World, wo = wr := ⟨_, rfl⟩
    have c31 : wo.cell? ⟨w.heap.size, 1, none⟩ = some (.int .i64 (n : Int)) := by rw [HP.out]; exact cell_of_row _ w.heap.size 1 _ 49 (0, 0) HW.out.2
    by_cases hlt : j < m
    · obtain ⟨ad, v, rfl, _, hv, hcv⟩ := ((HX.out.2.1.below HW.out.1 (Nat.le_refl _)).drewN p).at_ hlt
      rw [← HP.out] at hcv
      obtain ⟨x, hx, rfl⟩ := ivs_at hv
      have HXX := Lib.hid hx
      clear hv hx
      have hjm : (j : Int) < m := by omega
      have hdj : decide ((j : Int) < (m : Int)) = true := by simp; omega
      have hj0 : (0 : Int) ≤ j := by omega
      by_cases hx0 : x < 0
      · have hd : decide (x < 0) = true := by simpa using hx0
        go_wp2_with fail
        go_quiet (fail)
        go_wp2
        go_ret2
        exact .inr ⟨fun ⟨la, h1, h2⟩ => by obtain ⟨y, hy, h0, _⟩ := ok_of h2 (i := j) (by have := HX.out.2.2.2; rw [h1, List.length_map] at this; omega); rw [← h1, HXX.out] at hy; injection hy with hy; omega, rfl, by rw [HP.out]; exact HW.out.1.trans ⟨rfl, rfl, rfl, Nat.le_refl _, fun _ _ => rfl⟩⟩
      · have hd : decide (x < 0) = false := by simp; omega
        by_cases hxn : (n : Int) ≤ x
        · have hd2 : decide ((n : Int) ≤ x) = true := by simpa using hxn
          go_wp2_with fail
          go_quiet (fail)
          go_wp2
          go_ret2
          exact .inr ⟨fun ⟨la, h1, h2⟩ => by obtain ⟨y, hy, _, h0, _⟩ := ok_of h2 (i := j) (by have := HX.out.2.2.2; rw [h1, List.length_map] at this; omega); rw [← h1, HXX.out] at hy; injection hy with hy; omega, rfl, by rw [HP.out]; exact HW.out.1.trans ⟨rfl, rfl, rfl, Nat.le_refl _, fun _ _ => rfl⟩⟩
        · have hd2 : decide ((n : Int) ≤ x) = false := by simp; omega
          go_wp2_with fail
          go_quiet (fail)
          go_wp2_with fail
          have HCV := Lib.hid hcv
          clear hd hd2
          go_loopw [9] (fun i2 wr2 => ∃ (j2 p2 : Nat), j2 ≤ j ∧ i2 = .int .i64 j2 ∧ Hid (wr2 = w1.drewN p2) ∧ Hid (∀ j', j' < j2 → ls[j']? ≠ some x)) (fun i2 _ => j - (intOf i2).toNat)
          case atStart => exact ⟨0, _, by omega, rfl, by show _ = _; rw [HP.out, World.drewN_drewN], by intro j' h; omega⟩
          case round =>
            obtain ⟨j2, p2, hj2, rfl, HP2, HG2⟩ := hrel
            by_cases hlt2 : j2 < j
            · have hcx : wr.cell? (ad.add j) = some (.int .i64 x) := by rw [HP2.out]; have := HCV.out; rw [HP.out] at this; exact this
              obtain ⟨ad2, v2, e2, _, hv2, hcv2⟩ := ((HX.out.2.1.below HW.out.1 (Nat.le_refl _)).drewN p2).at_ (show j2 < m by omega)
              rw [← HP2.out] at hcv2
              injection e2 with e2
              subst e2
              obtain ⟨y, hy, rfl⟩ := ivs_at hv2
              have HY := Lib.hid hy
              clear hv2 hy
              have hjm2 : (j2 : Int) < m := by omega
              have hj02 : (0 : Int) ≤ j2 := by omega
              by_cases e : y = x
              · subst e
                go_wp2_with fail
                go_quiet (fail)
                go_wp2
                go_ret2
                exact .inr ⟨fun ⟨la, h1, h2⟩ => by obtain ⟨z, hz, _, _, hne⟩ := ok_of h2 (i := j) (by have := HX.out.2.2.2; rw [h1, List.length_map] at this; omega); rw [← h1] at hz hne; rw [HXX.out] at hz; injection hz with hz; subst hz; exact hne j2 hlt2 HY.out, rfl, by rw [HP2.out]; exact HW.out.1.trans ⟨rfl, rfl, rfl, Nat.le_refl _, fun _ _ => rfl⟩⟩
              · have he1 : (y == x) = false := by simpa using e
                have he2 : decide (y = x) = false := by simpa using e
                go_wp2_with fail
                go_quiet (fail)
                go_wp2
                go_roundw
                case rel =>
                  refine ⟨j2 + 1, _, by omega, by go_num, by show _ = _; rw [HP2.out, World.drewN_drewN], ?_⟩
                  intro j' h
                  by_cases ee : j' = j2
                  · subst ee
                    rw [HY.out]
                    intro hh
                    injection hh with hh
                    exact e hh
                  · exact HG2.out j' (by omega)
                case measure => simp [intOf]; omega
            · obtain rfl : j2 = j := by omega
              go_wp2
              go_roundw
              case rel =>
                refine ⟨j2 + 1, p2, by omega, by go_num, HP2.out, ?_⟩
                intro i' h
                by_cases ee : i' = j2
                · subst ee
                  exact ⟨x, HXX.out, by omega, by omega, HG2.out⟩
                · exact HG.out i' (by omega)
              case measure => simp [intOf]; omega
    · obtain rfl : j = m := by omega
      obtain ⟨la, hla, hp⟩ := places_of HX.out.2.2.2 HG.out
      subst hla
      have HPL := Lib.hid hp
      have hsl := slice_hi (E := 3) 38 Try.underlying38 info3 R j rc k (by omega)
      have hrow : wo.heap[w.heap.size]? = some (.cells #[.int .i64 (k : Int), .int .i64 (n : Int), .slice A n c] 49 (0, 0)) := by rw [HP.out]; exact HW.out.2
      have c30 : wo.cell? ⟨w.heap.size, 0, none⟩ = some (.int .i64 (k : Int)) := cell_of_row _ w.heap.size 0 _ 49 (0, 0) hrow
      have c32 : wo.cell? ⟨w.heap.size, 2, none⟩ = some (.slice A n c) := cell_of_row _ w.heap.size 2 _ 49 (0, 0) hrow
      have hbw : Below w.heap.size w wo := by rw [HP.out]; exact HW.out.1.trans ⟨rfl, rfl, rfl, Nat.le_refl _, fun _ _ => rfl⟩
      have HBW := Lib.hid (And.intro hbw hrow)
      have hlal : la.length = j := by have := HX.out.2.2.2; simpa using this
      have HLL := Lib.hid hlal
      clear hp hrow hbw hlal c31
      go_wp2_with fail
      refine wp_region_held_drew (S := fun u : World => u.cell? ⟨w.heap.size, 0, none⟩ = some (.int .i64 (k : Int)) ∧ u.cell? ⟨w.heap.size, 2, none⟩ = some (.slice A n c)) (by kernel_rfl) (⟨c30, c32⟩) (fun hHeld => ?_)
      refine wpAnyH_take (i := 0) (oi := ⟨some 68, _, _, _, _, _⟩) (v := ?_) rfl (by kernel_rfl) (by kernel_rfl) (by kernel_rfl) (fun _ _ _ h => h) (Or.inl ⟨by rfl, ?_⟩) (by assumption) ?_
      rotate_left
      · intro w hSw
        (try dsimp only at hSw)
        go_simp
        all_goals (with_reducible rfl)
      try simp only [Act.put, List.setIfInBounds_toArray, List.set_cons_zero, List.set_cons_succ]
      refine wpAnyH_take (i := 1) (oi := ⟨some 69, _, _, _, _, _⟩) (v := ?_) rfl (by kernel_rfl) (by kernel_rfl) (by kernel_rfl) (fun _ _ _ h => h) (Or.inl ⟨by rfl, ?_⟩) (by assumption) ?_
      rotate_left
      · intro w hSw
        (try dsimp only at hSw)
        go_simp
        all_goals (with_reducible rfl)
      try simp only [Act.put, List.setIfInBounds_toArray, List.set_cons_zero, List.set_cons_succ]
      refine wpAnyH_take (i := 2) (oi := ⟨some 70, _, _, _, _, _⟩) (v := ?_) rfl (by kernel_rfl) (by kernel_rfl) (by kernel_rfl) (fun _ _ _ h => h) (Or.inl ⟨by rfl, ?_⟩) (by assumption) ?_
      rotate_left
      · intro w hSw
        (try dsimp only at hSw)
        go_simp
        all_goals (with_reducible rfl)
      try simp only [Act.put, List.setIfInBounds_toArray, List.set_cons_zero, List.set_cons_succ]
      refine wpAnyH_take (i := 3) (oi := ⟨some 71, _, _, _, _, _⟩) (v := ?_) rfl (by kernel_rfl) (by kernel_rfl) (by kernel_rfl) (fun _ _ _ h => h) (Or.inl ⟨by rfl, ?_⟩) (by assumption) ?_
      rotate_left
      · intro w hSw
        (try dsimp only at hSw)
        go_simp
        all_goals (with_reducible rfl)
      try simp only [Act.put, List.setIfInBounds_toArray, List.set_cons_zero, List.set_cons_succ]
      refine wpAnyH_take (i := 4) (oi := ⟨some 72, _, _, _, _, _⟩) (v := ?_) rfl (by kernel_rfl) (by kernel_rfl) (by kernel_rfl) (fun _ _ _ h => h) (Or.inl ⟨by rfl, ?_⟩) (by assumption) ?_
      rotate_left
      · intro w hSw
        (try dsimp only at hSw)
        go_simp
        all_goals (with_reducible rfl)
      try simp only [Act.put, List.setIfInBounds_toArray, List.set_cons_zero, List.set_cons_succ]
      refine wpAnyH_take (i := 5) (oi := ⟨some 73, _, _, _, _, _⟩) (v := ?_) rfl (by kernel_rfl) (by kernel_rfl) (by kernel_rfl) (fun _ _ _ h => h) (Or.inl ⟨by rfl, ?_⟩) (by assumption) ?_
      rotate_left
      · intro w hSw
        (try dsimp only at hSw)
        go_simp
        all_goals (with_reducible rfl)
      try simp only [Act.put, List.setIfInBounds_toArray, List.set_cons_zero, List.set_cons_succ]
      refine wpAnyH_ready (rs := [6]) (by kernel_rfl) (by simp) (AllReadyH.cons (o := ⟨some 74, _, _, _, _, _⟩) rfl (fun K hK => ?_) AllReadyH.nil)
      go_simp
      have hRk : RdV wo.drew R k (ivs ((la.take k).map fun x : Nat => (x : Int))) := by
        have := ((HX.out.2.1.below HBW.out.1 (Nat.le_refl _)).drew).take hkm
        unfold ivs at this ⊢
        rw [List.map_take, List.map_take]
        exact this
      have HRK := Lib.hid hRk
      clear hRk
      refine (rpick_any A n c (tabM n k (codF k)) R k rc ((la.take k).map fun x : Nat => (x : Int)) _ (HX.out.1.below HBW.out.1 (Nat.le_refl _)).drew (right_tab (by omega) hn hk (by omega)) HRK.out hk (by omega) (fun x hx => by obtain ⟨y, hy, rfl⟩ := List.mem_map.1 hx; obtain ⟨i, hi⟩ := List.mem_iff_getElem?.1 (List.mem_of_mem_take hy); have := HPL.out.lt i y hi; omega)).mono ?_
      rintro e w3 hP3
      have hall : ∀ x ∈ la.take k, x < n := fun x hx => by obtain ⟨i, hi⟩ := List.mem_iff_getElem?.1 (List.mem_of_mem_take hx); exact HPL.out.lt i x hi
      have hlk : (la.take k).length = k := by rw [List.length_take, HLL.out]; omega
      obtain ⟨_, X, xc, rfl, hX, hB3⟩ := hP3.resolve_right (fun h => h.1 (fun x hx => by obtain ⟨y, hy, rfl⟩ := List.mem_map.1 hx; have := hall y hy; rw [tabM_len]; omega))
      rw [pickL_tab hlk hall] at hX
      have HB3 : Hid (Below wo.heap.size wo w3) := (show Below wo.heap.size wo wo.drew from (Below.refl _ _).drew).trans hB3
      have HX3 := Lib.hid hX.mr
      clear hX hB3 hall hlk
      refine hK.out _ _ (⟨(HB3.out.cell (p := ⟨w.heap.size, 0, none⟩) (block_lt_of_cell c30)).trans c30, (HB3.out.cell (p := ⟨w.heap.size, 2, none⟩) (block_lt_of_cell c32)).trans c32⟩) (fun hHeld => ?_)
      clear hK K
      try simp only [Act.put, List.setIfInBounds_toArray, List.set_cons_zero, List.set_cons_succ]
      refine wpAnyH_take (i := 7) (oi := ⟨some 67, _, _, _, _, _⟩) (v := ?_) rfl (by kernel_rfl) (by kernel_rfl) (by kernel_rfl) (fun _ _ _ h => h) (Or.inl ⟨by rfl, ?_⟩) (by assumption) ?_
      rotate_left
      · intro w hSw
        (try dsimp only at hSw)
        go_simp
        all_goals (with_reducible rfl)
      try simp only [Act.put, List.setIfInBounds_toArray, List.set_cons_zero, List.set_cons_succ]
      refine wpAnyH_take (i := 8) (oi := ⟨some 75, _, _, _, _, _⟩) (v := ?_) rfl (by kernel_rfl) (by kernel_rfl) (by kernel_rfl) (fun _ _ _ h => h) (Or.inl ⟨by rfl, ?_⟩) (by assumption) ?_
      rotate_left
      · intro w hSw
        (try dsimp only at hSw)
        go_simp
        all_goals (with_reducible rfl)
      try simp only [Act.put, List.setIfInBounds_toArray, List.set_cons_zero, List.set_cons_succ]
      refine wpAnyH_take (i := 9) (oi := ⟨some 76, _, _, _, _, _⟩) (v := ?_) rfl (by kernel_rfl) (by kernel_rfl) (by kernel_rfl) (fun _ _ _ h => h) (Or.inl ⟨by rfl, ?_⟩) (by assumption) ?_
      rotate_left
      · intro w hSw
        (try dsimp only at hSw)
        go_simp
        all_goals (with_reducible rfl)
      try simp only [Act.put, List.setIfInBounds_toArray, List.set_cons_zero, List.set_cons_succ]
      refine wpAnyH_take (i := 10) (oi := ⟨some 10, _, _, _, _, _⟩) (v := ?_) rfl (by kernel_rfl) (by kernel_rfl) (by kernel_rfl) (fun _ _ _ h => h) (Or.inl ⟨by rfl, ?_⟩) (by assumption) ?_
      rotate_left
      · intro w hSw
        (try dsimp only at hSw)
        go_simp
        all_goals (with_reducible rfl)
      try simp only [Act.put, List.setIfInBounds_toArray, List.set_cons_zero, List.set_cons_succ]
      refine wpAnyH_take (i := 11) (oi := ⟨some 11, _, _, _, _, _⟩) (v := ?_) rfl (by kernel_rfl) (by kernel_rfl) (by kernel_rfl) (fun _ _ _ h => h) (Or.inl ⟨by rfl, ?_⟩) (by assumption) ?_
      rotate_left
      · intro w hSw
        (try dsimp only at hSw)
        go_simp
        all_goals (with_reducible rfl)
      try simp only [Act.put, List.setIfInBounds_toArray, List.set_cons_zero, List.set_cons_succ]
      refine wpAnyH_done (by kernel_rfl) ?_ _
      have hc0 : w3.cell? ⟨w.heap.size, 0, none⟩ = some (.int .i64 (k : Int)) := (HB3.out.cell (p := ⟨w.heap.size, 0, none⟩) (block_lt_of_cell c30)).trans c30
      have HC0 := Lib.hid hc0
      clear c30 c32 hsl hc0
      go_wp2_with fail
      refine (rinvert_any X k xc (pickF (la.take k) (codF k)) w3 HX3.out hk (by omega)).mono ?_
      rintro e w4 hI
      have hfull := any_full (k := k) (n := n) (la := la.take k) (by omega) hkn (HPL.out.take k) (by rw [List.length_take, HLL.out]; omega) unitF
      obtain ⟨_, Y, yc, rfl, hY, hB4⟩ := hI.resolve_right (fun h => h.1 hfull)
      have HB4 : Hid (Below wo.heap.size wo w4) := HB3.out.trans (hB4.mono HB3.out.size)
      have HY := Lib.hid hY
      have hc0 : w4.cell? ⟨w.heap.size, 0, none⟩ = some (.int .i64 (k : Int)) := (hB4.cell (p := ⟨w.heap.size, 0, none⟩) (block_lt_of_cell HC0.out)).trans HC0.out
      have hsl2 := slice_hi (E := 31) 32 Try.underlying32 info31 S j d k (by omega)
      clear hI hY hB4 hfull
      go_wp2_with fail
      have hSk : MR w4 S k (tabM k s D) := by
        have := ((HX.out.2.2.1.below HBW.out.1 (Nat.le_refl _)).below HB4.out (Nat.le_refl _)).take hkm
        rwa [tabM_take hkm] at this
      refine (rtimes_yes Y k yc k (invC k (la.take k)) S d s D w4 HY.out hSk (by omega) hk (by omega) (by omega) _ rfl).mono ?_
      rintro e w5 ⟨Z, zc, rfl, hZ, hB5⟩
      have HZ := Lib.hid (And.intro hZ hB5)
      clear hZ hB5 hSk hc0 hsl2
      go_wp2
      go_ret2
      have hb4 : Below w.heap.size w w4 := HBW.out.1.trans (HB4.out.mono HBW.out.1.size)
      exact .inl ⟨la, rfl, HPL.out, Z, zc, rfl, HZ.out.1.lower hb4.size hb4.size, hb4.trans (HZ.out.2.mono hb4.size)⟩
end Go.Proofs.Ytobbjeephmfdeaa
namespace Go.Proofs.Ytobbjeephmfdeaa
open Go.RowKit Go.Coop
set_option maxRecDepth 100000
theorem box_below (w : World) (o : Obj) : Below w.heap.size w (w.alloc o) := balloc (Below.refl _ _) _
theorem load49cells {w : World} {b : Nat} {x0 x1 x2 : Value} (h : w.heap[b]? = some (.cells #[x0, x1, x2] 49 (0, 0))) : w.cell? ⟨b, 0, none⟩ = some x0 ∧ w.cell? ⟨b, 1, none⟩ = some x1 ∧ w.cell? ⟨b, 2, none⟩ = some x2 :=
  ⟨cell_of_row w b 0 _ 49 (0, 0) h, cell_of_row w b 1 _ 49 (0, 0) h, cell_of_row w b 2 _ 49 (0, 0) h⟩
theorem rreb_no (A : Option Addr) (n k c : Nat) (rv sv : Value) (i : Int) (w : World) (hD : Calls Try.prog 26 #[CV n k c A, rv, sv] (w.alloc (.cells #[.int .i64 (k : Int), .int .i64 (n : Int), .slice A n c] 49)) (NotM (w.alloc (.cells #[.int .i64 (k : Int), .int .i64 (n : Int), .slice A n c] 49)) 40)) :
    Calls Try.prog 27 #[CV n k c A, rv, sv, .int .i64 i] w (NotM w 40) := by
  have HD := Lib.hid hD
  clear hD
  go_enter Try.func27, Try.ntmps27
  go_wp2_with fail
  refine HD.out.mono ?_
  rintro e w1 ⟨rfl, hB⟩
  go_wp2
  go_ret2
  exact ⟨rfl, (box_below w _).trans (hB.mono (by simp))⟩
theorem rreb_arg (A : Option Addr) (n k c : Nat) (rv sv : Value) (i : Int) (w : World) (hi : i < 0 ∨ (n : Int) ≤ i) (M : List (List UInt8)) (hD : Calls Try.prog 26 #[CV n k c A, rv, sv] (w.alloc (.cells #[.int .i64 (k : Int), .int .i64 (n : Int), .slice A n c] 49)) (GotM (w.alloc (.cells #[.int .i64 (k : Int), .int .i64 (n : Int), .slice A n c] 49)) k M)) :
    Calls Try.prog 27 #[CV n k c A, rv, sv, .int .i64 i] w (NotM w 2) := by
  have HD := Lib.hid hD
  clear hD
  by_cases h0 : i < 0
  · go_enter Try.func27, Try.ntmps27
    go_wp2_with fail
    refine HD.out.mono ?_
    rintro e w1 ⟨Y, yc, rfl, hY, hB⟩
    obtain ⟨c0, c1, c2⟩ := load49cells ((hB.block _ (by simp)).trans (cbox w n k c A))
    have HB := Lib.hid hB
    clear hY hB
    go_wp2
    go_ret2
    exact ⟨rfl, (box_below w _).trans (HB.out.mono (by simp))⟩
  · have h1 : (n : Int) ≤ i := by omega
    go_enter Try.func27, Try.ntmps27
    go_wp2_with fail
    refine HD.out.mono ?_
    rintro e w1 ⟨Y, yc, rfl, hY, hB⟩
    obtain ⟨c0, c1, c2⟩ := load49cells ((hB.block _ (by simp)).trans (cbox w n k c A))
    have HB := Lib.hid hB
    clear hY hB
    go_wp2
    go_ret2
    exact ⟨rfl, (box_below w _).trans (HB.out.mono (by simp))⟩
theorem rreb_yes (A : Option Addr) (n k c : Nat) (rv sv : Value) (i s : Nat) (E : Fn2) (w : World) (hi : i < n) (hn : n ≤ 255) (hc : n ≤ c) (hk : 1 ≤ k) (hk2 : k ≤ 255) (hs : s ≤ 65536) (hM : MR w A n (tabM n k (codF k))) (hD : Calls Try.prog 26 #[CV n k c A, rv, sv] (w.alloc (.cells #[.int .i64 (k : Int), .int .i64 (n : Int), .slice A n c] 49)) (GotM (w.alloc (.cells #[.int .i64 (k : Int), .int .i64 (n : Int), .slice A n c] 49)) k (tabM k s E))) :
    Calls Try.prog 27 #[CV n k c A, rv, sv, .int .i64 (i : Int)] w (GotB w s (rowL s (mulF k (fun _ => codF k i) E 0))) := by
  have HD := Lib.hid (And.intro hD hM)
  have hsl := slice_lo (E := 31) 47 Try.underlying47 info31 A n c i (i + 1) (by omega) (by omega)
  rw [show i + 1 - i = 1 by omega] at hsl
  have hsl' : ∀ w, (Instr.slice 47 (.slice A n c) (some (.int .i64 (i : Int))) (some (.int .i64 ((i : Int) + 1))) none).run Try.prog w = .ok (.slice (cutA A c i) 1 (c - i)) w := fun w => by have := hsl w; rwa [show ((i + 1 : Nat) : Int) = (i : Int) + 1 by omega] at this
  have hwr : IntKind.i64.wrap ((i : Int) + 1) = (i : Int) + 1 := IntWalk.i64_in _ (by omega)
  have hin : (i : Int) < n := by omega
  clear hD hM hsl
  go_enter Try.func27, Try.ntmps27
  go_wp2_with fail
  refine HD.out.1.mono ?_
  rintro e w1 ⟨Y, yc, rfl, hY, hB⟩
  obtain ⟨c0, c1, c2⟩ := load49cells ((hB.block _ (by simp)).trans (cbox w n k c A))
  have hb1 : Below w.heap.size w w1 := (box_below w _).trans (hB.mono (by simp))
  have HB := Lib.hid (And.intro hb1 hY.mr)
  clear hY hB hb1
  go_wp2_with fail
  have hone := ((HD.out.2.below HB.out.1 (Nat.le_refl _)).one_at hi hc)
  refine (rtimes_yes (cutA A c i) 1 (c - i) k (fun _ => codF k i) Y yc s E w1 hone HB.out.2 (by omega) hk hk2 (by omega) _ rfl).mono ?_
  rintro e w2 ⟨Z, zc, rfl, hZ, hB2⟩
  obtain ⟨gz, B, bd, r, rfl, _, _, _, hr, hcz, hoz⟩ := hZ.row (show 0 < 1 by omega)
  have e0 : (tabM 1 s (mulF k (fun _ => codF k i) E))[0]? = some (rowL s (mulF k (fun _ => codF k i) E 0)) := tabM_at _ _ (by omega)
  rw [e0] at hr
  injection hr with hr
  rw [← hr, rowL_len] at hcz hoz
  have HZ := Lib.hid (And.intro hB2 hoz)
  clear hZ hB2 hr hoz hone c0 c1 c2
  go_wp2
  go_ret2
  exact ⟨B, bd, rfl, HZ.out.2.lower HB.out.1.size, HB.out.1.trans (HZ.out.1.mono HB.out.1.size)⟩
end Go.Proofs.Ytobbjeephmfdeaa
namespace Go.Proofs.Ytobbjeephmfdeaa
open Go.RowKit Go.Coop
set_option maxRecDepth 100000
theorem tr_at {w : World} {A : Option Addr} {n : Nat} {Ts : List (List (List UInt8))} (h : TR w A n Ts) {i : Nat} (hi : i < n) : ∃ ad B d T, A = some ad ∧ ad.block < w.heap.size ∧ Ts[i]? = some T ∧ w.cell? (ad.add i) = some (.slice B T.length d) ∧ MR w B T.length T := by
  obtain ⟨vs, hv, hr⟩ := h.out
  have hl : i < Ts.length := by have := h.len; omega
  obtain ⟨B, d, h1, h2⟩ := hr i Ts[i] (List.getElem?_eq_getElem hl)
  obtain ⟨ad, v, e, hb, h3, h4⟩ := hv.at_ hi
  rw [h1] at h3
  injection h3 with h3
  subst h3
  exact ⟨ad, B, d, Ts[i], e, hb, List.getElem?_eq_getElem hl, h4, h2⟩
theorem tr_below {w w' : World} {A : Option Addr} {n : Nat} {Ts : List (List (List UInt8))} (h : TR w A n Ts) (hb : Below w.heap.size w w') : TR w' A n Ts := by
  obtain ⟨vs, hv, hr⟩ := h.out
  exact ⟨h.len, vs, hv.below hb (Nat.le_refl _), fun i T hi => by obtain ⟨B, d, h1, h2⟩ := hr i T hi; exact ⟨B, d, h1, h2.below hb (Nat.le_refl _)⟩⟩
theorem same_tr (A : Option Addr) (n c : Nat) (B : Option Addr) (d : Nat) (Ts : List (List (List UInt8))) (w : World) (ha : TR w A n Ts) (hb : TR w B n Ts) (hn : n ≤ 1000000) (hL : ∀ T ∈ Ts, T.length ≤ 140737488355328) :
    Calls Try.prog 35 #[.slice A n c, .slice B n d] w fun e w' => e = .returned (.bool true) ∧ Below w.heap.size w w' := by
  have HX := Lib.hid (And.intro ha (And.intro hb hL))
  clear ha hb hL
  go_enter Try.func35, Try.ntmps35
  go_wp2_with fail
  go_loopw [5] (fun i wr => ∃ j : Nat, j ≤ n ∧ i = .int .i64 j ∧ Hid (Below w.heap.size w wr)) (fun i _ => n - (intOf i).toNat)
  case atStart => exact ⟨0, by omega, rfl, Below.refl _ _⟩
  case round =>
    obtain ⟨j, hj, rfl, HB⟩ := hrel
    by_cases hlt : j < n
    · obtain ⟨ad, X, x, T, rfl, _, hT, hc1, hm1⟩ := tr_at (tr_below HX.out.1 HB.out) hlt
      obtain ⟨bd, Y, y, U, rfl, _, hU, hc2, hm2⟩ := tr_at (tr_below HX.out.2.1 HB.out) hlt
      rw [hT] at hU
      injection hU with hU
      subst hU
      have HM := Lib.hid (And.intro hm1 (And.intro hm2 (HX.out.2.2 T (List.mem_of_getElem? hT))))
      have hjn : (j : Int) < n := by omega
      have hj0 : (0 : Int) ≤ j := by omega
      clear hT hm1 hm2
      go_wp2_with fail
      refine wp_region_still_tail 8 (by kernel_rfl) (by kernel_rfl) ?_
      simp only [List.take_succ_cons, List.take_zero, List.drop_succ_cons, List.drop_zero]
      iterate 8 still_step
      refine wpStill_nil ?_
      clear hc1 hc2
      go_wp2_with fail
      refine (lists_b X T.length x T Y y wr.drew (HM.out.1.drew) (HM.out.2.1.drew) HM.out.2.2).mono ?_
      rintro e w2 ⟨rfl, hB⟩
      have HB2 : Hid (Below w.heap.size w w2) := HB.out.trans (((Below.refl wr.heap.size wr).drew.trans hB).mono HB.out.size)
      clear hB
      go_wp2
      go_roundw
      case rel => exact ⟨j + 1, by omega, by go_num, HB2.out⟩
      case measure => simp [intOf]; omega
    · obtain rfl : j = n := by omega
      go_wp2
      go_ret
      exact ⟨rfl, HB.out⟩
/-- shards that are all shards of a stripe have one length -/
theorem fits_even {n k : Nat} {L : List (List UInt8)} (hk : k ≤ n) (h : fitsB n k L = true) : stripeB n L = true := by
  unfold fitsB at h
  simp only [Bool.and_eq_true, decide_eq_true_eq] at h
  obtain ⟨h1, h2, h3⟩ := h
  have hs : (((L.take k).headD []).length) ≤ 65536 := by
    unfold stripeB at h2
    simp only [Bool.and_eq_true, decide_eq_true_eq] at h2
    cases hq : L.take k with
    | nil => simp
    | cons r rs => exact (levelB_at (hq ▸ h2.2) (i := 0) (r := r) rfl).2
  rw [← h3]
  unfold encL
  exact tab_stripe hs
theorem stripe_take {n k : Nat} {L : List (List UInt8)} (_ : 1 ≤ k) (hk : k ≤ n) (h : stripeB n L = true) : stripeB k (L.take k) = true := by
  unfold stripeB at h ⊢
  simp only [Bool.and_eq_true, decide_eq_true_eq] at h ⊢
  refine ⟨by rw [List.length_take]; omega, levelB_yes fun i r hr => ?_⟩
  have e : (L.take k).headD [] = L.headD [] := by
    cases L with
    | nil => simp
    | cons a b => cases k with
      | zero => omega
      | succ k => rfl
  rw [e]
  refine levelB_at h.2 (i := i) ?_
  rw [List.getElem?_take] at hr
  split at hr
  · exact hr
  · cases hr
theorem rfits_any (A : Option Addr) (n k c : Nat) (S : Option Addr) (m d : Nat) (L : List (List UInt8)) (w : World) (hk : 1 ≤ k) (hkn : k ≤ n) (hn : n ≤ 255) (hM : MR w A n (tabM n k (codF k))) (h : MR w S m L) (hm : m ≤ 1000000) (hmd : m ≤ d) (hL : ∀ r ∈ L, r.length ≤ 140737488355328) :
    Calls Try.prog 32 #[CV n k c A, .slice S m d] w fun e w' => e = .returned (.bool (fitsB n k L)) ∧ Below w.heap.size w w' := by
  have K := reven_any S m d n L (w.alloc (.cells #[.int .i64 (k : Int), .int .i64 (n : Int), .slice A n c] 49)) (h.below (balloc (Below.refl _ _) _) (Nat.le_refl _)) hm (by omega) (by omega) hL
  cases he : stripeB n L
  · have hf : fitsB n k L = false := by
      cases hq : fitsB n k L
      · rfl
      · rw [fits_even hkn hq] at he; cases he
    rw [hf]
    rw [he] at K
    have HK := Lib.hid K
    clear K h hL hM he hf
    go_enter Try.func32, Try.ntmps32
    go_wp2_with fail
    refine HK.out.mono ?_
    rintro e w1 ⟨p, rfl, rfl⟩
    go_wp2
    go_ret
    exact ⟨rfl, (balloc (Below.refl _ _) _).trans ⟨rfl, rfl, rfl, Nat.le_refl _, fun _ _ => rfl⟩⟩
  · rw [he] at K
    have HK := Lib.hid K
    have hmn : m = n := by
      have := h.len
      unfold stripeB at he
      simp only [Bool.and_eq_true, decide_eq_true_eq] at he
      omega
    subst hmn
    have hst := stripe_take hk hkn he
    obtain ⟨q, hq⟩ : ∃ q, (((L.take k).headD []).length) = q := ⟨_, rfl⟩
    have hlt : L.take k = tabM k q (matF (L.take k)) := by
      rw [← hq]
      unfold stripeB at hst
      simp only [Bool.and_eq_true, decide_eq_true_eq] at hst
      exact level_tab hst.1 hst.2
    have hq6 : q ≤ 65536 := by
      rw [← hq]
      unfold stripeB at hst
      simp only [Bool.and_eq_true, decide_eq_true_eq] at hst
      cases hz : L.take k with
      | nil => simp
      | cons r rs => exact (levelB_at (hz ▸ hst.2) (i := 0) (r := r) rfl).2
    obtain ⟨b, hb⟩ : ∃ b, fitsB m k L = b := ⟨_, rfl⟩
    have hbe : decide (tabM m q (mulF k (codF k) (matF (L.take k))) = L) = b := by
      rw [← hb]
      unfold fitsB encL
      rw [hq, hst, decide_eq_true h.len]
      simp
    rw [hb]
    have HX := Lib.hid (And.intro hM (And.intro h (And.intro hlt (And.intro hq6 (And.intro hL hbe)))))
    have hsl := slice_hi (E := 31) 32 Try.underlying32 info31 S m d k (by omega)
    have HCB := Lib.hid (cbox w m k c A)
    clear K h hL hM he hst hq hlt hq6 hb hbe
    go_enter Try.func32, Try.ntmps32
    go_wp2_with fail
    refine HK.out.mono ?_
    rintro e w1 ⟨p, rfl, hw⟩
    have hrow : w1.heap[w.heap.size]? = some (.cells #[.int .i64 (k : Int), .int .i64 (m : Int), .slice A m c] 49 (0, 0)) := by rw [hw]; exact HCB.out
    have hb1 : Below w.heap.size w w1 := by rw [hw]; exact (balloc (Below.refl _ _) _).trans ⟨rfl, rfl, rfl, Nat.le_refl _, fun _ _ => rfl⟩
    obtain ⟨c0, c1, c2⟩ := load49cells hrow
    have HB1 := Lib.hid hb1
    clear hw hrow hb1 HK HCB
    go_wp2_with fail
    refine wp_region_held_drew (S := fun u : World => u.cell? ⟨w.heap.size, 0, none⟩ = some (.int .i64 (k : Int)) ∧ u.cell? ⟨w.heap.size, 1, none⟩ = some (.int .i64 (m : Int)) ∧ u.cell? ⟨w.heap.size, 2, none⟩ = some (.slice A m c)) (by kernel_rfl) (⟨c0, c1, c2⟩) (fun hHeld => ?_)
    refine wpAnyH_take (i := 0) (oi := ⟨some 13, _, _, _, _, _⟩) (v := ?_) rfl (by kernel_rfl) (by kernel_rfl) (by kernel_rfl) (fun _ _ _ h => h) (Or.inl ⟨by rfl, ?_⟩) (by assumption) ?_
    rotate_left
    · intro w hSw
      (try dsimp only at hSw)
      go_simp
      all_goals (with_reducible rfl)
    try simp only [Act.put, List.setIfInBounds_toArray, List.set_cons_zero, List.set_cons_succ]
    refine wpAnyH_take (i := 1) (oi := ⟨some 14, _, _, _, _, _⟩) (v := ?_) rfl (by kernel_rfl) (by kernel_rfl) (by kernel_rfl) (fun _ _ _ h => h) (Or.inl ⟨by rfl, ?_⟩) (by assumption) ?_
    rotate_left
    · intro w hSw
      (try dsimp only at hSw)
      go_simp
      all_goals (with_reducible rfl)
    try simp only [Act.put, List.setIfInBounds_toArray, List.set_cons_zero, List.set_cons_succ]
    refine wpAnyH_take (i := 2) (oi := ⟨some 15, _, _, _, _, _⟩) (v := ?_) rfl (by kernel_rfl) (by kernel_rfl) (by kernel_rfl) (fun _ _ _ h => h) (Or.inl ⟨by rfl, ?_⟩) (by assumption) ?_
    rotate_left
    · intro w hSw
      (try dsimp only at hSw)
      go_simp
      all_goals (with_reducible rfl)
    try simp only [Act.put, List.setIfInBounds_toArray, List.set_cons_zero, List.set_cons_succ]
    refine wpAnyH_take (i := 3) (oi := ⟨some 16, _, _, _, _, _⟩) (v := ?_) rfl (by kernel_rfl) (by kernel_rfl) (by kernel_rfl) (fun _ _ _ h => h) (Or.inl ⟨by rfl, ?_⟩) (by assumption) ?_
    rotate_left
    · intro w hSw
      (try dsimp only at hSw)
      go_simp
      all_goals (with_reducible rfl)
    try simp only [Act.put, List.setIfInBounds_toArray, List.set_cons_zero, List.set_cons_succ]
    refine wpAnyH_take (i := 4) (oi := ⟨some 17, _, _, _, _, _⟩) (v := ?_) rfl (by kernel_rfl) (by kernel_rfl) (by kernel_rfl) (fun _ _ _ h => h) (Or.inl ⟨by rfl, ?_⟩) (by assumption) ?_
    rotate_left
    · intro w hSw
      (try dsimp only at hSw)
      go_simp
      all_goals (with_reducible rfl)
    try simp only [Act.put, List.setIfInBounds_toArray, List.set_cons_zero, List.set_cons_succ]
    refine wpAnyH_ready (rs := [5]) (by kernel_rfl) (by simp) (AllReadyH.cons (o := ⟨some 18, _, _, _, _, _⟩) rfl (fun K hK => ?_) AllReadyH.nil)
    go_simp
    have hSk : MR w1.drew S k (tabM k q (matF (L.take k))) := by
      have := ((HX.out.2.1.below HB1.out (Nat.le_refl _)).drew).take hkn
      rwa [HX.out.2.2.1] at this
    refine (renc_yes A m k c S d q (matF (L.take k)) w1.drew hk (by omega) hn HX.out.2.2.2.1 ((HX.out.1.below HB1.out (Nat.le_refl _)).drew) hSk).mono ?_
    rintro e w2 ⟨Z, zc, rfl, hZ, hBz⟩
    have HB2 : Hid (Below w.heap.size w w2) := HB1.out.trans (((Below.refl w1.heap.size w1).drew.trans hBz).mono HB1.out.size)
    have HZ := Lib.hid (And.intro hZ.mr ((Below.refl w1.heap.size w1).drew.trans hBz))
    clear hZ hBz hSk
    refine hK.out _ _ (⟨(HZ.out.2.cell (p := ⟨w.heap.size, 0, none⟩) (block_lt_of_cell c0)).trans c0, (HZ.out.2.cell (p := ⟨w.heap.size, 1, none⟩) (block_lt_of_cell c1)).trans c1, (HZ.out.2.cell (p := ⟨w.heap.size, 2, none⟩) (block_lt_of_cell c2)).trans c2⟩) (fun hHeld => ?_)
    clear hK K
    try simp only [Act.put, List.setIfInBounds_toArray, List.set_cons_zero, List.set_cons_succ]
    refine wpAnyH_take (i := 6) (oi := ⟨some 12, _, _, _, _, _⟩) (v := ?_) rfl (by kernel_rfl) (by kernel_rfl) (by kernel_rfl) (fun _ _ _ h => h) (Or.inl ⟨by rfl, ?_⟩) (by assumption) ?_
    rotate_left
    · intro w hSw
      (try dsimp only at hSw)
      go_simp
      all_goals (with_reducible rfl)
    try simp only [Act.put, List.setIfInBounds_toArray, List.set_cons_zero, List.set_cons_succ]
    refine wpAnyH_take (i := 7) (oi := ⟨some 19, _, _, _, _, _⟩) (v := ?_) rfl (by kernel_rfl) (by kernel_rfl) (by kernel_rfl) (fun _ _ _ h => h) (Or.inl ⟨by rfl, ?_⟩) (by assumption) ?_
    rotate_left
    · intro w hSw
      (try dsimp only at hSw)
      go_simp
      all_goals (with_reducible rfl)
    try simp only [Act.put, List.setIfInBounds_toArray, List.set_cons_zero, List.set_cons_succ]
    refine wpAnyH_take (i := 8) (oi := ⟨some 20, _, _, _, _, _⟩) (v := ?_) rfl (by kernel_rfl) (by kernel_rfl) (by kernel_rfl) (fun _ _ _ h => h) (Or.inl ⟨by rfl, ?_⟩) (by assumption) ?_
    rotate_left
    · intro w hSw
      (try dsimp only at hSw)
      go_simp
      all_goals (with_reducible rfl)
    try simp only [Act.put, List.setIfInBounds_toArray, List.set_cons_zero, List.set_cons_succ]
    refine wpAnyH_take (i := 9) (oi := ⟨some 5, _, _, _, _, _⟩) (v := ?_) rfl (by kernel_rfl) (by kernel_rfl) (by kernel_rfl) (fun _ _ _ h => h) (Or.inl ⟨by rfl, ?_⟩) (by assumption) ?_
    rotate_left
    · intro w hSw
      (try dsimp only at hSw)
      go_simp
      all_goals (with_reducible rfl)
    try simp only [Act.put, List.setIfInBounds_toArray, List.set_cons_zero, List.set_cons_succ]
    refine wpAnyH_take (i := 10) (oi := ⟨some 6, _, _, _, _, _⟩) (v := ?_) rfl (by kernel_rfl) (by kernel_rfl) (by kernel_rfl) (fun _ _ _ h => h) (Or.inl ⟨by rfl, ?_⟩) (by assumption) ?_
    rotate_left
    · intro w hSw
      (try dsimp only at hSw)
      go_simp
      all_goals (with_reducible rfl)
    try simp only [Act.put, List.setIfInBounds_toArray, List.set_cons_zero, List.set_cons_succ]
    refine wpAnyH_done (by kernel_rfl) ?_ _
    have HEQ := lists_any Z m zc (tabM m q (mulF k (codF k) (matF (L.take k)))) S m d L w2 HZ.out.1 (HX.out.2.1.below HB2.out (Nat.le_refl _)) (by omega)
    rw [HX.out.2.2.2.2.2] at HEQ
    have HE := Lib.hid HEQ
    clear HEQ c0 c1 c2 hsl
    go_wp2_with fail
    refine HE.out.mono ?_
    rintro e w3 ⟨rfl, j, hw3⟩
    have HB3 : Hid (Below w.heap.size w w3) := by rw [hw3]; exact HB2.out.trans ⟨rfl, rfl, rfl, Nat.le_refl _, fun _ _ => rfl⟩
    clear hw3
    go_wp2
    go_ret
    exact ⟨rfl, HB3.out⟩
theorem flat_snoc {Ts : List (List (List UInt8))} {j : Nat} {U : List (List UInt8)} (h : Ts[j]? = some U) : (Ts.take (j + 1)).flatten.flatten = (Ts.take j).flatten.flatten ++ U.flatten := by
  rw [List.take_add_one, h]
  simp
theorem flat_rows {U : List (List UInt8)} {r : Nat} {l : List UInt8} (h : U[r]? = some l) : (U.take (r + 1)).flatten = (U.take r).flatten ++ l := by
  rw [List.take_add_one, h]
  simp
theorem flat_le (Ts : List (List (List UInt8))) (j : Nat) : (Ts.take j).flatten.flatten.length ≤ Ts.flatten.flatten.length := by
  have e : Ts.flatten.flatten = (Ts.take j).flatten.flatten ++ (Ts.drop j).flatten.flatten := by
    rw [← List.flatten_append, ← List.flatten_append, List.take_append_drop]
  rw [e, List.length_append]
  omega
theorem rows_le (U : List (List UInt8)) (r : Nat) : (U.take r).flatten.length ≤ U.flatten.length := by
  have e : U.flatten = (U.take r).flatten ++ (U.drop r).flatten := by rw [← List.flatten_append, List.take_append_drop]
  rw [e, List.length_append]
  omega
def RJoin (w : World) (k : Nat) (Ts : List (List (List UInt8))) (x : Int) (e : Ending) (w' : World) : Prop := Below w.heap.size w w' ∧
      ((joinB k Ts = false ∧ e = .returned (.tuple #[.slice none 0 0, .int .i64 40])) ∨ (joinB k Ts = true ∧ (x < 0 ∨ (Ts.flatten.flatten.length : Int) < x) ∧ e = .returned (.tuple #[.slice none 0 0, .int .i64 11])) ∨
       (joinB k Ts = true ∧ 0 ≤ x ∧ x ≤ (Ts.flatten.flatten.length : Int) ∧ ∃ B cb, e = .returned (.tuple #[.slice B x.toNat cb, .int .i64 0]) ∧ Rd w' B x.toNat (Ts.flatten.flatten.take x.toNat)))
def JRel (w : World) (b : Nat) (Ts : List (List (List UInt8))) (j : Nat) (v : Value) (wr : World) : Prop := ∃ (X : Option Addr) (N xc : Nat), v = .slice X N xc ∧ Go.Coop.Own wr b 5 X N xc ((Ts.take j).flatten.flatten) ∧ Below b w wr
def JRow (w : World) (b : Nat) (Ts : List (List (List UInt8))) (U : List (List UInt8)) (j r : Nat) (v : Value) (wr : World) : Prop := ∃ (X : Option Addr) (N xc : Nat), v = .slice X N xc ∧ Go.Coop.Own wr b 5 X N xc ((Ts.take j).flatten.flatten ++ (U.take r).flatten) ∧ Below b w wr
set_option maxHeartbeats 1000000 in
theorem rjoin_any (A : Option Addr) (n k c : Nat) (S : Option Addr) (q d : Nat) (Ts : List (List (List UInt8))) (x : Int) (w : World) (hk : 1 ≤ k) (hk2 : k ≤ 255) (h : TR w S q Ts) (hq : q ≤ 1000000) (ht : Ts.flatten.flatten.length ≤ 1000000000) (hL : ∀ U ∈ Ts, U.length ≤ 1000000 ∧ ∀ r ∈ U, r.length ≤ 140737488355328) :
    Calls Try.prog 34 #[CV n k c A, .slice S q d, .int .i64 x] w (RJoin w k Ts x) := by
  have HX := Lib.hid (And.intro h (And.intro ht hL))
  have HTL : Hid (Ts.length = q) := h.len
  clear h ht hL
  go_enter Try.func34, Try.ntmps34
  go_wp2_with fail
  obtain ⟨b3, hb3⟩ : ∃ b3, w.heap.size = b3 := ⟨_, rfl⟩
  obtain ⟨w0, hw0⟩ : ∃ w0, w.alloc (.cells #[.int .i64 (k : Int), .int .i64 (n : Int), .slice A n c] 49) = w0 := ⟨_, rfl⟩
  have hrow : w0.heap[b3]? = some (.cells #[.int .i64 (k : Int), .int .i64 (n : Int), .slice A n c] 49 (0, 0)) := by rw [← hw0, ← hb3]; exact cbox w n k c A
  have hB0 : Below w.heap.size w w0 := by rw [← hw0]; exact box_below w _
  have hlt3 : b3 < w0.heap.size := (Array.getElem?_eq_some_iff.1 hrow).1
  have HH := Lib.hid (And.intro (load49cells hrow).1 (And.intro hB0 (And.intro hlt3 (tr_below HX.out.1 hB0))))
  rw [hw0, hb3]
  clear hw0 hb3 hrow hB0 hlt3
  go_loopw [8, 9] (fun v i wr => ∃ j : Nat, j ≤ q ∧ i = .int .i64 j ∧ Hid (JRel w0 w0.heap.size Ts j v wr) ∧ Hid (∀ U ∈ Ts.take j, stripeB k U = true)) (fun _ i _ => q - (intOf i).toNat)
  case atStart => exact ⟨0, by omega, rfl, ⟨none, 0, 0, rfl, Own.nil _ _ _, Below.refl _ _⟩, by intro U hU; simp at hU⟩
  case round =>
    obtain ⟨j, hj, rfl, HR, HS⟩ := hrel
    obtain ⟨X, N, xc, rfl, hO, hB⟩ := HR.out
    have HO := Lib.hid (And.intro hO hB)
    clear hO hB HR
    obtain ⟨wo, rfl⟩ : ∃ wo : World, wo = wr := ⟨_, rfl⟩
    have c0 : wo.cell? ⟨b3, 0, none⟩ = some (.int .i64 (k : Int)) := (HO.out.2.cell (p := ⟨b3, 0, none⟩) HH.out.2.2.1).trans HH.out.1
    by_cases hlt : j < q
    · obtain ⟨ad, Y, y, U, rfl, _, hU, hc1, hm1⟩ := tr_at (tr_below HH.out.2.2.2 HO.out.2) hlt
      have hUL := HX.out.2.2 U (List.mem_of_getElem? hU)
      have K := reven_any Y U.length y k U wo.drew hm1.drew (by omega) hk (by omega) hUL.2
      have hjq : (j : Int) < q := by omega
      have hj0 : (0 : Int) ≤ j := by omega
      have hdj : decide ((j : Int) < (q : Int)) = true := by simp; omega
      cases hs : stripeB k U
      · rw [hs] at K
        have HK := Lib.hid K
        have hjb : joinB k Ts = false := by
          cases hz : joinB k Ts
          · rfl
          · unfold joinB at hz
            have := List.all_eq_true.1 hz U (List.mem_of_getElem? hU)
            rw [hs] at this
            cases this
        have HJ := Lib.hid hjb
        clear K hm1 hU hs hjb hUL
        go_wp2_with fail
        refine wp_region_still_tail 6 (by kernel_rfl) (by kernel_rfl) ?_
        simp only [List.take_succ_cons, List.take_zero, List.drop_succ_cons, List.drop_zero]
        iterate 6 still_step
        refine wpStill_nil ?_
        clear hc1 c0
        go_wp2_with fail
        refine HK.out.mono ?_
        rintro e w2 ⟨p, rfl, hw2⟩
        have HB2 : Hid (Below w.heap.size w w2) := by rw [hw2]; exact (HH.out.2.1.trans (HO.out.2.mono HH.out.2.1.size)).trans ⟨rfl, rfl, rfl, Nat.le_refl _, fun _ _ => rfl⟩
        clear hw2
        go_wp2
        go_ret2
        exact ⟨HB2.out, .inl ⟨HJ.out, rfl⟩⟩
      · rw [hs] at K
        have hUl : U.length = k := by unfold stripeB at hs; simp only [Bool.and_eq_true, decide_eq_true_eq] at hs; exact hs.1
        rw [hUl] at hc1 hm1 K
        have HK := Lib.hid K
        have HU := Lib.hid (And.intro hU (And.intro hs (And.intro hm1 hc1)))
        clear K hm1 hU hs hUl hUL
        go_wp2_with fail
        refine wp_region_still_tail 6 (by kernel_rfl) (by kernel_rfl) ?_
        simp only [List.take_succ_cons, List.take_zero, List.drop_succ_cons, List.drop_zero]
        iterate 6 still_step
        refine wpStill_nil ?_
        clear hc1 c0
        go_wp2_with fail
        refine HK.out.mono ?_
        rintro e w2 ⟨p, rfl, hw2⟩
        have HW2 : Hid (w2 = wo.drewN (1 + p)) := by rw [hw2]; exact World.drewN_drewN wo 1 p
        clear hw2 HK
        have H0 : Hid (JRow w0 w0.heap.size Ts U j 0 (.slice X N xc) w2) := by
          rw [HW2.out]
          exact ⟨X, N, xc, rfl, by simpa using HO.out.1.drewN (1 + p), HO.out.2.trans ⟨rfl, rfl, rfl, Nat.le_refl _, fun _ _ => rfl⟩⟩
        go_wp2_with fail
        go_loopw [8, 10] (fun v i wr => ∃ r : Nat, r ≤ k ∧ i = .int .i64 r ∧ Hid (JRow w0 w0.heap.size Ts U j r v wr)) (fun _ i _ => k - (intOf i).toNat)
        case atStart => exact ⟨0, by omega, rfl, H0.out⟩
        case round =>
          obtain ⟨r, hr, rfl, HR⟩ := hrel
          clear H0
          obtain ⟨X, N, xc, rfl, hO, hB⟩ := HR.out
          have hc0 : wr.cell? ⟨b3, 0, none⟩ = some (.int .i64 (k : Int)) := (hB.cell (p := ⟨b3, 0, none⟩) HH.out.2.2.1).trans HH.out.1
          have HO2 := Lib.hid (And.intro hO hB)
          clear HR
          by_cases hrk : r < k
          · obtain ⟨ad', Y', y', U', e', _, hU', hc1', hm1'⟩ := tr_at (tr_below HH.out.2.2.2 hB) hlt
            injection e' with e'
            subst e'
            rw [HU.out.1] at hU'
            injection hU' with hU'
            subst hU'
            have hUl : U.length = k := by have := HU.out.2.2.1.len; exact this
            rw [hUl] at hc1' hm1'
            obtain ⟨yd, B, bd, l, rfl, _, hl, hcr, hor⟩ := hm1'.row hrk
            obtain ⟨m, hm⟩ : ∃ m, l.length = m := ⟨_, rfl⟩
            rw [hm] at hcr hor
            have HL := Lib.hid (And.intro hl (And.intro hm hor))
            have hbnd : N + m ≤ 2000000000 := by
              have e1 := hO.len
              have e2 := flat_le Ts (j + 1)
              rw [flat_snoc HU.out.1, List.length_append] at e2
              have e3 := rows_le U (r + 1)
              rw [flat_rows hl, List.length_append] at e3
              rw [List.length_append] at e1
              have := HX.out.2.1
              omega
            clear hl hm hor hO hm1'
            have hjq : (j : Int) < q := by omega
            have hrk' : (r : Int) < k := by omega
            have hr0 : (0 : Int) ≤ r := by omega
            have hj0 : (0 : Int) ≤ j := by omega
            go_wp2_with (at_builtin; refine wpList_app _ rfl (.tmp 31) (.tmp 38) 31 rfl w0.heap.size 5 Try.underlying31 info5 rfl HO2.out.1 rfl HL.out.2.2 (by omega) HO2.out.2.size (N + m) rfl ?_; intro X2 x2 w3 ho hg _)
            have HO3 := Lib.hid (And.intro ho (HO2.out.2.grown hg HO2.out.2.size (fun k hk => (HO2.out.1.block k hk).1)))
            clear ho hg hB hc1' hcr
            go_wp2
            go_roundw
            case rel =>
              refine ⟨r + 1, by omega, by go_num, X2, N + m, x2, rfl, ?_, HO3.out.2⟩
              rw [flat_rows HL.out.1, ← List.append_assoc]
              exact HO3.out.1
            case measure => simp [intOf]; omega
          · obtain rfl : r = k := by omega
            clear hO hB
            go_wp2
            go_roundw
            case rel =>
              refine ⟨j + 1, by omega, by go_num, ⟨X, N, xc, rfl, ?_, HO2.out.2⟩, ?_⟩
              · rw [flat_snoc HU.out.1]
                have := HO2.out.1
                rwa [List.take_of_length_le (Nat.le_of_eq HU.out.2.2.1.len)] at this
              · intro V hV
                rw [List.take_add_one, HU.out.1] at hV
                rcases List.mem_append.1 hV with hV | hV
                · exact HS.out V hV
                · simp at hV
                  subst hV
                  exact HU.out.2.1
            case measure => simp [intOf]; omega
    · obtain rfl : j = q := by omega
      have hall : Ts.take j = Ts := List.take_of_length_le (by rw [HTL.out]; omega)
      have hO := HO.out.1
      have hS := HS.out
      rw [hall] at hO hS
      have hjb : joinB k Ts = true := List.all_eq_true.2 hS
      have hlen := hO.len
      have hBw : Below w.heap.size w wo := HH.out.2.1.trans (HO.out.2.mono HH.out.2.1.size)
      have hcap := hO.cap
      have HF := Lib.hid (And.intro hjb (And.intro hO (And.intro hlen hBw)))
      clear hjb hO hS hlen hBw hall c0
      by_cases hx0 : x < 0
      · go_wp2
        go_ret2
        exact ⟨HF.out.2.2.2, .inr (.inl ⟨HF.out.1, .inl hx0, rfl⟩)⟩
      · by_cases hxN : (N : Int) < x
        · go_wp2
          go_ret2
          exact ⟨HF.out.2.2.2, .inr (.inl ⟨HF.out.1, .inr (by rw [HF.out.2.2.1]; exact hxN), rfl⟩)⟩
        · obtain ⟨z, rfl⟩ := Int.eq_ofNat_of_zero_le (show 0 ≤ x by omega)
          have hsl := slice_hi (E := 5) 31 Try.underlying31 info5 X N xc z (by omega)
          go_wp2
          go_ret2
          exact ⟨HF.out.2.2.2, .inr (.inr ⟨HF.out.1, by omega, by rw [HF.out.2.2.1]; omega, X, xc, rfl, HF.out.2.1.rd.take (by omega)⟩)⟩
end Go.Proofs.Ytobbjeephmfdeaa
namespace Go.Proofs.Ytobbjeephmfdeaa
open Go.RowKit Go.Coop
set_option maxRecDepth 100000
theorem wpList_appT {w : World} {ops : Array Oper} {rest : List Oper} {o : Oper} {a : Act} {Q : Exit → Act → World → Prop} (hgd : o.guard = none) (s x : Operand)
    (ho : o.op = .call { callee := .builtin .append, args := #[s, x], argTypes := #[33, 33] }) {base : Nat}
    {A : Option Addr} {n c : Nat} {Ts : List (List (List UInt8))} (hs : a.eval s = .slice A n c) (hT : TO w base A n c Ts) {X : Option Addr} {d : Nat} (hx : a.eval x = .slice X 1 d)
    {B : Option Addr} {m e : Nat} {T : List (List UInt8)} (hX : RdV w X 1 [.slice B m e]) (hM : MO w base base B m e T) (hn : n ≤ 1000000) (hbase : base ≤ w.heap.size) (N : Nat) (hN : N = n + 1)
    (h : ∀ A' c' w', TO w' base A' N c' (Ts ++ [T]) → w.grownBy w' (A.map (·.block)) → (∀ j, A.map (·.block) = some j → base ≤ j) → wpList Try.prog ops Q rest (a.put o.dst (.slice A' N c')) w') : wpList Try.prog ops Q (o :: rest) a w :=
  wpList_plain hgd fun K hK => by
    have h1 := step_appT (ops := ops) (Q := Q) (K := K) (Z := True) hgd s x ho hs hT hx hX hM hn hbase N hN fun A' c' w' h2 h3 h4 => hK _ _ (h A' c' w' h2 h3 fun j hj => (h4 j hj).1)
    have hw : Region.wanted o (yielded ops a.tmps) = true := by simp [Region.wanted, hgd]
    rw [if_pos hw] at h1
    exact h1
theorem to_lower {w : World} {base base' : Nat} {A : Option Addr} {n c : Nat} {Ts : List (List (List UInt8))} (h : TO w base A n c Ts) (hb : base' ≤ base) : TO w base' A n c Ts := by
  obtain ⟨vs, hv, hr⟩ := h.out
  refine ⟨h.len, vs, ⟨hv.len, hv.row.1, ?_⟩, fun i T hi => by obtain ⟨B, d, h1, h2⟩ := hr i T hi; exact ⟨B, d, h1, h2.lower hb hb⟩⟩
  rcases hv.row.2 with h | ⟨g, cap, cur, h1, h2, h3⟩
  · exact .inl h
  · exact .inr ⟨g, cap, cur, h1, by omega, h3⟩
theorem cut_at {k size c i j : Nat} {l : List UInt8} (h : i * size + j < k * size) : cutF size (pcs (k * size) l c) i j = l.getD (c * (k * size) + i * size + j) 0 := by
  unfold cutF pcs
  rw [List.getD_eq_getElem?_getD, List.getD_eq_getElem?_getD, List.getElem?_take, if_pos h, List.getElem?_drop]
  congr 2
  omega
theorem cut_lt {k size i j : Nat} (hi : i < k) (hj : j < size) : i * size + j < k * size := by
  have h1 : (i + 1) * size ≤ k * size := Nat.mul_le_mul_right _ hi
  have h2 : (i + 1) * size = i * size + size := Nat.succ_mul _ _
  omega
theorem rsplit_arg (A : Option Addr) (n k c : Nat) (bv : Value) (x : Int) (w : World) (hx : x < 1 ∨ 65536 < x) : Calls Try.prog 33 #[CV n k c A, bv, .int .i64 x] w (NotM w 2) := by
  by_cases h : x < 1
  · go_enter Try.func33, Try.ntmps33
    go_wp2
    go_ret2
    exact ⟨rfl, balloc (Below.refl _ _) _⟩
  · have h2 : 65536 < x := by omega
    go_enter Try.func33, Try.ntmps33
    go_wp2
    go_ret2
    exact ⟨rfl, balloc (Below.refl _ _) _⟩
set_option maxHeartbeats 2000000 in
theorem rsplit_yes (A : Option Addr) (n k c0 : Nat) (B : Option Addr) (len cap size : Nat) (l : List UInt8) (w : World) (hk : 1 ≤ k) (hk2 : k ≤ 30) (hB : Rd w B len l) (hlen : len ≤ 100000) (hs1 : 1 ≤ size) (hs2 : size ≤ 65536) :
    Calls Try.prog 33 #[CV n k c0 A, .slice B len cap, .int .i64 (size : Int)] w fun e w' => ∃ X xc, e = .returned (.tuple #[.slice X (nst len (k * size)) xc, .int .i64 0]) ∧ TO w' w.heap.size X (nst len (k * size)) xc ((List.range (nst len (k * size))).map (stripe k size l)) ∧ Below w.heap.size w w' := by
  obtain ⟨K, hK⟩ : ∃ K, k * size = K := ⟨_, rfl⟩
  have hK1 : 1 ≤ K := by rw [← hK]; exact Nat.mul_pos hk hs1
  have hK2 : K ≤ 2000000 := by
    have : k * size ≤ 30 * 65536 := Nat.mul_le_mul hk2 hs2
    omega
  have HKK := Lib.hid hK
  have HB0 := Lib.hid hB
  rw [hK]
  clear hK hB
  go_enter Try.func33, Try.ntmps33
  go_wp2_with fail
  obtain ⟨b3, hb3⟩ : ∃ b3, w.heap.size = b3 := ⟨_, rfl⟩
  obtain ⟨w0, hw0⟩ : ∃ w0, w.alloc (.cells #[.int .i64 (k : Int), .int .i64 (n : Int), .slice A n c0] 49) = w0 := ⟨_, rfl⟩
  have hrow : w0.heap[b3]? = some (.cells #[.int .i64 (k : Int), .int .i64 (n : Int), .slice A n c0] 49 (0, 0)) := by rw [← hw0, ← hb3]; exact cbox w n k c0 A
  have hB0 : Below w.heap.size w w0 := by rw [← hw0]; exact box_below w _
  have hlt3 : b3 < w0.heap.size := (Array.getElem?_eq_some_iff.1 hrow).1
  have HH := Lib.hid (And.intro (load49cells hrow).1 (And.intro hB0 (And.intro hlt3 (HB0.out.below hB0 (Nat.le_refl _)))))
  rw [hw0, hb3]
  clear hw0 hb3 hrow hB0 hlt3
  go_loopw [8, 9] (fun v a wr => ∃ (c pc : Nat) (X : Option Addr) (xc : Nat), a = .int .i64 (pc : Int) ∧ v = .slice X c xc ∧ pc ≤ 3000000 ∧ Hid (pc = c * K ∧ (∀ x, x < c → x * K < len)) ∧ Hid (TO wr w0.heap.size X c xc ((List.range c).map (stripe k size l))) ∧ Hid (Below w0.heap.size w0 wr)) (fun _ a _ => 4000000 - (intOf a).toNat)
  case atStart => exact ⟨0, 0, none, 0, rfl, rfl, by omega, ⟨by omega, by intro x h; omega⟩, TO.nil _ _, Below.refl _ _⟩
  case round =>
    obtain ⟨c, pc, X, xc, rfl, rfl, hpc, HP, HT, HB⟩ := hrel
    obtain ⟨wa, rfl⟩ : ∃ wa : World, wa = wr := ⟨_, rfl⟩
    by_cases hat : pc < len
    · obtain ⟨F, hF⟩ : ∃ F, cutF size (pcs K l c) = F := ⟨_, rfl⟩
      have HF := Lib.hid hF
      clear hF
      go_wp2_with fail
      go_loopw [9, 10, 11] (fun a v i wr => ∃ (q t : Nat) (Y : Option Addr) (yc : Nat), q ≤ k ∧ i = .int .i64 q ∧ a = .int .i64 (t : Int) ∧ v = .slice Y q yc ∧ t ≤ pc + K ∧ Hid (t = pc + q * size) ∧ Hid (MO wr wa.heap.size wa.heap.size Y q yc (tabM q size F)) ∧ Hid (Below wa.heap.size wa wr)) (fun _ _ i _ => k - (intOf i).toNat)
      case atStart => exact ⟨0, pc, none, 0, by omega, rfl, rfl, rfl, by omega, by show pc = pc + 0 * size; omega, MO.nil _ _ _, Below.refl _ _⟩
      case round =>
        obtain ⟨q, t, Y, yc, hq, rfl, rfl, rfl, htK, HT1, HM, HBa⟩ := hrel
        obtain ⟨wb, rfl⟩ : ∃ wb : World, wb = wr := ⟨_, rfl⟩
        have hb0 : Below w0.heap.size w0 wb := HB.out.trans (HBa.out.mono HB.out.size)
        have c3 : wb.cell? ⟨b3, 0, none⟩ = some (.int .i64 (k : Int)) := (hb0.cell (p := ⟨b3, 0, none⟩) HH.out.2.2.1).trans HH.out.1
        have HBb := Lib.hid hb0
        clear hb0
        by_cases hqk : q < k
        · have htq : t + size ≤ pc + K := by
            have h1 : (q + 1) * size ≤ k * size := Nat.mul_le_mul_right _ hqk
            have h2 : (q + 1) * size = q * size + size := Nat.succ_mul _ _
            have := HT1.out
            have := HKK.out
            omega
          go_wp2_with fail
          clear c3
          go_loopw [9, 12, 13] (fun a v jv wr => ∃ (j s : Nat) (Z : Option Addr) (zc : Nat), j ≤ size ∧ jv = .int .i64 j ∧ a = .int .i64 (s : Int) ∧ s = t + j ∧ v = .slice Z j zc ∧ Hid (Go.Coop.Own wr wb.heap.size 5 Z j zc (rowL j (F q))) ∧ Hid (Below wb.heap.size wb wr)) (fun _ _ jv _ => size - (intOf jv).toNat)
          case atStart => exact ⟨0, t, none, 0, by omega, rfl, rfl, by omega, rfl, Own.nil _ _ _, Below.refl _ _⟩
          case round =>
            obtain ⟨j, s, Z, zc, hj, rfl, rfl, hs, rfl, HO, HI⟩ := hrel
            have HS := Lib.hid hs
            have hsB : s ≤ 5000000 := by omega
            clear hs
            by_cases hjs : j < size
            · have hFv : F q j = l.getD s 0 := by
                rw [← HF.out, ← HKK.out, cut_at (cut_lt hqk hjs)]
                congr 1
                have := HT1.out
                have := HP.out.1
                have := HKK.out
                rw [HS.out, HT1.out, HP.out.1, HKK.out]
              have hbs := HI.out.size
              by_cases hsl : s < len
              · have hBw : Below w0.heap.size w0 wr := HBb.out.trans (HI.out.mono HBb.out.size)
                obtain ⟨bd, x, rfl, _, hx, hcx⟩ := (HH.out.2.2.2.below hBw (Nat.le_refl _)).at_ hsl
                have hxe : F q j = x := by rw [hFv, List.getD_eq_getElem?_getD, hx]; rfl
                have HXE := Lib.hid hxe
                unfold BV at hcx
                clear hx hxe hFv hBw
                go_wp2_with (at_builtin; refine wpList_app _ rfl (.tmp 44) (.tmp 46) 31 rfl wb.heap.size 5 Try.underlying31 info5 rfl (HO.out.alloc _) rfl (Rd.one wr ((x.toNat : Nat) : Int) (by omega) (by have := x.toNat_lt; omega) 5 (0, 0)) (by omega) (by simp; omega) (j + 1) rfl ?_; intro Z2 z2 w3 ho hg _)
                have HO3 := Lib.hid (And.intro ho ((HI.out.alloc hbs _).grown hg (by simp; omega) (fun k hk => (HO.out.block k hk).1)))
                clear ho hg hcx
                go_wp2
                go_roundw
                case rel =>
                  refine ⟨j + 1, s + 1, Z2, z2, by omega, by go_num, by go_num, by have := HS.out; omega, rfl, ?_, HO3.out.2⟩
                  have e : UInt8.ofNat ((x.toNat : Nat) : Int).toNat = F q j := by
                    rw [HXE.out]
                    apply UInt8.toNat_inj.1
                    rw [UInt8.toNat_ofNat', Int.toNat_natCast]
                    exact Nat.mod_eq_of_lt x.toNat_lt
                  rw [rowL_snoc, ← e]
                  exact HO3.out.1
                case measure => simp [intOf]; omega
              · have hxe : F q j = 0 := by rw [hFv, List.getD_eq_getElem?_getD, List.getElem?_eq_none (by have := HB0.out.len; omega)]; rfl
                have HXE := Lib.hid hxe
                clear hxe hFv
                go_wp2_with (at_builtin; refine wpList_app _ rfl (.tmp 44) (.tmp 46) 31 rfl wb.heap.size 5 Try.underlying31 info5 rfl (HO.out.alloc _) rfl (Rd.one wr 0 (by omega) (by omega) 5 (0, 0)) (by omega) (by simp; omega) (j + 1) rfl ?_; intro Z2 z2 w3 ho hg _)
                have HO3 := Lib.hid (And.intro ho ((HI.out.alloc hbs _).grown hg (by simp; omega) (fun k hk => (HO.out.block k hk).1)))
                clear ho hg
                go_wp2
                go_roundw
                case rel =>
                  refine ⟨j + 1, s + 1, Z2, z2, by omega, by go_num, by go_num, by have := HS.out; omega, rfl, ?_, HO3.out.2⟩
                  rw [rowL_snoc, HXE.out]
                  exact HO3.out.1
                case measure => simp [intOf]; omega
            · obtain hje : j = size := by omega
              subst hje
              have hbs := HI.out.size
              have hba := HBa.out.size
              have HM2 := Lib.hid (HM.out.below HI.out (Nat.le_refl _))
              have HO2 : Hid (Go.Coop.Own wr wa.heap.size 5 Z j zc (rowL j (F q))) := HO.out.lower hba
              have HBr : Hid (Below wa.heap.size wa wr) := HBa.out.trans (HI.out.mono hba)
              go_wp2_with (at_builtin; refine wpList_appMM _ rfl (.tmp 50) (.tmp 52) 32 Try.underlying32 rfl rfl (HM2.out.alloc _) rfl (lit_one HO2.out) (by omega) (by omega) (by simp; omega) (q + 1) rfl ?_; intro Y2 y2 w3 hM2 hg2)
              have HM3 := Lib.hid (And.intro hM2 ((HBr.out.alloc (by omega) _).grown hg2 (by simp; omega) (fun k hk => (mo_block HM2.out k hk).1)))
              clear hM2 hg2
              go_wp2
              go_roundw
              case rel =>
                refine ⟨q + 1, s, Y2, y2, by omega, by go_num, rfl, rfl, by have := HS.out; omega, ?_, ?_, HM3.out.2⟩
                · show s = pc + (q + 1) * j
                  rw [Nat.succ_mul]
                  have := HT1.out
                  have := HS.out
                  omega
                · rw [tabM_snoc]
                  exact HM3.out.1
              case measure => simp [intOf]; omega
        · obtain hqe : q = k := by omega
          subst hqe
          have hbs := HBa.out.size
          have hb := HB.out.size
          have ht : t = pc + K := by have := HT1.out; have := HKK.out; omega
          have HTK := Lib.hid ht
          clear ht
          have HT2 := Lib.hid (HT.out.below HBa.out (Nat.le_refl _))
          have HM2 := Lib.hid (HM.out.lower hb hb)
          have hcl : c ≤ 100000 := by
            have h1 : c * 1 ≤ c * K := Nat.mul_le_mul_left _ hK1
            have := HP.out.1
            omega
          go_wp2_with (at_builtin; refine wpList_appT rfl (.tmp 54) (.tmp 56) rfl rfl (HT2.out.below (balloc (Below.refl _ _) _) (Nat.le_refl _)) rfl (RdV.one _ _ _ _) (HM2.out.alloc _) (by omega) (by simp; omega) (c + 1) rfl ?_; intro X2 x2 w3 hT2 hg2 hlo)
          have HT3 := Lib.hid (And.intro hT2 ((HBb.out.alloc HBb.out.size _).grown hg2 (by simp; omega) hlo))
          clear hT2 hg2 hlo c3
          go_wp2
          go_roundw
          case rel =>
            refine ⟨c + 1, t, X2, x2, rfl, rfl, by have := HTK.out; omega, ⟨?_, ?_⟩, ?_, HT3.out.2⟩
            · rw [Nat.succ_mul, HTK.out, HP.out.1]
            · intro x hx
              by_cases e : x = c
              · subst e
                have := HP.out.1
                omega
              · exact HP.out.2 x (by omega)
            · rw [List.range_succ, List.map_append]
              have := HT3.out.1
              rw [← HF.out, ← HKK.out] at this
              exact this
          case measure => have := HTK.out; simp [intOf]; omega
    · have hce : c = nst len K := nst_eq hK1 (by have := HP.out.1; omega) HP.out.2
      have HCE := Lib.hid hce
      go_wp2
      go_ret2
      refine ⟨X, xc, ?_, ?_, HH.out.2.1.trans (HB.out.mono HH.out.2.1.size)⟩
      · rw [← HCE.out]
        rfl
      · rw [← HCE.out]
        exact to_lower HT.out HH.out.2.1.size
end Go.Proofs.Ytobbjeephmfdeaa
namespace Go.Proofs.Ytobbjeephmfdeaa
open Go.RowKit Go.Coop
set_option maxRecDepth 100000
theorem copyl_mr (A : Option Addr) (n c : Nat) (L : List (List UInt8)) (w : World) (h : MR w A n L) (hn : n ≤ 1000) (hL : ∀ r ∈ L, r.length ≤ 1000000) :
    Calls Try.prog 23 #[.slice A n c] w fun e w' => ∃ A' c', e = .returned (.slice A' n c') ∧ MR w' A' n L ∧ n ≤ c' ∧ Below w.heap.size w w' := by
  have HM := Lib.hid (And.intro h hL)
  have HLN : Hid (L.length = n) := h.len
  clear h hL
  go_enter Try.func23, Try.ntmps23
  go_wp2
  go_loopw [3, 4] (fun v i wr => ∃ (q : Nat) (A' : Option Addr) (c' : Nat), q ≤ n ∧ i = .int .i64 q ∧ v = .slice A' q c' ∧ Hid (MO wr w.heap.size w.heap.size A' q c' (L.take q)) ∧ Hid (Below w.heap.size w wr)) (fun _ i _ => n - (intOf i).toNat)
  case atStart => exact ⟨0, none, 0, by omega, rfl, rfl, MO.nil _ _ _, Below.refl _ _⟩
  case round =>
    obtain ⟨q, A', c', hq, rfl, rfl, HO, HB⟩ := hrel
    by_cases hlt : q < n
    · obtain ⟨ad, B, dd, rr, rfl, _, hr, hc, hd⟩ := (HM.out.1.below HB.out (Nat.le_refl _)).row hlt
      have hrl := HM.out.2 rr (List.mem_of_getElem? hr)
      obtain ⟨m, hm⟩ : ∃ m, rr.length = m := ⟨_, rfl⟩
      rw [hm] at hc hd hrl
      have HX := Lib.hid (And.intro hd (And.intro hr hm))
      clear hr hd hm
      have hqn : (q : Int) < n := by omega
      go_wp2_with fail
      refine (copy_any B m dd rr wr HX.out.1 (by omega)).mono ?_
      rintro e1 w1 ⟨A1, c1, rfl, ho1, hb1⟩
      have hbs := HB.out.size
      have HO1 := Lib.hid (And.intro ho1 hb1)
      have hz1 := hb1.size
      clear ho1 hb1
      have HM1 := Lib.hid (HO.out.below HO1.out.2 (Nat.le_refl _))
      go_wp2_with (at_builtin; refine wpList_appMM _ rfl (.tmp 11) (.tmp 17) 32 Try.underlying32 rfl rfl (HM1.out.alloc _) rfl (lit_one (HO1.out.1.lower hbs)) (by omega) (by omega) (by simp; omega) (q + 1) rfl ?_; intro A2 c2 w2 hM2 hg2)
      have HH := Lib.hid (And.intro hM2 ((((HB.out.trans (HO1.out.2.mono hbs)).alloc (by omega) _).grown hg2 (by simp; omega) (fun p hp => (mo_block HM1.out p hp).1))))
      clear hM2 hg2
      go_wp2
      go_roundw
      case rel => exact ⟨q + 1, A2, c2, by omega, by go_num, rfl, by rw [List.take_add_one, HX.out.2.1]; exact HH.out.1, HH.out.2⟩
      case measure => simp [intOf]; omega
    · obtain rfl : q = n := by omega
      have e : L.take q = L := List.take_of_length_le (by rw [HLN.out]; omega)
      have hO := HO.out
      rw [e] at hO
      have HO2 := Lib.hid hO
      clear hO e
      go_wp2
      go_ret
      exact ⟨A', c', rfl, HO2.out.mr, by obtain ⟨vs, hv, _⟩ := HO2.out.out; exact hv.cap, HB.out⟩
theorem mr_nil (w : World) (A : Option Addr) : MR w A 0 [] := ⟨rfl, [], RdV.nil _ _, fun i r h => by simp at h⟩
/-- lists told, and an error -/
def TellL (q : Nat) (M : List (List UInt8)) (r : Int) (w : World) (e : Ending) (w' : World) : Prop := ∃ A c, e = .returned (.tuple #[.slice A q c, .int .i64 r]) ∧ MR w' A q M ∧ Below w.heap.size w w'
def TellB (q : Nat) (l : List UInt8) (r : Int) (w : World) (e : Ending) (w' : World) : Prop := ∃ A c, e = .returned (.tuple #[.slice A q c, .int .i64 r]) ∧ Rd w' A q l ∧ Below w.heap.size w w'
theorem NotM.tellL {w : World} {r : Int} {e : Ending} {w' : World} (h : NotM w r e w') : TellL 0 [] r w e w' := ⟨none, 0, h.1, mr_nil _ _, h.2⟩
theorem NotM.tellB {w : World} {r : Int} {e : Ending} {w' : World} (h : NotM w r e w') : TellB 0 [] r w e w' := ⟨none, 0, h.1, Rd.nil _ _, h.2⟩
theorem GotM.tellL {w : World} {n : Nat} {M : List (List UInt8)} {e : Ending} {w' : World} (h : GotM w n M e w') : TellL n M 0 w e w' := by
  obtain ⟨A, c, h1, h2, h3⟩ := h
  exact ⟨A, c, h1, h2.mr, h3⟩
theorem GotB.tellB {w : World} {s : Nat} {l : List UInt8} {e : Ending} {w' : World} (h : GotB w s l e w') : TellB s l 0 w e w' := by
  obtain ⟨A, c, h1, h2, h3⟩ := h
  exact ⟨A, c, h1, h2.rd, h3⟩
theorem stripe_len {m : Nat} {L : List (List UInt8)} (h : stripeB m L = true) : L.length = m ∧ (L.headD []).length ≤ 65536 ∧ L = tabM m (L.headD []).length (matF L) := by
  unfold stripeB at h
  simp only [Bool.and_eq_true, decide_eq_true_eq] at h
  refine ⟨h.1, ?_, level_tab h.1 h.2⟩
  cases L with
  | nil => simp
  | cons r rs => exact (levelB_at h.2 (i := 0) (r := r) rfl).2
theorem enc_both {n k : Nat} (hk : 1 ≤ k) (hkn : k ≤ n) (hn : n ≤ 30) (m : Nat) (L : List (List UInt8)) (hm : m ≤ 1000) (hL : ∀ r ∈ L, r.length ≤ 1000) : ∃ (q : Nat) (M : List (List UInt8)) (r : Int), q ≤ 1000 ∧
    (∀ w g gf A c S d, CodeAt w g n k gf A c → MR w S m L → Calls Try.prog 14 #[.pointer (some ⟨g, 0, none⟩), .slice S m d] w (TellL q M r w)) ∧
    (∀ w A c S d, MR w A n (tabM n k (codF k)) → MR w S m L → Calls Try.prog 24 #[CV n k c A, .slice S m d] w (TellL q M r w)) := by
  have hb : ∀ r ∈ L, r.length ≤ 140737488355328 := fun r hr => by have := hL r hr; omega
  cases hs : stripeB k L
  · exact ⟨0, [], 40, by omega, fun w g gf A c S d hC hS => (enc_no S m d L w hC hS (by omega) hb hs).mono fun e w' h => h.tellL, fun w A c S d hM hS => (renc_no A n k c S m d L w hk (by omega) hS (by omega) hb hs).mono fun e w' h => h.tellL⟩
  · obtain ⟨h1, h2, h3⟩ := stripe_len hs
    refine ⟨n, tabM n (L.headD []).length (mulF k (codF k) (matF L)), 0, by omega, fun w g gf A c S d hC hS => ?_, fun w A c S d hM hS => ?_⟩
    rotate_left
    · have hmk : m = k := by rw [← hS.len]; exact h1
      subst hmk
      rw [h3] at hS
      exact (renc_yes A n m c S d _ (matF L) w hk (by omega) (by omega) h2 hM hS).mono fun e w' h => h.tellL
    · have hmk : m = k := by rw [← hS.len]; exact h1
      subst hmk
      rw [h3] at hS
      exact (enc_yes S d _ (matF L) w hC hS h2).mono fun e w' h => h.tellL
theorem mulF_assoc (k : Nat) (F G D : Fn2) (i j : Nat) : mulF k (mulF k F G) D i j = mulF k F (mulF k G D) i j := by
  apply UInt8.toNat_inj.1
  have h1 := nf_mulF k (mulF k F G) D i j
  have h2 := nf_mulF k F (mulF k G D) i j
  have e1 : nf (mulF k F G) = mm k (nf F) (nf G) := by funext a b; exact nf_mulF k F G a b
  have e2 : nf (mulF k G D) = mm k (nf G) (nf D) := by funext a b; exact nf_mulF k G D a b
  rw [e1] at h1
  rw [e2] at h2
  refine h1.trans (Eq.trans ?_ h2.symm)
  exact mm_assoc k k (nf F) (nf G) (nf D) i j
theorem map_cast_inj {la lb : List Nat} (h : la.map (fun x : Nat => (x : Int)) = lb.map (fun x : Nat => (x : Int))) : la = lb := (List.map_inj_right (fun x y h => by omega)).1 h
/-- what Decode does: it refuses, or these are places -/
theorem dec_cases {n k : Nat} (hk : 1 ≤ k) (hkn : k ≤ n) (hn : n ≤ 30) (mw : Nat) (ls : List Int) (q : Nat) (L : List (List UInt8)) (hmw : mw ≤ 1000) (hq : q ≤ 1000) (hl : ls.length = mw) (hLq : L.length = q) (hL : ∀ r ∈ L, r.length ≤ 1000) :
    ((mw < k ∨ toldB n ls L = false) ∧ (∀ w A c R rc S d, MR w A n (tabM n k (codF k)) → RdV w R mw (ivs ls) → MR w S q L → mw ≤ rc → q ≤ d → Calls Try.prog 26 #[CV n k c A, .slice R mw rc, .slice S q d] w (NotM w 40))) ∨
    (∃ la : List Nat, ls = la.map (fun x : Nat => (x : Int)) ∧ Places n la ∧ mw = q ∧ k ≤ mw ∧ (L.headD []).length ≤ 65536 ∧ L = tabM mw (L.headD []).length (matF L) ∧
      (∀ w A c R rc S d, MR w A n (tabM n k (codF k)) → RdV w R mw (ivs ls) → MR w S q L → mw ≤ rc → q ≤ d → Calls Try.prog 26 #[CV n k c A, .slice R mw rc, .slice S q d] w (GotM w k (tabM k (L.headD []).length (mulF k (invC k (la.take k)) (matF L)))))) := by
  have hb : ∀ r ∈ L, r.length ≤ 140737488355328 := fun r hr => by have := hL r hr; omega
  by_cases h1 : mw ≠ q ∨ mw < k
  · left
    refine ⟨?_, fun w A c R rc S d _ _ _ _ _ => rdec_len A n k c R mw rc S q d w h1⟩
    by_cases h2 : mw < k
    · exact .inl h2
    · right
      unfold toldB
      rw [decide_eq_false (by omega)]
      rfl
  · have hmq : mw = q := by omega
    have hkm : k ≤ mw := by omega
    subst hmq
    cases hs : stripeB mw L
    · left
      refine ⟨.inr ?_, fun w A c R rc S d hM hR hS hrc hd => rdec_no A n k c R mw rc S d L w hk hkm (by omega) hS hb hs⟩
      unfold stripeB at hs
      rw [decide_eq_true hLq, Bool.true_and] at hs
      unfold toldB
      rw [hs]
      simp
    · obtain ⟨g1, g2, g3⟩ := stripe_len hs
      by_cases hp : IsPl n ls
      · right
        obtain ⟨la, hla, hpl⟩ := hp
        refine ⟨la, hla, hpl, rfl, hkm, g2, g3, fun w A c R rc S d hM hR hS hrc hd => ?_⟩
        rw [g3] at hS
        refine (rdec_any A n k c R mw rc ls S d _ (matF L) w hk hkn (by omega) hkm (by omega) hrc hd g2 hM hR hS).mono fun e w' h => ?_
        rcases h with ⟨lb, h1, h2, h3⟩ | ⟨h1, _⟩
        · have : la = lb := map_cast_inj (hla.symm.trans h1)
          rw [this]
          exact h3
        · exact absurd ⟨la, hla, hpl⟩ h1
      · left
        refine ⟨.inr ?_, fun w A c R rc S d hM hR hS hrc hd => ?_⟩
        · have : ¬ cnt n ls = ls.length := fun h => hp ((cnt_places n ls).1 h)
          unfold toldB
          rw [decide_eq_false this]
          simp
        · rw [g3] at hS
          refine (rdec_any A n k c R mw rc ls S d _ (matF L) w hk hkn (by omega) hkm (by omega) hrc hd g2 hM hR hS).mono fun e w' h => ?_
          rcases h with ⟨lb, h1, h2, h3⟩ | ⟨_, h2⟩
          · exact absurd ⟨lb, h1, h2⟩ hp
          · exact h2
theorem dec_both {n k : Nat} (hk : 1 ≤ k) (hkn : k ≤ n) (hn : n ≤ 30) (mw : Nat) (ls : List Int) (q : Nat) (L : List (List UInt8)) (hmw : mw ≤ 1000) (hq : q ≤ 1000) (hl : ls.length = mw) (hLq : L.length = q) (hL : ∀ r ∈ L, r.length ≤ 1000) (i : Int) : ∃ (Q : Nat) (M : List (List UInt8)) (r : Int) (s : Nat) (b : List UInt8) (t : Int), Q ≤ 1000 ∧
    (∀ w g gf A c R rc S d, CodeAt w g n k gf A c → RdV w R mw (ivs ls) → MR w S q L → mw ≤ rc → Calls Try.prog 25 #[.pointer (some ⟨g, 0, none⟩), .slice R mw rc, .slice S q d] w (TellL Q M r w)) ∧
    (∀ w A c R rc S d, MR w A n (tabM n k (codF k)) → RdV w R mw (ivs ls) → MR w S q L → mw ≤ rc → q ≤ d → Calls Try.prog 26 #[CV n k c A, .slice R mw rc, .slice S q d] w (TellL Q M r w)) ∧
    (∀ w g gf A c R rc S d, CodeAt w g n k gf A c → RdV w R mw (ivs ls) → MR w S q L → mw ≤ rc → Calls Try.prog 17 #[.pointer (some ⟨g, 0, none⟩), .slice R mw rc, .slice S q d, .int .i64 i] w (TellB s b t w)) ∧
    (∀ w A c R rc S d, n ≤ c → MR w A n (tabM n k (codF k)) → RdV w R mw (ivs ls) → MR w S q L → mw ≤ rc → q ≤ d → Calls Try.prog 27 #[CV n k c A, .slice R mw rc, .slice S q d, .int .i64 i] w (TellB s b t w)) := by
  have hb : ∀ r ∈ L, r.length ≤ 140737488355328 := fun r hr => by have := hL r hr; omega
  have hbox : ∀ (w : World) (A : Option Addr) (c : Nat), Below w.heap.size w (w.alloc (.cells #[.int .i64 (k : Int), .int .i64 (n : Int), .slice A n c] 49)) := fun w A c => box_below w _
  rcases dec_cases hk hkn hn mw ls q L hmw hq hl hLq hL with ⟨h1, h2⟩ | ⟨la, h1, h2, h3, h4, h5, h6, h7⟩
  · exact ⟨0, [], 40, 0, [], 40, by omega, fun w g gf A c R rc S d hC hR hS hrc => (dec_no R mw rc ls S q d L w hC hR hS (by omega) (by omega) hb h1).mono fun e w' h => h.tellL,
      fun w A c R rc S d hM hR hS hrc hd => (h2 w A c R rc S d hM hR hS hrc hd).mono fun e w' h => h.tellL,
      fun w g gf A c R rc S d hC hR hS hrc => (reb_no R mw rc ls S q d L i w hC hR hS (by omega) (by omega) hb h1).mono fun e w' h => h.tellB,
      fun w A c R rc S d hc hM hR hS hrc hd => (rreb_no A n k c _ _ i w (h2 _ A c R rc S d (hM.below (hbox w A c) (Nat.le_refl _)) (hR.below (hbox w A c) (Nat.le_refl _)) (hS.below (hbox w A c) (Nat.le_refl _)) hrc hd)).mono fun e w' h => h.tellB⟩
  · subst h3
    have hnv : ∀ w R, RdV w R mw (ivs ls) → RdV w R mw (nvs la) := fun w R h => by rw [h1] at h; rwa [nvs_ivs]
    have hd1 : ∀ w g gf A c R rc S d, CodeAt w g n k gf A c → RdV w R mw (ivs ls) → MR w S mw L → mw ≤ rc → Calls Try.prog 25 #[.pointer (some ⟨g, 0, none⟩), .slice R mw rc, .slice S mw d] w (TellL k (tabM k (L.headD []).length (mulF k (invC k (la.take k)) (matF L))) 0 w) := fun w g gf A c R rc S d hC hR hS hrc => by
      rw [h6] at hS
      exact (dec_yes R mw rc la S d _ (matF L) w hC (hnv w R hR) hS h5 (by omega) hrc h2 h4).mono fun e w' h => h.tellL
    by_cases hi : i < 0 ∨ (n : Int) ≤ i
    · refine ⟨k, _, 0, 0, [], 2, by omega, hd1, fun w A c R rc S d hM hR hS hrc hd => (h7 w A c R rc S d hM hR hS hrc hd).mono fun e w' h => h.tellL, fun w g gf A c R rc S d hC hR hS hrc => ?_, fun w A c R rc S d hc hM hR hS hrc hd => ?_⟩
      · rw [h6] at hS
        exact (reb_arg R mw rc la S d _ (matF L) i w hC (hnv w R hR) hS h5 (by omega) hrc h2 h4 hi).mono fun e w' h => h.tellB
      · exact (rreb_arg A n k c _ _ i w hi _ (h7 _ A c R rc S d (hM.below (hbox w A c) (Nat.le_refl _)) (hR.below (hbox w A c) (Nat.le_refl _)) (hS.below (hbox w A c) (Nat.le_refl _)) hrc hd)).mono fun e w' h => h.tellB
    · obtain ⟨z, rfl⟩ := Int.eq_ofNat_of_zero_le (show 0 ≤ i by omega)
      refine ⟨k, _, 0, (L.headD []).length, rowL (L.headD []).length (mulF k (fun _ => codF k z) (mulF k (invC k (la.take k)) (matF L)) 0), 0, by omega, hd1, fun w A c R rc S d hM hR hS hrc hd => (h7 w A c R rc S d hM hR hS hrc hd).mono fun e w' h => h.tellL, fun w g gf A c R rc S d hC hR hS hrc => ?_, fun w A c R rc S d hc hM hR hS hrc hd => ?_⟩
      · rw [h6] at hS
        have e : (mulF k (mulF k (fun _ => codF k z) (invC k (la.take k))) (matF L) 0) = (mulF k (fun _ => codF k z) (mulF k (invC k (la.take k)) (matF L)) 0) := by funext j; exact mulF_assoc _ _ _ _ _ _
        have hr := reb_yes R mw rc la S d _ (matF L) z w hC (hnv w R hR) hS h5 (by omega) hrc h2 h4 (by omega)
        rw [e] at hr
        exact hr.mono fun e w' h => h.tellB
      · exact (rreb_yes A n k c _ _ z _ _ w (by omega) (by omega) hc hk (by omega) h5 hM (h7 _ A c R rc S d (hM.below (hbox w A c) (Nat.le_refl _)) (hR.below (hbox w A c) (Nat.le_refl _)) (hS.below (hbox w A c) (Nat.le_refl _)) hrc hd)).mono fun e w' h => h.tellB
def TellT (q : Nat) (Ts : List (List (List UInt8))) (r : Int) (w : World) (e : Ending) (w' : World) : Prop := ∃ A c, e = .returned (.tuple #[.slice A q c, .int .i64 r]) ∧ TR w' A q Ts ∧ Below w.heap.size w w'
theorem split_both {n k : Nat} (hk : 1 ≤ k) (hkn : k ≤ n) (hn : n ≤ 30) (len : Nat) (l : List UInt8) (hlen : len ≤ 200) (x : Int) : ∃ (q : Nat) (Ts : List (List (List UInt8))) (r : Int), q ≤ 200 ∧ (∀ U ∈ Ts, U.length ≤ 30 ∧ ∀ s ∈ U, s.length ≤ 65536) ∧
    (∀ w g gf A c B cap, CodeAt w g n k gf A c → Rd w B len l → len ≤ cap → Calls Try.prog 18 #[.pointer (some ⟨g, 0, none⟩), .slice B len cap, .int .i64 x] w (TellT q Ts r w)) ∧
    (∀ w A c B cap, Rd w B len l → Calls Try.prog 33 #[CV n k c A, .slice B len cap, .int .i64 x] w (TellT q Ts r w)) := by
  by_cases hx : x < 1 ∨ 65536 < x
  · exact ⟨0, [], 2, by omega, by simp, fun w g gf A c B cap hC hB hcap => (split_arg B len cap x w hC hx).mono fun e w' h => ⟨none, 0, h.1, TR.nil _ _, h.2⟩, fun w A c B cap hB => (rsplit_arg A n k c _ x w hx).mono fun e w' h => ⟨none, 0, h.1, TR.nil _ _, h.2⟩⟩
  · obtain ⟨size, rfl⟩ := Int.eq_ofNat_of_zero_le (show 0 ≤ x by omega)
    refine ⟨nst len (k * size), (List.range (nst len (k * size))).map (stripe k size l), 0, ?_, ?_, fun w g gf A c B cap hC hB hcap => (split_yes B len cap size l w hC hB hcap (by omega) (by omega) (by omega)).mono fun e w' ⟨X, xc, h1, h2, h3⟩ => ⟨X, xc, h1, h2.tr, h3⟩, fun w A c B cap hB => (rsplit_yes A n k c B len cap size l w hk (by omega) hB (by omega) (by omega) (by omega)).mono fun e w' ⟨X, xc, h1, h2, h3⟩ => ⟨X, xc, h1, h2.tr, h3⟩⟩
    · unfold nst
      have hK : 1 ≤ k * size := Nat.mul_pos hk (by omega)
      obtain ⟨K, hKK⟩ : ∃ K, k * size = K := ⟨_, rfl⟩
      rw [hKK] at hK ⊢
      refine Nat.le_of_lt_succ ((Nat.div_lt_iff_lt_mul (by omega)).2 ?_)
      have : 201 * K ≥ 200 * 1 + K := by omega
      show len + K - 1 < 201 * K
      omega
    · intro U hU
      obtain ⟨y, _, rfl⟩ := List.mem_map.1 hU
      unfold stripe
      refine ⟨by rw [tabM_len]; omega, fun s hs => by rw [tab_short s hs]; omega⟩
theorem flatten_len {α : Type} {b : Nat} : ∀ {L : List (List α)}, (∀ x ∈ L, x.length ≤ b) → L.flatten.length ≤ L.length * b
  | [], _ => by simp
  | x :: L, h => by
    have h1 := flatten_len (L := L) fun y hy => h y (List.mem_cons_of_mem _ hy)
    have h2 := h x (List.mem_cons_self ..)
    rw [List.flatten_cons, List.length_append, List.length_cons, Nat.succ_mul]
    omega
theorem join_both {n k : Nat} (hk : 1 ≤ k) (hn : n ≤ 30) (hkn : k ≤ n) (q : Nat) (Ts : List (List (List UInt8))) (hq : q ≤ 200) (hTs : Ts.length = q) (hT : ∀ U ∈ Ts, U.length ≤ 30 ∧ ∀ s ∈ U, s.length ≤ 65536) (x : Int) : ∃ (s : Nat) (b : List UInt8) (r : Int),
    (∀ w g gf A c S d, CodeAt w g n k gf A c → TR w S q Ts → Calls Try.prog 19 #[.pointer (some ⟨g, 0, none⟩), .slice S q d, .int .i64 x] w (TellB s b r w)) ∧
    (∀ w A c S d, TR w S q Ts → Calls Try.prog 34 #[CV n k c A, .slice S q d, .int .i64 x] w (TellB s b r w)) := by
  have ht : Ts.flatten.flatten.length ≤ 1000000000 := by
    have h1 := flatten_len (L := Ts) (b := 30) fun U hU => (hT U hU).1
    have h2 := flatten_len (L := Ts.flatten) (b := 65536) fun s hs => by
      obtain ⟨U, hU, hs⟩ := List.mem_flatten.1 hs
      exact (hT U hU).2 s hs
    omega
  have hL1 : ∀ T ∈ Ts, T.length ≤ 140737488355328 ∧ ∀ r ∈ T, r.length ≤ 140737488355328 := fun T hT' => ⟨by have := (hT T hT').1; omega, fun r hr => by have := (hT T hT').2 r hr; omega⟩
  have hL2 : ∀ T ∈ Ts, T.length ≤ 1000000 ∧ ∀ r ∈ T, r.length ≤ 140737488355328 := fun T hT' => ⟨by have := (hT T hT').1; omega, (hL1 T hT').2⟩
  cases hj : joinB k Ts
  · refine ⟨0, [], 40, fun w g gf A c S d hC hS => (join_any S q d Ts x w hC hS (by omega) hL1).mono fun e w' h => ?_, fun w A c S d hS => (rjoin_any A n k c S q d Ts x w hk (by omega) hS (by omega) ht hL2).mono fun e w' h => ?_⟩
    all_goals
      obtain ⟨hB, h⟩ := h
      rcases h with h | h | h
      · exact ⟨none, 0, h.2, Rd.nil _ _, hB⟩
      · exact absurd (hj.symm.trans h.1) (by decide)
      · exact absurd (hj.symm.trans h.1) (by decide)
  · by_cases hx : x < 0 ∨ (Ts.flatten.flatten.length : Int) < x
    · refine ⟨0, [], 11, fun w g gf A c S d hC hS => (join_any S q d Ts x w hC hS (by omega) hL1).mono fun e w' h => ?_, fun w A c S d hS => (rjoin_any A n k c S q d Ts x w hk (by omega) hS (by omega) ht hL2).mono fun e w' h => ?_⟩
      all_goals
        obtain ⟨hB, h⟩ := h
        rcases h with h | h | h
        · exact absurd (hj.symm.trans h.1) (by decide)
        · exact ⟨none, 0, h.2.2, Rd.nil _ _, hB⟩
        · obtain ⟨_, h1, h2, _⟩ := h
          omega
    · refine ⟨x.toNat, Ts.flatten.flatten.take x.toNat, 0, fun w g gf A c S d hC hS => (join_any S q d Ts x w hC hS (by omega) hL1).mono fun e w' h => ?_, fun w A c S d hS => (rjoin_any A n k c S q d Ts x w hk (by omega) hS (by omega) ht hL2).mono fun e w' h => ?_⟩
      all_goals
        obtain ⟨hB, h⟩ := h
        rcases h with h | h | h
        · exact absurd (hj.symm.trans h.1) (by decide)
        · exact absurd h.2.1 hx
        · obtain ⟨_, _, _, B, cb, h1, h2⟩ := h
          exact ⟨B, cb, h1, h2, hB⟩
end Go.Proofs.Ytobbjeephmfdeaa
