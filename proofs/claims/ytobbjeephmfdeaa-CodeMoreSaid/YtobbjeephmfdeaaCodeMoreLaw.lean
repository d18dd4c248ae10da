/- For all stripes x (numbers and bytes), all bytes by and all bytes turn the law CodeMore returns true: of more than k shards the first k count. No condition. -/
import Derived.Test.YtobbjeephmfdeaaRows
import Derived.Test.YtobbjeephmfdeaaLawF
import Derived.Test.YtobbjeephmfdeaaArgsN
import Derived.Test.YtobbjeephmfdeaaArgs
import Derived.WalkKit
import Derived.ProofKit
import Derived.OpenShut
import Derived.ShutString
import Derived.ChangeOld
import Derived.Below
namespace Go.Proofs.Ytobbjeephmfdeaa
open Go.RowKit Go.Coop
set_option maxRecDepth 100000

/-- the rows from k up to q turned -/
def moreF (k q : Nat) (t : UInt8) (P : Fn2) : Fn2 := fun a b => if k ≤ a ∧ a < q then P a b ^^^ t else P a b
/-- and the first elements of row q -/
def moreG (k q j : Nat) (t : UInt8) (P : Fn2) : Fn2 := fun a b => if (k ≤ a ∧ a < q) ∨ (a = q ∧ b < j) then P a b ^^^ t else P a b
theorem more_first {k t} {P : Fn2} : moreF k k t P = P := by
  funext a b
  unfold moreF
  rw [if_neg (by omega)]
theorem more_start {k q t} {P : Fn2} : moreG k q 0 t P = moreF k q t P := by
  funext a b
  unfold moreF moreG
  by_cases h : k ≤ a ∧ a < q
  · rw [if_pos (.inl h), if_pos h]
  · rw [if_neg h, if_neg (by omega)]
theorem more_at {k q j t} {P : Fn2} : moreG k q j t P q j = P q j := by
  unfold moreG
  rw [if_neg (by omega)]
theorem more_step {k q j t} {P : Fn2} : (fun a b => if a = q ∧ b = j then P q j ^^^ t else moreG k q j t P a b) = moreG k q (j + 1) t P := by
  funext a b
  unfold moreG
  by_cases h : a = q ∧ b = j
  · rw [if_pos h, if_pos (.inr ⟨h.1, by omega⟩), h.1, h.2]
  · rw [if_neg h]
    by_cases h2 : (k ≤ a ∧ a < q) ∨ (a = q ∧ b < j)
    · rw [if_pos h2, if_pos (by omega)]
    · rw [if_neg h2, if_neg (by omega)]
theorem more_end {k q s t} {P : Fn2} {a b : Nat} (hk : k ≤ q) (hb : b < s) : moreG k q s t P a b = moreF k (q + 1) t P a b := by
  unfold moreF moreG
  by_cases h : k ≤ a ∧ a < q + 1
  · rw [if_pos h, if_pos (by omega)]
  · rw [if_neg h, if_neg (by omega)]
theorem more_low {k q t r p} {P : Fn2} (h : r < k) : moreF k q t P r p = P r p := by
  unfold moreF
  rw [if_neg (by omega)]
theorem Apart.congr {w : World} {s q k c : Nat} {A : Option Addr} {F F' : Fn2} {r d : Nat → Nat} (h : Apart w s q k A c F r d) (e : ∀ a b, a < q → b < k → F a b = F' a b) : Apart w s q k A c F' r d :=
  ⟨h.own, fun i hi => by
    obtain ⟨cr, h1, h2⟩ := h.cells i hi
    exact ⟨cr, h1, fun j hj => by rw [← e i j hi hj]; exact h2 j hj⟩, h.lo, h.inj⟩
set_option maxHeartbeats 4000000 in
theorem more_law (kz mz sz : Nat) (B : Option Addr) (m d : Nat) (l : List UInt8) (By : Option Addr) (mb db : Nat) (lb : List UInt8) (z : Nat) (w : World) (hX : Rd w B m l) (hmd : m ≤ d) (hY : Rd w By mb lb) (h1 : kz < 256) (h2 : mz < 256) (h3 : sz < 256) (h4 : z < 256) :
    Calls Try.prog 7 #[.agg #[.int .u8 (kz : Int), .int .u8 (mz : Int), .int .u8 (sz : Int), .slice B m d], .slice By mb db, .int .u8 (z : Int)] w fun e w' => e = .returned (.bool true) ∧ Below w.heap.size w w' := by
  obtain ⟨k, hk⟩ : ∃ k, k = 1 + kz % 8 := ⟨_, rfl⟩
  obtain ⟨n, hn⟩ : ∃ n, n = 1 + kz % 8 + mz % 9 := ⟨_, rfl⟩
  obtain ⟨s, hs⟩ : ∃ s, s = sz % 21 := ⟨_, rfl⟩
  have hk1 : 1 ≤ k := by omega
  have hk8 : k ≤ 8 := by omega
  have hkn : k ≤ n := by omega
  have hn16 : n ≤ 16 := by omega
  have hs20 : s ≤ 20 := by omega
  have HY0 := Lib.hid hY
  clear hY
  go_enter Try.func7, Try.ntmps7
  go_wp2_with fail
  refine (lmade_k kz mz sz k n s B m d l (w.alloc _) (hX.alloc _) hmd (by omega) (by omega) (by omega) hk hn hs).mono ?_
  rintro e w1 ⟨g, gf, A, c, S, dS, rfl, hC, hM, hkd, hB⟩
  have hW : Below w.heap.size w w1 := bhop (balloc (Below.refl w.heap.size w) _) hB
  have HY1 := Lib.hid (HY0.out.below hW (Nat.le_refl _))
  have HB1 : Hid (Below w.heap.size w w1) := hW
  have HC1 := Lib.hid (hC)
  have HD1 := Lib.hid (hM.mr)
  clear hW HY0
  clear hC hM hB hX hk hn hs
  go_wp2_with fail
  refine (enc_yes (g := g) S dS s (cutF s l) w1 HC1.out HD1.out (by omega)).mono ?_
  rintro e w2 ⟨Ae, ce, rfl, hM, hB⟩
  have hnc := hM.capn
  have hW : Below w1.heap.size w1 w2 := hB
  have HY2 := Lib.hid (HY1.out.below hW (Nat.le_refl _))
  have HC2 := Lib.hid (HC1.out.below hW (Nat.le_refl _))
  have HD2 := Lib.hid (HD1.out.below hW (Nat.le_refl _))
  have HB2 : Hid (Below w.heap.size w w2) := HB1.out.trans (hW.mono HB1.out.size)
  have HE2 := Lib.hid ((show MR w2 Ae n (tabM n s (encF k (cutF s l))) from hM.mr))
  clear hW HY1 HC1 HD1 HB1
  clear hM hB
  go_wp2_with (first | (go_at_call 13; refine (all_yes _ HC2.out).mono ?_; rintro e w' ⟨rfl, rfl⟩) | (go_at_call 12; refine (need_yes _ HC2.out).mono ?_; rintro e w' ⟨rfl, rfl⟩))
  refine (lpicked_any By mb db lb n n w2 HY2.out (Nat.le_refl _) (by omega) (by omega)).mono ?_
  rintro e w3 ⟨la, Ap, cp, rfl, hla, hp, hO, hB⟩
  have hkp := hO.cap
  have HPl := Lib.hid hp
  have HLA := Lib.hid hla
  have HC3 := Lib.hid (HC2.out.below hB (Nat.le_refl _))
  have HD3 := Lib.hid (HD2.out.below hB (Nat.le_refl _))
  have HE3 := Lib.hid (HE2.out.below hB (Nat.le_refl _))
  have HB3 : Hid (Below w.heap.size w w3) := HB2.out.trans (hB.mono HB2.out.size)
  have HP3 := Lib.hid hO.rd
  clear hB hO hp hla HC2 HD2 HE2 HY2 HB2
  go_wp2_with (first | (go_at_call 13; refine (all_yes _ HC3.out).mono ?_; rintro e w' ⟨rfl, rfl⟩) | (go_at_call 12; refine (need_yes _ HC3.out).mono ?_; rintro e w' ⟨rfl, rfl⟩))
  refine (lsome_any Ae n ce s (encF k (cutF s l)) Ap n cp la w3 HE3.out HP3.out (fun x hx => by obtain ⟨i, hi⟩ := List.getElem?_of_mem hx; exact HPl.out.lt i x hi) (by omega)).mono ?_
  rintro e w4 ⟨Bs, es, rfl, hes, hM, hB⟩
  have HC4 := Lib.hid (HC3.out.below hB (Nat.le_refl _))
  have HD4 := Lib.hid (HD3.out.below hB (Nat.le_refl _))
  have HP4 := Lib.hid (HP3.out.below hB (Nat.le_refl _))
  have HB4 : Hid (Below w.heap.size w w4) := HB3.out.trans (hB.mono HB3.out.size)
  have HQ4 := Lib.hid hM
  clear hB hM HC3 HD3 HE3 HP3 HB3
  obtain ⟨P, hP⟩ : ∃ P, pickF la (encF k (cutF s l)) = P := ⟨_, rfl⟩
  rw [hP] at HQ4
  have HPP := Lib.hid hP
  clear hP
  go_wp2_with fail
  have hs4 := HB4.out.size
  by_cases hs0 : s = 0
  · have HQ0 := Lib.hid (HQ4.out)
    refine (copym_any Bs n es _ w4 HQ0.out (by omega) (fun r hr => by rw [tab_short r hr]; omega)).mono ?_
    rintro e w5 ⟨A5, c5, rfl, hM, hB⟩
    have hn5 := hM.capn
    have HM5 := Lib.hid hM.mr
    have HB5 := Lib.hid hB
    have HC5 := Lib.hid (HC4.out.below hB (Nat.le_refl _))
    clear hM hB HQ4
    subst hs0
    go_wp2_with (go_at_call 12; refine (need_yes _ HC5.out).mono ?_; rintro e w' ⟨rfl, rfl⟩)
    go_loopw [14] (fun i wr => ∃ q : Nat, k ≤ q ∧ q ≤ n ∧ i = .int .i64 q ∧ Hid (Below w5.heap.size w5 wr)) (fun i _ => n - (intOf i).toNat)
    case atStart => exact ⟨k, Nat.le_refl _, hkn, rfl, Below.refl _ _⟩
    case round =>
      obtain ⟨q, hkq, hqn, rfl, HW⟩ := hrel
      have HMx := Lib.hid (HM5.out.below HW.out (Nat.le_refl _))
      have HBW : Hid (Below w4.heap.size w4 wr) := HB5.out.trans (HW.out.mono HB5.out.size)
      by_cases hlt : q < n
      · obtain ⟨a1, B1, d1, r1, rfl, hb1, hr1, hc1, _⟩ := HMx.out.row hlt
        rw [tabM_at _ _ hlt] at hr1
        injection hr1 with hr1
        rw [← hr1, rowL_len] at hc1
        have hlt2 : (q : Int) < n := by omega
        have hq0 : (0 : Int) ≤ (q : Int) := by omega
        clear hr1
        go_wp2
        go_loopw [71] (fun i wr' => i = .int .i64 0 ∧ Hid (Below w5.heap.size w5 wr')) (fun _ _ => 0)
        case atStart => exact ⟨rfl, HW.out⟩
        case round =>
          obtain ⟨rfl, HW2⟩ := hrel
          go_wp2
          go_roundw
          case rel => exact ⟨q + 1, by omega, by omega, by go_num, HW2.out⟩
          case measure => simp [intOf]; omega
      · obtain rfl : q = n := by omega
        have HCx := Lib.hid (HC4.out.below HBW.out (Nat.le_refl _))
        have HDx := Lib.hid (HD4.out.below HBW.out (Nat.le_refl _))
        have HPx := Lib.hid (HP4.out.below HBW.out (Nat.le_refl _))
        have HBx : Hid (Below w.heap.size w wr) := HB4.out.trans (HBW.out.mono hs4)
        go_wp2_with fail
        refine (dec_yes (g := g) Ap q cp la A5 c5 0 P wr HCx.out HPx.out HMx.out (by omega) (by omega) hkp HPl.out hkn).mono ?_
        rintro e w7 ⟨Ad, cd, rfl, hM, hB⟩
        have e7 : tabM k 0 (mulF k (invC k (la.take k)) P) = tabM k 0 (cutF 0 l) := tabM_congr fun i j hi hj => dec_back (by omega) hkn HPl.out (by rw [HLA.out]; exact hkn) hi fun r hr => by rw [HPP.out]
        rw [e7] at hM
        clear e7
        have HD7 := Lib.hid (HDx.out.below hB (Nat.le_refl _))
        have HB7 : Hid (Below w.heap.size w w7) := HBx.out.trans (hB.mono HBx.out.size)
        have HG7 := Lib.hid hM.mr
        clear hB hM
        go_wp2_with fail
        refine (lists_b Ad k cd (tabM k 0 (cutF 0 l)) S dS w7 HG7.out HD7.out (by omega)).mono ?_
        rintro e w8 ⟨rfl, hB⟩
        have HB8 : Hid (Below w.heap.size w w8) := HB7.out.trans (hB.mono HB7.out.size)
        clear hB
        go_wp2_with fail
        refine (awake_any w8).mono ?_
        rintro e w9 ⟨rfl, hB⟩
        go_wp2
        go_ret
        exact ⟨rfl, HB8.out.trans (hB.mono HB8.out.size)⟩
  · have hs1 : 1 ≤ s := by omega
    refine (copyl_any Bs n es s P w4 HQ4.out (by omega) hs1 (by omega)).mono ?_
    rintro e w5 ⟨A5, c5, r, dd, rfl, hA, hB⟩
    obtain ⟨g5, cur, rfl, hg5, _⟩ := hA.addr (by omega)
    have hn5 := hA.own.cap
    have HA5 := Lib.hid hA
    have HB5 := Lib.hid hB
    have HC5 := Lib.hid (HC4.out.below hB (Nat.le_refl _))
    clear hA hB HQ4
    go_wp2_with (go_at_call 12; refine (need_yes _ HC5.out).mono ?_; rintro e w' ⟨rfl, rfl⟩)
    go_loopw [14] (fun i wr => ∃ q : Nat, k ≤ q ∧ q ≤ n ∧ i = .int .i64 q ∧ Hid (Apart wr w4.heap.size n s (some ⟨g5, 0, none⟩) c5 (moreF k q (UInt8.ofNat z) P) r dd) ∧ Hid (Below w4.heap.size w4 wr)) (fun i _ => n - (intOf i).toNat)
    case atStart => exact ⟨k, Nat.le_refl _, hkn, rfl, by rw [more_first]; exact HA5.out, HB5.out⟩
    case round =>
      obtain ⟨q, hkq, hqn, rfl, HA, HBW⟩ := hrel
      have HMx := Lib.hid HA.out.mr
      by_cases hlt : q < n
      · have hc1 := HA.out.cell rfl hlt
        have hlt2 : (q : Int) < n := by omega
        have hq0 : (0 : Int) ≤ (q : Int) := by omega
        go_wp2
        go_loopw [71] (fun i wr => ∃ j : Nat, j ≤ s ∧ i = .int .i64 j ∧ Hid (Apart wr w4.heap.size n s (some ⟨g5, 0, none⟩) c5 (moreG k q j (UInt8.ofNat z) P) r dd) ∧ Hid (Below w4.heap.size w4 wr)) (fun i _ => s - (intOf i).toNat)
        case atStart => exact ⟨0, by omega, rfl, by rw [more_start]; exact HA.out, HBW.out⟩
        case round =>
          obtain ⟨j, hj, rfl, HAi, HBi⟩ := hrel
          by_cases hjs : j < s
          · clear hc1 HA HMx
            obtain ⟨g5', cur, eg, _, hcur⟩ := HAi.out.addr (by omega)
            injection eg with eg
            injection eg with eg _ _
            subst eg
            have hc5 := HAi.out.cell rfl hlt
            obtain ⟨hc6, hf6⟩ := HAi.out.elem hlt hjs
            rw [more_at] at hc6
            obtain ⟨x, hx⟩ : ∃ x, P q j = x := ⟨_, rfl⟩
            rw [hx] at hc6
            have HXX := Lib.hid hx
            have hjs2 : (j : Int) < s := by omega
            have hj0 : (0 : Int) ≤ (j : Int) := by omega
            have hne5 : g5 ≠ r q := fun e => by
              obtain ⟨cr, q1, _⟩ := HAi.out.cells q hlt
              rw [← e, hcur] at q1
              injection q1 with q1
              injection q1 with _ q1 _
              cases q1
            have HS5 : Hid (∀ v, (wr.setCell ⟨r q, j, none⟩ v).cell? ⟨g5, q, none⟩ = some (.slice (some ⟨r q, 0, none⟩) s (dd q))) := fun v => by
              rw [cell_of_row _ g5 q cur 31 (0, 0) ((Below.heap_setCell _ _ _ _ hne5).trans hcur), ← cell_of_row _ g5 q cur 31 (0, 0) hcur]
              exact hc5
            clear hx hcur hne5
            have HA6 : Hid (Apart (wr.setCell ⟨r q, j, none⟩ (Value.int .u8 (bits BinOp.xor IntKind.u8 (x.toNat : Int) (z : Int)))) w4.heap.size n s (some ⟨g5, 0, none⟩) c5 (moreG k q (j + 1) (UInt8.ofNat z) P) r dd) := by
              have h0 := HAi.out.set (j := j) hlt (x ^^^ UInt8.ofNat z)
              rw [← u8_turn x z h4, ← HXX.out, more_step] at h0
              rw [← HXX.out]
              exact h0
            have HBD : Hid (Below w4.heap.size w4 (wr.setCell ⟨r q, j, none⟩ (Value.int .u8 (bits BinOp.xor IntKind.u8 (x.toNat : Int) (z : Int))))) := HAi.out.setBelow HBi.out (Nat.le_refl _) hlt _
            clear HAi HXX HS5 HBi
            go_wp2_with fail
            go_roundw
            case rel => exact ⟨j + 1, by omega, by go_num, HA6.out, HBD.out⟩
            case measure => simp [intOf]; omega
          · obtain rfl : j = s := by omega
            go_wp2
            go_roundw
            case rel => exact ⟨q + 1, by omega, by omega, by go_num, HAi.out.congr fun a b _ hb => more_end hkq hb, HBi.out⟩
            case measure => simp [intOf]; omega
      · obtain rfl : q = n := by omega
        have HCx := Lib.hid (HC4.out.below HBW.out (Nat.le_refl _))
        have HDx := Lib.hid (HD4.out.below HBW.out (Nat.le_refl _))
        have HPx := Lib.hid (HP4.out.below HBW.out (Nat.le_refl _))
        have HBx : Hid (Below w.heap.size w wr) := HB4.out.trans (HBW.out.mono hs4)
        go_wp2_with fail
        refine (dec_yes (g := g) Ap q cp la (some ⟨g5, 0, none⟩) c5 s (moreF k q (UInt8.ofNat z) P) wr HCx.out HPx.out HMx.out (by omega) (by omega) hkp HPl.out hkn).mono ?_
        rintro e w7 ⟨Ad, cd, rfl, hM, hB⟩
        have e7 : tabM k s (mulF k (invC k (la.take k)) (moreF k q (UInt8.ofNat z) P)) = tabM k s (cutF s l) := tabM_congr fun i j hi hj => dec_back (by omega) hkn HPl.out (by rw [HLA.out]; exact hkn) hi fun r hr => by rw [HPP.out]; exact more_low hr
        rw [e7] at hM
        clear e7
        have HD7 := Lib.hid (HDx.out.below hB (Nat.le_refl _))
        have HB7 : Hid (Below w.heap.size w w7) := HBx.out.trans (hB.mono HBx.out.size)
        have HG7 := Lib.hid hM.mr
        clear hB hM
        go_wp2_with fail
        refine (lists_b Ad k cd (tabM k s (cutF s l)) S dS w7 HG7.out HD7.out (by omega)).mono ?_
        rintro e w8 ⟨rfl, hB⟩
        have HB8 : Hid (Below w.heap.size w w8) := HB7.out.trans (hB.mono HB7.out.size)
        clear hB
        go_wp2_with fail
        refine (awake_any w8).mono ?_
        rintro e w9 ⟨rfl, hB⟩
        go_wp2
        go_ret
        exact ⟨rfl, HB8.out.trans (hB.mono HB8.out.size)⟩
end Go.Proofs.Ytobbjeephmfdeaa

namespace Go.Proofs.Ytobbjeephmfdeaa.codeMore
open Go.ChangeShapes Go.WideShapes Go.ChangeAt Go.RowKit Go.Coop
open Go.ChangeMaps (open_string shut_string)
set_option linter.unusedVariables false

theorem own : ownKnob Try.prog.godebug = none := by kernel_rfl
theorem laidOut : laidOutB Try.prog = true := by kernel_rfl

set_option maxRecDepth 100000 in
theorem lifted (os : Os) (started : os.Started) (H : Type) (enc : TypeId × Value → H) :
    ReturnsInHanded {} Try.checked os 7 .any (Rows.codeMoreSpec.pre6 enc Try.prog Try.f7 Rows.codeMoreRow.domain false) (Rows.codeMoreSpec.post enc Try.prog Try.f7 false true false false) := by
  refine returnsInHanded_of_change (C := Try.checked) own started (by kernel_rfl) Try.func7
    (ChangeSpec.witness6 (enc := enc) (C := Try.checked) false ⟨#[], #[.agg #[.int .u8 0, .int .u8 0, .int .u8 0, .slice none 0 0], .slice none 0 0, .int .u8 0], []⟩ 8 (by kernel_rfl) (by kernel_rfl) (by kernel_rfl) (by kernel_rfl)) ?_
  intro W base args ds gs before hval0 hW hcnd _
  have hval : ∀ (j : Nat) t v, Try.f7.params[j]? = some t → args[j]? = some v → Value.okWide Try.prog W .any base t v := hval0
  have hW' := hW
  obtain ⟨p, q, hA0, hV, rfl, hfz, hnd⟩ := hW
  have hA : DataW.TrodAll enc Try.prog W 0 (fun _ => true) true Try.f7.params.toList args.toList ds p := hA0
  rw [Try.params7] at hA hval
  obtain ⟨v0, vs0, d0, ds0, p0, q0, hargs, rfl, rfl, h0, r0⟩ := trodAll_cons hA
  obtain ⟨v1, vs1, d1, ds1, p1, q1, rfl, rfl, rfl, h1, r1⟩ := trodAll_cons r0
  obtain ⟨v2, vs2, d2, ds2, p2, q2, rfl, rfl, rfl, h2, r2⟩ := trodAll_cons r1
  obtain ⟨rfl, rfl, rfl⟩ := trodAll_nil r2
  obtain rfl : args = #[v0, v1, v2] := by cases args; simp_all
  obtain ⟨rfl, rfl⟩ := trodVars_none hV
  have k0 := h0
  have lt0 : ∀ x ∈ p0, x.block < W.heap.size := by obtain ⟨m, hm⟩ := k0; exact DataW.trod_lt m _ _ _ hm
  obtain ⟨kz, mz, sz, X0, xm, xc, xl, rfl, z1, z2, z3, hX, hxl, hxc⟩ := stripe_of (hval 0 66 v0 rfl rfl) h0
  obtain ⟨a1, len1, cap1, rfl⟩ := okWide_slice Try.underlying31 (hval 1 31 v1 rfl rfl)
  have k1 := h1
  have lt1 : ∀ x ∈ p1, x.block < W.heap.size := by obtain ⟨m, hm⟩ := k1; exact DataW.trod_lt m _ _ _ hm
  obtain ⟨l1, w1, c1, m1⟩ : ∃ l, Rd W a1 len1 l ∧ len1 ≤ cap1 ∧ cap1 ≤ maxLen := by
    obtain ⟨fuel, hf⟩ := h1
    rcases open_ints Try.underlying31 Try.underlying5 (by kernel_rfl) hf with ⟨hcs, _⟩ | ⟨x, l, c, zs, hcs, _, hl, hm, hz, _, hcell, hwz⟩
    · simp [Value.cells] at hcs
      obtain ⟨rfl, rfl, rfl⟩ := hcs
      exact ⟨[], Rd.nil _ _, Nat.le_refl _, Nat.zero_le _⟩
    · simp [Value.cells] at hcs
      obtain ⟨rfl, rfl, rfl⟩ := hcs
      exact rd_of_row (.inr ⟨_, rfl, hl, hm, by simpa using hz, hcell, hwz⟩)
  obtain ⟨a2, rfl, rfl, rfl, w2⟩ := open_int Try.underlying5 (hval 2 5 v2 rfl rfl) h2
  have b2 := bounds_u8 w2
  clear hA0 hval0
  obtain ⟨z, rfl⟩ := Int.eq_ofNat_of_zero_le b2.1
  have hz := b2.2
  refine (more_law kz mz sz X0 xm xc xl a1 len1 cap1 l1 z W hX hxl w1 z1 z2 z3 (by omega)).mono fun e W' ⟨he, bel⟩ => ?_
  subst he
  exact ⟨_, rfl, _, _, _, [], _, [], hW', trodAll_mk1 (shut_bool Try.underlying4 _), (trodAll_cons_mk (Below.trod laidOut (by kernel_rfl) (of_decide_eq_true (by kernel_rfl)) k0 bel lt0) (trodAll_cons_mk (Below.trod laidOut (by kernel_rfl) (of_decide_eq_true (by kernel_rfl)) k1 bel lt1) (trodAll_cons_mk (shut_int Try.underlying5 w2) trodAll_mk0))), rfl, bel.frame _, fun h => by cases h⟩

theorem over : Rows.codeMoreRow.holds Try.pinned (OpenSpec.ofChange Rows.codeMoreSpec) :=
  OpenClaim.holds_of_wide 7 Try.f7 rfl rfl rfl rfl rfl rfl rfl ⟨rfl, rfl, rfl, rfl, rfl⟩ rfl rfl rfl rfl rfl (by kernel_rfl) Try.func7 (by kernel_rfl)
    (of_decide_eq_true (by kernel_rfl)) (by unfold Func.isWrapper; first | (rw [if_pos (by decide +kernel)]; kernel_rfl) | (rw [if_neg (by decide +kernel)]; exact ⟨rfl, rfl⟩))
    (fun os started H enc _ => lifted os started H enc)

/-- ████ THE STATEMENT ████ -/
theorem proved : Rows.CodeMoreSaid := over
#print axioms proved
end Go.Proofs.Ytobbjeephmfdeaa.codeMore
