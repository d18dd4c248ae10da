/- CodeAny. -/
import Derived.Test.YtobbjeephmfdeaaAwkA
import Derived.Test.YtobbjeephmfdeaaLawH
import Derived.Test.YtobbjeephmfdeaaLawI
import Derived.Test.YtobbjeephmfdeaaLawP
namespace Go.Proofs.Ytobbjeephmfdeaa
open Go.RowKit Go.Coop
set_option maxRecDepth 100000

theorem lmade_k (kz mz sz k n s : Nat) (B : Option Addr) (m d : Nat) (l : List UInt8) (w : World) (h : Rd w B m l) (hmd : m ≤ d) (h1 : kz < 256) (h2 : mz < 256) (h3 : sz < 256) (hk : k = 1 + kz % 8) (hn : n = 1 + kz % 8 + mz % 9) (hs : s = sz % 21) :
    Calls Try.prog 36 #[.int .u8 (kz : Int), .int .u8 (mz : Int), .int .u8 (sz : Int), .slice B m d] w (MadeL w n k s (cutF s l)) := by
  subst hk; subst hn; subst hs
  exact lmade_any kz mz sz B m d l w h hmd h1 h2 h3
theorem fits_yes {g n k gf c s : Nat} {A : Option Addr} (S : Option Addr) (d : Nat) (D : Fn2) (w : World) (hg : CodeAt w g n k gf A c) (h : MR w S n (tabM n s (encF k D))) (hnd : n ≤ d) (hs : s ≤ 65536) :
    Calls Try.prog 15 #[.pointer (some ⟨g, 0, none⟩), .slice S n d] w fun e w' => e = .returned (.bool true) ∧ Below w.heap.size w w' := by
  have h1 := hg.k1
  have h2 := hg.kn
  have h3 := hg.n255
  have := fits_any S n d _ w hg h (by omega) hnd (fun r hr => by rw [tab_short r hr]; omega)
  rwa [fits_enc (by omega) h2 hs] at this
/-- what a call answers that makes a matrix, its capacity too -/
theorem MO.capn {w : World} {bo br : Nat} {A : Option Addr} {n c : Nat} {M : List (List UInt8)} (h : MO w bo br A n c M) : n ≤ c := by
  obtain ⟨vs, hv, _⟩ := h.out
  exact hv.cap
set_option maxHeartbeats 4000000 in
theorem any_law (kz mz sz : Nat) (B : Option Addr) (m d : Nat) (l : List UInt8) (By : Option Addr) (mb db : Nat) (lb : List UInt8) (z : Nat) (w : World) (hX : Rd w B m l) (hmd : m ≤ d) (hY : Rd w By mb lb) (h1 : kz < 256) (h2 : mz < 256) (h3 : sz < 256) (h4 : z < 256) :
    Calls Try.prog 6 #[.agg #[.int .u8 (kz : Int), .int .u8 (mz : Int), .int .u8 (sz : Int), .slice B m d], .slice By mb db, .int .u8 (z : Int)] w fun e w' => e = .returned (.bool true) ∧ Below w.heap.size w w' := by
  obtain ⟨k, hk⟩ : ∃ k, k = 1 + kz % 8 := ⟨_, rfl⟩
  obtain ⟨n, hn⟩ : ∃ n, n = 1 + kz % 8 + mz % 9 := ⟨_, rfl⟩
  obtain ⟨s, hs⟩ : ∃ s, s = sz % 21 := ⟨_, rfl⟩
  have hk1 : 1 ≤ k := by omega
  have hk8 : k ≤ 8 := by omega
  have hkn : k ≤ n := by omega
  have hn16 : n ≤ 16 := by omega
  have hs20 : s ≤ 20 := by omega
  have HY0 := Lib.hid hY
  clear hY
  go_enter Try.func6, Try.ntmps6
  go_wp2_with fail
  refine (lmade_k kz mz sz k n s B m d l (w.alloc _) (hX.alloc _) hmd (by omega) (by omega) (by omega) hk hn hs).mono ?_
  rintro e w1 ⟨g, gf, A, c, S, dS, rfl, hC, hM, hkd, hB⟩
  have hW : Below w.heap.size w w1 := bhop (balloc (Below.refl w.heap.size w) _) hB
  have HY1 := Lib.hid (HY0.out.below hW (Nat.le_refl _))
  have HB1 : Hid (Below w.heap.size w w1) := hW
  have HC1 := Lib.hid (hC)
  have HD1 := Lib.hid (hM.mr)
  clear hW HY0
  clear hC hM hB hX hk hn hs
  go_wp2_with fail
  refine (enc_yes (g := g) S dS s (cutF s l) w1 HC1.out HD1.out (by omega)).mono ?_
  rintro e w2 ⟨Ae, ce, rfl, hM, hB⟩
  have hnc := hM.capn
  have hW : Below w1.heap.size w1 w2 := hB
  have HY2 := Lib.hid (HY1.out.below hW (Nat.le_refl _))
  have HC2 := Lib.hid (HC1.out.below hW (Nat.le_refl _))
  have HD2 := Lib.hid (HD1.out.below hW (Nat.le_refl _))
  have HB2 : Hid (Below w.heap.size w w2) := HB1.out.trans (hW.mono HB1.out.size)
  have HE2 := Lib.hid ((show MR w2 Ae n (tabM n s (encF k (cutF s l))) from hM.mr))
  clear hW HY1 HC1 HD1 HB1
  clear hM hB
  have hsl := slice_hi (E := 31) 32 Try.underlying32 info31 Ae n ce k (by omega)
  go_wp2_with (first | (go_at_call 13; refine (all_yes _ HC2.out).mono ?_; rintro e w' ⟨rfl, rfl⟩) | (go_at_call 12; refine (need_yes _ HC2.out).mono ?_; rintro e w' ⟨rfl, rfl⟩))
  refine (lists_b Ae k ce (tabM k s (cutF s l)) S dS w2 (by have h0 := HE2.out.take hkn; rwa [enc_head _ hkn] at h0) HD2.out (by omega)).mono ?_
  rintro e w3 ⟨rfl, hB⟩
  have hW : Below w2.heap.size w2 w3 := hB
  have HY3 := Lib.hid (HY2.out.below hW (Nat.le_refl _))
  have HC3 := Lib.hid (HC2.out.below hW (Nat.le_refl _))
  have HD3 := Lib.hid (HD2.out.below hW (Nat.le_refl _))
  have HE3 := Lib.hid (HE2.out.below hW (Nat.le_refl _))
  have HB3 : Hid (Below w.heap.size w w3) := HB2.out.trans (hW.mono HB2.out.size)
  clear hW HY2 HC2 HD2 HE2 HB2
  clear hB hsl
  go_wp2_with (first | (go_at_call 13; refine (all_yes _ HC3.out).mono ?_; rintro e w' ⟨rfl, rfl⟩) | (go_at_call 12; refine (need_yes _ HC3.out).mono ?_; rintro e w' ⟨rfl, rfl⟩))
  refine (fits_yes (g := g) Ae ce (cutF s l) w3 HC3.out HE3.out hnc (by omega)).mono ?_
  rintro e w4 ⟨rfl, hB⟩
  have hW : Below w3.heap.size w3 w4 := hB
  have HY4 := Lib.hid (HY3.out.below hW (Nat.le_refl _))
  have HC4 := Lib.hid (HC3.out.below hW (Nat.le_refl _))
  have HD4 := Lib.hid (HD3.out.below hW (Nat.le_refl _))
  have HE4 := Lib.hid (HE3.out.below hW (Nat.le_refl _))
  have HB4 : Hid (Below w.heap.size w w4) := HB3.out.trans (hW.mono HB3.out.size)
  clear hW HY3 HC3 HD3 HE3 HB3
  clear hB
  go_wp2_with (first | (go_at_call 13; refine (all_yes _ HC4.out).mono ?_; rintro e w' ⟨rfl, rfl⟩) | (go_at_call 12; refine (need_yes _ HC4.out).mono ?_; rintro e w' ⟨rfl, rfl⟩))
  refine (lpicked_any By mb db lb k n w4 HY4.out hkn (by omega) (by omega)).mono ?_
  rintro e w5 ⟨la, Ap, cp, rfl, hla, hp, hO, hB⟩
  have hkp := hO.cap
  have HP5p := Lib.hid hp
  have HLA := Lib.hid hla
  have hW : Below w4.heap.size w4 w5 := hB
  have HC5 := Lib.hid (HC4.out.below hW (Nat.le_refl _))
  have HD5 := Lib.hid (HD4.out.below hW (Nat.le_refl _))
  have HE5 := Lib.hid (HE4.out.below hW (Nat.le_refl _))
  have HB5 : Hid (Below w.heap.size w w5) := HB4.out.trans (hW.mono HB4.out.size)
  have HP5 := Lib.hid (hO.rd)
  clear hW HY4 HC4 HD4 HE4 HB4
  clear hB hO hp hla
  go_wp2_with (first | (go_at_call 13; refine (all_yes _ HC5.out).mono ?_; rintro e w' ⟨rfl, rfl⟩) | (go_at_call 12; refine (need_yes _ HC5.out).mono ?_; rintro e w' ⟨rfl, rfl⟩))
  refine (lsome_any Ae n ce s (encF k (cutF s l)) Ap k cp la w5 HE5.out HP5.out (fun x hx => by obtain ⟨i, hi⟩ := List.getElem?_of_mem hx; exact HP5p.out.lt i x hi) (by omega)).mono ?_
  rintro e w6 ⟨Bs, es, rfl, hes, hM, hB⟩
  have hW : Below w5.heap.size w5 w6 := hB
  have HC6 := Lib.hid (HC5.out.below hW (Nat.le_refl _))
  have HD6 := Lib.hid (HD5.out.below hW (Nat.le_refl _))
  have HE6 := Lib.hid (HE5.out.below hW (Nat.le_refl _))
  have HP6 := Lib.hid (HP5.out.below hW (Nat.le_refl _))
  have HB6 : Hid (Below w.heap.size w w6) := HB5.out.trans (hW.mono HB5.out.size)
  have HQ6 := Lib.hid (hM)
  clear hW HC5 HD5 HE5 HP5 HB5
  clear hB hM
  go_wp2_with (first | (go_at_call 13; refine (all_yes _ HC6.out).mono ?_; rintro e w' ⟨rfl, rfl⟩) | (go_at_call 12; refine (need_yes _ HC6.out).mono ?_; rintro e w' ⟨rfl, rfl⟩))
  refine (dec_yes (g := g) Ap k cp la Bs es s (pickF la (encF k (cutF s l))) w6 HC6.out HP6.out HQ6.out (by omega) (by omega) hkp HP5p.out (Nat.le_refl _)).mono ?_
  rintro e w7 ⟨Ad, cd, rfl, hM, hB⟩
  have e7 : tabM k s (mulF k (invC k (la.take k)) (pickF la (encF k (cutF s l)))) = tabM k s (cutF s l) := tabM_congr fun i j hi hj => dec_back (by omega) hkn HP5p.out (by rw [HLA.out]; exact Nat.le_refl _) hi fun _ _ => rfl
  rw [e7] at hM
  clear e7
  have hW : Below w6.heap.size w6 w7 := hB
  have HC7 := Lib.hid (HC6.out.below hW (Nat.le_refl _))
  have HD7 := Lib.hid (HD6.out.below hW (Nat.le_refl _))
  have HE7 := Lib.hid (HE6.out.below hW (Nat.le_refl _))
  have HP7 := Lib.hid (HP6.out.below hW (Nat.le_refl _))
  have HB7 : Hid (Below w.heap.size w w7) := HB6.out.trans (hW.mono HB6.out.size)
  have HG7 := Lib.hid (hM.mr)
  clear hW HC6 HD6 HE6 HP6 HQ6 HB6
  clear hB hM
  have hzw : wrap64 (z : Int) = (z : Int) := by unfold wrap64; omega
  obtain ⟨i, hi⟩ : ∃ i, i = z % n := ⟨_, rfl⟩
  have hin : i < n := by rw [hi]; exact Nat.mod_lt _ (by omega)
  have hzi : ((z : Int)).tmod (n : Int) = (i : Int) := by rw [hi]; rfl
  clear hi
  go_wp2_with (first | (go_at_call 13; refine (all_yes _ HC7.out).mono ?_; rintro e w' ⟨rfl, rfl⟩) | (go_at_call 12; refine (need_yes _ HC7.out).mono ?_; rintro e w' ⟨rfl, rfl⟩))
  refine (lsome_any Ae n ce s (encF k (cutF s l)) Ap k cp la w7 HE7.out HP7.out (fun x hx => by obtain ⟨i, hi⟩ := List.getElem?_of_mem hx; exact HP5p.out.lt i x hi) (by omega)).mono ?_
  rintro e w8 ⟨Bt, et, rfl, het, hM, hB⟩
  have hW : Below w7.heap.size w7 w8 := hB
  have HC8 := Lib.hid (HC7.out.below hW (Nat.le_refl _))
  have HD8 := Lib.hid (HD7.out.below hW (Nat.le_refl _))
  have HE8 := Lib.hid (HE7.out.below hW (Nat.le_refl _))
  have HP8 := Lib.hid (HP7.out.below hW (Nat.le_refl _))
  have HG8 := Lib.hid (HG7.out.below hW (Nat.le_refl _))
  have HB8 : Hid (Below w.heap.size w w8) := HB7.out.trans (hW.mono HB7.out.size)
  have HQ8 := Lib.hid (hM)
  clear hW HC7 HD7 HE7 HP7 HG7 HB7
  clear hB hM
  go_wp2_with (first | (go_at_call 13; refine (all_yes _ HC8.out).mono ?_; rintro e w' ⟨rfl, rfl⟩) | (go_at_call 12; refine (need_yes _ HC8.out).mono ?_; rintro e w' ⟨rfl, rfl⟩))
  refine (reb_yes (g := g) Ap k cp la Bt et s (pickF la (encF k (cutF s l))) i w8 HC8.out HP8.out HQ8.out (by omega) (by omega) hkp HP5p.out (Nat.le_refl _) hin).mono ?_
  rintro e w9 ⟨Ar, cr, rfl, hO, hB⟩
  have e9 : rowL s (mulF k (mulF k (fun _ => codF k i) (invC k (la.take k))) (pickF la (encF k (cutF s l))) 0) = rowL s (encF k (cutF s l) i) := rowL_congr fun p _ => reb_back (by omega) hkn HP5p.out (by rw [HLA.out]; exact Nat.le_refl _) fun _ _ => rfl
  rw [e9] at hO
  clear e9
  have hW : Below w8.heap.size w8 w9 := hB
  have HC9 := Lib.hid (HC8.out.below hW (Nat.le_refl _))
  have HD9 := Lib.hid (HD8.out.below hW (Nat.le_refl _))
  have HE9 := Lib.hid (HE8.out.below hW (Nat.le_refl _))
  have HG9 := Lib.hid (HG8.out.below hW (Nat.le_refl _))
  have HB9 : Hid (Below w.heap.size w w9) := HB8.out.trans (hW.mono HB8.out.size)
  have HR9 := Lib.hid (hO.rd)
  clear hW HC8 HD8 HE8 HP8 HG8 HQ8 HB8
  clear hB hO
  go_wp2_with (first | (go_at_call 13; refine (all_yes _ HC9.out).mono ?_; rintro e w' ⟨rfl, rfl⟩) | (go_at_call 12; refine (need_yes _ HC9.out).mono ?_; rintro e w' ⟨rfl, rfl⟩))
  refine (lists_b Ad k cd (tabM k s (cutF s l)) S dS w9 HG9.out HD9.out (by omega)).mono ?_
  rintro e w10 ⟨rfl, hB⟩
  have hW : Below w9.heap.size w9 w10 := hB
  have HE10 := Lib.hid (HE9.out.below hW (Nat.le_refl _))
  have HR10 := Lib.hid (HR9.out.below hW (Nat.le_refl _))
  have HB10 : Hid (Below w.heap.size w w10) := HB9.out.trans (hW.mono HB9.out.size)
  clear hW HC9 HD9 HE9 HG9 HR9 HB9
  clear hB
  obtain ⟨ad, Bi, di, ri, hAe, _, hri, hci, hdi⟩ := HE10.out.row hin
  subst hAe
  rw [tabM_at _ _ hin] at hri
  injection hri with hri
  rw [← hri, rowL_len] at hci hdi
  have HDI := Lib.hid hdi
  have hin0 : (0 : Int) ≤ (i : Int) := by omega
  have hin1 : (i : Int) < n := by omega
  clear hri hdi
  skip
  go_wp2_with (go_at_call 29; refine (same_yes Ar s cr _ Bi s di _ HR10.out HDI.out).mono ?_; rintro e w' ⟨rfl, rfl⟩)
  refine (awake_any w10).mono ?_
  rintro e w11 ⟨rfl, hB⟩
  have hW : Below w10.heap.size w10 w11 := hB
  have HB11 : Hid (Below w.heap.size w w11) := HB10.out.trans (hW.mono HB10.out.size)
  clear hW HE10 HR10 HB10
  go_wp2
  go_ret
  exact ⟨rfl, HB11.out⟩
end Go.Proofs.Ytobbjeephmfdeaa
