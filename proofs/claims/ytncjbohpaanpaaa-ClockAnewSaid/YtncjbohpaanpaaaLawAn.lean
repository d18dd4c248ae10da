/- The law ClockAnew. Made by gan8.py. -/
import Derived.Test.YtncjbohpaanpaaaAnwP
import Derived.Test.YtncjbohpaanpaaaAwk
import Derived.Deep.CutBlock
namespace Go.Proofs.Ytncjbohpaanpaaa
open Go.RowKit Go.Coop Go.Maps
set_option maxRecDepth 100000
/-- calls that set and unset: where the loop stands -/
structure Mk (w wr : World) (g c : Nat) (a : Option Nat) (S : CS) (j m most : Nat) : Prop where
  ck : Ck wr w.heap.size g c a S
  bel : Below w.heap.size w wr
  now : S.now = 0
  mst : S.most = most
  len : S.L.length ≤ j
  j50 : j ≤ 50
  jm : j ≤ m
theorem Mk.next {w wr w' : World} {g c : Nat} {a : Option Nat} {S : CS} {j m most : Nat} (h : Mk w wr g c a S j m most) {o : OpV} {r : Value} {e : Ending} (hp : CkP wr w.heap.size g c a (S.does o) r e w') (h5 : j < 50) (hm : j < m) : ∃ a', Mk w w' g c a' (S.does o) (j + 1) m most := by
  obtain ⟨_, a', h1, h2, _⟩ := hp
  obtain ⟨e1, e2⟩ := CS.does_now (S := S) o
  exact ⟨a', h1, h.bel.trans h2, e1.trans h.now, e2.trans h.mst, by have := CS.does_len (S := S) o; have := h.len; omega, by omega, by omega⟩
set_option maxHeartbeats 2000000 in
theorem anew_law (F : Option Addr) (m cap : Nat) (os : List OpV) (i one two : Int) (w : World) (hos : OpsAt w F m os) (hi : -9223372036854775808 ≤ i ∧ i ≤ 9223372036854775807) (h1 : 0 ≤ one ∧ one ≤ 65535) (h2 : 0 ≤ two ∧ two ≤ 65535) : Calls Try.prog 8 #[.slice F m cap, .int .i64 i, .int .u16 one, .int .u16 two] w (Awake w) := by
  have H := Lib.hid (And.intro hos (And.intro hi (And.intro h1 h2)))
  have hw1 : IntKind.i64.wrap one = one := IntWalk.i64_in _ (by omega)
  have hw2 : IntKind.i64.wrap two = two := IntWalk.i64_in _ (by omega)
  have hw3 : IntKind.i64.wrap (1 + one) = 1 + one := IntWalk.i64_in _ (by omega)
  have hw4 : IntKind.i64.wrap (1 + two) = 1 + two := IntWalk.i64_in _ (by omega)
  clear hos hi h1 h2
  go_enter Try.func8, Try.ntmps8
  go_wp2_with fail
  refine (ck_new _ 200 (by decide) (by decide)).mono ?_
  rintro e w1 ⟨g, c, rfl, hC, hb, hg1, hg2, hc1, hc2⟩
  have H1 : Hid (Mk w w1 g c none (CS.new 200) 0 m 200) := ⟨hC, hb, rfl, rfl, by simp [CS.new], by omega, by omega⟩
  clear hC hb hg1 hg2 hc1 hc2
  go_wp2
  go_loopw [11] (fun s11 wr => ∃ (j : Nat) (a : Option Nat) (S : CS), s11 = .int .i64 j ∧ Hid (Mk w wr g c a S j m 200)) (fun s11 _ => 50 - (Go.RowKit.intOf s11).toNat)
  case atStart => exact ⟨0, none, _, rfl, H1.out⟩
  case round =>
    obtain ⟨j, a, S, rfl, HM⟩ := hrel
    clear H1
    by_cases hlt : j < m ∧ j < 50
    · obtain ⟨o, ad, ho, hok, rfl, k0, k1, k2⟩ := (H.out.1.below HM.out.bel (Nat.le_refl _)).get hlt.1
      have hi1 : (0 : Int) ≤ (j : Int) := by omega
      have hi2 : (j : Int) < (m : Int) := by omega
      have hi3 : (j : Int) < 50 := by omega
      have hwj : IntKind.i64.wrap ((j : Int) + 1) = (j : Int) + 1 := IntWalk.i64_in _ (by omega)
      have HO := Lib.hid (And.intro hok hlt)
      clear ho hok hlt
      go_wp2_with fail
      refine (does_is _ HM.out.ck HO.out.1 rfl).mono ?_
      rintro e w2 hp
      obtain ⟨a', hM2⟩ := HM.out.next hp HO.out.2.2 HO.out.2.1
      obtain ⟨rfl, _⟩ := hp
      have HM2 := Lib.hid hM2
      clear hM2 k0 k1 k2
      go_wp2
      go_roundw
      case rel => exact ⟨j + 1, a', _, by go_num, HM2.out⟩
      case measure =>
        have := HO.out.2.2
        simp [Go.RowKit.intOf]; omega
    · have hcond : (decide ((j : Int) < (m : Int)) && decide ((j : Int) < 50)) = false := by
        simp
        omega
      have HM' : Hid (S.L.length ≤ 50) := by have := HM.out.len; have := HM.out.j50; show _ ≤ _; omega
      have hj2 : ¬ ((j : Int) < (m : Int)) ∨ ((j : Int) < (m : Int) ∧ ¬ (j : Int) < 50) := by omega
      rcases hj2 with hj2 | ⟨hj2, hj3⟩
      · have hj2' : decide ((j : Int) < (m : Int)) = false := by simpa using hj2
        have hj2n : decide (j < m) = false := by simp; omega
        clear hcond hj2
        obtain ⟨qa, hqa⟩ : ∃ q, (S.find i).isSome = q := ⟨_, rfl⟩
        obtain ⟨qt, hqt⟩ : ∃ q, (S.unset i).L.head?.getD noT = q := ⟨_, rfl⟩
        obtain ⟨qb, hqb⟩ : ∃ q, (S.unset i).L.head?.isSome = q := ⟨_, rfl⟩
        obtain ⟨qd, hqd⟩ : ∃ q, ((S.unset i).find i).getD 0 = q := ⟨_, rfl⟩
        obtain ⟨qe, hqe⟩ : ∃ q, ((S.unset i).find i).isSome = q := ⟨_, rfl⟩
        have hl0 : S.L.length ≤ 50 := HM'.out
        have hok : S.Ok := HM.out.ck.ok
        obtain ⟨S1, hS1⟩ : ∃ S1, S.unset i = S1 := ⟨_, rfl⟩
        have hok1 : S1.Ok := hS1 ▸ CS.unset_ok hok i
        have hn0 : S.now = 0 := HM.out.now
        have hn1 : S1.now = 0 := hS1 ▸ hn0
        have hm1 : S1.most = 200 := hS1 ▸ HM.out.mst
        have hl1 : S1.L.length ≤ 50 := by have := CS.unset_len (S := S) (i := i); rw [hS1] at this; omega
        have hE2 : S1.setE i (1 + one) = 0 := CS.setE_ok (by have := H.out.2.2.1; omega) (by have := H.out.2.2.1; omega) (by omega)
        obtain ⟨S2, hS2⟩ : ∃ S2, S1.laid i (1 + one) = S2 := ⟨_, rfl⟩
        have hok2 : S2.Ok := by rw [← hS2]; exact CS.laid_ok hok1 H.out.2.1 (by have := H.out.2.2.1; omega) (by have := H.out.2.2.1; omega) (fun _ => by omega)
        have hl2 : S2.L.length = S1.L.length + 1 := by rw [← hS2, CS.laid_len, ← hS1, CS.unset_unset]
        have hf2 : S2.find i = some (S1.now + (1 + one)) := by rw [← hS2]; exact CS.laid_find (by rw [hS2]; exact hok2)
        have hn2 : S2.now = 0 := hS2 ▸ hn1
        have hE3 : S2.setE i (1 + two) = 0 := CS.setE_some (by have := H.out.2.2.2; omega) (by have := H.out.2.2.2; omega) hf2
        obtain ⟨S3, hS3⟩ : ∃ S3, S1.laid i (1 + two) = S3 := ⟨_, rfl⟩
        have hS3' : S2.laid i (1 + two) = S3 := by rw [← hS3, ← hS2]; exact CS.laid_laid hok1
        have hok3 : S3.Ok := by rw [← hS3]; exact CS.laid_ok hok1 H.out.2.1 (by have := H.out.2.2.2; omega) (by have := H.out.2.2.2; omega) (fun _ => by omega)
        have hl3 : S3.L.length = S1.L.length + 1 := by rw [← hS3, CS.laid_len, ← hS1, CS.unset_unset]
        have hf3 : S3.find i = some (1 + two) := by
          have := CS.laid_find (S := S1) (i := i) (d := 1 + two) (by rw [hS3]; exact hok3)
          rw [hS3, hn1, Int.zero_add] at this
          exact this
        have hn3 : S3.now = 0 := hS3 ▸ hn1
        have hS4 : S3.unset i = S1 := by rw [← hS3, CS.laid_unset hok1, ← hS1]; exact CS.unset_unset
        have hS5 : S1.unset i = S1 := by rw [← hS1]; exact CS.unset_unset
        have hf5 : (S1.find i).isSome = false := by rw [← hS1, CS.find_unset]; rfl
        have hf3' : (S3.find i).isSome = true := by rw [hf3]; rfl
        rw [hS1] at hqt hqb hqd hqe
        have HQ := Lib.hid (And.intro hqa (And.intro hqt (And.intro hqb (And.intro hqd hqe))))
        clear hqa hqt hqb hqd hqe
        obtain ⟨n0, hn⟩ : ∃ n0, S1.L.length = n0 := ⟨_, rfl⟩
        rw [hn] at hl2 hl3
        have hwn : IntKind.i64.wrap ((n0 : Int) + 1) = (n0 : Int) + 1 := IntWalk.i64_in _ (by omega)
        have hwt : IntKind.i64.wrap (1 + two) = 1 + two := hw4
        have HE := Lib.hid (And.intro hE2 (And.intro ((CS.set_of hE2).trans hS2) (And.intro hl2 (And.intro hE3 (And.intro ((CS.set_of hE3).trans hS3') (And.intro hl3 (And.intro hf3 (And.intro hn3 (And.intro hS4 (And.intro hS5 (And.intro hf5 (And.intro hf3' (And.intro hn1 (And.intro hn (And.intro hS1 hl1)))))))))))))))
        clear hl0 hok hok1 hn0 hn1 hm1 hl1 hE2 hok2 hl2 hf2 hn2 hE3 hS3 hS3' hok3 hl3 hf3 hn3 hS4 hS5 hf5 hf3' hn HM' hS1 hS2
        go_wp2_with fail
        refine (ck_unset _ HM.out.ck H.out.2.1.1 H.out.2.1.2 HQ.out.1 HE.out.2.2.2.2.2.2.2.2.2.2.2.2.2.2.1).mono ?_
        rintro e w2 ⟨rfl, a2, hC, hb, hk⟩
        have HN2 := Lib.hid hC
        have HB2 := Lib.hid (HM.out.bel.trans hb)
        clear hC hb hk
        go_wp2_with fail
        refine (ck_all _ HN2.out rfl).mono ?_
        rintro e w3 ⟨_, rfl, ⟨A, ca, rfl, hT⟩, hW⟩
        rw [HE.out.2.2.2.2.2.2.2.2.2.2.2.2.2.1] at hT ⊢
        have HL3 : Hid (Ls w3 a2 (.slice A n0 ca) S1.L) := Nl.ls (B := w2.heap.size) ⟨A, ca, by rw [HE.out.2.2.2.2.2.2.2.2.2.2.2.2.2.1], by rw [HE.out.2.2.2.2.2.2.2.2.2.2.2.2.2.1]; exact hT⟩ HN2.out.a_lt
        have HN3 := Lib.hid (HN2.out.below hW)
        have HB3 := Lib.hid (HB2.out.trans (hW.mono HB2.out.size))
        clear hT hW HN2 HB2
        go_wp2_with fail
        refine (ck_next_k _ HN3.out HQ.out.2.1 HQ.out.2.2.1).mono ?_
        rintro e w4 ⟨rfl, hW⟩
        have HN4 := Lib.hid (HN3.out.below hW)
        have HB4 := Lib.hid (HB3.out.trans (hW.mono HB3.out.size))
        have HL4 := Lib.hid (HL3.out.below hW)
        clear hW HN3 HB3 HL3
        go_wp2_with fail
        refine (ck_due_k _ HN4.out H.out.2.1.1 H.out.2.1.2 HQ.out.2.2.2.1 HQ.out.2.2.2.2).mono ?_
        rintro e _ ⟨rfl, rfl⟩
        go_wp2_with fail
        refine (ck_set _ HN4.out H.out.2.1.1 H.out.2.1.2 (1 + one) HE.out.1 HE.out.2.1).mono ?_
        rintro e w5 ⟨rfl, a5, hC, hb, hk⟩
        have HN5 := Lib.hid hC
        have HB5 := Lib.hid (HB4.out.trans hb)
        have HL5 := Lib.hid (HL4.out.kp hk)
        clear hC hb hk HN4 HB4 HL4
        go_wp2_with fail
        refine (ck_all _ HN5.out rfl).mono ?_
        rintro e w6 ⟨_, rfl, ⟨A6, ca6, rfl, hT⟩, hW⟩
        rw [HE.out.2.2.1]
        have HN6 := Lib.hid (HN5.out.below hW)
        have HB6 := Lib.hid (HB5.out.trans (hW.mono HB5.out.size))
        have HL6 := Lib.hid (HL5.out.below hW)
        clear hW hT HN5 HB5 HL5
        go_wp2_with fail
        refine (ck_set _ HN6.out H.out.2.1.1 H.out.2.1.2 (1 + two) HE.out.2.2.2.1 HE.out.2.2.2.2.1).mono ?_
        rintro e w7 ⟨rfl, a7, hC, hb, hk⟩
        have HN7 := Lib.hid hC
        have HB7 := Lib.hid (HB6.out.trans hb)
        have HL7 := Lib.hid (HL6.out.kp hk)
        clear hC hb hk HN6 HB6 HL6
        go_wp2_with fail
        refine (ck_all _ HN7.out rfl).mono ?_
        rintro e w8 ⟨_, rfl, ⟨A8, ca8, rfl, hT⟩, hW⟩
        rw [HE.out.2.2.2.2.2.1]
        have HN8 := Lib.hid (HN7.out.below hW)
        have HB8 := Lib.hid (HB7.out.trans (hW.mono HB7.out.size))
        have HL8 := Lib.hid (HL7.out.below hW)
        clear hW hT HN7 HB7 HL7
        go_wp2_with fail
        refine (ck_due _ HN8.out H.out.2.1.1 H.out.2.1.2 HE.out.2.2.2.2.2.2.1).mono ?_
        rintro e _ ⟨rfl, rfl⟩
        dsimp only [Option.getD, Option.isSome]
        go_wp2_with fail
        refine (ck_now _ HN8.out HE.out.2.2.2.2.2.2.2.1).mono ?_
        rintro e _ ⟨rfl, rfl⟩
        go_wp2_with fail
        refine (ck_unset _ HN8.out H.out.2.1.1 H.out.2.1.2 HE.out.2.2.2.2.2.2.2.2.2.2.2.1 HE.out.2.2.2.2.2.2.2.2.1).mono ?_
        rintro e w9 ⟨rfl, a9, hC, hb, hk⟩
        have HN9 := Lib.hid hC
        have HB9 := Lib.hid (HB8.out.trans hb)
        have HL9 := Lib.hid (HL8.out.kp hk)
        clear hC hb hk HN8 HB8 HL8
        go_wp2_with fail
        refine (ck_unset _ HN9.out H.out.2.1.1 H.out.2.1.2 HE.out.2.2.2.2.2.2.2.2.2.2.1 HE.out.2.2.2.2.2.2.2.2.2.1).mono ?_
        rintro e w10 ⟨rfl, a10, hC, hb, hk⟩
        have HN10 := Lib.hid hC
        have HB10 := Lib.hid (HB9.out.trans hb)
        have HL10 := Lib.hid (HL9.out.kp hk)
        clear hC hb hk HN9 HB9 HL9
        go_wp2_with fail
        refine (ck_all _ HN10.out rfl).mono ?_
        rintro e w11 ⟨_, rfl, ⟨A11, ca11, rfl, hT⟩, hW⟩
        rw [HE.out.2.2.2.2.2.2.2.2.2.2.2.2.2.1] at hT ⊢
        have HN11 := Lib.hid (HN10.out.below hW)
        have HB11 := Lib.hid (HB10.out.trans (hW.mono HB10.out.size))
        have HL11 : Hid (Tl w11 0 A n0 ca S1.L) := by
          obtain ⟨A', c', e, h1, _⟩ := HL10.out.below hW
          injection e with e1 e2 e3
          subst e1 e3
          rw [← e2] at h1
          exact h1
        have HT11 := Lib.hid (hT.lower (Nat.zero_le _))
        clear hW hT HN10 HB10 HL10
        go_wp2_with fail
        refine (same_is _ HT11.out HL11.out (by have := HE.out.2.2.2.2.2.2.2.2.2.2.2.2.2.2.2; have := HE.out.2.2.2.2.2.2.2.2.2.2.2.2.2.1; omega) (sameL_self _)).mono ?_
        rintro e w12 ⟨rfl, hW⟩
        have HN12 := Lib.hid (HN11.out.below hW)
        have HB12 := Lib.hid (HB11.out.trans (hW.mono HB11.out.size))
        clear hW HN11 HB11
        go_wp2_with fail
        refine (ck_now _ HN12.out HE.out.2.2.2.2.2.2.2.2.2.2.2.2.1).mono ?_
        rintro e _ ⟨rfl, rfl⟩
        go_wp2_with fail
        refine (awake_is _).mono ?_
        rintro e w99 ⟨rfl, hb⟩
        have HZ := Lib.hid (HB12.out.trans (hb.mono HB12.out.size))
        clear hb
        go_wp2
        go_ret
        exact ⟨rfl, HZ.out⟩
      · have hj3' : decide ((j : Int) < 50) = false := by simpa using hj3
        have hj3n : decide (j < 50) = false := by simp; omega
        clear hcond hj3
        obtain ⟨qa, hqa⟩ : ∃ q, (S.find i).isSome = q := ⟨_, rfl⟩
        obtain ⟨qt, hqt⟩ : ∃ q, (S.unset i).L.head?.getD noT = q := ⟨_, rfl⟩
        obtain ⟨qb, hqb⟩ : ∃ q, (S.unset i).L.head?.isSome = q := ⟨_, rfl⟩
        obtain ⟨qd, hqd⟩ : ∃ q, ((S.unset i).find i).getD 0 = q := ⟨_, rfl⟩
        obtain ⟨qe, hqe⟩ : ∃ q, ((S.unset i).find i).isSome = q := ⟨_, rfl⟩
        have hl0 : S.L.length ≤ 50 := HM'.out
        have hok : S.Ok := HM.out.ck.ok
        obtain ⟨S1, hS1⟩ : ∃ S1, S.unset i = S1 := ⟨_, rfl⟩
        have hok1 : S1.Ok := hS1 ▸ CS.unset_ok hok i
        have hn0 : S.now = 0 := HM.out.now
        have hn1 : S1.now = 0 := hS1 ▸ hn0
        have hm1 : S1.most = 200 := hS1 ▸ HM.out.mst
        have hl1 : S1.L.length ≤ 50 := by have := CS.unset_len (S := S) (i := i); rw [hS1] at this; omega
        have hE2 : S1.setE i (1 + one) = 0 := CS.setE_ok (by have := H.out.2.2.1; omega) (by have := H.out.2.2.1; omega) (by omega)
        obtain ⟨S2, hS2⟩ : ∃ S2, S1.laid i (1 + one) = S2 := ⟨_, rfl⟩
        have hok2 : S2.Ok := by rw [← hS2]; exact CS.laid_ok hok1 H.out.2.1 (by have := H.out.2.2.1; omega) (by have := H.out.2.2.1; omega) (fun _ => by omega)
        have hl2 : S2.L.length = S1.L.length + 1 := by rw [← hS2, CS.laid_len, ← hS1, CS.unset_unset]
        have hf2 : S2.find i = some (S1.now + (1 + one)) := by rw [← hS2]; exact CS.laid_find (by rw [hS2]; exact hok2)
        have hn2 : S2.now = 0 := hS2 ▸ hn1
        have hE3 : S2.setE i (1 + two) = 0 := CS.setE_some (by have := H.out.2.2.2; omega) (by have := H.out.2.2.2; omega) hf2
        obtain ⟨S3, hS3⟩ : ∃ S3, S1.laid i (1 + two) = S3 := ⟨_, rfl⟩
        have hS3' : S2.laid i (1 + two) = S3 := by rw [← hS3, ← hS2]; exact CS.laid_laid hok1
        have hok3 : S3.Ok := by rw [← hS3]; exact CS.laid_ok hok1 H.out.2.1 (by have := H.out.2.2.2; omega) (by have := H.out.2.2.2; omega) (fun _ => by omega)
        have hl3 : S3.L.length = S1.L.length + 1 := by rw [← hS3, CS.laid_len, ← hS1, CS.unset_unset]
        have hf3 : S3.find i = some (1 + two) := by
          have := CS.laid_find (S := S1) (i := i) (d := 1 + two) (by rw [hS3]; exact hok3)
          rw [hS3, hn1, Int.zero_add] at this
          exact this
        have hn3 : S3.now = 0 := hS3 ▸ hn1
        have hS4 : S3.unset i = S1 := by rw [← hS3, CS.laid_unset hok1, ← hS1]; exact CS.unset_unset
        have hS5 : S1.unset i = S1 := by rw [← hS1]; exact CS.unset_unset
        have hf5 : (S1.find i).isSome = false := by rw [← hS1, CS.find_unset]; rfl
        have hf3' : (S3.find i).isSome = true := by rw [hf3]; rfl
        rw [hS1] at hqt hqb hqd hqe
        have HQ := Lib.hid (And.intro hqa (And.intro hqt (And.intro hqb (And.intro hqd hqe))))
        clear hqa hqt hqb hqd hqe
        obtain ⟨n0, hn⟩ : ∃ n0, S1.L.length = n0 := ⟨_, rfl⟩
        rw [hn] at hl2 hl3
        have hwn : IntKind.i64.wrap ((n0 : Int) + 1) = (n0 : Int) + 1 := IntWalk.i64_in _ (by omega)
        have hwt : IntKind.i64.wrap (1 + two) = 1 + two := hw4
        have HE := Lib.hid (And.intro hE2 (And.intro ((CS.set_of hE2).trans hS2) (And.intro hl2 (And.intro hE3 (And.intro ((CS.set_of hE3).trans hS3') (And.intro hl3 (And.intro hf3 (And.intro hn3 (And.intro hS4 (And.intro hS5 (And.intro hf5 (And.intro hf3' (And.intro hn1 (And.intro hn (And.intro hS1 hl1)))))))))))))))
        clear hl0 hok hok1 hn0 hn1 hm1 hl1 hE2 hok2 hl2 hf2 hn2 hE3 hS3 hS3' hok3 hl3 hf3 hn3 hS4 hS5 hf5 hf3' hn HM' hS1 hS2
        go_wp2_with fail
        refine (ck_unset _ HM.out.ck H.out.2.1.1 H.out.2.1.2 HQ.out.1 HE.out.2.2.2.2.2.2.2.2.2.2.2.2.2.2.1).mono ?_
        rintro e w2 ⟨rfl, a2, hC, hb, hk⟩
        have HN2 := Lib.hid hC
        have HB2 := Lib.hid (HM.out.bel.trans hb)
        clear hC hb hk
        go_wp2_with fail
        refine (ck_all _ HN2.out rfl).mono ?_
        rintro e w3 ⟨_, rfl, ⟨A, ca, rfl, hT⟩, hW⟩
        rw [HE.out.2.2.2.2.2.2.2.2.2.2.2.2.2.1] at hT ⊢
        have HL3 : Hid (Ls w3 a2 (.slice A n0 ca) S1.L) := Nl.ls (B := w2.heap.size) ⟨A, ca, by rw [HE.out.2.2.2.2.2.2.2.2.2.2.2.2.2.1], by rw [HE.out.2.2.2.2.2.2.2.2.2.2.2.2.2.1]; exact hT⟩ HN2.out.a_lt
        have HN3 := Lib.hid (HN2.out.below hW)
        have HB3 := Lib.hid (HB2.out.trans (hW.mono HB2.out.size))
        clear hT hW HN2 HB2
        go_wp2_with fail
        refine (ck_next_k _ HN3.out HQ.out.2.1 HQ.out.2.2.1).mono ?_
        rintro e w4 ⟨rfl, hW⟩
        have HN4 := Lib.hid (HN3.out.below hW)
        have HB4 := Lib.hid (HB3.out.trans (hW.mono HB3.out.size))
        have HL4 := Lib.hid (HL3.out.below hW)
        clear hW HN3 HB3 HL3
        go_wp2_with fail
        refine (ck_due_k _ HN4.out H.out.2.1.1 H.out.2.1.2 HQ.out.2.2.2.1 HQ.out.2.2.2.2).mono ?_
        rintro e _ ⟨rfl, rfl⟩
        go_wp2_with fail
        refine (ck_set _ HN4.out H.out.2.1.1 H.out.2.1.2 (1 + one) HE.out.1 HE.out.2.1).mono ?_
        rintro e w5 ⟨rfl, a5, hC, hb, hk⟩
        have HN5 := Lib.hid hC
        have HB5 := Lib.hid (HB4.out.trans hb)
        have HL5 := Lib.hid (HL4.out.kp hk)
        clear hC hb hk HN4 HB4 HL4
        go_wp2_with fail
        refine (ck_all _ HN5.out rfl).mono ?_
        rintro e w6 ⟨_, rfl, ⟨A6, ca6, rfl, hT⟩, hW⟩
        rw [HE.out.2.2.1]
        have HN6 := Lib.hid (HN5.out.below hW)
        have HB6 := Lib.hid (HB5.out.trans (hW.mono HB5.out.size))
        have HL6 := Lib.hid (HL5.out.below hW)
        clear hW hT HN5 HB5 HL5
        go_wp2_with fail
        refine (ck_set _ HN6.out H.out.2.1.1 H.out.2.1.2 (1 + two) HE.out.2.2.2.1 HE.out.2.2.2.2.1).mono ?_
        rintro e w7 ⟨rfl, a7, hC, hb, hk⟩
        have HN7 := Lib.hid hC
        have HB7 := Lib.hid (HB6.out.trans hb)
        have HL7 := Lib.hid (HL6.out.kp hk)
        clear hC hb hk HN6 HB6 HL6
        go_wp2_with fail
        refine (ck_all _ HN7.out rfl).mono ?_
        rintro e w8 ⟨_, rfl, ⟨A8, ca8, rfl, hT⟩, hW⟩
        rw [HE.out.2.2.2.2.2.1]
        have HN8 := Lib.hid (HN7.out.below hW)
        have HB8 := Lib.hid (HB7.out.trans (hW.mono HB7.out.size))
        have HL8 := Lib.hid (HL7.out.below hW)
        clear hW hT HN7 HB7 HL7
        go_wp2_with fail
        refine (ck_due _ HN8.out H.out.2.1.1 H.out.2.1.2 HE.out.2.2.2.2.2.2.1).mono ?_
        rintro e _ ⟨rfl, rfl⟩
        dsimp only [Option.getD, Option.isSome]
        go_wp2_with fail
        refine (ck_now _ HN8.out HE.out.2.2.2.2.2.2.2.1).mono ?_
        rintro e _ ⟨rfl, rfl⟩
        go_wp2_with fail
        refine (ck_unset _ HN8.out H.out.2.1.1 H.out.2.1.2 HE.out.2.2.2.2.2.2.2.2.2.2.2.1 HE.out.2.2.2.2.2.2.2.2.1).mono ?_
        rintro e w9 ⟨rfl, a9, hC, hb, hk⟩
        have HN9 := Lib.hid hC
        have HB9 := Lib.hid (HB8.out.trans hb)
        have HL9 := Lib.hid (HL8.out.kp hk)
        clear hC hb hk HN8 HB8 HL8
        go_wp2_with fail
        refine (ck_unset _ HN9.out H.out.2.1.1 H.out.2.1.2 HE.out.2.2.2.2.2.2.2.2.2.2.1 HE.out.2.2.2.2.2.2.2.2.2.1).mono ?_
        rintro e w10 ⟨rfl, a10, hC, hb, hk⟩
        have HN10 := Lib.hid hC
        have HB10 := Lib.hid (HB9.out.trans hb)
        have HL10 := Lib.hid (HL9.out.kp hk)
        clear hC hb hk HN9 HB9 HL9
        go_wp2_with fail
        refine (ck_all _ HN10.out rfl).mono ?_
        rintro e w11 ⟨_, rfl, ⟨A11, ca11, rfl, hT⟩, hW⟩
        rw [HE.out.2.2.2.2.2.2.2.2.2.2.2.2.2.1] at hT ⊢
        have HN11 := Lib.hid (HN10.out.below hW)
        have HB11 := Lib.hid (HB10.out.trans (hW.mono HB10.out.size))
        have HL11 : Hid (Tl w11 0 A n0 ca S1.L) := by
          obtain ⟨A', c', e, h1, _⟩ := HL10.out.below hW
          injection e with e1 e2 e3
          subst e1 e3
          rw [← e2] at h1
          exact h1
        have HT11 := Lib.hid (hT.lower (Nat.zero_le _))
        clear hW hT HN10 HB10 HL10
        go_wp2_with fail
        refine (same_is _ HT11.out HL11.out (by have := HE.out.2.2.2.2.2.2.2.2.2.2.2.2.2.2.2; have := HE.out.2.2.2.2.2.2.2.2.2.2.2.2.2.1; omega) (sameL_self _)).mono ?_
        rintro e w12 ⟨rfl, hW⟩
        have HN12 := Lib.hid (HN11.out.below hW)
        have HB12 := Lib.hid (HB11.out.trans (hW.mono HB11.out.size))
        clear hW HN11 HB11
        go_wp2_with fail
        refine (ck_now _ HN12.out HE.out.2.2.2.2.2.2.2.2.2.2.2.2.1).mono ?_
        rintro e _ ⟨rfl, rfl⟩
        go_wp2_with fail
        refine (awake_is _).mono ?_
        rintro e w99 ⟨rfl, hb⟩
        have HZ := Lib.hid (HB12.out.trans (hb.mono HB12.out.size))
        clear hb
        go_wp2
        go_ret
        exact ⟨rfl, HZ.out⟩
end Go.Proofs.Ytncjbohpaanpaaa
