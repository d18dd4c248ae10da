/- PutTell. -/
import Derived.Test.YtmiapegecoaccaaWirC
namespace Go.Proofs.Ytmiapegecoaccaa
open Go.RowKit Go.Coop
set_option maxRecDepth 100000
theorem encI_snoc (L : List InfP) (p : InfP) : encI (L ++ [p]) = encI L ++ encN (infNs p) := by simp [encI]
section
variable (w : World)
set_option maxHeartbeats 2000000 in
theorem putT_is {ad : Addr} {t : Nat → Nat} (hT : TabAt w ad t) (had : ad.block < w.heap.size) (l s o er room : Int) {I : Option Addr} {m mc : Nat} {L : List InfP} (hI : IL w I m L) (hm : m ≤ 1000000) (bs : List UInt8) {B : Option Addr} {n c : Nat} (hr : Rd w B n bs) (hn : n ≤ 1000000) :
    Calls Try.prog 16 #[.pointer (some ad), .agg #[.int .i64 l, .int .i64 s, .int .u8 o, .int .i64 er, .slice I m mc, .slice B n c, .int .i64 room]] w (Gives w (putT t ⟨l, s, o, er, L, bs, room⟩)) := by
  have hlen := hr.len
  obtain ⟨w1, hw1⟩ : ∃ x, w.alloc (.cells #[.int .i64 l, .int .i64 s, .int .u8 o, .int .i64 er, .slice I m mc, .slice B n c, .int .i64 room] 34) = x := ⟨_, rfl⟩
  obtain ⟨hb1, hx1⟩ := box_new hw1
  obtain ⟨g, hg⟩ : ∃ g, w.heap.size = g := ⟨_, rfl⟩
  rw [hg] at hx1
  by_cases hR : RightT ⟨l, s, o, er, L, bs, room⟩
  · have k1 := Lib.hid (decide_eq_true hR)
    have hp : putT t ⟨l, s, o, er, L, bs, room⟩ = (sealed t (encT ⟨l, s, o, er, L, bs, room⟩), 0) := by unfold putT; rw [if_pos hR]
    have hR' := hR
    obtain ⟨⟨r1, r2, r3⟩, r4, r5, _, r6, r7, r8⟩ := hR'
    simp only at r1 r2 r3 r4 r5 r6 r7 r8
    have hlm := hI.len
    have hm50 : m ≤ 50 := by omega
    have hwo : IntKind.i64.wrap o = o := IntWalk.i64_in _ (by omega)
    have H := Lib.hid (And.intro hb1 (And.intro hx1 (And.intro hp (And.intro hT (And.intro hr hlen)))))
    have HI := Lib.hid (And.intro hI (And.intro hlm r8))
    have HV := Lib.hid (show ∀ x ∈ [2, l, s, o, er, room, (m : Int)], 0 ≤ x ∧ x ≤ (4611686018427387904 : Int) by
      intro x hx
      simp at hx
      omega)
    clear hb1 hx1 hp hT hr hR r1 r2 r3 r4 r5 r6 r7 r8 hI hlm
    obtain ⟨c0, c1, c2, c3, c4, c5, c6⟩ := arr7 H.out.2.1
    go_enter Try.func16, Try.ntmps16
    go_wp2_with fail
    (try rw [hw1])
    refine (rightT_is _ l s o er room (HI.out.1.below H.out.1 (Nat.le_refl _)) hm B n c bs hlen k1.out).mono ?_
    rintro e w2 ⟨rfl, hb2⟩
    have hx2 : w2.heap[g]? = _ := (hb2.block g (lt_of_block H.out.2.1)).trans H.out.2.1
    obtain ⟨d0, d1, d2, d3, d4, d5, d6⟩ := arr7 hx2
    obtain ⟨w3, hw3⟩ : ∃ x, w2.alloc (.cells ([2, l, s, o, er, room, (m : Int)].map IV).toArray 3) = x := ⟨_, rfl⟩
    obtain ⟨hb3, hx3⟩ := box_new hw3
    have hB3 : Below w.heap.size w w3 := (H.out.1.trans (hb2.mono H.out.1.size)).trans (hb3.mono (H.out.1.trans (hb2.mono H.out.1.size)).size)
    have hx3' : w3.heap[g]? = _ := (hb3.block g (lt_of_block hx2)).trans hx2
    have HB := Lib.hid (And.intro hB3 (And.intro hx3 hx3'))
    clear hb2 hb3 hx3 hB3 hx2 hx3' hw1 c0 c1 c2 c3 c4 c5 c6
    have hsz := encN_len (telNs ⟨l, s, o, er, L, bs, room⟩)
    go_wp2_with fail
    change Calls Try.prog 40 _ (w2.alloc (.cells ([2, l, s, o, er, room, (m : Int)].map IV).toArray 3)) _
    rw [hw3]
    refine (put_is w3 HB.out.2.1 rfl (by simp) HV.out (Own.nil w3 w3.heap.size 5) (Nat.le_refl _) (by omega) rfl).mono ?_
    rintro e w4 ⟨A4, c4, rfl, ho4, hb4⟩
    simp only [List.nil_append, Nat.zero_add] at ho4 ⊢
    obtain ⟨q, hq⟩ : ∃ q, (encN (telNs ⟨l, s, o, er, L, bs, room⟩)).length = q := ⟨_, rfl⟩
    have h7 : (telNs ⟨l, s, o, er, L, bs, room⟩).length = 7 := rfl
    rw [h7, hq] at hsz
    have e4 : encN [2, l, s, o, er, room, (m : Int)] = encN (telNs ⟨l, s, o, er, L, bs, room⟩) := by
      unfold telNs
      simp only [HI.out.2.1]
    rw [e4, hq] at ho4 ⊢
    have hx4 : w4.heap[g]? = _ := (hb4.block g (lt_of_block HB.out.2.2)).trans HB.out.2.2
    obtain ⟨f0, f1, f2, f3, f4, f5, f6⟩ := arr7 hx4
    have HC := Lib.hid (And.intro hb4 HB.out.1)
    have HO := Lib.hid ho4
    clear hb4 hx4 d0 d1 d2 d3 d4 d5 d6 hw3 e4 ho4
    obtain ⟨D, hD⟩ : ∃ D, encN (telNs ⟨l, s, o, er, L, bs, room⟩) = D := ⟨_, rfl⟩
    rw [hD] at HO
    go_wp2
    clear f0 f1 f2 f3 f4 f5 f6
    go_loopw [6, 8, 31] (fun s6 _ s31 wr => ∃ (k r : Nat) (A : Option Addr) (c' : Nat), k ≤ m ∧ s31 = .int .i64 k ∧ s6 = .slice A r c' ∧ r ≤ 70 + 40 * k ∧ Own wr w3.heap.size 5 A r c' (D ++ encI (L.take k)) ∧ Hid (Below w3.heap.size w3 wr)) (fun _ _ s31 _ => m - (Go.RowKit.intOf s31).toNat)
    case atStart => exact ⟨0, q, A4, c4, by omega, rfl, rfl, by omega, by simpa [encI] using HO.out, HC.out.1⟩
    case round =>
      obtain ⟨k, r, A, c', hk, rfl, rfl, hr, hown, HK⟩ := hrel
      have hBk : Below w.heap.size w wr := HB.out.1.trans (HK.out.mono HB.out.1.size)
      have hxk : wr.heap[g]? = _ := (HK.out.block g (lt_of_block HB.out.2.2)).trans HB.out.2.2
      by_cases hlt : k < m
      · obtain ⟨p, hp⟩ : ∃ p, L[k]? = some p := ⟨_, List.getElem?_eq_getElem (by rw [HI.out.2.1]; exact hlt)⟩
        obtain ⟨ia, rfl, hadl, hload, _, _, _, _⟩ := (HI.out.1.below hBk (Nat.le_refl _)).get hp
        obtain ⟨⟨p1, p2, p3⟩, p4⟩ := HI.out.2.2 p (List.mem_of_getElem? hp)
        have hi1 : (0 : Int) ≤ (k : Int) := by omega
        have hi2 : (k : Int) < (m : Int) := by omega
        have hwk : IntKind.i64.wrap ((k : Int) + 1) = (k : Int) + 1 := IntWalk.i64_in _ (by omega)
        have hws : IntKind.i64.wrap p.state = p.state := IntWalk.i64_in _ (by omega)
        have HP := Lib.hid (show ∀ x ∈ infNs p, 0 ≤ x ∧ x ≤ (4611686018427387904 : Int) by
          intro x hx
          simp [infNs] at hx
          omega)
        have HT := Lib.hid (And.intro hp hlt)
        clear hp hlt hadl p1 p2 p3 p4 hxk
        obtain ⟨wa, hwa⟩ : ∃ v, wr.alloc (.cells #[.int .i64 p.stripe, .int .i64 p.index, .int .i64 p.version, .int .u8 p.state] 30) = v := ⟨_, rfl⟩
        obtain ⟨hba, hxa⟩ := box_new hwa
        obtain ⟨m0, m1, m2, m3⟩ := four30 hxa
        obtain ⟨wb, hwb⟩ : ∃ v, wa.alloc (.cells ((infNs p).map IV).toArray 3) = v := ⟨_, rfl⟩
        obtain ⟨hbb, hxb⟩ := box_new hwb
        have hbs : w3.heap.size ≤ wr.heap.size := HK.out.size
        have HBA := Lib.hid (And.intro (HK.out.trans ((hba.trans (hbb.mono hba.size)).mono hbs)) (And.intro hxb ((hown.below hba (Nat.le_refl _)).below hbb (Nat.le_refl _))))
        have hsz := encN_len (infNs p)
        have h4 : (infNs p).length = 4 := rfl
        rw [h4] at hsz
        clear hba hxa hbb hxb hown hBk
        go_wp2_with fail
        change Calls Try.prog 40 _ (World.alloc _ (.cells ((infNs p).map IV).toArray 3)) _
        (try rw [hwa]); (try rw [hwb])
        refine (put_is wb HBA.out.2.1 rfl (by rw [h4]; omega) HP.out HBA.out.2.2 (HBA.out.1.size) (by omega) rfl).mono ?_
        rintro e w5 ⟨A5, c5, rfl, ho5, hb5⟩
        have HB5 := Lib.hid (HBA.out.1.trans hb5)
        have e5 : D ++ encI (L.take k) ++ encN (infNs p) = D ++ encI (L.take (k + 1)) := by rw [take_snoc' HT.out.1, encI_snoc, List.append_assoc]
        rw [e5] at ho5
        clear hb5 hwa hwb m0 m1 m2 m3 hload
        obtain ⟨z, hz⟩ : ∃ z, (encN (infNs p)).length = z := ⟨_, rfl⟩
        rw [hz] at ho5 hsz ⊢
        go_wp2
        go_roundw
        case rel => exact ⟨k + 1, r + z, A5, c5, by have := HT.out.2; omega, by go_num, rfl, by omega, ho5, HB5.out⟩
        case measure => have := HT.out.2; simp [Go.RowKit.intOf]; omega
      · obtain rfl : k = m := by omega
        rw [List.take_of_length_le (by rw [HI.out.2.1]; exact Nat.le_refl _)] at hown
        obtain ⟨f0, f1, f2, f3, f4, f5, f6⟩ := arr7 hxk
        have HE := Lib.hid (And.intro hown (And.intro hBk (And.intro (H.out.2.2.2.2.1.below hBk (Nat.le_refl _)) (H.out.2.2.2.1.below had hBk))))
        clear hown hBk hxk
        go_wp2_with fail
        refine (blob_any A r c' _ B n c bs wr HE.out.1.rd HE.out.2.2.1 (by omega) (by omega)).mono ?_
        rintro e w5 ⟨A5, c5', rfl, ho5, hb5⟩
        have hB5 := HE.out.2.1.trans (hb5.mono HE.out.2.1.size)
        have hT5 := HE.out.2.2.2.below (Nat.lt_of_lt_of_le had HE.out.2.1.size) hb5
        have HF := Lib.hid (And.intro ho5 (And.intro hB5 hT5))
        have hdl := dig_length n
        clear ho5 hb5 hB5 hT5 f0 f1 f2 f3 f4 f5 f6
        go_wp2_with fail
        refine (seal_any ad t A5 _ c5' _ w5 HF.out.2.2 HF.out.1.rd (by omega)).mono ?_
        rintro e w6 ⟨A6, c6', rfl, ho6, hb6⟩
        go_wp2
        go_ret2
        rw [H.out.2.2.1]
        have e6 : D ++ encI L ++ dig n ++ bs = encT ⟨l, s, o, er, L, bs, room⟩ := by
          unfold encT blobB
          simp only
          rw [H.out.2.2.2.2.2, hD]
          simp only [List.append_assoc]
        rw [e6] at ho6
        exact ⟨A6, _, c6', rfl, ho6.lower HF.out.2.1.size, HF.out.2.1.trans (hb6.mono HF.out.2.1.size)⟩
  · have k1 := Lib.hid (decide_eq_false hR)
    have hp : putT t ⟨l, s, o, er, L, bs, room⟩ = ([], 110) := by unfold putT; rw [if_neg hR]
    have H := Lib.hid (And.intro hb1 (And.intro hx1 (And.intro hp (And.intro hI hlen))))
    clear hb1 hx1 hp hT hr hR hI
    obtain ⟨c0, c1, c2, c3, c4, c5, c6⟩ := arr7 H.out.2.1
    go_enter Try.func16, Try.ntmps16
    go_wp2_with fail
    (try rw [hw1])
    refine (rightT_is _ l s o er room (H.out.2.2.2.1.below H.out.1 (Nat.le_refl _)) hm B n c bs hlen k1.out).mono ?_
    rintro e w2 ⟨rfl, hb2⟩
    go_wp2
    go_ret2
    rw [H.out.2.2.1]
    exact gives_no _ (H.out.1.trans (hb2.mono H.out.1.size))
end
end Go.Proofs.Ytmiapegecoaccaa
