/- Infos in memory; RightTell. -/
import Derived.Test.YtmiapegecoaccaaWirB
namespace Go.Proofs.Ytmiapegecoaccaa
open Go.RowKit Go.Coop
set_option maxRecDepth 100000
theorem info30 : (Try.prog.info? 30).map (fun i => (i.zero, i.size, i.bytes)) = some (some (.agg #[.int .i64 0, .int .i64 0, .int .i64 0, .int .u8 0]), 4, 32) := by kernel_rfl
def icells (i : InfP) : List Value := [.int .i64 i.stripe, .int .i64 i.index, .int .i64 i.version, .int .u8 i.state]
abbrev ival (i : InfP) : Value := .agg #[.int .i64 i.stripe, .int .i64 i.index, .int .i64 i.version, .int .u8 i.state]
def ics (L : List InfP) : List Value := L.flatMap icells
/-- infos that are read -/
structure IL (w : World) (A : Option Addr) (n : Nat) (L : List InfP) : Prop where
  len : L.length = n
  at_ : ∀ (i : Nat) (p : InfP), L[i]? = some p → ∃ ad, A = some ad ∧ ad.block < w.heap.size ∧ ∀ j v, (icells p)[j]? = some v → w.cell? (ad.add (i * 4 + j)) = some v
theorem IL.below {w w' : World} {A : Option Addr} {n : Nat} {L : List InfP} {B : Nat} (h : IL w A n L) (hb : Below B w w') (hB : w.heap.size ≤ B) : IL w' A n L :=
  ⟨h.len, fun i p hi => by
    obtain ⟨ad, h2, h3, h4⟩ := h.at_ i p hi
    exact ⟨ad, h2, Nat.lt_of_lt_of_le h3 hb.size, fun j v hj => (hb.cell (by rw [addr_add_block]; omega)).trans (h4 j v hj)⟩⟩
theorem IL.drewN {w : World} {A : Option Addr} {n : Nat} {L : List InfP} (h : IL w A n L) (k : Nat) : IL (w.drewN k) A n L := ⟨h.len, h.at_⟩
theorem IL.nil (w : World) (A : Option Addr) : IL w A 0 [] := ⟨rfl, by simp⟩
theorem addr_succ (a : Addr) (j k : Nat) : a.add (j + (k + 1)) = ⟨(a.add j).block, (a.add j).off + (k + 1), none⟩ := by
  unfold Addr.add
  rw [if_neg (by omega)]
  split
  · rename_i h; subst h; simp
  · simp [Nat.add_assoc]
theorem IL.get {w : World} {A : Option Addr} {n : Nat} {L : List InfP} (h : IL w A n L) {i : Nat} {p : InfP} (hp : L[i]? = some p) : ∃ ad, A = some ad ∧ ad.block < w.heap.size ∧
    (Instr.loadAt 30 (.pointer (some (ad.add (i * 4))))).run Try.prog w = .ok (ival p) w ∧ w.cell? (ad.add (i * 4)) = some (.int .i64 p.stripe) ∧ w.cell? ⟨(ad.add (i * 4)).block, (ad.add (i * 4)).off + 1, none⟩ = some (.int .i64 p.index) ∧ w.cell? ⟨(ad.add (i * 4)).block, (ad.add (i * 4)).off + 2, none⟩ = some (.int .i64 p.version) ∧ w.cell? ⟨(ad.add (i * 4)).block, (ad.add (i * 4)).off + 3, none⟩ = some (.int .u8 p.state) := by
  obtain ⟨ad, h2, h3, h4⟩ := h.at_ i p hp
  refine ⟨ad, h2, h3, ?_, h4 0 _ rfl, ?_, ?_, ?_⟩
  · exact run_loadAt_at w _ 30 (icells p) _ (fun j v hj => by rw [addr_add_add]; exact h4 j v hj) Try.underlying30 rfl (by kernel_rfl)
  · have := h4 1 _ rfl
    rwa [addr_succ ad (i * 4) 0] at this
  · have := h4 2 _ rfl
    rwa [addr_succ ad (i * 4) 1] at this
  · have := h4 3 _ rfl
    rwa [addr_succ ad (i * 4) 2] at this
theorem ics_len : ∀ L : List InfP, (ics L).length = L.length * 4
  | [] => rfl
  | p :: L => by
    have := ics_len L
    simp only [ics, List.flatMap_cons, List.length_append] at this ⊢
    rw [this]
    simp [icells]
    omega
theorem ics_get : ∀ {L : List InfP} {i : Nat} {p : InfP} {j : Nat} {v : Value}, L[i]? = some p → (icells p)[j]? = some v → (ics L)[i * 4 + j]? = some v
  | [], i, p, j, v, h, _ => by simp at h
  | q :: L, 0, p, j, v, h, hj => by
    simp at h
    subst h
    have : j < (icells q).length := (List.getElem?_eq_some_iff.1 hj).1
    simp only [ics, List.flatMap_cons]
    rw [Nat.zero_mul, Nat.zero_add, List.getElem?_append_left this, hj]
  | q :: L, i + 1, p, j, v, h, hj => by
    have := ics_get (L := L) (i := i) (by simpa using h) hj
    simp only [ics, List.flatMap_cons] at this ⊢
    have hl : (icells q).length = 4 := rfl
    rw [List.getElem?_append_right (by rw [hl]; omega), hl, show (i + 1) * 4 + j - 4 = i * 4 + j by omega, this]
theorem ics_one (L : List InfP) : ∀ v ∈ ics L, v.oneCell' = true := by
  intro v hv
  obtain ⟨p, _, hv⟩ := List.mem_flatMap.1 hv
  simp [icells] at hv
  rcases hv with rfl | rfl | rfl | rfl <;> rfl
theorem ics_append (a b : List InfP) : ics (a ++ b) = ics a ++ ics b := by simp [ics]
theorem il_of_rd {w : World} {A : Option Addr} {n : Nat} {L : List InfP} (hn : L.length = n) (h : RdV w A (n * 4) (ics L)) : IL w A n L :=
  ⟨hn, fun i p hi => by
    have hlt := (List.getElem?_eq_some_iff.1 hi).1
    obtain ⟨ad, e, hl, hc⟩ := h.cells (by omega)
    exact ⟨ad, e, hl, fun j v hj => hc _ _ (ics_get hi hj)⟩⟩
theorem four30 {w : World} {b : Nat} {v0 v1 v2 v3 : Value} {T : TypeId} {fr : Nat × Nat} (h : w.heap[b]? = some (.cells #[v0, v1, v2, v3] T fr)) : w.cell? ⟨b, 0, none⟩ = some v0 ∧ w.cell? ⟨b, 1, none⟩ = some v1 ∧ w.cell? ⟨b, 2, none⟩ = some v2 ∧ w.cell? ⟨b, 3, none⟩ = some v3 :=
  ⟨cell_of_row _ b 0 _ T fr h, cell_of_row _ b 1 _ T fr h, cell_of_row _ b 2 _ T fr h, cell_of_row _ b 3 _ T fr h⟩
section
variable (w : World)
set_option maxHeartbeats 4000000 in
theorem rightT_is (l s o er room : Int) {I : Option Addr} {m mc : Nat} {L : List InfP} (hI : IL w I m L) (hm : m ≤ 1000000) (B : Option Addr) (n c : Nat) (bs : List UInt8) (hn : bs.length = n) {q : Bool} (hq : decide (RightT ⟨l, s, o, er, L, bs, room⟩) = q) :
    Calls Try.prog 11 #[.agg #[.int .i64 l, .int .i64 s, .int .u8 o, .int .i64 er, .slice I m mc, .slice B n c, .int .i64 room]] w (Told w q) := by
  have hlm := hI.len
  have hR : RightT ⟨l, s, o, er, L, bs, room⟩ ↔ HeadOk l s o ∧ (0 ≤ er ∧ er ≤ 1000) ∧ (0 ≤ room ∧ room ≤ 65536) ∧ (er ≠ 0 → m = 0 ∧ n = 0) ∧ m ≤ 50 ∧ n ≤ 65536 ∧ ∀ i ∈ L, InfOk i := by
    unfold RightT
    simp only [hlm, hn]
    rw [← hlm, ← hn, List.length_eq_zero_iff, List.length_eq_zero_iff]
  have HR := Lib.hid (And.intro hR (And.intro hlm hI))
  have HQ := Lib.hid hq
  clear hR hq hn hlm hI
  by_cases h1 : HeadOk l s o
  · have k1 := Lib.hid (decide_eq_true h1)
    by_cases h2 : 0 ≤ er ∧ er ≤ 1000
    · have k2 := Lib.hid (decide_eq_true h2)
      by_cases h3 : 0 ≤ room ∧ room ≤ 65536
      · have k3 := Lib.hid (decide_eq_true h3)
        by_cases hz : er = 0
        · have bz : (er != 0) = false := by simp [hz]
          have h4 : er ≠ 0 → m = 0 ∧ n = 0 := fun h => absurd hz h
          clear hz
          by_cases h5 : m ≤ 50
          · by_cases h6 : n ≤ 65536
            · have HH := Lib.hid (show HeadOk l s o ∧ (0 ≤ er ∧ er ≤ 1000) ∧ (0 ≤ room ∧ room ≤ 65536) ∧ (er ≠ 0 → m = 0 ∧ n = 0) ∧ m ≤ 50 ∧ n ≤ 65536 from ⟨h1, h2, h3, h4, h5, h6⟩)
              have e5 : ¬ (50 : Int) < (m : Int) := by omega
              have e6 : ¬ (65536 : Int) < (n : Int) := by omega
              clear h1 h2 h3 h4 h5 h6
              obtain ⟨w1, hw1⟩ : ∃ x, w.alloc (.cells #[.int .i64 l, .int .i64 s, .int .u8 o, .int .i64 er, .slice I m mc, .slice B n c, .int .i64 room] 34) = x := ⟨_, rfl⟩
              obtain ⟨hb1, hx1⟩ := box_new hw1
              obtain ⟨g, hg⟩ : ∃ g, w.heap.size = g := ⟨_, rfl⟩
              rw [hg] at hx1
              obtain ⟨c0, c1, c2, c3, c4, c5, c6⟩ := arr7 hx1
              have HB := Lib.hid hb1
              clear hb1 hx1
              go_enter Try.func11, Try.ntmps11
              go_wp2_with fail
              (try rw [hw1])
              refine (headed_q _ l s o k1.out).mono ?_
              rintro e w' ⟨rfl, rfl⟩
              go_wp2_with fail
              refine (within_q _ er 0 1000 k2.out).mono ?_
              rintro e w' ⟨rfl, rfl⟩
              go_wp2_with fail
              refine (within_q _ room 0 65536 k3.out).mono ?_
              rintro e w' ⟨rfl, rfl⟩
              go_wp2
              go_loopw [4, 53] (fun _ s53 wr => ∃ k : Nat, k ≤ m ∧ s53 = .int .i64 k ∧ Hid ((∀ i ∈ L.take k, InfOk i) ∧ Below w.heap.size w wr)) (fun _ s53 _ => m - (Go.RowKit.intOf s53).toNat)
              case atStart => exact ⟨0, by omega, rfl, (⟨by simp, HB.out⟩ : (∀ i ∈ L.take 0, InfOk i) ∧ Below w.heap.size w w1)⟩
              case round =>
                obtain ⟨k, hk, rfl, HK⟩ := hrel
                by_cases hlt : k < m
                · obtain ⟨p, hp⟩ : ∃ p, L[k]? = some p := ⟨_, List.getElem?_eq_getElem (by rw [HR.out.2.1]; exact hlt)⟩
                  obtain ⟨ad, rfl, hadl, hload, _, _, _, _⟩ := (HR.out.2.2.below HK.out.2 (Nat.le_refl _)).get hp
                  have hi1 : (0 : Int) ≤ (k : Int) := by omega
                  have hi2 : (k : Int) < (m : Int) := by omega
                  have hwk : IntKind.i64.wrap ((k : Int) + 1) = (k : Int) + 1 := IntWalk.i64_in _ (by omega)
                  have HT := Lib.hid (And.intro hp hlt)
                  clear hp hlt hadl
                  obtain ⟨wa, hwa⟩ : ∃ v, wr.alloc (.cells #[.int .i64 p.stripe, .int .i64 p.index, .int .i64 p.version, .int .u8 p.state] 30) = v := ⟨_, rfl⟩
                  obtain ⟨hba, hxa⟩ := box_new hwa
                  obtain ⟨m0, m1, m2, m3⟩ := four30 hxa
                  have HBA := Lib.hid hba
                  clear hba hxa
                  by_cases hp : InfOk p
                  · have kp := Lib.hid (decide_eq_true hp)
                    have HP := Lib.hid hp
                    clear hp
                    go_wp2_with fail
                    (try rw [hwa])
                    refine (info_is _ p.stripe p.index p.version p.state kp.out).mono ?_
                    rintro e w2 ⟨rfl, hb2⟩
                    have HB2 := Lib.hid (HK.out.2.trans ((HBA.out.trans (hb2.mono HBA.out.size)).mono HK.out.2.size))
                    clear hb2 hwa m0 m1 m2 m3 hload
                    go_wp2
                    go_roundw
                    case rel =>
                      refine ⟨k + 1, by have := HT.out.2; omega, by go_num, (⟨?_, HB2.out⟩ : (∀ i ∈ L.take (k + 1), InfOk i) ∧ _)⟩
                      rw [take_snoc' HT.out.1]
                      intro x hx
                      rcases List.mem_append.1 hx with hx | hx
                      · exact HK.out.1 x hx
                      · simp at hx
                        subst hx
                        exact HP.out
                    case measure => have := HT.out.2; simp [Go.RowKit.intOf]; omega
                  · have kp := Lib.hid (decide_eq_false hp)
                    obtain rfl : q = false := by rw [← HQ.out]; exact decide_eq_false fun h => hp ((HR.out.1.1 h).2.2.2.2.2.2 p (List.mem_of_getElem? HT.out.1))
                    clear hp
                    go_wp2_with fail
                    (try rw [hwa])
                    refine (info_is _ p.stripe p.index p.version p.state kp.out).mono ?_
                    rintro e w2 ⟨rfl, hb2⟩
                    have HB2 := Lib.hid (HK.out.2.trans ((HBA.out.trans (hb2.mono HBA.out.size)).mono HK.out.2.size))
                    clear hb2 hwa m0 m1 m2 m3 hload
                    go_wp2
                    go_ret
                    exact ⟨rfl, HB2.out⟩
                · obtain rfl : k = m := by omega
                  obtain rfl : q = true := by
                    rw [← HQ.out]
                    refine decide_eq_true (HR.out.1.2 ⟨HH.out.1, HH.out.2.1, HH.out.2.2.1, HH.out.2.2.2.1, HH.out.2.2.2.2.1, HH.out.2.2.2.2.2, ?_⟩)
                    have := HK.out.1
                    rwa [List.take_of_length_le (by rw [HR.out.2.1]; exact Nat.le_refl _)] at this
                  go_wp2
                  go_ret
                  exact ⟨rfl, HK.out.2⟩
            · have e5 : ¬ (50 : Int) < (m : Int) := by omega
              have e6 : (65536 : Int) < (n : Int) := by omega
              obtain rfl : q = false := by rw [← HQ.out]; exact decide_eq_false fun h => h6 (HR.out.1.1 h).2.2.2.2.2.1
              clear HQ
              clear h1 h2 h3 h4 h5 h6
              obtain ⟨w1, hw1⟩ : ∃ x, w.alloc (.cells #[.int .i64 l, .int .i64 s, .int .u8 o, .int .i64 er, .slice I m mc, .slice B n c, .int .i64 room] 34) = x := ⟨_, rfl⟩
              obtain ⟨hb1, hx1⟩ := box_new hw1
              obtain ⟨g, hg⟩ : ∃ g, w.heap.size = g := ⟨_, rfl⟩
              rw [hg] at hx1
              obtain ⟨c0, c1, c2, c3, c4, c5, c6⟩ := arr7 hx1
              have HB := Lib.hid hb1
              clear hb1 hx1
              go_enter Try.func11, Try.ntmps11
              go_wp2_with fail
              (try rw [hw1])
              refine (headed_q _ l s o k1.out).mono ?_
              rintro e w' ⟨rfl, rfl⟩
              go_wp2_with fail
              refine (within_q _ er 0 1000 k2.out).mono ?_
              rintro e w' ⟨rfl, rfl⟩
              go_wp2_with fail
              refine (within_q _ room 0 65536 k3.out).mono ?_
              rintro e w' ⟨rfl, rfl⟩
              go_wp2
              go_ret
              exact ⟨rfl, HB.out⟩
          · have e5 : (50 : Int) < (m : Int) := by omega
            obtain rfl : q = false := by rw [← HQ.out]; exact decide_eq_false fun h => h5 (HR.out.1.1 h).2.2.2.2.1
            clear HQ
            clear h1 h2 h3 h4 h5
            obtain ⟨w1, hw1⟩ : ∃ x, w.alloc (.cells #[.int .i64 l, .int .i64 s, .int .u8 o, .int .i64 er, .slice I m mc, .slice B n c, .int .i64 room] 34) = x := ⟨_, rfl⟩
            obtain ⟨hb1, hx1⟩ := box_new hw1
            obtain ⟨g, hg⟩ : ∃ g, w.heap.size = g := ⟨_, rfl⟩
            rw [hg] at hx1
            obtain ⟨c0, c1, c2, c3, c4, c5, c6⟩ := arr7 hx1
            have HB := Lib.hid hb1
            clear hb1 hx1
            go_enter Try.func11, Try.ntmps11
            go_wp2_with fail
            (try rw [hw1])
            refine (headed_q _ l s o k1.out).mono ?_
            rintro e w' ⟨rfl, rfl⟩
            go_wp2_with fail
            refine (within_q _ er 0 1000 k2.out).mono ?_
            rintro e w' ⟨rfl, rfl⟩
            go_wp2_with fail
            refine (within_q _ room 0 65536 k3.out).mono ?_
            rintro e w' ⟨rfl, rfl⟩
            go_wp2
            go_ret
            exact ⟨rfl, HB.out⟩
        · have bz : (er != 0) = true := by simpa using hz
          by_cases hm0 : m = 0
          · by_cases hn0 : n = 0
            · have h4 : er ≠ 0 → m = 0 ∧ n = 0 := fun _ => ⟨hm0, hn0⟩
              have HH := Lib.hid (show HeadOk l s o ∧ (0 ≤ er ∧ er ≤ 1000) ∧ (0 ≤ room ∧ room ≤ 65536) ∧ (er ≠ 0 → m = 0 ∧ n = 0) ∧ m ≤ 50 ∧ n ≤ 65536 from ⟨h1, h2, h3, h4, by omega, by omega⟩)
              have e5 : ¬ (50 : Int) < (m : Int) := by omega
              have e6 : ¬ (65536 : Int) < (n : Int) := by omega
              have e7 : ¬ (0 : Int) < (m : Int) := by omega
              have e8 : ¬ (0 : Int) < (n : Int) := by omega
              clear h1 h2 h3 h4 hz hm0 hn0
              obtain ⟨w1, hw1⟩ : ∃ x, w.alloc (.cells #[.int .i64 l, .int .i64 s, .int .u8 o, .int .i64 er, .slice I m mc, .slice B n c, .int .i64 room] 34) = x := ⟨_, rfl⟩
              obtain ⟨hb1, hx1⟩ := box_new hw1
              obtain ⟨g, hg⟩ : ∃ g, w.heap.size = g := ⟨_, rfl⟩
              rw [hg] at hx1
              obtain ⟨c0, c1, c2, c3, c4, c5, c6⟩ := arr7 hx1
              have HB := Lib.hid hb1
              clear hb1 hx1
              go_enter Try.func11, Try.ntmps11
              go_wp2_with fail
              (try rw [hw1])
              refine (headed_q _ l s o k1.out).mono ?_
              rintro e w' ⟨rfl, rfl⟩
              go_wp2_with fail
              refine (within_q _ er 0 1000 k2.out).mono ?_
              rintro e w' ⟨rfl, rfl⟩
              go_wp2_with fail
              refine (within_q _ room 0 65536 k3.out).mono ?_
              rintro e w' ⟨rfl, rfl⟩
              go_wp2
              go_loopw [4, 53] (fun _ s53 wr => ∃ k : Nat, k ≤ m ∧ s53 = .int .i64 k ∧ Hid ((∀ i ∈ L.take k, InfOk i) ∧ Below w.heap.size w wr)) (fun _ s53 _ => m - (Go.RowKit.intOf s53).toNat)
              case atStart => exact ⟨0, by omega, rfl, (⟨by simp, HB.out⟩ : (∀ i ∈ L.take 0, InfOk i) ∧ Below w.heap.size w w1)⟩
              case round =>
                obtain ⟨k, hk, rfl, HK⟩ := hrel
                by_cases hlt : k < m
                · exact absurd hlt (by omega)
                · obtain rfl : k = m := by omega
                  obtain rfl : q = true := by
                    rw [← HQ.out]
                    refine decide_eq_true (HR.out.1.2 ⟨HH.out.1, HH.out.2.1, HH.out.2.2.1, HH.out.2.2.2.1, HH.out.2.2.2.2.1, HH.out.2.2.2.2.2, ?_⟩)
                    have := HK.out.1
                    rwa [List.take_of_length_le (by rw [HR.out.2.1]; exact Nat.le_refl _)] at this
                  go_wp2
                  go_ret
                  exact ⟨rfl, HK.out.2⟩
            · have e6 : (0 : Int) < (n : Int) := by omega
              have e5 : ¬ (0 : Int) < (m : Int) := by omega
              obtain rfl : q = false := by rw [← HQ.out]; exact decide_eq_false fun h => hn0 ((HR.out.1.1 h).2.2.2.1 hz).2
              clear HQ
              clear h1 h2 h3 hz hn0 hm0
              obtain ⟨w1, hw1⟩ : ∃ x, w.alloc (.cells #[.int .i64 l, .int .i64 s, .int .u8 o, .int .i64 er, .slice I m mc, .slice B n c, .int .i64 room] 34) = x := ⟨_, rfl⟩
              obtain ⟨hb1, hx1⟩ := box_new hw1
              obtain ⟨g, hg⟩ : ∃ g, w.heap.size = g := ⟨_, rfl⟩
              rw [hg] at hx1
              obtain ⟨c0, c1, c2, c3, c4, c5, c6⟩ := arr7 hx1
              have HB := Lib.hid hb1
              clear hb1 hx1
              go_enter Try.func11, Try.ntmps11
              go_wp2_with fail
              (try rw [hw1])
              refine (headed_q _ l s o k1.out).mono ?_
              rintro e w' ⟨rfl, rfl⟩
              go_wp2_with fail
              refine (within_q _ er 0 1000 k2.out).mono ?_
              rintro e w' ⟨rfl, rfl⟩
              go_wp2_with fail
              refine (within_q _ room 0 65536 k3.out).mono ?_
              rintro e w' ⟨rfl, rfl⟩
              go_wp2
              go_ret
              exact ⟨rfl, HB.out⟩
          · have e5 : (0 : Int) < (m : Int) := by omega
            obtain rfl : q = false := by rw [← HQ.out]; exact decide_eq_false fun h => hm0 ((HR.out.1.1 h).2.2.2.1 hz).1
            clear HQ
            clear h1 h2 h3 hz hm0
            obtain ⟨w1, hw1⟩ : ∃ x, w.alloc (.cells #[.int .i64 l, .int .i64 s, .int .u8 o, .int .i64 er, .slice I m mc, .slice B n c, .int .i64 room] 34) = x := ⟨_, rfl⟩
            obtain ⟨hb1, hx1⟩ := box_new hw1
            obtain ⟨g, hg⟩ : ∃ g, w.heap.size = g := ⟨_, rfl⟩
            rw [hg] at hx1
            obtain ⟨c0, c1, c2, c3, c4, c5, c6⟩ := arr7 hx1
            have HB := Lib.hid hb1
            clear hb1 hx1
            go_enter Try.func11, Try.ntmps11
            go_wp2_with fail
            (try rw [hw1])
            refine (headed_q _ l s o k1.out).mono ?_
            rintro e w' ⟨rfl, rfl⟩
            go_wp2_with fail
            refine (within_q _ er 0 1000 k2.out).mono ?_
            rintro e w' ⟨rfl, rfl⟩
            go_wp2_with fail
            refine (within_q _ room 0 65536 k3.out).mono ?_
            rintro e w' ⟨rfl, rfl⟩
            go_wp2
            go_ret
            exact ⟨rfl, HB.out⟩
      · have k3 := Lib.hid (decide_eq_false h3)
        obtain rfl : q = false := by rw [← HQ.out]; exact decide_eq_false fun h => h3 (HR.out.1.1 h).2.2.1
        clear HQ
        clear h1 h2 h3
        obtain ⟨w1, hw1⟩ : ∃ x, w.alloc (.cells #[.int .i64 l, .int .i64 s, .int .u8 o, .int .i64 er, .slice I m mc, .slice B n c, .int .i64 room] 34) = x := ⟨_, rfl⟩
        obtain ⟨hb1, hx1⟩ := box_new hw1
        obtain ⟨g, hg⟩ : ∃ g, w.heap.size = g := ⟨_, rfl⟩
        rw [hg] at hx1
        obtain ⟨c0, c1, c2, c3, c4, c5, c6⟩ := arr7 hx1
        have HB := Lib.hid hb1
        clear hb1 hx1
        go_enter Try.func11, Try.ntmps11
        go_wp2_with fail
        (try rw [hw1])
        refine (headed_q _ l s o k1.out).mono ?_
        rintro e w' ⟨rfl, rfl⟩
        go_wp2_with fail
        refine (within_q _ er 0 1000 k2.out).mono ?_
        rintro e w' ⟨rfl, rfl⟩
        go_wp2_with fail
        refine (within_q _ room 0 65536 k3.out).mono ?_
        rintro e w' ⟨rfl, rfl⟩
        go_wp2
        go_ret
        exact ⟨rfl, HB.out⟩
    · have k2 := Lib.hid (decide_eq_false h2)
      obtain rfl : q = false := by rw [← HQ.out]; exact decide_eq_false fun h => h2 (HR.out.1.1 h).2.1
      clear HQ
      clear h1 h2
      obtain ⟨w1, hw1⟩ : ∃ x, w.alloc (.cells #[.int .i64 l, .int .i64 s, .int .u8 o, .int .i64 er, .slice I m mc, .slice B n c, .int .i64 room] 34) = x := ⟨_, rfl⟩
      obtain ⟨hb1, hx1⟩ := box_new hw1
      obtain ⟨g, hg⟩ : ∃ g, w.heap.size = g := ⟨_, rfl⟩
      rw [hg] at hx1
      obtain ⟨c0, c1, c2, c3, c4, c5, c6⟩ := arr7 hx1
      have HB := Lib.hid hb1
      clear hb1 hx1
      go_enter Try.func11, Try.ntmps11
      go_wp2_with fail
      (try rw [hw1])
      refine (headed_q _ l s o k1.out).mono ?_
      rintro e w' ⟨rfl, rfl⟩
      go_wp2_with fail
      refine (within_q _ er 0 1000 k2.out).mono ?_
      rintro e w' ⟨rfl, rfl⟩
      go_wp2
      go_ret
      exact ⟨rfl, HB.out⟩
  · have k1 := Lib.hid (decide_eq_false h1)
    obtain rfl : q = false := by rw [← HQ.out]; exact decide_eq_false fun h => h1 (HR.out.1.1 h).1
    clear HQ
    clear h1
    obtain ⟨w1, hw1⟩ : ∃ x, w.alloc (.cells #[.int .i64 l, .int .i64 s, .int .u8 o, .int .i64 er, .slice I m mc, .slice B n c, .int .i64 room] 34) = x := ⟨_, rfl⟩
    obtain ⟨hb1, hx1⟩ := box_new hw1
    obtain ⟨g, hg⟩ : ∃ g, w.heap.size = g := ⟨_, rfl⟩
    rw [hg] at hx1
    obtain ⟨c0, c1, c2, c3, c4, c5, c6⟩ := arr7 hx1
    have HB := Lib.hid hb1
    clear hb1 hx1
    go_enter Try.func11, Try.ntmps11
    go_wp2_with fail
    (try rw [hw1])
    refine (headed_q _ l s o k1.out).mono ?_
    rintro e w' ⟨rfl, rfl⟩
    go_wp2
    go_ret
    exact ⟨rfl, HB.out⟩
end
end Go.Proofs.Ytmiapegecoaccaa
