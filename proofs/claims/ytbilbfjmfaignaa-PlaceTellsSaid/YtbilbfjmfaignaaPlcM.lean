/- has: what placements have. -/
import Derived.Test.YtbilbfjmfaignaaPlcL
namespace Go.Proofs.Ytbilbfjmfaignaa
open Go.RowKit Go.Coop
set_option maxRecDepth 100000
section
variable (w : World)
theorem has_true {A E F : Option Addr} {n ca ce cf : Nat} {ps qs : List Pc} (hA : PL w A n ps) (hE : RdV w E n (ps.map fun p => IV p.e)) (hF : RdV w F n (qs.map fun q => .slice q.A q.n q.c)) (hq : ∀ q ∈ qs, q.Ok w) (hl : qs.map Pc.l = ps.map Pc.l) (hn : n ≤ 1000000) :
    Calls Try.prog 16 #[.slice A n ca, .slice E n ce, .slice F n cf] w fun e w' => e = .returned (.bool true) ∧ ∃ d, w' = w.drewN d := by
  have hln := hA.len
  have hlm : qs.length = n := by simpa using hF.len
  have mixed : Try.prog.follows Departure.mixedOrders = true := by kernel_rfl
  have H := Lib.hid (And.intro hA (And.intro hE (And.intro hF (And.intro hq (And.intro hl (And.intro hln hlm))))))
  clear hA hE hF hq hl hln hlm
  go_enter Try.func16, Try.ntmps16
  go_wp2
  go_loopw [7, 22] (fun _ s22 wr => ∃ j d : Nat, j ≤ n ∧ s22 = .int .i64 j ∧ Hid (wr = w.drewN d)) (fun _ s22 _ => n - (Go.RowKit.intOf s22).toNat)
  case atStart => exact ⟨0, 0, by omega, rfl, (rfl : w = w.drewN 0)⟩
  case round =>
    obtain ⟨j, d, hj, rfl, HD⟩ := hrel
    have HB : Hid (Below w.heap.size w wr) := by
      have e := HD.out
      show Below w.heap.size w wr
      rw [e]
      exact ⟨rfl, rfl, rfl, Nat.le_refl _, fun _ _ => rfl⟩
    by_cases hlt : j < n
    · obtain ⟨x, hx⟩ : ∃ x, ps[j]? = some x := ⟨_, List.getElem?_eq_getElem (by rw [H.out.2.2.2.2.2.1]; exact hlt)⟩
      obtain ⟨y, hy⟩ : ∃ y, qs[j]? = some y := ⟨_, List.getElem?_eq_getElem (by rw [H.out.2.2.2.2.2.2]; exact hlt)⟩
      obtain ⟨ad, okx, rfl, hadl, hload, d0, d1⟩ := (H.out.1.below HB.out (Nat.le_refl _)).get' hx
      obtain ⟨ad', rfl, hadl', hc'⟩ := (H.out.2.1.below HB.out (Nat.le_refl _)).cells (by omega)
      obtain ⟨ad'', rfl, hadl'', hc''⟩ := (H.out.2.2.1.below HB.out (Nat.le_refl _)).cells (by omega)
      have e0 := hc' j (IV x.e) (by rw [List.getElem?_map, hx]; rfl)
      have e1 := hc'' j (.slice y.A y.n y.c) (by rw [List.getElem?_map, hy]; rfl)
      have oky := (H.out.2.2.2.1 y (mem_at hy)).below HB.out (Nat.le_refl _)
      have hxy : x.l = y.l := by
        have := congrArg (fun l => l[j]?) H.out.2.2.2.2.1
        simp [hx, hy] at this
        exact this.symm
      have hi1 : (0 : Int) ≤ (j : Int) := by omega
      have hi2 : (j : Int) < (n : Int) := by omega
      have hw1 : IntKind.i64.wrap ((j : Int) + 1) = (j : Int) + 1 := IntWalk.i64_in _ (by omega)
      have HX := Lib.hid (And.intro hlt (And.intro okx (And.intro oky hxy)))
      have hlb := Lib.hid (decide_eq_true hxy)
      clear hx hy hlt okx oky hadl hadl' hadl'' hload hc' hc'' hxy
      obtain ⟨xe, xA, xn, xc, xl⟩ := x
      obtain ⟨ye, yA, yn, yc, yl⟩ := y
      simp only at d0 d1 e0 e1
      go_wp2
      go_quiet (first | (go_at_call 26; refine Calls.quiet_of (sameInts_is _ (HX.out.2.1.rd.drewN _) (HX.out.2.2.1.rd.drewN _) HX.out.2.1.small hlb.out)))
      go_wp2
      go_roundw
      case rel =>
        refine ⟨j + 1, d + nq, by have := HX.out.1; omega, by go_num, (?_ : wr.drewN nq = w.drewN (d + nq))⟩
        rw [HD.out, World.drewN_drewN]
      case measure => have := HX.out.1; simp [Go.RowKit.intOf]; omega
    · obtain rfl : j = n := by omega
      go_wp2
      go_ret
      exact ⟨rfl, d, HD.out⟩
theorem ints_new (w : World) (l : List Int) : RdV (w.alloc (.cells (l.map IV).toArray 3)) (some ⟨w.heap.size, 0, none⟩) l.length (l.map IV) := by
  have := RdV.new w (l.map IV) 3 (0, 0)
  rwa [List.length_map] at this
def w6 (w : World) (es a b c d : List Int) (s : Nat) : World :=
  (((((w.alloc (.cells (es.map IV).toArray 3)).alloc (.cells (a.map IV).toArray 3)).alloc (.cells (b.map IV).toArray 3)).alloc (.cells (c.map IV).toArray 3)).alloc (.cells (d.map IV).toArray 3)).alloc (.cells #[.slice (some ⟨s + 1, 0, none⟩) a.length a.length, .slice (some ⟨s + 2, 0, none⟩) b.length b.length, .slice (some ⟨s + 3, 0, none⟩) c.length c.length, .slice (some ⟨s + 4, 0, none⟩) d.length d.length] 28)
theorem has_six {A : Option Addr} {ca : Nat} {ps : List Pc} (hA : PL w A 4 ps) (e0 e1 e2 e3 : Int) (a b c d : List Int) (hp : ps.map Pc.pl = [⟨e0, a⟩, ⟨e1, b⟩, ⟨e2, c⟩, ⟨e3, d⟩]) (ha : a.length ≤ 1000 ∧ b.length ≤ 1000 ∧ c.length ≤ 1000 ∧ d.length ≤ 1000) {s : Nat} (hs : w.heap.size = s) {W : World} (hW : w6 w [e0, e1, e2, e3] a b c d s = W) :
    Below w.heap.size w W ∧ Calls Try.prog 16 #[.slice A 4 ca, .slice (some ⟨s, 0, none⟩) 4 4, .slice (some ⟨s + 5, 0, none⟩) 4 4] W fun e w' => e = .returned (.bool true) ∧ ∃ d, w' = W.drewN d := by
  subst hs hW
  have r1 := ints_new w [e0, e1, e2, e3]
  have b1 : Below w.heap.size w (w.alloc (.cells ([e0, e1, e2, e3].map IV).toArray 3)) := (Below.refl _ _).alloc (Nat.le_refl _) _
  unfold w6
  generalize hw1 : w.alloc (.cells ([e0, e1, e2, e3].map IV).toArray 3) = w1 at *
  have z1 : w1.heap.size = w.heap.size + 1 := by rw [← hw1]; simp
  clear hw1
  have r2 := ints_new w1 a
  have b2 : Below w1.heap.size w1 (w1.alloc (.cells (a.map IV).toArray 3)) := (Below.refl _ _).alloc (Nat.le_refl _) _
  generalize hw2 : w1.alloc (.cells (a.map IV).toArray 3) = w2 at *
  have z2 : w2.heap.size = w.heap.size + 2 := by rw [← hw2]; simp [z1]
  clear hw2
  have r3 := ints_new w2 b
  have b3 : Below w2.heap.size w2 (w2.alloc (.cells (b.map IV).toArray 3)) := (Below.refl _ _).alloc (Nat.le_refl _) _
  generalize hw3 : w2.alloc (.cells (b.map IV).toArray 3) = w3 at *
  have z3 : w3.heap.size = w.heap.size + 3 := by rw [← hw3]; simp [z2]
  clear hw3
  have r4 := ints_new w3 c
  have b4 : Below w3.heap.size w3 (w3.alloc (.cells (c.map IV).toArray 3)) := (Below.refl _ _).alloc (Nat.le_refl _) _
  generalize hw4 : w3.alloc (.cells (c.map IV).toArray 3) = w4 at *
  have z4 : w4.heap.size = w.heap.size + 4 := by rw [← hw4]; simp [z3]
  clear hw4
  have r5 := ints_new w4 d
  have b5 : Below w4.heap.size w4 (w4.alloc (.cells (d.map IV).toArray 3)) := (Below.refl _ _).alloc (Nat.le_refl _) _
  generalize hw5 : w4.alloc (.cells (d.map IV).toArray 3) = w5 at *
  have z5 : w5.heap.size = w.heap.size + 5 := by rw [← hw5]; simp [z4]
  clear hw5
  have r6 := RdV.new w5 [.slice (some ⟨w.heap.size + 1, 0, none⟩) a.length a.length, .slice (some ⟨w.heap.size + 2, 0, none⟩) b.length b.length, .slice (some ⟨w.heap.size + 3, 0, none⟩) c.length c.length, .slice (some ⟨w.heap.size + 4, 0, none⟩) d.length d.length] 28 (0, 0)
  have b6 : Below w5.heap.size w5 (w5.alloc (.cells #[.slice (some ⟨w.heap.size + 1, 0, none⟩) a.length a.length, .slice (some ⟨w.heap.size + 2, 0, none⟩) b.length b.length, .slice (some ⟨w.heap.size + 3, 0, none⟩) c.length c.length, .slice (some ⟨w.heap.size + 4, 0, none⟩) d.length d.length] 28)) := (Below.refl _ _).alloc (Nat.le_refl _) _
  change RdV (w5.alloc (.cells #[.slice (some ⟨w.heap.size + 1, 0, none⟩) a.length a.length, .slice (some ⟨w.heap.size + 2, 0, none⟩) b.length b.length, .slice (some ⟨w.heap.size + 3, 0, none⟩) c.length c.length, .slice (some ⟨w.heap.size + 4, 0, none⟩) d.length d.length] 28)) _ 4 _ at r6
  generalize w5.alloc (.cells #[.slice (some ⟨w.heap.size + 1, 0, none⟩) a.length a.length, .slice (some ⟨w.heap.size + 2, 0, none⟩) b.length b.length, .slice (some ⟨w.heap.size + 3, 0, none⟩) c.length c.length, .slice (some ⟨w.heap.size + 4, 0, none⟩) d.length d.length] 28) = W at *
  have c5 := b5.trans (b6.mono b5.size)
  have c4 := b4.trans (c5.mono b4.size)
  have c3 := b3.trans (c4.mono b3.size)
  have c2 := b2.trans (c3.mono b2.size)
  have c1 := b1.trans (c2.mono b1.size)
  rw [z1] at r2
  rw [z2] at r3
  rw [z3] at r4
  rw [z4] at r5
  rw [z5] at r6
  refine ⟨c1, has_true W (ps := ps) (qs := [⟨0, some ⟨w.heap.size + 1, 0, none⟩, a.length, a.length, a⟩, ⟨0, some ⟨w.heap.size + 2, 0, none⟩, b.length, b.length, b⟩, ⟨0, some ⟨w.heap.size + 3, 0, none⟩, c.length, c.length, c⟩, ⟨0, some ⟨w.heap.size + 4, 0, none⟩, d.length, d.length, d⟩]) (hA.below c1 (Nat.le_refl _)) ?_ r6 ?_ ?_ (by omega)⟩
  · have h1 := r1.below c2 (Nat.le_refl _)
    have e : (ps.map fun p => IV p.e) = [e0, e1, e2, e3].map IV := by
      have := congrArg (List.map fun p => IV p.e) hp
      rwa [List.map_map] at this
    rw [e]
    exact h1
  · intro q hq
    simp at hq
    rcases hq with rfl | rfl | rfl | rfl
    · exact ⟨r2.below c3 (Nat.le_refl _), by simp only; omega⟩
    · exact ⟨r3.below c4 (Nat.le_refl _), by simp only; omega⟩
    · exact ⟨r4.below c5 (Nat.le_refl _), by simp only; omega⟩
    · exact ⟨r5.below b6 (Nat.le_refl _), by simp only; omega⟩
  · have := congrArg (List.map fun p => p.l) hp
    rw [List.map_map] at this
    exact this.symm
end
end Go.Proofs.Ytbilbfjmfaignaa
