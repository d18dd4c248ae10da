/- Right, and whether all are right. -/
import Derived.Test.YtbilbfjmfaignaaPlcB
import Derived.Deep.WholeRow
namespace Go.Proofs.Ytbilbfjmfaignaa
open Go.RowKit Go.Coop
set_option maxRecDepth 100000
structure Bools (w : World) (g : Nat) (f : Nat → Bool) : Prop where
  at_ : ∃ cs : Array Value, w.heap[g]? = some (.cells cs 65 (0, 0)) ∧ ∀ j, j < 256 → cs[j]? = some (.bool (f j))
theorem Bools.cell {w : World} {g : Nat} {f : Nat → Bool} (h : Bools w g f) {j : Nat} (hj : j < 256) : w.cell? ⟨g, j, none⟩ = some (.bool (f j)) := by
  obtain ⟨cs, h1, h2⟩ := h.at_
  rw [cell_of_row w g j cs 65 (0, 0) h1, h2 j hj]
theorem Bools.frozen {w : World} {g : Nat} {f : Nat → Bool} (h : Bools w g f) (j : Nat) : w.frozen? ⟨g, j, none⟩ = false := by
  obtain ⟨cs, h1, h2⟩ := h.at_
  simp [World.frozen?, h1]
theorem Bools.set_ {w : World} {g : Nat} {f f' : Nat → Bool} (h : Bools w g f) (x : Nat) (hf : ∀ j, f' j = (f j || x == j)) : Bools (w.setCell ⟨g, x, none⟩ (.bool true)) g f' := by
  obtain ⟨cs, h1, h2⟩ := h.at_
  refine ⟨cs.setIfInBounds x (.bool true), ?_, fun j hj => ?_⟩
  · simp [World.setCell, Array.getElem?_modify, h1]
  · have hl : j < cs.size := (Array.getElem?_eq_some_iff.1 (h2 j hj)).1
    by_cases e : x = j
    · subst e; rw [Array.getElem?_setIfInBounds_self_of_lt hl, hf]; simp
    · rw [Array.getElem?_setIfInBounds_ne e, h2 j hj, hf]; simp [e]
theorem Bools.far {w : World} {g : Nat} {f : Nat → Bool} (h : Bools w g f) {p : Addr} (hp : g ≠ p.block) (u : Value) : Bools (w.setCell p u) g f := by
  obtain ⟨cs, h1, h2⟩ := h.at_
  exact ⟨cs, (Below.heap_setCell w p u g hp).trans h1, h2⟩
theorem Bools.drewN {w : World} {g : Nat} {f : Nat → Bool} (h : Bools w g f) (n : Nat) : Bools (w.drewN n) g f := ⟨h.at_⟩
theorem Bools.alloc {w : World} {g : Nat} {f : Nat → Bool} (h : Bools w g f) (hg : g < w.heap.size) (o : Obj) : Bools (w.alloc o) g f := by
  obtain ⟨cs, h1, h2⟩ := h.at_
  exact ⟨cs, (Below.heap_alloc w o g hg).trans h1, h2⟩
theorem Bools.new (w : World) (f : Nat → Bool) (hf : ∀ j, f j = false) : Bools (w.alloc (.cells (Array.replicate 256 (.bool false)) 65)) w.heap.size f :=
  ⟨_, heap_alloc_new w _, fun j hj => by simp [hj, hf]⟩
/-- which nodes have come -/
def sb (l : List Int) (j : Nat) : Bool := l.any fun x => x == (j : Int)
theorem sb_snoc (l : List Int) (y j : Nat) : sb (l ++ [(y : Int)]) j = (sb l j || y == j) := by
  have : ((y : Int) == (j : Int)) = (y == j) := by
    by_cases h : y = j
    · subst h; simp
    · rw [beq_eq_false_iff_ne.2 h, beq_eq_false_iff_ne.2 (by omega)]
  simp [sb, List.any_append, this]
theorem sb_in {l : List Int} {y : Nat} : sb l y = true ↔ (y : Int) ∈ l := by
  unfold sb
  rw [List.any_eq_true]
  constructor
  · rintro ⟨x, hx, e⟩
    have e : x = (y : Int) := by simpa using e
    subst e
    exact hx
  · intro h
    exact ⟨_, h, by simp⟩
def Told (w : World) (q : Bool) (e : Ending) (w' : World) : Prop := e = .returned (.bool q) ∧ Below w.heap.size w w'
section
variable (w : World)
set_option maxHeartbeats 1000000 in
theorem right_is {A : Option Addr} {n c : Nat} {l : List Int} (N ep : Int) (h : RdV w A n (l.map IV)) (hm : n ≤ 1000000) {q : Bool} (hq : rightB N ⟨ep, l⟩ = q) : Calls Try.prog 11 #[.agg #[.int .i64 ep, .slice A n c], .int .i64 N] w (Told w q) := by
  have hln : l.length = n := by simpa using h.len
  by_cases c1 : 1 ≤ N ∧ N ≤ 256
  · have hc1 : decide (1 ≤ N ∧ N ≤ 256) = true := by simpa using c1
    by_cases c2 : 1 ≤ ep ∧ ep ≤ 1099511627776
    · have hc2 : decide (1 ≤ ep ∧ ep ≤ 1099511627776) = true := by simpa using c2
      by_cases c3 : 1 ≤ (n : Int) ∧ (n : Int) ≤ 255
      · have hc3 : decide (1 ≤ (n : Int) ∧ (n : Int) ≤ 255) = true := by simpa using c3
        have hz := (zero_of_info info65).1
        obtain ⟨Z, hZ⟩ : ∃ Z, Z = (Array.replicate 256 (Value.bool false)) := ⟨_, rfl⟩
        rw [← hZ] at hz
        obtain ⟨w1, hw1⟩ : ∃ v, w.alloc (.cells #[.int .i64 ep, .slice A n c] 30) = v := ⟨_, rfl⟩
        obtain ⟨w2, hw2⟩ : ∃ v, w1.alloc (.cells Z 65) = v := ⟨_, rfl⟩
        obtain ⟨hb1, hx1⟩ := box_new hw1
        obtain ⟨hb2, hx2⟩ := box_new hw2
        obtain ⟨b, hb⟩ : ∃ b, w.heap.size = b := ⟨_, rfl⟩
        obtain ⟨b2, hbb⟩ : ∃ b, w1.heap.size = b := ⟨_, rfl⟩
        have hB2 := hb1.trans (hb2.mono hb1.size)
        have hbs : Bools w2 b2 (sb []) := by
          rw [← hw2, ← hbb, hZ]
          exact Bools.new w1 (sb []) (fun _ => rfl)
        have hlt : b < b2 := by rw [← hb, ← hbb]; exact (Array.getElem?_eq_some_iff.1 hx1).1
        rw [hb] at hx1
        obtain ⟨⟨m0, m1⟩, _⟩ := two30 hx1
        obtain ⟨⟨p0, p1⟩, _⟩ := two30 ((hb2.block _ (Array.getElem?_eq_some_iff.1 hx1).1).trans hx1)
        have hqq : (NodesOk N l ↔ q = true) := by
          rw [← hq, rightB, decide_eq_true_iff]
          exact ⟨fun h => ⟨c1, c2, by simp only; omega, h⟩, fun h => h.2.2.2⟩
        have H := Lib.hid (And.intro h (And.intro hln (And.intro hqq (And.intro c1 (And.intro hB2 (And.intro hbs (And.intro hlt hb)))))))
        have HC := Lib.hid (And.intro hc1 (And.intro hc2 hc3))
        clear h hln hqq hB2 hbs hlt hq hx1 hx2 hb1 hb2 c1 c2 c3 hc1 hc2 hc3 hZ
        go_enter Try.func11, Try.ntmps11
        go_wp2_with fail
        refine (fits_q _ N 256 HC.out.1).mono ?_
        rintro e _ ⟨rfl, rfl⟩
        go_wp2_with fail
        refine (fits_q _ ep 1099511627776 HC.out.2.1).mono ?_
        rintro e _ ⟨rfl, rfl⟩
        go_wp2_with fail
        refine (fits_q _ (n : Int) 255 HC.out.2.2).mono ?_
        rintro e _ ⟨rfl, rfl⟩
        go_wp2
        (try rw [hw1]); (try rw [hw2]); (try rw [hb]); (try rw [hbb])
        clear hw1 hw2 hbb hz
        go_loopw [7, 27] (fun _ s27 wr => ∃ j : Nat, j ≤ n ∧ s27 = .int .i64 j ∧ Hid (NodesOk N (l.take j) ∧ Below w.heap.size w wr ∧ Bools wr b2 (sb (l.take j)))) (fun _ s27 _ => n - (Go.RowKit.intOf s27).toNat)
        case atStart => exact ⟨0, by omega, rfl, (⟨NodesOk.nil N, H.out.2.2.2.2.1, by simpa using H.out.2.2.2.2.2.1⟩ : NodesOk N (l.take 0) ∧ Below w.heap.size w w2 ∧ Bools w2 b2 (sb (l.take 0)))⟩
        case round =>
          clear m0 m1 p0 p1
          obtain ⟨j, hj, rfl, HR⟩ := hrel
          by_cases hlt : j < n
          · obtain ⟨y, hy⟩ : ∃ y, l[j]? = some y := ⟨_, List.getElem?_eq_getElem (by rw [H.out.2.1]; exact hlt)⟩
            obtain ⟨ad, rfl, hadl, hxc⟩ := (H.out.1.below HR.out.2.1 (Nat.le_refl _)).cells (by omega)
            have e0 := hxc j (IV y) (by rw [List.getElem?_map, hy]; rfl)
            have hi1 : (0 : Int) ≤ (j : Int) := by omega
            have hi2 : (j : Int) < (n : Int) := by omega
            have hw1 : IntKind.i64.wrap ((j : Int) + 1) = (j : Int) + 1 := IntWalk.i64_in _ (by omega)
            have HT := Lib.hid (And.intro hy hlt)
            clear hy hlt hadl hxc
            by_cases hin : 0 ≤ y ∧ y < N
            · have hin' := Lib.hid (decide_eq_true hin)
              obtain ⟨z, rfl⟩ : ∃ z : Nat, y = (z : Int) := ⟨y.toNat, by omega⟩
              have hz : z < 256 := by have := H.out.2.2.2.1; omega
              have hz' : (z : Int) < 256 := by omega
              have hz0 : (0 : Int) ≤ (z : Int) := by omega
              have hc := HR.out.2.2.cell hz
              have hf := HR.out.2.2.frozen z
              have HI := Lib.hid hin
              clear hin
              cases hs : sb (l.take j) z with
              | true =>
                rw [hs] at hc
                have hq : Hid (q = false) := by
                  show q = false
                  cases hq : q with
                  | false => rfl
                  | true => exact absurd (sb_in.1 hs) (mem_take_ne (H.out.2.2.1.2 hq).2 HT.out.1)
                clear hs
                go_wp2_with fail
                refine (within_q _ (z : Int) N hin'.out).mono ?_
                rintro e _ ⟨rfl, rfl⟩
                go_wp2
                go_ret
                rw [hq.out]
                exact ⟨rfl, HR.out.2.1⟩
              | false =>
                rw [hs] at hc
                have HS := Lib.hid hs
                clear hs
                go_wp2_with fail
                refine (within_q _ (z : Int) N hin'.out).mono ?_
                rintro e _ ⟨rfl, rfl⟩
                go_wp2
                go_roundw
                case rel =>
                  have hbs := HR.out.2.2.set_ (f' := sb (l.take (j + 1))) z (fun i => by rw [take_snoc HT.out.1, sb_snoc])
                  refine ⟨j + 1, by have := HT.out.2; omega, by go_num, (⟨?_, HR.out.2.1.setCell (by have := H.out.2.2.2.2.2.2; simp; omega) _, hbs⟩ : NodesOk N (l.take (j + 1)) ∧ _ ∧ _)⟩
                  rw [take_snoc HT.out.1]
                  exact HR.out.1.snoc HI.out (fun hm => by have := sb_in.2 hm; rw [HS.out] at this; cases this)
                case measure => have := HT.out.2; simp [Go.RowKit.intOf]; omega
            · have hin' := Lib.hid (decide_eq_false hin)
              have hq : Hid (q = false) := by
                show q = false
                cases hq : q with
                | false => rfl
                | true => exact absurd ((H.out.2.2.1.2 hq).1 y (mem_at HT.out.1)) hin
              clear hin
              go_wp2_with fail
              refine (within_q _ y N hin'.out).mono ?_
              rintro e _ ⟨rfl, rfl⟩
              go_wp2
              go_ret
              rw [hq.out]
              exact ⟨rfl, HR.out.2.1⟩
          · obtain rfl : j = n := by omega
            have hq : Hid (q = true) := by
              have := HR.out.1
              rw [List.take_of_length_le (by rw [H.out.2.1]; exact Nat.le_refl _)] at this
              exact H.out.2.2.1.1 this
            go_wp2
            go_ret
            rw [hq.out]
            exact ⟨rfl, HR.out.2.1⟩
      · have hc3 : decide (1 ≤ (n : Int) ∧ (n : Int) ≤ 255) = false := by simpa using c3
        have hq' : q = false := by
          rw [← hq, rightB, decide_eq_false_iff_not]
          intro h'
          have := h'.2.2.1
          simp only at this
          omega
        have HC := Lib.hid (And.intro hc1 (And.intro hc2 hc3))
        clear h hln hq c1 c2 c3 hc1 hc2 hc3
        subst hq'
        go_enter Try.func11, Try.ntmps11
        go_wp2_with fail
        refine (fits_q _ N 256 HC.out.1).mono ?_
        rintro e _ ⟨rfl, rfl⟩
        go_wp2_with fail
        refine (fits_q _ ep 1099511627776 HC.out.2.1).mono ?_
        rintro e _ ⟨rfl, rfl⟩
        go_wp2_with fail
        refine (fits_q _ (n : Int) 255 HC.out.2.2).mono ?_
        rintro e _ ⟨rfl, rfl⟩
        go_wp2
        go_ret
        exact ⟨rfl, (Below.refl _ _).alloc (Nat.le_refl _) _⟩
    · have hc2 : decide (1 ≤ ep ∧ ep ≤ 1099511627776) = false := by simpa using c2
      have hq' : q = false := by
        rw [← hq, rightB, decide_eq_false_iff_not]
        intro h'
        exact c2 h'.2.1
      have HC := Lib.hid (And.intro hc1 hc2)
      clear h hln hq c1 c2 hc1 hc2
      subst hq'
      go_enter Try.func11, Try.ntmps11
      go_wp2_with fail
      refine (fits_q _ N 256 HC.out.1).mono ?_
      rintro e _ ⟨rfl, rfl⟩
      go_wp2_with fail
      refine (fits_q _ ep 1099511627776 HC.out.2).mono ?_
      rintro e _ ⟨rfl, rfl⟩
      go_wp2
      go_ret
      exact ⟨rfl, (Below.refl _ _).alloc (Nat.le_refl _) _⟩
  · have hc1 : decide (1 ≤ N ∧ N ≤ 256) = false := by simpa using c1
    have hq' : q = false := by
      rw [← hq, rightB, decide_eq_false_iff_not]
      intro h'
      exact c1 h'.1
    have HC := Lib.hid hc1
    clear h hln hq c1 hc1
    subst hq'
    go_enter Try.func11, Try.ntmps11
    go_wp2_with fail
    refine (fits_q _ N 256 HC.out).mono ?_
    rintro e _ ⟨rfl, rfl⟩
    go_wp2
    go_ret
    exact ⟨rfl, (Below.refl _ _).alloc (Nat.le_refl _) _⟩
end
end Go.Proofs.Ytbilbfjmfaignaa
