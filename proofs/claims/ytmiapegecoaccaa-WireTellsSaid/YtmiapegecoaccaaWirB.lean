/- Numbers behind bytes: put; PutAsk. -/
import Derived.Test.YtmiapegecoaccaaWirA
import Derived.Test.YtmiapegecoaccaaTab
namespace Go.Proofs.Ytmiapegecoaccaa
open Go.RowKit Go.Coop
set_option maxRecDepth 100000
def IV (x : Int) : Value := .int .i64 x
theorem box_new {w w1 : World} {o : Obj} (h : w.alloc o = w1) : Below w.heap.size w w1 ∧ w1.heap[w.heap.size]? = some o := by
  subst h
  exact ⟨(Below.refl _ _).alloc (Nat.le_refl _) _, heap_alloc_new _ _⟩
theorem ne_of_type {w : World} {p g : Nat} {c1 c2 : Array Value} {E F : TypeId} {f f' : Nat × Nat} (h1 : w.heap[p]? = some (.cells c1 E f)) (h2 : w.heap[g]? = some (.cells c2 F f')) (hE : E ≠ F) : p ≠ g := by
  rintro rfl
  rw [h1] at h2
  injection h2 with e
  injection e with _ e _
  exact hE e
theorem _root_.Go.Coop.Own.typ {w : World} {base E n c : Nat} {A : Option Addr} {l : List UInt8} (h : Own w base E A n c l) {j : Nat} (hj : A.map (·.block) = some j) : ∃ cur, w.heap[j]? = some (.cells cur E (0, 0)) := by
  rcases h.row.2 with ⟨hv, rfl⟩ | ⟨g, cap, cur, hv, _, hg, _⟩
  · injection hv with a _ _
    subst a
    cases hj
  · injection hv with a _ _
    subst a
    simp at hj
    subst hj
    exact ⟨cur, hg⟩
theorem encN_snoc (l : List Int) (x : Int) : encN (l ++ [x]) = encN l ++ dig x.toNat := by simp [encN]
theorem take_snoc' {α : Type} {l : List α} {j : Nat} {x : α} (h : l[j]? = some x) : l.take (j + 1) = l.take j ++ [x] := by rw [List.take_add_one, h]; rfl
/-- seven cells of a block -/
structure Arr7 (w : World) (g : Nat) (v0 v1 v2 v3 v4 v5 v6 : Value) : Prop where
  c0 : w.cell? ⟨g, 0, none⟩ = some v0
  c1 : w.cell? ⟨g, 1, none⟩ = some v1
  c2 : w.cell? ⟨g, 2, none⟩ = some v2
  c3 : w.cell? ⟨g, 3, none⟩ = some v3
  c4 : w.cell? ⟨g, 4, none⟩ = some v4
  c5 : w.cell? ⟨g, 5, none⟩ = some v5
  c6 : w.cell? ⟨g, 6, none⟩ = some v6
theorem arr7 {w : World} {g : Nat} {T : TypeId} {fr : Nat × Nat} {v0 v1 v2 v3 v4 v5 v6 : Value} (h : w.heap[g]? = some (.cells #[v0, v1, v2, v3, v4, v5, v6] T fr)) : Arr7 w g v0 v1 v2 v3 v4 v5 v6 :=
  ⟨cell_of_row _ g 0 _ T fr h, cell_of_row _ g 1 _ T fr h, cell_of_row _ g 2 _ T fr h, cell_of_row _ g 3 _ T fr h, cell_of_row _ g 4 _ T fr h, cell_of_row _ g 5 _ T fr h, cell_of_row _ g 6 _ T fr h⟩
section
variable (w : World)
theorem put_is {base p k kc : Nat} {fr : Nat × Nat} {ns : List Int} (hp : w.heap[p]? = some (.cells (ns.map IV).toArray 3 fr)) (hk : ns.length = k) (hk2 : k ≤ 1000) (hns : ∀ x ∈ ns, 0 ≤ x ∧ x ≤ 4611686018427387904)
    {A : Option Addr} {n c : Nat} {l : List UInt8} (ho : Own w base 5 A n c l) (hb : base ≤ w.heap.size) (hn : n ≤ 1000000000) {N : Nat} (hN : n + (encN ns).length = N) :
    Calls Try.prog 40 #[.slice A n c, .slice (some ⟨p, 0, none⟩) k kc] w fun e w' => ∃ A' c', e = .returned (.slice A' N c') ∧ Own w' base 5 A' N c' (l ++ encN ns) ∧ Below base w w' := by
  have hrow : Below base w w ∧ w.heap[p]? = some (.cells (ns.map IV).toArray 3 fr) := ⟨Below.refl _ _, hp⟩
  have H := Lib.hid (And.intro hp (And.intro hk (And.intro hns (And.intro ho hN))))
  clear hp hk hns hN
  go_enter Try.func40, Try.ntmps40
  go_wp2
  go_loopw [0, 6, 9] (fun s0 _ s9 wr => ∃ (j m : Nat) (A' : Option Addr) (c' : Nat), j ≤ k ∧ s9 = .int .i64 j ∧ s0 = .slice A' m c' ∧ m ≤ n + 10 * j ∧ Own wr base 5 A' m c' (l ++ encN (ns.take j)) ∧ Hid (Below base w wr ∧ wr.heap[p]? = some (.cells (ns.map IV).toArray 3 fr))) (fun _ _ s9 _ => k - (Go.RowKit.intOf s9).toNat)
  case atStart => exact ⟨0, n, A, c, by omega, rfl, rfl, by omega, by simpa [encN] using ho, hrow⟩
  case round =>
    obtain ⟨j, m, A', c', hj, rfl, rfl, hm, hown, HR⟩ := hrel
    by_cases hlt : j < k
    · obtain ⟨x, hx⟩ : ∃ x, ns[j]? = some x := ⟨_, List.getElem?_eq_getElem (by rw [H.out.2.1]; exact hlt)⟩
      obtain ⟨hx0, hx1⟩ := H.out.2.2.1 x (List.mem_of_getElem? hx)
      have hcell : wr.cell? ⟨p, j, none⟩ = some (.int .i64 x) := by
        rw [cell_of_row _ p j _ 3 fr HR.out.2]
        simp [hx, IV]
      have hi1 : (0 : Int) ≤ (j : Int) := by omega
      have hi2 : (j : Int) < (k : Int) := by omega
      have hw1 : IntKind.i64.wrap ((j : Int) + 1) = (j : Int) + 1 := IntWalk.i64_in _ (by omega)
      obtain ⟨y, rfl⟩ := Int.eq_ofNat_of_zero_le hx0
      have hw2 : IntKind.u64.wrap (y : Int) = (y : Int) := by rw [IntKind.wrap_u64]; omega
      have hd := dig_length y
      have HX := Lib.hid (And.intro hx hlt)
      have HO := Lib.hid hown
      clear hx hlt hown
      go_wp2_with fail
      refine (uint_nil y _ (by omega)).mono ?_
      rintro e w1 ⟨A1, c1, rfl, ho1, hb1⟩
      have hown1 := HO.out.below hb1 (Nat.le_refl _)
      obtain ⟨D, hD⟩ : ∃ D, dig y = D := ⟨_, rfl⟩
      rw [hD] at ho1 hd ⊢
      obtain ⟨q, hq⟩ : ∃ q, D.length = q := ⟨_, rfl⟩
      rw [hq] at ho1 hd ⊢
      have HB1 := Lib.hid hb1
      have hbs : base ≤ w1.heap.size := Nat.le_trans hb (Nat.le_trans HR.out.1.size hb1.size)
      clear hb1
      go_wp2_with (at_builtin; refine wpList_app _ rfl (.tmp 13) (.tmp 16) _ rfl base 5 Try.underlying23 info5 rfl hown1 rfl ho1.rd (by omega) hbs (m + q) rfl ?_; intro A2 c2 w2 ho2 hg2 hat2)
      have hp1 : w1.heap[p]? = some (.cells (ns.map IV).toArray 3 fr) := (HB1.out.block p (lt_of_block HR.out.2)).trans HR.out.2
      have hne : some p ≠ A'.map (·.block) := fun e => by
        obtain ⟨cur, hc⟩ := hown1.typ e.symm
        exact ne_of_type hp1 hc (by decide) rfl
      have hp2 : w2.heap[p]? = some (.cells (ns.map IV).toArray 3 fr) := (hg2.block p (lt_of_block hp1) hne).trans hp1
      have hb2 : Below base w w2 := (HR.out.1.trans (HB1.out.mono (Nat.le_trans hb HR.out.1.size))).grown hg2 hbs (fun i hi => (hown1.block i hi).1)
      have e3 : l ++ encN (ns.take j) ++ D = l ++ encN (ns.take (j + 1)) := by
        rw [take_snoc' HX.out.1, encN_snoc, List.append_assoc, Int.toNat_natCast, hD]
      rw [e3] at ho2
      go_roundw
      case rel => exact ⟨j + 1, m + q, A2, c2, by have := HX.out.2; omega, by go_num, rfl, by omega, ho2, (⟨hb2, hp2⟩ : Below base w w2 ∧ _)⟩
      case measure => have := HX.out.2; simp [Go.RowKit.intOf]; omega
    · obtain rfl : j = k := by omega
      rw [List.take_of_length_le (by rw [H.out.2.1]; exact Nat.le_refl _)] at hown
      have hmN : m = N := by
        have h1 := hown.len
        have h2 := H.out.2.2.2.1.len
        have h3 := H.out.2.2.2.2
        rw [List.length_append] at h1
        omega
      subst hmN
      go_wp2
      go_ret
      exact ⟨A', c', rfl, hown, HR.out.1⟩
/-- bytes of one's own and an error -/
def Gives (w : World) (r : List UInt8 × Int) (e : Ending) (w' : World) : Prop := ∃ A n c, e = .returned (.tuple #[.slice A n c, .int .i64 r.2]) ∧ Own w' w.heap.size 5 A n c r.1 ∧ Below w.heap.size w w'
def putA (t : Nat → Nat) (a : AskP) : List UInt8 × Int := if RightA a then (sealed t (encA a), 0) else ([], 110)
def putT (t : Nat → Nat) (x : TelP) : List UInt8 × Int := if RightT x then (sealed t (encT x), 0) else ([], 110)
theorem gives_no {w w' : World} (x : Int) (h : Below w.heap.size w w') : Gives w ([], x) (.returned (.tuple #[.slice none 0 0, .int .i64 x])) w' := ⟨none, 0, 0, rfl, Own.nil _ _ _, h⟩
theorem putA_is {ad : Addr} {t : Nat → Nat} (hT : TabAt w ad t) (had : ad.block < w.heap.size) (l s o st i v : Int) (bs : List UInt8) {B : Option Addr} {n c : Nat} (hr : Rd w B n bs) (hn : n ≤ 1000000) :
    Calls Try.prog 15 #[.pointer (some ad), .agg #[.int .i64 l, .int .i64 s, .int .u8 o, .int .i64 st, .int .i64 i, .int .i64 v, .slice B n c]] w (Gives w (putA t ⟨l, s, o, st, i, v, bs⟩)) := by
  have hlen := hr.len
  obtain ⟨w1, hw1⟩ : ∃ x, w.alloc (.cells #[.int .i64 l, .int .i64 s, .int .u8 o, .int .i64 st, .int .i64 i, .int .i64 v, .slice B n c] 25) = x := ⟨_, rfl⟩
  obtain ⟨hb1, hx1⟩ := box_new hw1
  obtain ⟨g, hg⟩ : ∃ g, w.heap.size = g := ⟨_, rfl⟩
  rw [hg] at hx1
  by_cases hR : RightA ⟨l, s, o, st, i, v, bs⟩
  · have k1 := Lib.hid (decide_eq_true hR)
    have hp : putA t ⟨l, s, o, st, i, v, bs⟩ = (sealed t (encA ⟨l, s, o, st, i, v, bs⟩), 0) := by unfold putA; rw [if_pos hR]
    have hR' := hR
    obtain ⟨⟨r1, r2, r3⟩, ⟨r4, r5, r6⟩, r7⟩ := hR'
    simp only at r1 r2 r3 r4 r5 r6
    have hv : 0 ≤ v := by unfold leastV at r6; split at r6 <;> omega
    have hwo : IntKind.i64.wrap o = o := IntWalk.i64_in _ (by omega)
    have H := Lib.hid (And.intro hb1 (And.intro hx1 (And.intro hp (And.intro hT (And.intro hr hlen)))))
    have HV := Lib.hid (show ∀ x ∈ [1, l, s, o, st, i, v], 0 ≤ x ∧ x ≤ (4611686018427387904 : Int) by
      intro x hx
      simp at hx
      omega)
    clear hb1 hx1 hp hT hr hR r1 r2 r3 r4 r5 r6 r7 hv
    obtain ⟨c0, c1, c2, c3, c4, c5, c6⟩ := arr7 H.out.2.1
    go_enter Try.func15, Try.ntmps15
    go_wp2_with fail
    (try rw [hw1])
    refine (rightA_is _ l s o st i v bs B n c hlen k1.out).mono ?_
    rintro e w2 ⟨rfl, hb2⟩
    have hx2 : w2.heap[g]? = _ := (hb2.block g (lt_of_block H.out.2.1)).trans H.out.2.1
    obtain ⟨d0, d1, d2, d3, d4, d5, d6⟩ := arr7 hx2
    obtain ⟨w3, hw3⟩ : ∃ x, w2.alloc (.cells ([1, l, s, o, st, i, v].map IV).toArray 3) = x := ⟨_, rfl⟩
    obtain ⟨hb3, hx3⟩ := box_new hw3
    have hB3 : Below w.heap.size w w3 := (H.out.1.trans (hb2.mono H.out.1.size)).trans (hb3.mono (H.out.1.trans (hb2.mono H.out.1.size)).size)
    have hx3' : w3.heap[g]? = _ := (hb3.block g (lt_of_block hx2)).trans hx2
    have HB := Lib.hid (And.intro hB3 (And.intro hx3 hx3'))
    clear hb2 hb3 hx3 hB3 hx2 hx3' hw1 c0 c1 c2 c3 c4 c5 c6
    have hsz := encN_len (askNs ⟨l, s, o, st, i, v, bs⟩)
    go_wp2_with fail
    change Calls Try.prog 40 _ (w2.alloc (.cells ([1, l, s, o, st, i, v].map IV).toArray 3)) _
    rw [hw3]
    refine (put_is w3 HB.out.2.1 rfl (by simp) HV.out (Own.nil w3 w3.heap.size 5) (Nat.le_refl _) (by omega) rfl).mono ?_
    rintro e w4 ⟨A4, c4, rfl, ho4, hb4⟩
    simp only [List.nil_append, Nat.zero_add] at ho4 ⊢
    obtain ⟨m, hm⟩ : ∃ m, (encN (askNs ⟨l, s, o, st, i, v, bs⟩)).length = m := ⟨_, rfl⟩
    have h7 : (askNs ⟨l, s, o, st, i, v, bs⟩).length = 7 := rfl
    rw [h7, hm] at hsz
    have ho4' : Own w4 w3.heap.size 5 A4 m c4 (encN (askNs ⟨l, s, o, st, i, v, bs⟩)) := by rw [← hm]; exact ho4
    have hB4 : Below w.heap.size w w4 := HB.out.1.trans (hb4.mono HB.out.1.size)
    have hx4 : w4.heap[g]? = _ := (hb4.block g (lt_of_block HB.out.2.2)).trans HB.out.2.2
    obtain ⟨f0, f1, f2, f3, f4, f5, f6⟩ := arr7 hx4
    have e4 : encN [1, l, s, o, st, i, v] = encN (askNs ⟨l, s, o, st, i, v, bs⟩) := rfl
    rw [e4, hm]
    have HC := Lib.hid (And.intro ho4' (And.intro hB4 (And.intro (H.out.2.2.2.2.1.below hB4 (Nat.le_refl _)) (H.out.2.2.2.1.below had hB4))))
    clear ho4 ho4' hB4 hb4 hx4 d0 d1 d2 d3 d4 d5 d6 hw3 e4
    go_wp2_with fail
    refine (blob_any A4 m c4 _ B n c bs w4 HC.out.1.rd HC.out.2.2.1 (by omega) (by omega)).mono ?_
    rintro e w5 ⟨A5, c5', rfl, ho5, hb5⟩
    have hB5 := HC.out.2.1.trans (hb5.mono HC.out.2.1.size)
    have hT5 := HC.out.2.2.2.below (Nat.lt_of_lt_of_le had HC.out.2.1.size) hb5
    have HD := Lib.hid (And.intro ho5 (And.intro hB5 hT5))
    have hdl := dig_length n
    clear ho5 hb5 hB5 hT5 f0 f1 f2 f3 f4 f5 f6
    go_wp2_with fail
    refine (seal_any ad t A5 _ c5' _ w5 HD.out.2.2 HD.out.1.rd (by omega)).mono ?_
    rintro e w6 ⟨A6, c6', rfl, ho6, hb6⟩
    go_wp2
    go_ret2
    rw [H.out.2.2.1]
    have e6 : encN (askNs ⟨l, s, o, st, i, v, bs⟩) ++ dig n ++ bs = encA ⟨l, s, o, st, i, v, bs⟩ := by
      unfold encA blobB
      simp only
      rw [H.out.2.2.2.2.2, List.append_assoc]
    rw [e6] at ho6
    exact ⟨A6, _, c6', rfl, ho6.lower HD.out.2.1.size, HD.out.2.1.trans (hb6.mono HD.out.2.1.size)⟩
  · have k1 := Lib.hid (decide_eq_false hR)
    have hp : putA t ⟨l, s, o, st, i, v, bs⟩ = ([], 110) := by unfold putA; rw [if_neg hR]
    have H := Lib.hid (And.intro hb1 (And.intro hx1 (And.intro hp hlen)))
    clear hb1 hx1 hp hT hr hR
    obtain ⟨c0, c1, c2, c3, c4, c5, c6⟩ := arr7 H.out.2.1
    go_enter Try.func15, Try.ntmps15
    go_wp2_with fail
    (try rw [hw1])
    refine (rightA_is _ l s o st i v bs B n c hlen k1.out).mono ?_
    rintro e w2 ⟨rfl, hb2⟩
    go_wp2
    go_ret2
    rw [H.out.2.2.1]
    exact gives_no _ (H.out.1.trans (hb2.mono H.out.1.size))
end
end Go.Proofs.Ytmiapegecoaccaa
