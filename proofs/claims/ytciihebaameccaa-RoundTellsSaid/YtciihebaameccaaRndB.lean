/- slices.Index, Contains, Clone at ints, SameInts; the closure that counts marks. -/
import Derived.Test.YtciihebaameccaaRndA
import Derived.Deep.RegionWith
namespace Go.Coop
theorem take_snoc {α : Type} {l : List α} {k : Nat} {x : α} (h : l[k]? = some x) : l.take (k + 1) = l.take k ++ [x] := by
  rw [List.take_add_one, h]
  rfl
theorem mem_at {α : Type} {l : List α} {k : Nat} {x : α} (h : l[k]? = some x) : x ∈ l := List.mem_of_getElem? h
def idxN (x : Int) : List Int → Nat
  | [] => 0
  | y :: l => if y = x then 0 else idxN x l + 1
def idxP (x : Int) (l : List Int) : Int := if idxN x l < l.length then (idxN x l : Int) else -1
theorem idxN_le (i : Int) : ∀ L : List Int, idxN i L ≤ L.length
  | [] => by simp [idxN]
  | t :: l => by
    have := idxN_le i l
    unfold idxN
    split <;> simp <;> omega
theorem idxN_eq {i : Int} : ∀ {L : List Int} {j : Nat}, i ∉ L.take j → L[j]? = some i → idxN i L = j
  | [], j, _, h => by simp at h
  | a :: l, 0, _, h => by
    simp at h
    simp [idxN, h]
  | a :: l, j + 1, hn, h => by
    simp at h hn
    have ha : a ≠ i := fun e => hn.1 e.symm
    have := idxN_eq (L := l) hn.2 h
    unfold idxN
    rw [if_neg ha, this]
theorem idxN_none {i : Int} : ∀ {L : List Int}, i ∉ L → idxN i L = L.length
  | [], _ => rfl
  | a :: l, h => by
    simp at h
    have ha : a ≠ i := fun e => h.1 e.symm
    have := idxN_none (L := l) h.2
    unfold idxN
    rw [if_neg ha, this]
    rfl
theorem idxN_lt {i : Int} : ∀ {L : List Int}, i ∈ L → idxN i L < L.length
  | [], h => by simp at h
  | a :: l, h => by
    unfold idxN
    split
    · simp
    · rename_i e
      have : i ∈ l := by
        rcases List.mem_cons.1 h with h | h
        · exact absurd h.symm e
        · exact h
      have := idxN_lt (L := l) this
      simp
      omega
theorem idxP_mem {i : Int} {L : List Int} : i ∈ L ↔ 0 ≤ idxP i L := by
  unfold idxP
  constructor
  · intro h
    rw [if_pos (idxN_lt h)]
    omega
  · intro h
    by_cases hm : i ∈ L
    · exact hm
    · rw [idxN_none hm] at h
      simp at h
theorem idxP_out {i : Int} {L : List Int} (h : i ∉ L) : idxP i L = -1 := by
  unfold idxP
  rw [idxN_none h, if_neg (by omega)]
/-- how many marks are of some kinds -/
def cntIn (ks l : List Int) : Int := (l.countP fun m => decide (m ∈ ks) : Nat)
theorem cntIn_one (k : Int) (l : List Int) : cntIn [k] l = cnt k l := by
  unfold cntIn cnt
  simp
theorem cntIn_nonneg (ks l : List Int) : 0 ≤ cntIn ks l := by unfold cntIn; omega
theorem cntIn_le (ks l : List Int) : cntIn ks l ≤ l.length := by
  unfold cntIn
  have := List.countP_le_length (p := fun m => decide (m ∈ ks)) (l := l)
  omega
theorem cntIn_two {a b : Int} (h : a ≠ b) : ∀ l : List Int, cntIn [a, b] l = cnt a l + cnt b l
  | [] => rfl
  | y :: l => by
    have ih := cntIn_two h l
    rw [cnt_cons, cnt_cons]
    unfold cntIn at ih ⊢
    rw [List.countP_cons]
    by_cases h1 : y = a
    · have h2 : y ≠ b := by omega
      simp [h1, h] at ih ⊢
      omega
    · by_cases h2 : y = b
      · simp [h2, Ne.symm h] at ih ⊢
        omega
      · simp [h1, h2] at ih ⊢
        omega
theorem cntIn_marks : ∀ l : List Int, cntIn [0, 1, 2, 3, 4] l = l.length ↔ Marks l
  | [] => by simp [cntIn, Marks]
  | y :: l => by
    have ih := cntIn_marks l
    have hl := cntIn_le [0, 1, 2, 3, 4] l
    have e : cntIn [0, 1, 2, 3, 4] (y :: l) = cntIn [0, 1, 2, 3, 4] l + if y ∈ [0, 1, 2, 3, 4] then 1 else 0 := by
      unfold cntIn
      rw [List.countP_cons]
      by_cases h : y ∈ [0, 1, 2, 3, 4] <;> simp [h]
    have hm : Marks (y :: l) ↔ (0 ≤ y ∧ y ≤ 4) ∧ Marks l := by unfold Marks; simp
    have hy : y ∈ ([0, 1, 2, 3, 4] : List Int) ↔ (0 ≤ y ∧ y ≤ 4) := by simp; omega
    rw [e, hm, ← ih, List.length_cons]
    by_cases h : y ∈ ([0, 1, 2, 3, 4] : List Int)
    · rw [if_pos h]
      have := hy.1 h
      constructor
      · intro h2; exact ⟨this, by omega⟩
      · intro h2; omega
    · rw [if_neg h]
      constructor
      · intro h2; omega
      · intro h2; exact absurd (hy.2 h2.1) h
theorem cntIn_take {ks l : List Int} {j : Nat} {y : Int} (h : l[j]? = some y) : cntIn ks (l.take (j + 1)) = cntIn ks (l.take j) + if y ∈ ks then 1 else 0 := by
  rw [take_snoc h]
  unfold cntIn
  rw [List.countP_append]
  by_cases h2 : y ∈ ks <;> simp [h2]
end Go.Coop
namespace Go.Proofs.Ytciihebaameccaa
open Go.RowKit Go.Coop
set_option maxRecDepth 100000
theorem _root_.Go.Coop.OwnV.lower' {w : World} {base base' E : Nat} {A : Option Addr} {n c : Nat} {l : List Value} (h : OwnV w base E A n c l) (hb : base' ≤ base) : OwnV w base' E A n c l := by
  refine ⟨h.len, h.row.1, ?_⟩
  rcases h.row.2 with h0 | ⟨g, cap, cur, hv, hbg, hg, r⟩
  · exact .inl h0
  · exact .inr ⟨g, cap, cur, hv, Nat.le_trans hb hbg, hg, r⟩
theorem _root_.Go.Coop.OwnV.but {gs : List Nat} {w w' : World} {base E : Nat} {A : Option Addr} {n c : Nat} {l : List Value} (h : OwnV w base E A n c l) (hb : But gs w w') (hn : ∀ j, A.map (·.block) = some j → j ∉ gs) : OwnV w' base E A n c l := by
  refine ⟨h.len, h.row.1, ?_⟩
  rcases h.row.2 with h0 | ⟨g, cap, cur, hv, hbg, hg, r⟩
  · exact .inl h0
  · injection hv with hA h2 h3
    subst hA h3
    exact .inr ⟨g, c, cur, rfl, hbg, hb.cells hg (hn g rfl), r⟩
theorem _root_.Go.Coop.OwnV.typ {w : World} {base E : Nat} {A : Option Addr} {n c : Nat} {l : List Value} (h : OwnV w base E A n c l) {j : Nat} (hj : A.map (·.block) = some j) : ∃ cur, w.heap[j]? = some (.cells cur E (0, 0)) := by
  rcases h.row.2 with ⟨hv, _⟩ | ⟨g, cap, cur, hv, hbg, hg, r⟩
  · injection hv with hA h2 h3
    subst hA
    cases hj
  · injection hv with hA h2 h3
    subst hA
    injection hj with hj
    subst hj
    exact ⟨cur, hg⟩
theorem ivs_one (l : List Int) : ∀ u ∈ l.map IV, u.oneCell' = true := by
  intro u hu
  obtain ⟨x, _, rfl⟩ := List.mem_map.1 hu
  rfl
/-- a list of ints of one's own is told -/
def Ints (w : World) (l : List Int) (e : Ending) (w' : World) : Prop := ∃ A c, e = .returned (.slice A l.length c) ∧ OwnV w' w.heap.size 3 A l.length c (l.map IV) ∧ Below w.heap.size w w'
section
variable (w : World)
theorem sidx_is {A : Option Addr} {n c : Nat} {l : List Int} (h : RdV w A n (l.map IV)) (hn : n ≤ 1000000) (x : Int) {q : Int} (hq : idxP x l = q) : Calls Try.prog 53 #[.slice A n c, .int .i64 x] w fun e w' => e = .returned (.int .i64 q) ∧ w = w' := by
  have hln : l.length = n := by have := h.len; simpa using this
  have H := Lib.hid (And.intro h (And.intro hln hq))
  clear h hln hq
  go_enter Try.func53, Try.ntmps53
  go_wp2
  go_loopw [5, 8] (fun _ s8 wr => ∃ j : Nat, j ≤ n ∧ s8 = .int .i64 j ∧ wr = w ∧ Hid (x ∉ l.take j)) (fun _ s8 _ => n - (Go.RowKit.intOf s8).toNat)
  case atStart => exact ⟨0, by omega, rfl, rfl, (by simp : x ∉ l.take 0)⟩
  case round =>
    obtain ⟨j, hj, rfl, rfl, HR⟩ := hrel
    by_cases hlt : j < n
    · obtain ⟨y, hy⟩ : ∃ y, l[j]? = some y := ⟨_, List.getElem?_eq_getElem (by rw [H.out.2.1]; exact hlt)⟩
      obtain ⟨ad, rfl, hadl, hxc⟩ := H.out.1.cells (by omega)
      have e0 := hxc j (IV y) (by rw [List.getElem?_map, hy]; rfl)
      have hi1 : (0 : Int) ≤ (j : Int) := by omega
      have hi2 : (j : Int) < (n : Int) := by omega
      have hw1 : IntKind.i64.wrap ((j : Int) + 1) = (j : Int) + 1 := IntWalk.i64_in _ (by omega)
      have HT := Lib.hid (And.intro hy hlt)
      clear hy hlt hadl hxc
      by_cases hid : x = y
      · subst hid
        have hq : Hid (q = (j : Int)) := by
          show q = _
          have h1 := HT.out.2
          rw [← H.out.2.2, idxP, idxN_eq HR.out HT.out.1, if_pos (by rw [H.out.2.1]; exact h1)]
        go_wp2
        go_ret
        rw [hq.out]
        exact ⟨rfl, rfl⟩
      · have hne : (x == y) = false := by simpa using hid
        have HN := Lib.hid hid
        clear hid
        go_wp2
        go_roundw
        case rel =>
          refine ⟨j + 1, by have := HT.out.2; omega, by go_num, trivial, (?_ : x ∉ l.take (j + 1))⟩
          rw [take_snoc HT.out.1]
          intro hm
          rcases List.mem_append.1 hm with hm | hm
          · exact HR.out hm
          · simp at hm
            exact HN.out hm
        case measure => have := HT.out.2; simp [Go.RowKit.intOf]; omega
    · obtain rfl : j = n := by omega
      have hq : Hid (q = -1) := by
        show q = _
        have := HR.out
        rw [List.take_of_length_le (by rw [H.out.2.1]; exact Nat.le_refl _)] at this
        rw [← H.out.2.2, idxP_out this]
      go_wp2
      go_ret
      rw [hq.out]
      exact ⟨rfl, rfl⟩
theorem has_is {K : Option Addr} {nk ck : Nat} {ks : List Int} (h : RdV w K nk (ks.map IV)) (hn : nk ≤ 1000000) (x : Int) {q : Bool} (hq : decide (x ∈ ks) = q) : Calls Try.prog 48 #[.slice K nk ck, .int .i64 x] w fun e w' => e = .returned (.bool q) ∧ w = w' := by
  obtain ⟨p, hp⟩ : ∃ p, idxP x ks = p := ⟨_, rfl⟩
  have hb : Hid (decide (0 ≤ p) = q) := by
    show _ = _
    rw [← hq, ← hp]
    exact decide_eq_decide.2 idxP_mem.symm
  have H := Lib.hid (And.intro h hp)
  clear h hp hq
  go_enter Try.func48, Try.ntmps48
  go_wp2_with fail
  refine (sidx_is _ H.out.1 hn x H.out.2).mono ?_
  rintro e w' ⟨rfl, rfl⟩
  have hb2 := hb.out
  go_wp2
  go_ret
  exact ⟨rfl, rfl⟩
theorem clone_none (n c : Nat) : Calls Try.prog 49 #[.slice none n c] w fun e w' => e = .returned (.slice none 0 0) ∧ w = w' := by
  have q30 : ∀ (w : World) (a : Option Addr) (n c n' c' : Nat), (binOp .eql 24 (.slice a n c) (.slice none n' c')).run Try.prog w = .ok (.bool a.isNone) w := fun w a n c n' c' => Lib.run_eql_slice_nil w _ _ a n c n' c' Try.underlying24
  go_enter Try.func49, Try.ntmps49
  go_wp2
  go_ret
  exact ⟨rfl, rfl⟩
theorem clone_is {A : Option Addr} {n c : Nat} {l : List Int} (h : RdV w A n (l.map IV)) (hm : n ≤ 1000000) : Calls Try.prog 49 #[.slice A n c] w (Ints w l) := by
  have hln : l.length = n := by simpa using h.len
  cases A with
  | none =>
    have h0 : n = 0 := by
      rcases Nat.eq_zero_or_pos n with h0 | h0
      · exact h0
      · obtain ⟨_, e, _⟩ := h.cells h0
        cases e
    have hl0 : l = [] := List.eq_nil_of_length_eq_zero (by omega)
    subst hl0
    exact (clone_none w n c).mono fun e w' ⟨he, hw⟩ => ⟨none, 0, he, OwnV.nil _ _ _, hw ▸ Below.refl _ _⟩
  | some a =>
    have q30 : ∀ (w : World) (a : Option Addr) (n c n' c' : Nat), (binOp .eql 24 (.slice a n c) (.slice none n' c')).run Try.prog w = .ok (.bool a.isNone) w := fun w a n c n' c' => Lib.run_eql_slice_nil w _ _ a n c n' c' Try.underlying24
    obtain ⟨i0, hi0, hz0, hz1, hz2⟩ := info_parts info3
    have HH := Lib.hid (And.intro h hln)
    have HI := Lib.hid (And.intro hi0 (And.intro hz0 (And.intro hz1 hz2)))
    clear h hln hi0 hz0 hz1 hz2
    go_enter Try.func49, Try.ntmps49
    go_wp2_with (at_builtin; refine wpList_append_own _ rfl _ _ 24 rfl w.heap.size 3 i0 (.int .i64 0) 1 8 Try.underlying24 HI.out.1 HI.out.2.1 HI.out.2.2.1 HI.out.2.2.2 rfl (by omega) _ _ _ rfl (World.ownsRow_made w #[] 0 (Nat.le_refl _) (Nat.zero_le _) (by simp)) a n c (l.map IV) rfl ?qc1 ?qc2 ?qc3 ?qc4 ?qc5 ?qc6 ?_)
    case qc1 => rw [List.length_map, HH.out.2, Nat.mul_one]
    case qc2 =>
      intro j u hj
      have hjl := (List.getElem?_eq_some_iff.1 hj).1
      obtain ⟨ad, e, _, hc⟩ := HH.out.1.cells (by rw [List.length_map, HH.out.2] at hjl; omega)
      injection e with e
      subst e
      exact Lib.cell?_alloc_some _ (hc j u hj)
    case qc3 => exact ivs_one l
    case qc4 => rw [Nat.zero_add]; unfold maxLen; omega
    case qc5 => rw [Nat.zero_add]; omega
    case qc6 => simp
    intro v' w1 hown hgrow hnil
    go_wp2
    go_ret
    have hown : w1.ownsRow w.heap.size 3 1 v' n (l.map IV) := by simpa using hown
    obtain ⟨A', c', rfl⟩ : ∃ A' c', v' = .slice A' n c' := by
      rcases hown.2 with ⟨rfl, h0⟩ | ⟨g, cap, cur, rfl, _⟩
      · exact ⟨none, 0, by rw [h0]⟩
      · exact ⟨_, _, rfl⟩
    refine ⟨A', c', by rw [HH.out.2]; rfl, ⟨by simp, by rw [HH.out.2]; exact hown⟩, ?_⟩
    exact ((Below.refl _ w).alloc (Nat.le_refl _) _).grown hgrow (by simp) (by intro k hk; simp [Value.ownBlock] at hk; omega)
theorem box_new {w w1 : World} {o : Obj} (h : w.alloc o = w1) : Below w.heap.size w w1 ∧ w1.heap[w.heap.size]? = some o := by
  subst h
  exact ⟨(Below.refl _ _).alloc (Nat.le_refl _) _, heap_alloc_new _ _⟩
theorem sameInts_is {A X : Option Addr} {n m ca cx : Nat} {l k : List Int} (hA : RdV w A n (l.map IV)) (hX : RdV w X m (k.map IV)) (hn : n ≤ 1000000) {q : Bool} (hq : decide (l = k) = q) : Calls Try.prog 27 #[.slice A n ca, .slice X m cx] w fun e w' => e = .returned (.bool q) ∧ ∃ d, w' = w.drewN d := by
  have hln : l.length = n := by have := hA.len; simpa using this
  have hlm : k.length = m := by have := hX.len; simpa using this
  by_cases hnm : n = m
  · subst hnm
    have mixed : Try.prog.follows Departure.mixedOrders = true := by kernel_rfl
    have H := Lib.hid (And.intro hA (And.intro hX (And.intro hln (And.intro hlm hq))))
    clear hA hX hln hlm hq
    go_enter Try.func27, Try.ntmps27
    go_wp2
    go_loopw [5] (fun s5 wr => ∃ j d : Nat, j ≤ n ∧ s5 = .int .i64 j ∧ wr = w.drewN d ∧ Hid (l.take j = k.take j)) (fun s5 _ => n - (Go.RowKit.intOf s5).toNat)
    case atStart => exact ⟨0, 0, by omega, rfl, rfl, (by simp : l.take 0 = k.take 0)⟩
    case round =>
      obtain ⟨j, d, hj, rfl, rfl, HT⟩ := hrel
      by_cases hlt : j < n
      · obtain ⟨x, hx⟩ : ∃ x, l[j]? = some x := ⟨_, List.getElem?_eq_getElem (by rw [H.out.2.2.1]; exact hlt)⟩
        obtain ⟨y, hy⟩ : ∃ y, k[j]? = some y := ⟨_, List.getElem?_eq_getElem (by rw [H.out.2.2.2.1]; exact hlt)⟩
        obtain ⟨ad, rfl, hadl, hxc⟩ := H.out.1.cells (by omega)
        have d0 := hxc j (IV x) (by rw [List.getElem?_map, hx]; rfl)
        obtain ⟨ad', rfl, hadl', hxc'⟩ := H.out.2.1.cells (by omega)
        have e0 := hxc' j (IV y) (by rw [List.getElem?_map, hy]; rfl)
        have hi1 : (0 : Int) ≤ (j : Int) := by omega
        have hi2 : (j : Int) < (n : Int) := by omega
        have hw1 : IntKind.i64.wrap ((j : Int) + 1) = (j : Int) + 1 := IntWalk.i64_in _ (by omega)
        by_cases hb : x = y
        · subst hb
          have HX := Lib.hid (And.intro hx (And.intro hy hlt))
          clear hx hy hlt hxc hxc' hadl hadl'
          go_wp2
          go_quiet (fail)
          go_wp2
          go_roundw
          case rel =>
            refine ⟨j + 1, _, by have := HX.out.2.2; omega, by go_num, rfl, ?_⟩
            show l.take (j + 1) = k.take (j + 1)
            rw [List.take_add_one, List.take_add_one, HX.out.1, HX.out.2.1, HT.out]
          case measure => have := HX.out.2.2; simp [Go.RowKit.intOf]; omega
        · have hbb : (x == y) = false := by simpa using hb
          have HX : Hid (q = false) := by
            show q = false
            rw [← H.out.2.2.2.2]
            simp
            rintro rfl
            rw [hx] at hy
            injection hy with hy
            exact hb hy
          clear hx hy hlt hb hxc hxc' hadl hadl'
          go_wp2
          go_quiet (fail)
          go_wp2
          go_ret
          rw [HX.out]
          exact ⟨rfl, d + nq, by simp⟩
      · obtain rfl : j = n := by omega
        go_wp2
        go_ret
        have e : l = k := by
          have := HT.out
          rwa [List.take_of_length_le (by rw [H.out.2.2.1]; exact Nat.le_refl _), List.take_of_length_le (by rw [H.out.2.2.2.1]; exact Nat.le_refl _)] at this
        rw [← H.out.2.2.2.2]
        exact ⟨by simp [e], d, rfl⟩
  · have hq' : q = false := by
      rw [← hq]
      simp
      rintro rfl
      omega
    subst hq'
    have hb : ((n : Int) == (m : Int)) = false := by simp; omega
    clear hA hX hln hlm hq hnm
    go_enter Try.func27, Try.ntmps27
    go_wp2
    go_ret
    exact ⟨rfl, 0, rfl⟩
/-- the closure that counts -/
theorem count_is {K : Option Addr} {nk ck : Nat} {ks : List Int} (hK : RdV w K nk (ks.map IV)) (hnk : nk ≤ 1000000) {A : Option Addr} {n c : Nat} {ms : List Int} (hA : RdV w A n (ms.map IV)) (hn : n ≤ 1000000) {g : Nat} (hg : w.cell? ⟨g, 0, none⟩ = some (.slice A n c)) {q : Int} (hq : cntIn ks ms = q) :
    Calls Try.prog 47 #[.slice K nk ck, .pointer (some ⟨g, 0, none⟩)] w fun e w' => e = .returned (.int .i64 q) ∧ w = w' := by
  have hln : ms.length = n := by have := hA.len; simpa using this
  have H := Lib.hid (And.intro hA (And.intro hln hq))
  have HK := Lib.hid hK
  clear hA hK hln hq
  go_enter Try.func47, Try.ntmps47
  go_wp2
  go_loopw [4, 6, 9] (fun s4 _ s9 wr => ∃ j k : Nat, j ≤ n ∧ k ≤ j ∧ s9 = .int .i64 j ∧ s4 = .int .i64 k ∧ wr = w ∧ Hid (cntIn ks (ms.take j) = k)) (fun _ _ s9 _ => n - (Go.RowKit.intOf s9).toNat)
  case atStart => exact ⟨0, 0, by omega, by omega, rfl, rfl, rfl, (by simp [cntIn] : cntIn ks (ms.take 0) = (0 : Nat))⟩
  case round =>
    obtain ⟨j, k, hj, hkj, rfl, rfl, rfl, HR⟩ := hrel
    by_cases hlt : j < n
    · obtain ⟨y, hy⟩ : ∃ y, ms[j]? = some y := ⟨_, List.getElem?_eq_getElem (by rw [H.out.2.1]; exact hlt)⟩
      obtain ⟨ad, rfl, hadl, hxc⟩ := H.out.1.cells (by omega)
      have e0 := hxc j (IV y) (by rw [List.getElem?_map, hy]; rfl)
      have hi1 : (0 : Int) ≤ (j : Int) := by omega
      have hi2 : (j : Int) < (n : Int) := by omega
      have hw1 : IntKind.i64.wrap ((j : Int) + 1) = (j : Int) + 1 := IntWalk.i64_in _ (by omega)
      have hw2 : IntKind.i64.wrap ((k : Int) + 1) = (k : Int) + 1 := IntWalk.i64_in _ (by omega)
      have HT := Lib.hid (And.intro hy hlt)
      have HS := cntIn_take (ks := ks) hy
      clear hy hlt hadl hxc
      by_cases hin : y ∈ ks
      · have hc : Hid (cntIn ks (ms.take (j + 1)) = ((k + 1 : Nat) : Int)) := by
          show _ = _
          rw [HS, if_pos hin, HR.out]
          simp
        have hb := Lib.hid (decide_eq_true hin)
        clear HS hin
        go_wp2_with fail
        refine (has_is _ HK.out hnk y hb.out).mono ?_
        rintro e w' ⟨rfl, rfl⟩
        go_wp2
        go_roundw
        case rel => exact ⟨j + 1, k + 1, by have := HT.out.2; omega, by omega, by go_num, by go_num, trivial, hc⟩
        case measure => have := HT.out.2; simp [Go.RowKit.intOf]; omega
      · have hc : Hid (cntIn ks (ms.take (j + 1)) = (k : Int)) := by
          show _ = _
          rw [HS, if_neg hin, HR.out]
          simp
        have hb := Lib.hid (decide_eq_false hin)
        clear HS hin
        go_wp2_with fail
        refine (has_is _ HK.out hnk y hb.out).mono ?_
        rintro e w' ⟨rfl, rfl⟩
        go_wp2
        go_roundw
        case rel => exact ⟨j + 1, k, by have := HT.out.2; omega, by omega, by go_num, rfl, trivial, hc⟩
        case measure => have := HT.out.2; simp [Go.RowKit.intOf]; omega
    · obtain rfl : j = n := by omega
      have hq : Hid (q = (k : Int)) := by
        show q = _
        rw [← H.out.2.2, ← HR.out, List.take_of_length_le (by rw [H.out.2.1]; exact Nat.le_refl _)]
      go_wp2
      go_ret
      rw [hq.out]
      exact ⟨rfl, rfl⟩
theorem counter_is (A : Option Addr) (n c : Nat) : Calls Try.prog 37 #[.slice A n c] w fun e w' => e = .returned (.func (.func 47) #[] #[.pointer (some ⟨w.heap.size, 0, none⟩)]) ∧ w' = w.alloc (.cells #[.slice A n c] 24) := by
  go_enter Try.func37, Try.ntmps37
  go_wp2
  go_ret
  exact ⟨rfl, rfl⟩
end
end Go.Proofs.Ytciihebaameccaa
