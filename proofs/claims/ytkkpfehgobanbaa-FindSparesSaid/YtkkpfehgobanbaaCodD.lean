/- Shards of one length; places that are told: which they are. -/
import Derived.Test.YtkkpfehgobanbaaCodC
import Derived.Deep.LoopGhost
namespace Go.Proofs.Ytkkpfehgobanbaa
open Go.RowKit Go.Coop
set_option maxRecDepth 100000

/-- all of one length, which some have -/
def levelB (L : List (List UInt8)) : Bool := L.all fun r => decide (r.length = (L.headD []).length) && decide (r.length ≤ 65536)
theorem levelB_at {L : List (List UInt8)} (h : levelB L = true) {i : Nat} {r : List UInt8} (hr : L[i]? = some r) : r.length = (L.headD []).length ∧ r.length ≤ 65536 := by
  unfold levelB at h
  rw [List.all_eq_true] at h
  have := h r (List.mem_of_getElem? hr)
  simpa using this
theorem levelB_yes {L : List (List UInt8)} (h : ∀ (i : Nat) (r : List UInt8), L[i]? = some r → r.length = (L.headD []).length ∧ r.length ≤ 65536) : levelB L = true := by
  unfold levelB
  rw [List.all_eq_true]
  intro r hr
  obtain ⟨i, hi⟩ := List.getElem?_of_mem hr
  simpa using h i r hi
theorem level_any (S : Option Addr) (m d : Nat) (L : List (List UInt8)) (w : World) (h : MR w S m L) (hm : m ≤ 140737488355328) (hL : ∀ r ∈ L, r.length ≤ 140737488355328) :
    Calls Try.prog 72 #[.slice S m d] w fun e w' => e = .returned (.bool (levelB L)) ∧ w = w' := by
  have HS := Lib.hid h
  have HL := Lib.hid hL
  clear h hL
  go_enter Try.func72, Try.ntmps72
  go_wp2
  go_loopw [7] (fun i wr => ∃ q : Nat, q ≤ m ∧ i = .int .i64 q ∧ Hid (∀ (i : Nat) (r : List UInt8), i < q → L[i]? = some r → r.length = (L.headD []).length ∧ r.length ≤ 65536) ∧ Hid (wr = w)) (fun i _ => m - (intOf i).toNat)
  case atStart => exact ⟨0, by omega, rfl, fun i r h => by omega, rfl⟩
  case round =>
    obtain ⟨q, hq, rfl, HQ, HW⟩ := hrel
    obtain rfl := HW.out
    by_cases hlt : q < m
    · obtain ⟨ad, B0, d0, r0, rfl, _, hr0, hc0, _⟩ := HS.out.row (show 0 < m by omega)
      obtain ⟨ad', B, d', r, ea, _, hr, hc, _⟩ := HS.out.row hlt
      injection ea with ea
      subst ea
      rw [addr_add_0] at hc0
      have hh := headD_at hr0
      have hb0 := HL.out _ (List.mem_of_getElem? hr0)
      have hb := HL.out _ (List.mem_of_getElem? hr)
      have HR := Lib.hid (And.intro hr (congrArg List.length hh))
      obtain ⟨l0, hl0⟩ : ∃ l0, r0.length = l0 := ⟨_, rfl⟩
      obtain ⟨l1, hl1⟩ : ∃ l1, r.length = l1 := ⟨_, rfl⟩
      have HE := Lib.hid (And.intro hl0 hl1)
      rw [hl0] at hc0 hb0
      rw [hl1] at hc hb
      have hq1 : (q : Int) < m := by omega
      clear hr0 hr hh hl0 hl1
      by_cases e1 : l1 = l0
      · by_cases e2 : l1 ≤ 65536
        · subst e1
          go_wp2
          go_roundw
          case rel =>
            refine ⟨q + 1, by omega, by go_num, ?_, trivial⟩
            show ∀ (i : Nat) (r : List UInt8), _
            intro i r' hi hr'
            by_cases e : i < q
            · exact HQ.out i r' e hr'
            · obtain rfl : i = q := by omega
              rw [HR.out.1] at hr'
              injection hr' with hr'
              subst hr'
              rw [HR.out.2, HE.out.1, HE.out.2]
              exact ⟨rfl, e2⟩
          case measure => simp [intOf]; omega
        · subst e1
          go_wp2
          go_ret
          refine ⟨?_, rfl⟩
          have : levelB L = false := by
            refine Bool.eq_false_iff.2 fun h => ?_
            have := (levelB_at h HR.out.1).2
            rw [HE.out.2] at this
            omega
          exact by rw [this]; rfl
      · have hne : ((l1 : Int) == (l0 : Int)) = false := beq_eq_false_iff_ne.2 (by omega)
        go_wp2
        go_ret
        refine ⟨?_, rfl⟩
        have : levelB L = false := by
          refine Bool.eq_false_iff.2 fun h => ?_
          have := (levelB_at h HR.out.1).1
          rw [HR.out.2, HE.out.1, HE.out.2] at this
          omega
        exact by rw [this]; rfl
    · obtain rfl : q = m := by omega
      go_wp2
      go_ret
      refine ⟨?_, rfl⟩
      exact by rw [levelB_yes fun i r hr => HQ.out i r (by have := (List.getElem?_eq_some_iff.1 hr).1; have := HS.out.len; omega) hr]; rfl

/-- a stripe -/
def stripeB (k : Nat) (L : List (List UInt8)) : Bool := decide (L.length = k) && levelB L
theorem stripe_any {g n k gf c : Nat} {A : Option Addr} (S : Option Addr) (m d : Nat) (L : List (List UInt8)) (w : World) (hg : CodeAt w g n k gf A c) (h : MR w S m L) (hm : m ≤ 140737488355328) (hL : ∀ r ∈ L, r.length ≤ 140737488355328) :
    Calls Try.prog 62 #[.pointer (some ⟨g, 0, none⟩), .slice S m d] w fun e w' => e = .returned (.bool (stripeB k L)) ∧ w = w' := by
  have hc := hg.c1
  have HS := Lib.hid h
  have HL := Lib.hid hL
  have hlen : Hid (L.length = m) := h.len
  clear h hL hg
  by_cases e1 : m = k
  · subst e1
    obtain ⟨b, hb⟩ : ∃ b, levelB L = b := ⟨_, rfl⟩
    have e : stripeB m L = b := by unfold stripeB; rw [hlen.out, hb]; simp
    rw [e]
    go_enter Try.func62, Try.ntmps62
    go_wp2_with (go_at_call 72; refine (level_any S m d L w HS.out hm HL.out).mono ?_; rw [hb]; rintro e w' ⟨rfl, rfl⟩)
    go_ret
    exact ⟨rfl, rfl⟩
  · have e : stripeB k L = false := by unfold stripeB; rw [hlen.out]; simp [e1]
    rw [e]
    have hne : ((m : Int) == (k : Int)) = false := beq_eq_false_iff_ne.2 (by omega)
    go_enter Try.func62, Try.ntmps62
    go_wp2_with fail
    go_ret
    exact ⟨rfl, rfl⟩

/-- how many places below n are told -/
def cnt (n : Nat) (ls : List Int) : Nat := ((List.range n).filter fun p : Nat => ls.contains (p : Int)).length
theorem cnt_succ (n : Nat) (ls : List Int) : cnt (n + 1) ls = cnt n ls + (if ls.contains (n : Int) then 1 else 0) := by
  unfold cnt
  rw [List.range_succ, List.filter_append, List.length_append]
  by_cases h : ls.contains (n : Int) = true
  · rw [if_pos h, List.filter_cons_of_pos (by exact h)]; rfl
  · rw [if_neg h, List.filter_cons_of_neg (by exact h)]; rfl
theorem cnt_le (n : Nat) (ls : List Int) : cnt n ls ≤ n := by
  unfold cnt
  exact Nat.le_trans (List.length_filter_le _ _) (by simp)
def toldB (n : Nat) (ls : List Int) (L : List (List UInt8)) : Bool := decide (ls.length = L.length) && levelB L && decide (cnt n ls = ls.length)

theorem sub_len {α : Type} [BEq α] [LawfulBEq α] : ∀ (P l : List α), P.Nodup → (∀ a, a ∈ P → a ∈ l) → P.length ≤ l.length := by
  intro P
  induction P with
  | nil => intro l _ _; simp
  | cons a P ih =>
    intro l hP hs
    rw [List.nodup_cons] at hP
    have ha : a ∈ l := hs a (by simp)
    have h := ih (l.erase a) hP.2 (fun b hb => (List.mem_erase_of_ne (fun e => hP.1 (by rw [← e]; exact hb))).2 (hs b (by simp [hb])))
    rw [List.length_erase_of_mem ha] at h
    have : 0 < l.length := List.length_pos_of_mem ha
    simp only [List.length_cons]
    omega
theorem sub_all {α : Type} [BEq α] [LawfulBEq α] : ∀ (P l : List α), P.Nodup → (∀ a, a ∈ P → a ∈ l) → P.length = l.length → l.Nodup ∧ ∀ a, a ∈ l → a ∈ P := by
  intro P
  induction P with
  | nil =>
    intro l _ _ hl
    have : l = [] := List.length_eq_zero_iff.1 hl.symm
    subst this
    exact ⟨List.nodup_nil, fun a h => h⟩
  | cons a P ih =>
    intro l hP hs hl
    rw [List.nodup_cons] at hP
    have ha : a ∈ l := hs a (by simp)
    have h := ih (l.erase a) hP.2 (fun b hb => (List.mem_erase_of_ne (fun e => hP.1 (by rw [← e]; exact hb))).2 (hs b (by simp [hb]))) (by
      rw [List.length_erase_of_mem ha, ← hl]; simp)
    have hp := List.perm_cons_erase ha
    have hna : a ∉ l.erase a := fun e => hP.1 (h.2 a e)
    refine ⟨hp.nodup_iff.2 (List.nodup_cons.2 ⟨hna, h.1⟩), fun b hb => ?_⟩
    have := hp.mem_iff.1 hb
    rcases List.mem_cons.1 this with e | e
    · rw [e]; simp
    · exact List.mem_cons_of_mem _ (h.2 b e)
theorem nat_list : ∀ ls : List Int, (∀ x, x ∈ ls → 0 ≤ x) → ∃ la : List Nat, ls = la.map fun x : Nat => (x : Int) := by
  intro ls
  induction ls with
  | nil => intro _; exact ⟨[], rfl⟩
  | cons x ls ih =>
    intro h
    obtain ⟨la, rfl⟩ := ih fun y hy => h y (by simp [hy])
    obtain ⟨y, rfl⟩ := Int.eq_ofNat_of_zero_le (h x (by simp))
    exact ⟨y :: la, rfl⟩
theorem nodup_map {la : List Nat} : (la.map fun x : Nat => (x : Int)).Nodup ↔ la.Nodup := by
  induction la with
  | nil => simp
  | cons a l ih => simp only [List.map_cons, List.nodup_cons, ih, List.mem_map]; constructor <;> rintro ⟨h1, h2⟩ <;> refine ⟨fun h => h1 ?_, h2⟩
                   · exact ⟨a, h, rfl⟩
                   · obtain ⟨y, hy, e⟩ := h; have : y = a := by omega
                     exact this ▸ hy
/-- as many places are found as are told just if they are told right -/
theorem cnt_places (n : Nat) (ls : List Int) : cnt n ls = ls.length ↔ ∃ la : List Nat, ls = la.map (fun x : Nat => (x : Int)) ∧ Places n la := by
  have hP : (((List.range n).filter fun p : Nat => ls.contains (p : Int)).map fun x : Nat => (x : Int)).Nodup := nodup_map.2 (List.nodup_range.filter _)
  have hl : (((List.range n).filter fun p : Nat => ls.contains (p : Int)).map fun x : Nat => (x : Int)).length = cnt n ls := by rw [List.length_map]; rfl
  have hm : ∀ a, a ∈ (((List.range n).filter fun p : Nat => ls.contains (p : Int)).map fun x : Nat => (x : Int)) ↔ (∃ y : Nat, a = (y : Int) ∧ y < n) ∧ a ∈ ls := fun a => by
    simp only [List.mem_map, List.mem_filter, List.mem_range, List.contains_iff_mem]
    constructor
    · rintro ⟨y, ⟨h1, h2⟩, rfl⟩; exact ⟨⟨y, rfl, h1⟩, h2⟩
    · rintro ⟨⟨y, rfl, h1⟩, h2⟩; exact ⟨y, ⟨h1, h2⟩, rfl⟩
  constructor
  · intro h
    obtain ⟨h1, h2⟩ := sub_all _ ls hP (fun a ha => ((hm a).1 ha).2) (by rw [hl, h])
    obtain ⟨la, hla⟩ := nat_list ls fun x hx => by
      obtain ⟨⟨y, rfl, _⟩, _⟩ := (hm x).1 (h2 x hx)
      omega
    refine ⟨la, hla, fun i x hx => ?_, nodup_map.1 (hla ▸ h1)⟩
    obtain ⟨⟨y, e, hy⟩, _⟩ := (hm (x : Int)).1 (h2 _ (by rw [hla]; exact List.mem_map.2 ⟨x, List.mem_of_getElem? hx, rfl⟩))
    omega
  · rintro ⟨la, rfl, hp⟩
    have h1 := sub_len _ (la.map fun x : Nat => (x : Int)) hP (fun a ha => ((hm a).1 ha).2)
    have h2 := sub_len (la.map fun x : Nat => (x : Int)) _ (nodup_map.2 hp.ap) (fun a ha => (hm a).2 ⟨by
      obtain ⟨x, hx, rfl⟩ := List.mem_map.1 ha
      obtain ⟨i, hi⟩ := List.getElem?_of_mem hx
      exact ⟨x, rfl, hp.lt i x hi⟩, ha⟩)
    rw [hl] at h1 h2
    omega
theorem told_any {g n k gf c : Nat} {A : Option Addr} (R : Option Addr) (m rc : Nat) (ls : List Int) (S : Option Addr) (q d : Nat) (L : List (List UInt8)) (w : World) (hg : CodeAt w g n k gf A c) (hR : RdV w R m (ivs ls)) (h : MR w S q L) (hq : q ≤ 140737488355328) (hm : m ≤ 140737488355328) (hL : ∀ r ∈ L, r.length ≤ 140737488355328) :
    Calls Try.prog 68 #[.pointer (some ⟨g, 0, none⟩), .slice R m rc, .slice S q d] w fun e w' => e = .returned (.bool (toldB n ls L)) ∧ w = w' := by
  have hc := hg.c2
  have hn255 := hg.n255
  have HS := Lib.hid h
  have HL := Lib.hid hL
  have HR := Lib.hid hR
  have hlen : Hid (L.length = q) := h.len
  have hlen2 : Hid (ls.length = m) := by have := hR.len; unfold ivs at this; rwa [List.length_map] at this
  clear h hL hg hR
  by_cases e1 : m = q
  · subst e1
    by_cases e2 : levelB L = true
    · go_enter Try.func68, Try.ntmps68
      go_wp2
      go_step3
      go_wp2_with fail
      refine (level_any S m d L w HS.out hq HL.out).mono ?_
      rw [e2]
      rintro e w' ⟨rfl, rfl⟩
      go_wp2
      go_step3
      go_wp2
      go_loopg [7, 25] n (fun gk u7 u25 wr => ∃ p : Nat, gk = n - p ∧ p ≤ n ∧ u25 = .int .i64 p ∧ u7 = .int .i64 (cnt p ls : Nat) ∧ Hid (wr = w))
      case atStart => exact ⟨0, rfl, by omega, rfl, rfl, rfl⟩
      case round =>
        obtain ⟨p, rfl, hp, rfl, rfl, HW⟩ := hrel
        by_cases hlt : p < n
        · have hpn : (p : Int) < n := by omega
          have hcl := cnt_le p ls
          have hcs := cnt_succ p ls
          obtain ⟨x, hx⟩ : ∃ x, cnt p ls = x := ⟨_, rfl⟩
          rw [hx] at hcl hcs
          have HX := Lib.hid (And.intro hx hcs)
          rw [hx]
          clear hx hcs
          go_wp2
          go_loopg [7, 30] m (fun gj u7 u30 wr => ∃ j : Nat, gj = m - j ∧ j ≤ m ∧ u30 = .int .i64 j ∧ u7 = .int .i64 (x : Int) ∧ Hid (∀ i, i < j → ls[i]? ≠ some (p : Int)) ∧ Hid (wr = w))
          case atStart => exact ⟨0, rfl, by omega, rfl, rfl, fun i h => by omega, HW.out⟩
          case round =>
            obtain ⟨j, rfl, hj, rfl, rfl, HJ, HV⟩ := hrel
            by_cases hjm : j < m
            · obtain ⟨ad, v, rfl, _, hv, hcc⟩ := HR.out.at_ hjm
              obtain ⟨y, hy, rfl⟩ := ivs_at hv
              have hcc2 : wr.cell? (ad.add j) = some (.int .i64 y) := by rw [HV.out]; exact hcc
              have hjm1 : (j : Int) < m := by omega
              have HY := Lib.hid hy
              clear hv hcc hy
              by_cases hyp : y = (p : Int)
              · subst hyp
                go_wp2
                go_roundg (n - (p + 1))
                case measure => omega
                case rel =>
                  have h1 : cnt (p + 1) ls = x + 1 := by
                    rw [HX.out.2, if_pos (List.contains_iff_mem.2 (List.mem_of_getElem? HY.out))]
                  exact ⟨p + 1, rfl, by omega, by go_num, by rw [h1]; go_num, HV.out⟩
              · have hne : (y == (p : Int)) = false := beq_eq_false_iff_ne.2 hyp
                go_wp2
                go_roundg (m - (j + 1))
                case measure => omega
                case rel =>
                  refine ⟨j + 1, rfl, by omega, by go_num, rfl, ?_, HV.out⟩
                  show ∀ i, _
                  intro i hi e
                  by_cases e' : i < j
                  · exact HJ.out i e' e
                  · obtain rfl : i = j := by omega
                    rw [HY.out] at e
                    injection e with e
                    exact hyp e
            · obtain rfl : j = m := by omega
              go_wp2
              go_roundg (n - (p + 1))
              case measure => omega
              case rel =>
                have h1 : cnt (p + 1) ls = x := by
                  rw [HX.out.2, if_neg (fun h => ?_)]; rfl
                  obtain ⟨i, hi⟩ := List.getElem?_of_mem (List.contains_iff_mem.1 h)
                  have := (List.getElem?_eq_some_iff.1 hi).1
                  exact HJ.out i (by rw [← hlen2.out]; exact this) hi
                exact ⟨p + 1, rfl, by omega, by go_num, by rw [h1], HV.out⟩
        · obtain rfl : p = n := by omega
          have e : toldB p ls L = decide (cnt p ls = m) := by unfold toldB; rw [e2, hlen.out, hlen2.out]; simp
          obtain ⟨x, hx⟩ : ∃ x, cnt p ls = x := ⟨_, rfl⟩
          rw [hx] at e ⊢
          go_wp2
          (try rw [Exit.noGoto_ret])
          go_ret
          refine ⟨?_, HW.out.symm⟩
          rw [e]
          show Ending.returned (Value.bool ((x : Int) == (m : Int))) = _
          congr 2
          by_cases h : x = m
          · subst h; simp
          · rw [decide_eq_false h]; exact beq_eq_false_iff_ne.2 (by omega)
    · have e2' : levelB L = false := by simpa using e2
      have e : toldB n ls L = false := by unfold toldB; rw [e2']; simp
      rw [e]
      go_enter Try.func68, Try.ntmps68
      go_wp2
      go_step3
      go_wp2_with (go_at_call 72; refine (level_any S m d L w HS.out hq HL.out).mono ?_; rw [e2']; rintro e w' ⟨rfl, rfl⟩)
      (try rw [Exit.noGoto_ret])
      go_ret
      exact ⟨rfl, rfl⟩
  · have e : toldB n ls L = false := by unfold toldB; rw [hlen.out, hlen2.out]; simp [e1]
    rw [e]
    have hne : ((m : Int) == (q : Int)) = false := beq_eq_false_iff_ne.2 (by omega)
    go_enter Try.func68, Try.ntmps68
    go_wp2
    go_step3
    go_wp2_with fail
    (try rw [Exit.noGoto_ret])
    go_ret
    exact ⟨rfl, rfl⟩
end Go.Proofs.Ytkkpfehgobanbaa
