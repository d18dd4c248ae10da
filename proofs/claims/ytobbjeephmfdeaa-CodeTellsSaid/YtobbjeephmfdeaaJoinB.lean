/- Concat of stripes; Join. -/
import Derived.Test.YtobbjeephmfdeaaJoinA
namespace Go.Proofs.Ytobbjeephmfdeaa
open Go.RowKit Go.Coop
set_option maxRecDepth 100000

/-- the rows' values, as they stand -/
def RowsV (w : World) (vs : List Value) (L : List (List UInt8)) : Prop := vs.length = L.length ∧ ∀ (i : Nat) (r : List UInt8), L[i]? = some r → ∃ (B : Option Addr) (d : Nat), vs[i]? = some (Value.slice B r.length d) ∧ Rd w B r.length r
theorem RowsV.append {w : World} {vs us : List Value} {L K : List (List UInt8)} (h : RowsV w vs L) (k : RowsV w us K) : RowsV w (vs ++ us) (L ++ K) := by
  refine ⟨by rw [List.length_append, List.length_append, h.1, k.1], fun i r hi => ?_⟩
  have hl := h.1
  rw [List.getElem?_append] at hi ⊢
  split at hi
  · rename_i hlt
    rw [if_pos (by omega)]
    exact h.2 i r hi
  · rename_i hlt
    rw [if_neg (by omega), hl]
    exact k.2 _ r hi
theorem RowsV.one {w : World} {vs : List Value} {L : List (List UInt8)} (h : RowsV w vs L) : ∀ u ∈ vs, u.oneCell' = true := by
  intro u hu
  obtain ⟨i, hi⟩ := List.getElem?_of_mem hu
  have hl : i < L.length := by have := (List.getElem?_eq_some_iff.1 hi).1; have := h.1; omega
  obtain ⟨B, d, h1, _⟩ := h.2 i _ (List.getElem?_eq_getElem hl)
  rw [hi] at h1
  injection h1 with h1
  subst h1
  rfl
theorem RowsV.below {w w' : World} {B : Nat} {vs : List Value} {L : List (List UInt8)} (h : RowsV w vs L) (hb : Below B w w') (hB : w.heap.size ≤ B) : RowsV w' vs L :=
  ⟨h.1, fun i r hi => by obtain ⟨X, d, h1, h2⟩ := h.2 i r hi; exact ⟨X, d, h1, h2.below hb hB⟩⟩

/-- Concat, of slices of rows: what is handed back reads as all the rows -/
theorem concat_tr (A : Option Addr) (n c : Nat) (Ts : List (List (List UInt8))) (w : World) (h : TR w A n Ts) (hn : n ≤ 1000000) (ht : Ts.flatten.length ≤ 1000000) :
    Calls Try.prog 54 #[.slice A n c] w fun e w' => ∃ B cb, e = .returned (.slice B Ts.flatten.length cb) ∧ MR w' B Ts.flatten.length Ts.flatten ∧ Below w.heap.size w w' := by
  have HL := Lib.hid h
  have hlen : Hid (Ts.length = n) := h.len
  clear h
  obtain ⟨tt, htt⟩ : ∃ tt, Ts.flatten.length = tt := ⟨_, rfl⟩
  have HTT := Lib.hid htt
  rw [htt] at ht ⊢
  clear htt
  go_enter Try.func54, Try.ntmps54
  go_wp2
  go_loopw [3, 11] (fun s i wr => ∃ (k t : Nat), k ≤ n ∧ i = .int .i64 k ∧ s = .int .i64 (t : Int) ∧ t ≤ tt ∧ Hid (fl Ts k = t) ∧ Hid (wr = w)) (fun _ i _ => n - (intOf i).toNat)
  case atStart => exact ⟨0, 0, Nat.zero_le _, rfl, rfl, Nat.zero_le _, rfl, rfl⟩
  case round =>
    obtain ⟨k, t, hkk, rfl, rfl, htl, HT, HW⟩ := hrel
    have HLr : Hid (TR wr A n Ts) := by show TR _ _ _ _; rw [HW.out]; exact HL.out
    by_cases hlt : k < n
    · obtain ⟨ad, B, d, r, rfl, _, hr, hc, _⟩ := HLr.out.row hlt
      have h1 := (fl_succ hr).1
      have h3 := fl_le Ts (k + 1)
      obtain ⟨rl, hrl⟩ : ∃ rl, r.length = rl := ⟨_, rfl⟩
      rw [hrl] at hc h1
      rw [HT.out] at h1
      rw [h1, HTT.out] at h3
      have H1 := Lib.hid h1
      have hkn : (k : Int) < n := by omega
      clear h1 hr hrl
      go_wp2
      go_roundw
      case rel => exact ⟨k + 1, t + rl, by omega, by go_num, by go_num, h3, H1.out, HW.out⟩
      case measure => simp [intOf]; omega
    · obtain rfl : k = n := by omega
      have e : t = tt := by rw [← HT.out, (fl_all hlen.out).1]; exact HTT.out
      subst e
      clear HLr
      go_wp2_with (go_at_call 80; refine (growS _ _ (by omega)).mono ?_; rintro e w1 ⟨A1, c1, rfl, ho1, hb1⟩)
      have HO1 : Hid (OwnV w1 w.heap.size 31 A1 0 c1 []) := by have := ho1; rwa [HW.out] at this
      have HB1 : Hid (Below w.heap.size w w1) := by have := hb1; rwa [HW.out] at this
      clear ho1 hb1
      go_loopw [6, 27] (fun v i wq => ∃ (j m : Nat) (B : Option Addr) (cb : Nat), j ≤ k ∧ i = .int .i64 j ∧ v = .slice B m cb ∧ m ≤ t ∧ Hid (∃ vs, OwnV wq w.heap.size 31 B m cb vs ∧ RowsV w vs (Ts.take j).flatten) ∧ Hid (Below w.heap.size w wq) ∧ Hid (fl Ts j = m)) (fun _ i _ => k - (intOf i).toNat)
      case atStart => exact ⟨0, 0, A1, c1, by omega, rfl, rfl, by omega, ⟨[], HO1.out, rfl, fun i r h => by simp at h⟩, HB1.out, rfl⟩
      case round =>
        rename_i wq
        obtain ⟨j, m, B, cb, hj, rfl, rfl, hm, HO, HB, HM⟩ := hrel
        by_cases hlt : j < k
        · obtain ⟨ad, R, d, r, rfl, hadl, hr, hc0, hd⟩ := HL.out.row hlt
          have hc := (HB.out.cell (p := ad.add j) (by rw [addr_add_block]; exact hadl)).trans hc0
          obtain ⟨h1, h2⟩ := fl_succ hr
          have h3 := fl_le Ts (j + 1)
          obtain ⟨vs, hvs, hrv⟩ := HO.out
          obtain ⟨us, hus0, hru⟩ := hd.out
          have hRU : RowsV w us r := ⟨hus0.len, hru⟩
          have hus := hus0.below HB.out (Nat.le_refl _)
          have hL2 : r.length = us.length := by rw [hus.len]
          obtain ⟨rl, hrl⟩ : ∃ rl, r.length = rl := ⟨_, rfl⟩
          rw [hrl] at hc h1 hus
          rw [HM.out] at h1
          rw [h1, HTT.out] at h3
          have H1 := Lib.hid (And.intro h1 h2)
          have HV := Lib.hid hvs
          have HU := Lib.hid hus
          have HRV := Lib.hid hrv
          have HRU := Lib.hid hRU
          have hone := hRU.one
          have hjn : (j : Int) < k := by omega
          have hbs := HB.out.size
          clear h1 h2 hr hrl hd hvs hus hus0 hrv hRU hru hL2 hc0 hadl
          go_wp2_with (at_builtin; refine wpList_appV _ rfl (.tmp 31) (.tmp 32) _ rfl w.heap.size 31 (.slice none 0 0) 24 Try.underlying32 info31 rfl rfl HV.out rfl HU.out hone (by omega) (by omega) hbs (m + rl) rfl ?_; intro A' c' w' ho hg hat)
          go_roundw
          case rel => exact ⟨j + 1, m + rl, A', c', by omega, by go_num, rfl, h3, ⟨_, ho, by rw [H1.out.2]; exact HRV.out.append HRU.out⟩, HB.out.grown hg hbs (fun q hq => (HV.out.block q hq).1), H1.out.1⟩
          case measure => simp [intOf]; omega
        · obtain rfl : j = k := by omega
          go_wp2
          go_ret
          have e : m = t := by rw [← HM.out, (fl_all hlen.out).1]; exact HTT.out
          subst e
          obtain ⟨vs, hvs, hrv⟩ := HO.out
          rw [(fl_all hlen.out).2] at hrv
          exact ⟨B, cb, rfl, ⟨HTT.out, vs, hvs.rd, (hrv.below HB.out (Nat.le_refl _)).2⟩, HB.out⟩

theorem clip_any (A : Option Addr) (n c : Nat) (w : World) (hn : n ≤ c) : Calls Try.prog 55 #[.slice A n c] w fun e w' => e = .returned (.slice A n n) ∧ w = w' := by
  have hsl : ∀ w, (Instr.slice 31 (.slice A n c) none (some (.int .i64 (n : Int))) (some (.int .i64 (n : Int)))).run Try.prog w = .ok (.slice A n n) w := by
    intro w
    obtain ⟨i, hi, hz, h1, h2⟩ := info5b
    have he : Try.prog.elem 31 = 5 := by simp [Program.elem, Try.underlying31]
    have hb : (Instr.sliceBounds true n c none (some (.int .i64 (n : Int))) (some (.int .i64 (n : Int)))).run Try.prog w = .ok (0, n, n) w := by
      simp [Instr.sliceBounds, run_sliceBound, *]
    rw [run_slice_any w 31 A n c (by rw [he]; exact Try.underlying31), hb, he]
    have ha : A.map (·.add 0) = A := by cases A with
      | none => rfl
      | some a => simp [addr_add_0]
    simp [sizeOf, typeInfo, hi, h1, sliced, Result.andThen, ha]
  go_enter Try.func55, Try.ntmps55
  go_wp2
  go_ret
  exact ⟨rfl, rfl⟩

def joinB (k : Nat) (Ts : List (List (List UInt8))) : Bool := Ts.all (stripeB k)
theorem join_none (p : Option Addr) (S : Option Addr) (q d : Nat) (x : Int) (w : World) (h : NoCode w p) : Calls Try.prog 19 #[.pointer p, .slice S q d, .int .i64 x] w (NotM w 1) := by
  have H := Lib.hid h
  clear h
  go_enter Try.func19, Try.ntmps19
  go_wp2_with (go_at_call 43; refine (cmade_no _ _ H.out).mono ?_; rintro e w' ⟨rfl, rfl⟩)
  go_ret2
  exact ⟨rfl, Below.refl _ _⟩
/-- how many rows, and bytes, right stripes have -/
theorem join_rows {k : Nat} {Ts : List (List (List UInt8))} (h : joinB k Ts = true) : Ts.flatten.length = Ts.length * k ∧ Ts.flatten.flatten.length ≤ Ts.length * k * 65536 := by
  induction Ts with
  | nil => simp
  | cons T Ts ih =>
    unfold joinB at h
    rw [List.all_cons, Bool.and_eq_true] at h
    obtain ⟨h1, h2⟩ := ih h.2
    have hs := h.1
    unfold stripeB at hs
    rw [Bool.and_eq_true, decide_eq_true_eq] at hs
    have hb : ∀ (L : List (List UInt8)), (∀ r ∈ L, r.length ≤ 65536) → L.flatten.length ≤ L.length * 65536 := by
      intro L
      induction L with
      | nil => simp
      | cons r L ihL =>
        intro hr
        have := ihL fun r hr' => hr r (by simp [hr'])
        have := hr r (by simp)
        simp only [List.flatten_cons, List.length_append, List.length_cons, Nat.succ_mul]
        omega
    have hT := hb T fun r hr => by
      obtain ⟨i, hi⟩ := List.getElem?_of_mem hr
      exact (levelB_at hs.2 hi).2
    rw [hs.1] at hT
    simp only [List.flatten_cons, List.length_append, List.flatten_append, List.length_cons, Nat.succ_mul, Nat.add_mul]
    omega
set_option maxHeartbeats 1000000 in
theorem join_any {g n k gf c : Nat} {A : Option Addr} (S : Option Addr) (q d : Nat) (Ts : List (List (List UInt8))) (x : Int) (w : World) (hg : CodeAt w g n k gf A c) (h : TR w S q Ts) (hq : q ≤ 1000) (hL : ∀ T ∈ Ts, T.length ≤ 140737488355328 ∧ ∀ r ∈ T, r.length ≤ 140737488355328) :
    Calls Try.prog 19 #[.pointer (some ⟨g, 0, none⟩), .slice S q d, .int .i64 x] w fun e w' => Below w.heap.size w w' ∧
      ((joinB k Ts = false ∧ e = .returned (.tuple #[.slice none 0 0, .int .i64 40])) ∨ (joinB k Ts = true ∧ (x < 0 ∨ (Ts.flatten.flatten.length : Int) < x) ∧ e = .returned (.tuple #[.slice none 0 0, .int .i64 11])) ∨
       (joinB k Ts = true ∧ 0 ≤ x ∧ x ≤ (Ts.flatten.flatten.length : Int) ∧ ∃ B cb, e = .returned (.tuple #[.slice B x.toNat cb, .int .i64 0]) ∧ Rd w' B x.toNat (Ts.flatten.flatten.take x.toNat))) := by
  have H := Lib.hid hg
  have HS := Lib.hid h
  have HL := Lib.hid hL
  have hlen : Hid (Ts.length = q) := h.len
  have hk : k ≤ 255 := Nat.le_trans hg.kn hg.n255
  clear hg h hL
  go_enter Try.func19, Try.ntmps19
  go_wp2_with (go_at_call 43; refine (cmade_yes _ H.out).mono ?_; rintro e w' ⟨rfl, rfl⟩)
  go_loopw [16] (fun i wr => ∃ j : Nat, j ≤ q ∧ i = .int .i64 j ∧ Hid (∀ (i : Nat) (T : List (List UInt8)), i < j → Ts[i]? = some T → stripeB k T = true) ∧ Hid (wr = w)) (fun i _ => q - (intOf i).toNat)
  case atStart => exact ⟨0, by omega, rfl, fun i T h => by omega, rfl⟩
  case round =>
    obtain ⟨j, hj, rfl, HJ, HW⟩ := hrel
    have HSr : Hid (TR wr S q Ts) := by show TR _ _ _ _; rw [HW.out]; exact HS.out
    have HCr : Hid (CodeAt wr g n k gf A c) := by show CodeAt _ _ _ _ _ _ _; rw [HW.out]; exact H.out
    by_cases hlt : j < q
    · obtain ⟨ad, B, e, T, rfl, _, hT, hc, hd⟩ := HSr.out.row hlt
      obtain ⟨hl1, hl2⟩ := HL.out T (List.mem_of_getElem? hT)
      have KS := Lib.hid (stripe_any B T.length e T wr HCr.out hd hl1 hl2)
      have HT := Lib.hid hT
      obtain ⟨tl, htl⟩ : ∃ tl, T.length = tl := ⟨_, rfl⟩
      rw [htl] at hc KS
      have hjq : (j : Int) < q := by omega
      clear hT hd htl hl1 hl2
      by_cases hs : stripeB k T = true
      · rw [hs] at KS
        go_wp2_with (go_at_call 44; refine KS.out.mono ?_; rintro e' w' ⟨rfl, rfl⟩)
        go_roundw
        case rel =>
          refine ⟨j + 1, by omega, by go_num, ?_, HW.out⟩
          show ∀ (i : Nat) (T : List (List UInt8)), _
          intro i T' hi hT'
          by_cases e : i < j
          · exact HJ.out i T' e hT'
          · obtain rfl : i = j := by omega
            rw [HT.out] at hT'
            injection hT' with hT'
            subst hT'
            exact hs
        case measure => simp [intOf]; omega
      · have hs : stripeB k T = false := by simpa using hs
        rw [hs] at KS
        go_wp2_with (go_at_call 44; refine KS.out.mono ?_; rintro e' w' ⟨rfl, rfl⟩)
        go_ret2
        refine ⟨by rw [HW.out]; exact Below.refl _ _, .inl ⟨?_, rfl⟩⟩
        unfold joinB
        exact List.all_eq_false.2 ⟨T, List.mem_of_getElem? HT.out, by rw [hs]; decide⟩
    · obtain rfl : j = q := by omega
      have hall : joinB k Ts = true := by
        unfold joinB
        rw [List.all_eq_true]
        intro T hT
        obtain ⟨i, hi⟩ := List.getElem?_of_mem hT
        exact HJ.out i T (by have := (List.getElem?_eq_some_iff.1 hi).1; have := hlen.out; omega) hi
      obtain ⟨hr1, hr2⟩ := join_rows hall
      rw [hlen.out] at hr1 hr2
      have hjk : j * k ≤ 1000 * 255 := Nat.mul_le_mul hq hk
      have HALL := Lib.hid hall
      have hf1 : Ts.flatten.length ≤ 1000000 := by omega
      have hf2 : Ts.flatten.flatten.length ≤ 100000000000 := by omega
      clear hall hr1 hr2 HCr
      go_wp2_with fail
      refine (concat_tr S j d Ts wr HSr.out (by omega) hf1).mono ?_
      rintro e w1 ⟨B1, c1, rfl, hM1, hB1⟩
      have HM1 := Lib.hid hM1
      have HB1 : Hid (Below w.heap.size w w1) := by have h0 := hB1; rwa [HW.out] at h0
      clear hM1 hB1
      obtain ⟨f1, hf1e⟩ : ∃ f1, Ts.flatten.length = f1 := ⟨_, rfl⟩
      rw [hf1e] at hf1 HM1 ⊢
      clear hf1e
      go_wp2_with fail
      refine (concat_mr B1 f1 c1 Ts.flatten w1 HM1.out hf1 (by omega)).mono ?_
      rintro e w2 ⟨B2, c2, rfl, hO2, hB2⟩
      have HO2 := Lib.hid hO2
      have HB2 : Hid (Below w.heap.size w w2) := HB1.out.trans (hB2.mono HB1.out.size)
      have hcap := hO2.cap
      clear hO2 hB2
      obtain ⟨f2, hf2e⟩ : ∃ f2, Ts.flatten.flatten.length = f2 := ⟨_, rfl⟩
      rw [hf2e] at hf2 HO2 hcap
      (try rw [hf2e])
      have HF2 := Lib.hid hf2e
      clear hf2e
      by_cases hx0 : x < 0
      · go_wp2_with fail
        go_ret2
        exact ⟨HB2.out, .inr (.inl ⟨HALL.out, .inl hx0, rfl⟩)⟩
      · by_cases hx1 : (f2 : Int) < x
        · go_wp2_with fail
          go_ret2
          exact ⟨HB2.out, .inr (.inl ⟨HALL.out, .inr (by rw [HF2.out]; exact hx1), rfl⟩)⟩
        · obtain ⟨y, rfl⟩ := Int.eq_ofNat_of_zero_le (show 0 ≤ x by omega)
          have hy : y ≤ f2 := by omega
          have hsl := slice_hi (E := 5) 31 Try.underlying31 info5 B2 f2 c2 y (by omega)
          go_wp2_with (go_at_call 55; refine (clip_any B2 y c2 _ (by omega)).mono ?_; rintro e' w' ⟨rfl, rfl⟩)
          go_ret2
          exact ⟨HB2.out, .inr (.inr ⟨HALL.out, by omega, by rw [HF2.out]; omega, B2, y, rfl, HO2.out.rd.take hy⟩)⟩
end Go.Proofs.Ytobbjeephmfdeaa
