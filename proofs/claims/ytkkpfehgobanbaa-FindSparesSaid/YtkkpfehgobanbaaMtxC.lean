import Derived.Test.YtkkpfehgobanbaaMtxB
import Derived.Lib.SliceRun
namespace Go.Proofs.Ytkkpfehgobanbaa
open Go.RowKit Go.Coop
set_option maxRecDepth 100000

theorem mo_block {w : World} {bo br : Nat} {A : Option Addr} {n c : Nat} {M : List (List UInt8)} (h : MO w bo br A n c M) : ∀ k, A.map (·.block) = some k → bo ≤ k ∧ k < w.heap.size := by
  obtain ⟨vs, ho, _⟩ := h.out
  exact ho.block
theorem mo_vs_one {w : World} {br : Nat} {M : List (List UInt8)} {vs : List Value} (hl : vs.length = M.length) (hr : ∀ (i : Nat) (r : List UInt8), M[i]? = some r → ∃ (B : Option Addr) (d : Nat), vs[i]? = some (Value.slice B r.length d) ∧ Own w br 5 B r.length d r) : ∀ u ∈ vs, u.oneCell' = true := by
  intro u hu
  obtain ⟨i, hi⟩ := List.mem_iff_getElem?.1 hu
  have hil := (List.getElem?_eq_some_iff.1 hi).1
  obtain ⟨B, d, hv, _⟩ := hr i _ (List.getElem?_eq_getElem (show i < M.length by omega))
  rw [hi] at hv
  injection hv with hv
  subst hv
  rfl
/-- rows stay where only a block of rows may have been written -/
theorem own_grown {w w' : World} {br : Nat} {B : Option Addr} {n d : Nat} {l : List UInt8} {A : Option Addr} {bo m c : Nat} {vs : List Value} (h : Own w br 5 B n d l) (ho : OwnV w bo 35 A m c vs) (hg : w.grownBy w' (A.map (·.block))) : Own w' br 5 B n d l := by
  refine h.at_block fun g hB => hg.block g ?_ ?_
  · obtain ⟨cur, hc, _⟩ := h.cells_at g hB
    exact (Array.getElem?_eq_some_iff.1 hc).1
  · intro e
    cases A with
    | none => cases e
    | some a =>
      injection e with e
      obtain ⟨cur, hc, _⟩ := h.cells_at g hB
      rcases ho.row.2 with ⟨hv, _⟩ | ⟨g', cap, cur', hv, _, hg', _⟩
      · cases hv
      · injection hv with ha _ _
        injection ha with ha
        subst ha
        simp only at e
        subst e
        rw [hc] at hg'
        injection hg' with e
        injection e with _ e _
        cases e
section
variable {P : Program} (w : World)
/-- a row more, by append -/
theorem wpList_appM {ops : Array Oper} {rest : List Oper} {o : Oper} {a : Act} {Q : Exit → Act → World → Prop} (hgd : o.guard = none) (s x : Operand)
    (ho : o.op = .call { callee := .builtin .append, args := #[s, x], argTypes := #[86, 86] }) {bo br : Nat}
    {A : Option Addr} {n c : Nat} {M : List (List UInt8)} (hs : a.eval s = .slice A n c) (hM : MO w bo br A n c M) {X : Option Addr} {d : Nat} (hx : a.eval x = .slice X 1 d)
    {B : Option Addr} {k e : Nat} {r : List UInt8} (hX : RdV w X 1 [.slice B k e]) (hk : r.length = k) (hB : Own w br 5 B k e r) (hn : n ≤ 1000000) (hbase : bo ≤ w.heap.size) (N : Nat) (hN : N = n + 1)
    (h : ∀ A' c' w', MO w' bo br A' N c' (M ++ [r]) → w.grownBy w' (A.map (·.block)) → wpList Try.prog ops Q rest (a.put o.dst (.slice A' N c')) w') : wpList Try.prog ops Q (o :: rest) a w := by
  subst hk
  obtain ⟨vs, hv, hr⟩ := hM.out
  refine wpList_appV w hgd s x 86 ho bo 35 (.slice none 0 0) 24 Try.underlying86 info31 rfl hs hv hx hX (fun u hu => by simp at hu; subst hu; rfl) (by omega) (by omega) hbase N hN fun A' c' w' h1 h2 _ => h A' c' w' ⟨?_, _, h1, fun i q hi => ?_⟩ h2
  · rw [List.length_append, hM.len, hN]; rfl
  · have hl : vs.length = M.length := by rw [hv.len, hM.len]
    rw [List.getElem?_append] at hi
    rw [List.getElem?_append]
    split at hi
    · rename_i hlt
      obtain ⟨B', d', hv', ho'⟩ := hr i q hi
      rw [if_pos (by omega)]
      exact ⟨B', d', hv', own_grown ho' hv h2⟩
    · rename_i hlt
      have : i - M.length = 0 := by
        have := (List.getElem?_eq_some_iff.1 hi).1
        simpa using this
      rw [this] at hi
      simp at hi
      subst hi
      rw [if_neg (by omega), hl, this]
      exact ⟨B, e, rfl, own_grown hB hv h2⟩
end

set_option maxRecDepth 100000 in
theorem clone_any {bo br : Nat} (A : Option Addr) (n c : Nat) (M : List (List UInt8)) (w : World) (h : MO w bo br A n c M) (h0 : 0 < n) (hn : n ≤ 255) :
    Calls Try.prog 87 #[.slice A n c] w fun e w' => ∃ A' c', e = .returned (.slice A' n c') ∧ MO w' w.heap.size br A' n c' M ∧ Below w.heap.size w w' := by
  obtain ⟨g, _, _, _, rfl, hA⟩ := h.row h0
  clear hA
  obtain ⟨vs, hv, hr⟩ := h.out
  have HR := Lib.hid (And.intro hv hr)
  have HL := Lib.hid h.len
  have H1 := Lib.hid (mo_vs_one (by rw [hv.len, h.len]) hr)
  have HN : Hid (OwnV (w.alloc (.cells #[] 35)) w.heap.size 35 (some ⟨w.heap.size, 0, none⟩) 0 0 []) := ⟨rfl, World.ownsRow_lit (base := w.heap.size) (e := 35) (size := 1) w #[] 0 (Nat.le_refl _) (by simp) rfl⟩
  clear h hv hr
  have hnil := fun W => Lib.run_eql_slice_nil (P := Try.prog) W 86 35 (some ⟨g, 0, none⟩) n c 0 0 Try.underlying86
  simp only [Option.isNone_some] at hnil
  go_enter Try.func87, Try.ntmps87
  go_wp2_with (at_builtin; refine wpList_appV _ rfl (.tmp 5) (.tmp 6) _ rfl w.heap.size 35 (.slice none 0 0) 24 Try.underlying86 info31 rfl rfl HN.out rfl (HR.out.1.rd.alloc _) H1.out (by omega) (by omega) (by simp) n (by omega) ?_; intro A' c' w' ho hg hat)
  go_ret
  have hb : Below w.heap.size w w' := ((Below.refl _ _).alloc (Nat.le_refl _) _).grown hg (by simp) (fun k hk => by simp at hk; omega)
  refine ⟨A', c', rfl, ⟨HL.out, vs, ho, fun i r hi => ?_⟩, hb⟩
  obtain ⟨B, d, h1, h2⟩ := HR.out.2 i r hi
  exact ⟨B, d, h1, h2.below hb (Nat.le_refl _)⟩

/-- Cauchy -/
def cauF (k : Nat) : Fn2 := fun i j => UInt8.ofNat (iv ((k + i) ^^^ j))
theorem nf_cauF (k i j : Nat) : nf (cauF k) i j = iv ((k + i) ^^^ j) := by
  unfold nf cauF; rw [UInt8.toNat_ofNat']; exact Nat.mod_eq_of_lt (iv_lt _)

theorem cauchy_arg (g : Nat) (x y : Int) (w : World) (h : FldAt w g) (hx : -9223372036854775808 ≤ x) (hx2 : x ≤ 9223372036854775807) (hy : -9223372036854775808 ≤ y) (hy2 : y ≤ 9223372036854775807) (hxy : x < 1 ∨ y < 1 ∨ 256 < x + y) : Calls Try.prog 42 #[.pointer (some ⟨g, 0, none⟩), .int .i64 x, .int .i64 y] w (NotM w 2) := by
  by_cases h1 : x < 1
  · go_enter Try.func42, Try.ntmps42
    go_wp2_with (go_at_call 57; refine (mmade_yes _ _ h).mono ?_; rintro e w' ⟨rfl, n, rfl⟩)
    go_ret2
    exact ⟨rfl, ⟨rfl, rfl, rfl, Nat.le_refl _, fun _ _ => rfl⟩⟩
  by_cases h2 : y < 1
  · go_enter Try.func42, Try.ntmps42
    go_wp2_with (go_at_call 57; refine (mmade_yes _ _ h).mono ?_; rintro e w' ⟨rfl, n, rfl⟩)
    go_ret2
    exact ⟨rfl, ⟨rfl, rfl, rfl, Nat.le_refl _, fun _ _ => rfl⟩⟩
  · have hd : decide (256 - y < x) = true := by simp; omega
    go_enter Try.func42, Try.ntmps42
    go_wp2_with (go_at_call 57; refine (mmade_yes _ _ h).mono ?_; rintro e w' ⟨rfl, n, rfl⟩)
    go_ret2
    exact ⟨rfl, ⟨rfl, rfl, rfl, Nat.le_refl _, fun _ _ => rfl⟩⟩

theorem cau_ne {k i j : Nat} (hj : j < k) : (k + i) ^^^ j ≠ 0 := xor_ne (by omega)

set_option maxRecDepth 100000 in
theorem cauchy_yes (g n k : Nat) (w : World) (h : FldAt w g) (h1 : 1 ≤ n) (h2 : 1 ≤ k) (h3 : n + k ≤ 256) : Calls Try.prog 42 #[.pointer (some ⟨g, 0, none⟩), .int .i64 (n : Int), .int .i64 (k : Int)] w (GotM w n (tabM n k (cauF k))) := by
  have HF := Lib.hid h
  clear h
  have hd1 : decide ((n : Int) < 1) = false := by simp; omega
  have hd2 : decide ((k : Int) < 1) = false := by simp; omega
  have hd3 : decide (256 - (k : Int) < (n : Int)) = false := by simp; omega
  go_enter Try.func42, Try.ntmps42
  go_wp2_with (first
    | (go_at_call 57; refine (mmade_yes _ _ HF.out).mono ?_; rintro e w' ⟨rfl, n0, rfl⟩)
    | (go_at_call 56; refine (noughts_any _ _ _ (by omega) (by omega)).mono ?_; rintro e w1 ⟨rfl, hG, hB⟩))
  have HG1 := Lib.hid (show Grid w1 w.heap.size n k (fun _ _ => 0) from hG)
  have HB1 := Lib.hid (show Below w.heap.size w w1 from ⟨hB.os, hB.tape, hB.output, hB.size, hB.block⟩)
  clear hG hB
  go_loopw [32] (fun i wr => ∃ q : Nat, q ≤ n ∧ i = .int .i64 q ∧ Hid (Grid wr w.heap.size n k (fun a b => if a < q then cauF k a b else 0)) ∧ Hid (Below w.heap.size w wr)) (fun i _ => n - (intOf i).toNat)
  case atStart => exact ⟨0, by omega, rfl, HG1.out.congr fun i j _ _ => by rw [if_neg (by omega)], HB1.out⟩
  case round =>
    obtain ⟨q, hq, rfl, HG, HB⟩ := hrel
    clear HG1 HB1
    by_cases hlt : q < n
    · have hr := HG.out.rowAt hlt
      go_wp2_with fail
      clear hr
      obtain ⟨V, hV⟩ : ∃ V, V = wr := ⟨_, rfl⟩
      subst hV
      have HGV := HG
      have HBV := HB
      clear HG HB
      go_loopw [39] (fun j wr => ∃ p : Nat, p ≤ k ∧ j = .int .i64 p ∧ Hid (Grid wr w.heap.size n k (fun a b => if a < q ∨ (a = q ∧ b < p) then cauF k a b else 0)) ∧ Hid (Below w.heap.size w wr)) (fun j _ => k - (intOf j).toNat)
      case atStart => exact ⟨0, by omega, rfl, HGV.out.congr fun i j _ _ => by by_cases e : i < q; rw [if_pos e, if_pos (.inl e)]; rw [if_neg e, if_neg (by omega)], HBV.out⟩
      case round =>
        obtain ⟨p, hp, rfl, HG, HB⟩ := hrel
        by_cases hpk : p < k
        · obtain ⟨hc, hf⟩ := HG.out.cellAt hlt hpk
          unfold BV at hc
          generalize ((if q < q ∨ (q = q ∧ p < p) then cauF k q p else 0 : UInt8).toNat : Int) = X at *
          have hw1 : ((k : Int) + (q : Int)) % 256 = ((k + q : Nat) : Int) := by omega
          have hw2 : (p : Int) % 256 = (p : Int) := by omega
          have hxl : (k + q) ^^^ p < 256 := xor_lt _ _ (by omega) (by omega)
          go_wp2_with fail
          have K1 := add_any g (k + q) p wr (HF.out.below HB.out HF.out.lt) (by omega) (by omega)
          rw [Int.natCast_add] at K1
          refine K1.mono ?_
          rintro e w2 ⟨rfl, rfl⟩
          clear K1
          go_wp2_with fail
          refine (inv_any g ((k + q) ^^^ p) wr (HF.out.below HB.out HF.out.lt) hxl (cau_ne hpk)).mono ?_
          rintro e w2 ⟨rfl, n1, rfl⟩
          have hc' : (wr.drewN n1).cell? ⟨w.heap.size + 1 + q, p, none⟩ = some (.int .u8 X) := hc
          have hf' : (wr.drewN n1).frozen? ⟨w.heap.size + 1 + q, p, none⟩ = false := hf
          obtain ⟨Y, hY⟩ : ∃ Y, quo 1 ((k + q) ^^^ p) = Y := ⟨_, rfl⟩
          rw [hY]
          have HY := Lib.hid hY
          clear hY hc hf
          go_wp2
          go_roundw
          case rel =>
            have hbv : Value.int .u8 (Y : Int) = BV (cauF k q p) := by
              unfold BV
              have e := nf_cauF k q p
              unfold nf iv at e
              rw [e, HY.out]
            rw [hbv]
            refine ⟨p + 1, by omega, by go_num, ?_, (show Below w.heap.size w (wr.drewN n1) from ⟨HB.out.os, HB.out.tape, HB.out.output, HB.out.size, HB.out.block⟩).setCell (by show w.heap.size ≤ w.heap.size + 1 + q; omega) _⟩
            exact ((HG.out.drewN n1).set q p _).congr fun i j _ _ => by
              by_cases e : i = q ∧ j = p
              · rw [if_pos e, if_pos (by omega), e.1, e.2]
              · rw [if_neg e]
                by_cases e2 : i < q ∨ (i = q ∧ j < p)
                · rw [if_pos e2, if_pos (by omega)]
                · rw [if_neg e2, if_neg (by omega)]
          case measure => simp [intOf]; omega
        · obtain rfl : p = k := by omega
          go_wp2
          go_roundw
          case rel =>
            refine ⟨q + 1, by omega, by go_num, ?_, HB.out⟩
            exact HG.out.congr fun i j _ hj => by
              by_cases e2 : i < q ∨ (i = q ∧ j < p)
              · rw [if_pos e2, if_pos (by omega)]
              · rw [if_neg e2, if_neg (by omega)]
          case measure => simp [intOf]; omega
    · obtain rfl : q = n := by omega
      go_wp2
      go_ret2
      refine ⟨_, _, rfl, ?_, HB.out⟩
      exact (HG.out.congr (G := cauF k) fun i j hi _ => if_pos hi).mo (by simp [maxLen]; omega) (by simp [maxLen]; omega)
end Go.Proofs.Ytkkpfehgobanbaa
