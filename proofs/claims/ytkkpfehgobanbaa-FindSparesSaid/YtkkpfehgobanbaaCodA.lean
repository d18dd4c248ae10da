/- A code in memory: New, made, Need, All. -/
import Derived.Test.YtkkpfehgobanbaaCodP
import Derived.Test.YtkkpfehgobanbaaMtxL
namespace Go.Proofs.Ytkkpfehgobanbaa
open Go.RowKit Go.Coop
set_option maxRecDepth 100000

/-- a code of k and n lies at block g: its field at block gf, its matrix -/
structure CodeAt (w : World) (g n k gf : Nat) (A : Option Addr) (c : Nat) : Prop where
  lt : g < w.heap.size
  c0 : w.cell? ⟨g, 0, none⟩ = some (.pointer (some ⟨gf, 0, none⟩))
  c1 : w.cell? ⟨g, 1, none⟩ = some (.int .i64 (k : Int))
  c2 : w.cell? ⟨g, 2, none⟩ = some (.int .i64 (n : Int))
  c3 : w.cell? ⟨g, 3, none⟩ = some (.slice A n c)
  fld : FldAt w gf
  mat : MO w 0 0 A n c (tabM n k (codF k))
  k1 : 1 ≤ k
  kn : k ≤ n
  n255 : n ≤ 255
theorem CodeAt.below {w w' : World} {B g n k gf c : Nat} {A : Option Addr} (h : CodeAt w g n k gf A c) (hb : Below B w w') (hB : w.heap.size ≤ B) : CodeAt w' g n k gf A c :=
  have hg := h.lt
  ⟨Nat.lt_of_lt_of_le h.lt hb.size, (hb.cell (p := ⟨g, 0, none⟩) (by show g < B; omega)).trans h.c0, (hb.cell (p := ⟨g, 1, none⟩) (by show g < B; omega)).trans h.c1,
   (hb.cell (p := ⟨g, 2, none⟩) (by show g < B; omega)).trans h.c2, (hb.cell (p := ⟨g, 3, none⟩) (by show g < B; omega)).trans h.c3, h.fld.below hb (Nat.lt_of_lt_of_le h.fld.lt hB), h.mat.below hb hB, h.k1, h.kn, h.n255⟩
theorem CodeAt.alloc {w : World} {g n k gf c : Nat} {A : Option Addr} (h : CodeAt w g n k gf A c) (o : Obj) : CodeAt (w.alloc o) g n k gf A c := h.below ((Below.refl w.heap.size w).alloc (Nat.le_refl _) o) (Nat.le_refl _)
theorem CodeAt.drewN {w : World} {g n k gf c : Nat} {A : Option Addr} (h : CodeAt w g n k gf A c) (j : Nat) : CodeAt (w.drewN j) g n k gf A c := h.below (B := w.heap.size) ⟨rfl, rfl, rfl, Nat.le_refl _, fun _ _ => rfl⟩ (Nat.le_refl _)

theorem drewN_below (w : World) (j : Nat) : Below w.heap.size w (w.drewN j) := ⟨rfl, rfl, rfl, Nat.le_refl _, fun _ _ => rfl⟩
/-- a literal of one row -/
theorem lit_one {w : World} {br k d : Nat} {B : Option Addr} {r : List UInt8} (h : Own w br 5 B k d r) : MO (w.alloc (.cells #[.slice B k d] 35)) w.heap.size br (some ⟨w.heap.size, 0, none⟩) 1 1 [r] := by
  refine ⟨rfl, [.slice B k d], ⟨rfl, rfl, .inr ⟨w.heap.size, 1, #[.slice B k d], rfl, Nat.le_refl _, heap_alloc_new w _, Nat.le_refl _, by simp [maxLen], rfl, rfl⟩⟩, fun i x hi => ?_⟩
  match i, hi with
  | 0, hi =>
    simp at hi
    subst hi
    rw [h.len]
    exact ⟨B, d, rfl, h.alloc _⟩
section
variable (w : World)
/-- rows more, by append -/
theorem wpList_appMM {ops : Array Oper} {rest : List Oper} {o : Oper} {a : Act} {Q : Exit → Act → World → Prop} (hgd : o.guard = none) (s x : Operand) (T : TypeId) (hT : Try.prog.underlying T = some (.slice 35))
    (ho : o.op = .call { callee := .builtin .append, args := #[s, x], argTypes := #[T, T] }) {bo br bo' : Nat}
    {A : Option Addr} {n c : Nat} {M : List (List UInt8)} (hs : a.eval s = .slice A n c) (hM : MO w bo br A n c M) {X : Option Addr} {m d : Nat} {K : List (List UInt8)} (hx : a.eval x = .slice X m d)
    (hX : MO w bo' br X m d K) (hn : n ≤ 1000000) (hm : m ≤ 1000000) (hbase : bo ≤ w.heap.size) (N : Nat) (hN : N = n + m)
    (h : ∀ A' c' w', MO w' bo br A' N c' (M ++ K) → w.grownBy w' (A.map (·.block)) → wpList Try.prog ops Q rest (a.put o.dst (.slice A' N c')) w') : wpList Try.prog ops Q (o :: rest) a w := by
  obtain ⟨vs, hv, hr⟩ := hM.out
  obtain ⟨us, hu, hq⟩ := hX.out
  have h1 := mo_vs_one (by rw [hu.len, hX.len]) hq
  refine wpList_appV w hgd s x T ho bo 35 (.slice none 0 0) 24 hT info31 rfl hs hv hx hu.rd h1 (by omega) (by omega) hbase N hN fun A' c' w' h1 h2 _ => h A' c' w' ⟨?_, _, h1, fun i q hi => ?_⟩ h2
  · rw [List.length_append, hM.len, hX.len, hN]
  · have hl : vs.length = M.length := by rw [hv.len, hM.len]
    rw [List.getElem?_append] at hi
    rw [List.getElem?_append]
    split at hi
    · rename_i hlt
      obtain ⟨B', d', hv', ho'⟩ := hr i q hi
      rw [if_pos (by omega)]
      exact ⟨B', d', hv', own_grown ho' hv h2⟩
    · rename_i hlt
      rw [if_neg (by omega), hl]
      obtain ⟨B', d', hv', ho'⟩ := hq _ q hi
      exact ⟨B', d', hv', own_grown ho' hv h2⟩
end

theorem codF_split (n k : Nat) : tabM k k unitF ++ tabM n k (cauF k) = tabM (k + n) k (codF k) := by
  unfold tabM
  rw [List.range_add, List.map_append, List.map_map]
  congr 1
  · refine List.map_congr_left fun i hi => rowL_congr fun j _ => ?_
    show unitF i j = codF k i j
    unfold codF
    rw [if_pos (List.mem_range.1 hi)]
  · refine List.map_congr_left fun i _ => rowL_congr fun j _ => ?_
    show cauF k i j = codF k (k + i) j
    unfold codF
    rw [if_neg (by omega)]
    congr 1
    omega

/-- what New answers -/
def MadeC (w : World) (n k : Nat) (e : Ending) (w' : World) : Prop := ∃ g gf A c, e = .returned (.tuple #[.pointer (some ⟨g, 0, none⟩), .int .i64 0]) ∧ CodeAt w' g n k gf A c ∧ Below w.heap.size w w'
def NoC (w : World) (k : Int) (e : Ending) (w' : World) : Prop := e = .returned (.tuple #[.pointer none, .int .i64 k]) ∧ Below w.heap.size w w'

theorem cnew_none (p : Option Addr) (x y : Int) (w : World) (h : NoFld w p) : Calls Try.prog 12 #[.pointer p, .int .i64 x, .int .i64 y] w (NoC w 1) := by
  have H := Lib.hid h
  clear h
  go_enter Try.func12, Try.ntmps12
  go_wp2_with (go_at_call 40; refine (inv_none _ _ _ H.out).mono ?_; rintro e w' ⟨rfl, rfl⟩)
  go_ret2
  exact ⟨rfl, Below.refl _ _⟩
theorem cnew_arg (f : Nat) (x y : Int) (w : World) (h : FldAt w f) (hxy : x < 1 ∨ y < x ∨ 255 < y) : Calls Try.prog 12 #[.pointer (some ⟨f, 0, none⟩), .int .i64 x, .int .i64 y] w (NoC w 2) := by
  have H := Lib.hid h
  clear h
  go_enter Try.func12, Try.ntmps12
  rcases hxy with h1 | h1 | h1
  · go_wp2_with (go_at_call 40; refine (inv_any _ 1 _ H.out (by omega) (by omega)).mono ?_; rintro e w' ⟨rfl, n0, rfl⟩)
    all_goals first | (exfalso; omega) | skip
    all_goals go_ret2
    all_goals exact ⟨rfl, ⟨rfl, rfl, rfl, Nat.le_refl _, fun _ _ => rfl⟩⟩
  · by_cases h2 : x < 1
    · go_wp2_with (go_at_call 40; refine (inv_any _ 1 _ H.out (by omega) (by omega)).mono ?_; rintro e w' ⟨rfl, n0, rfl⟩)
      all_goals first | (exfalso; omega) | skip
      all_goals go_ret2
      all_goals exact ⟨rfl, ⟨rfl, rfl, rfl, Nat.le_refl _, fun _ _ => rfl⟩⟩
    · go_wp2_with (go_at_call 40; refine (inv_any _ 1 _ H.out (by omega) (by omega)).mono ?_; rintro e w' ⟨rfl, n0, rfl⟩)
      all_goals first | (exfalso; omega) | skip
      all_goals go_ret2
      all_goals exact ⟨rfl, ⟨rfl, rfl, rfl, Nat.le_refl _, fun _ _ => rfl⟩⟩
  · by_cases h2 : x < 1
    · go_wp2_with (go_at_call 40; refine (inv_any _ 1 _ H.out (by omega) (by omega)).mono ?_; rintro e w' ⟨rfl, n0, rfl⟩)
      all_goals first | (exfalso; omega) | skip
      all_goals go_ret2
      all_goals exact ⟨rfl, ⟨rfl, rfl, rfl, Nat.le_refl _, fun _ _ => rfl⟩⟩
    · by_cases h3 : y < x
      · go_wp2_with (go_at_call 40; refine (inv_any _ 1 _ H.out (by omega) (by omega)).mono ?_; rintro e w' ⟨rfl, n0, rfl⟩)
        all_goals first | (exfalso; omega) | skip
        all_goals go_ret2
        all_goals exact ⟨rfl, ⟨rfl, rfl, rfl, Nat.le_refl _, fun _ _ => rfl⟩⟩
      · go_wp2_with (go_at_call 40; refine (inv_any _ 1 _ H.out (by omega) (by omega)).mono ?_; rintro e w' ⟨rfl, n0, rfl⟩)
        all_goals first | (exfalso; omega) | skip
        all_goals go_ret2
        all_goals exact ⟨rfl, ⟨rfl, rfl, rfl, Nat.le_refl _, fun _ _ => rfl⟩⟩

/-- a code that was built just now -/
theorem code_new {w : World} {n k gf c bo br : Nat} {A : Option Addr} (hf : FldAt w gf) (hM : MO w bo br A n c (tabM n k (codF k))) (h1 : 1 ≤ k) (h2 : k ≤ n) (h3 : n ≤ 255) :
    CodeAt (w.alloc (.cells #[.pointer (some ⟨gf, 0, none⟩), .int .i64 (k : Int), .int .i64 (n : Int), .slice A n c] 91)) w.heap.size n k gf A c := by
  refine ⟨by simp, ?_, ?_, ?_, ?_, hf.alloc _, (hM.lower (Nat.zero_le _) (Nat.zero_le _)).alloc _, h1, h2, h3⟩
  all_goals exact cell_of_row _ w.heap.size _ _ 91 (0, 0) (heap_alloc_new w _)
theorem cnew_yes (f n k : Nat) (w : World) (h : FldAt w f) (h1 : 1 ≤ k) (h2 : k ≤ n) (h3 : n ≤ 255) : Calls Try.prog 12 #[.pointer (some ⟨f, 0, none⟩), .int .i64 (k : Int), .int .i64 (n : Int)] w (MadeC w n k) := by
  have H := Lib.hid h
  clear h
  by_cases hnk : k = n
  · subst hnk
    go_enter Try.func12, Try.ntmps12
    go_wp2_with fail
    refine (inv_any _ 1 _ H.out (by omega) (by omega)).mono ?_
    rintro e w' ⟨rfl, n0, rfl⟩
    have HF1 := Lib.hid (H.out.drewN n0)
    go_wp2_with fail
    refine (unit_yes k _ h1 h3).mono ?_
    rintro e w2 ⟨Aa, ca, rfl, hM, hB⟩
    have HM := Lib.hid hM
    have HB : Hid (Below w.heap.size w w2) := (drewN_below w n0).trans hB
    clear hM hB
    go_wp2_with fail
    refine (new_any _).mono ?_
    rintro e w3 ⟨gf, rfl, hF, hg, hB⟩
    have HF := Lib.hid hF
    have HM3 := Lib.hid (HM.out.below hB (Nat.le_refl _))
    have HB3 := Lib.hid (HB.out.trans (hB.mono HB.out.size))
    clear hF hB hg
    go_wp2
    go_ret2
    have e : tabM k k unitF = tabM k k (codF k) := tabM_congr fun i j hi _ => by unfold codF; rw [if_pos hi]
    exact ⟨_, gf, Aa, ca, rfl, code_new HF.out (by rw [← e]; exact HM3.out) h1 (by omega) h3, HB3.out.alloc HB3.out.size _⟩
  · go_enter Try.func12, Try.ntmps12
    go_wp2_with fail
    refine (inv_any _ 1 _ H.out (by omega) (by omega)).mono ?_
    rintro e w' ⟨rfl, n0, rfl⟩
    have HF1 := Lib.hid (H.out.drewN n0)
    go_wp2_with fail
    refine (unit_yes k _ h1 (by omega)).mono ?_
    rintro e w2 ⟨Aa, ca, rfl, hM, hB⟩
    have HM := Lib.hid hM
    have HB : Hid (Below w.heap.size w w2) := (drewN_below w n0).trans hB
    have HF2 := Lib.hid (HF1.out.below hB HF1.out.lt)
    clear hM hB HF1
    have hd : (n : Int) - (k : Int) = ((n - k : Nat) : Int) := by omega
    go_wp2_with fail
    refine (cauchy_yes f (n - k) k w2 HF2.out (by omega) h1 (by omega)).mono ?_
    rintro e w3 ⟨Ab, cb, rfl, hN, hB⟩
    have HN := Lib.hid hN
    have HM3 := Lib.hid (HM.out.below hB (Nat.le_refl _))
    have HB3 := Lib.hid (HB.out.trans (hB.mono HB.out.size))
    have hsz := HB.out.size
    clear hN hB
    have hmM := Lib.hid (HM3.out.lower (bo' := w.heap.size) (br' := w.heap.size) (Nat.le_refl _) (Nat.le_refl _))
    have hmN := Lib.hid (HN.out.lower (bo' := 0) (br' := w.heap.size) (Nat.zero_le _) hsz)
    have hsz3 := HB3.out.size
    clear HM3 HN HM HB HF2
    go_wp2_with (at_builtin; refine wpList_appMM _ rfl (.tmp 50) (.tmp 51) 86 Try.underlying86 rfl rfl hmM.out rfl hmN.out (by omega) (by omega) (by omega) n (by omega) ?_; intro A' c' w4 hM4 hg4)
    have HM4 := Lib.hid hM4
    have HB4 : Hid (Below w.heap.size w w4) := HB3.out.grown hg4 hsz3 (fun j hj => (mo_block hmM.out j hj).1)
    clear hM4 hg4 hmM hmN HB3
    go_wp2_with fail
    refine (new_any _).mono ?_
    rintro e w5 ⟨gf, rfl, hF, hg, hB⟩
    have HF := Lib.hid hF
    have HM5 := Lib.hid (HM4.out.below hB (Nat.le_refl _))
    have HB5 := Lib.hid (HB4.out.trans (hB.mono HB4.out.size))
    clear hF hB hg
    go_wp2
    go_ret2
    have e := codF_split (n - k) k
    rw [show k + (n - k) = n by omega] at e
    exact ⟨_, gf, A', c', rfl, code_new HF.out (by rw [← e]; exact HM5.out) h1 h2 h3, HB5.out.alloc HB5.out.size _⟩

/-- made -/
theorem cmade_yes {g n k gf c : Nat} {A : Option Addr} (w : World) (h : CodeAt w g n k gf A c) : Calls Try.prog 46 #[.pointer (some ⟨g, 0, none⟩)] w fun e w' => e = .returned (.bool true) ∧ w = w' := by
  have hc := h.c0
  clear h
  go_enter Try.func46, Try.ntmps46
  go_wp2
  go_ret
  exact ⟨rfl, rfl⟩
/-- a pointer that leads to no code -/
def NoCode (w : World) (p : Option Addr) : Prop := p = none ∨ ∃ g, p = some ⟨g, 0, none⟩ ∧ w.cell? ⟨g, 0, none⟩ = some (.pointer none)
theorem cmade_no (p : Option Addr) (w : World) (h : NoCode w p) : Calls Try.prog 46 #[.pointer p] w fun e w' => e = .returned (.bool false) ∧ w = w' := by
  rcases h with rfl | ⟨g, rfl, hc⟩
  · go_enter Try.func46, Try.ntmps46
    go_wp2
    go_ret
    exact ⟨rfl, rfl⟩
  · go_enter Try.func46, Try.ntmps46
    go_wp2
    go_ret
    exact ⟨rfl, rfl⟩
theorem need_yes {g n k gf c : Nat} {A : Option Addr} (w : World) (h : CodeAt w g n k gf A c) : Calls Try.prog 26 #[.pointer (some ⟨g, 0, none⟩)] w fun e w' => e = .returned (.int .i64 (k : Int)) ∧ w = w' := by
  have hc := h.c1
  have H := Lib.hid h
  clear h
  go_enter Try.func26, Try.ntmps26
  go_wp2_with (go_at_call 46; refine (cmade_yes _ H.out).mono ?_; rintro e w' ⟨rfl, rfl⟩)
  go_ret
  exact ⟨rfl, rfl⟩
theorem all_yes {g n k gf c : Nat} {A : Option Addr} (w : World) (h : CodeAt w g n k gf A c) : Calls Try.prog 25 #[.pointer (some ⟨g, 0, none⟩)] w fun e w' => e = .returned (.int .i64 (n : Int)) ∧ w = w' := by
  have hc := h.c2
  have H := Lib.hid h
  clear h
  go_enter Try.func25, Try.ntmps25
  go_wp2_with (go_at_call 46; refine (cmade_yes _ H.out).mono ?_; rintro e w' ⟨rfl, rfl⟩)
  go_ret
  exact ⟨rfl, rfl⟩
theorem need_no (p : Option Addr) (w : World) (h : NoCode w p) : Calls Try.prog 26 #[.pointer p] w fun e w' => e = .returned (.int .i64 0) ∧ w = w' := by
  have H := Lib.hid h
  clear h
  go_enter Try.func26, Try.ntmps26
  go_wp2_with (go_at_call 46; refine (cmade_no _ _ H.out).mono ?_; rintro e w' ⟨rfl, rfl⟩)
  go_ret
  exact ⟨rfl, rfl⟩
theorem all_no (p : Option Addr) (w : World) (h : NoCode w p) : Calls Try.prog 25 #[.pointer p] w fun e w' => e = .returned (.int .i64 0) ∧ w = w' := by
  have H := Lib.hid h
  clear h
  go_enter Try.func25, Try.ntmps25
  go_wp2_with (go_at_call 46; refine (cmade_no _ _ H.out).mono ?_; rintro e w' ⟨rfl, rfl⟩)
  go_ret
  exact ⟨rfl, rfl⟩
end Go.Proofs.Ytkkpfehgobanbaa
