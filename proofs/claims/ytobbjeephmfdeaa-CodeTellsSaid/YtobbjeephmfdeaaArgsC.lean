/- Arguments as the rows hand them over. -/
import Derived.Test.YtobbjeephmfdeaaWords
import Derived.OpenShut
import Derived.Test.YtobbjeephmfdeaaMtxL
import Derived.Deep.Slices
import Derived.Lib.SmallJoins
namespace Go.Coop
open Go.RowKit
set_option maxRecDepth 100000

theorem rd_of_row {w : World} {a : Option Addr} {len cap : Nat} {zs : List Int} (h : (a = none ∧ len = 0 ∧ cap = 0 ∧ zs = []) ∨
    ∃ x, a = some x ∧ len ≤ cap ∧ cap ≤ maxLen ∧ zs.length = cap ∧ (∀ i, i < zs.length → w.cell? (x.add i) = some (.int .u8 (zs.getD i 0))) ∧ ∀ n ∈ zs, (Lit.int .u8 n).wf = true) :
    ∃ l, Rd w a len l ∧ len ≤ cap ∧ cap ≤ maxLen := by
  rcases h with ⟨rfl, rfl, rfl, rfl⟩ | ⟨x, rfl, hl, hm, hz, hc, hw⟩
  · exact ⟨[], Rd.nil _ _, Nat.le_refl _, Nat.zero_le _⟩
  · refine ⟨(zs.take len).map fun n => UInt8.ofNat n.toNat, ⟨by simp; omega, fun h0 => ⟨x, rfl, ?_, fun j c hj => ?_⟩⟩, hl, hm⟩
    · have := block_lt_of_cell (hc 0 (by omega))
      rwa [addr_add_block] at this
    · simp only [List.getElem?_map, List.getElem?_take, Option.map_eq_some_iff] at hj
      obtain ⟨n, hn, rfl⟩ := hj
      split at hn
      · have hjl : j < zs.length := (List.getElem?_eq_some_iff.1 hn).1
        have hb := bounds_u8 (hw n (List.mem_of_getElem? hn))
        rw [hc j hjl, List.getD_eq_getElem?_getD, hn]
        simp only [Option.getD_some]
        rw [bv_of n (by omega) (by omega)]
      · cases hn
end Go.Coop
namespace Go.Proofs.Ytobbjeephmfdeaa
open Go.RowKit Go.Coop Go.ChangeShapes Go.WideShapes Go.Deep
set_option maxRecDepth 100000

theorem list_of {α : Type} (n : Nat) (Q : Nat → α → Prop) (h : ∀ i, i < n → ∃ p, Q i p) : ∃ l : List α, l.length = n ∧ ∀ (i : Nat) (p : α), l[i]? = some p → Q i p := by
  induction n with
  | zero => exact ⟨[], rfl, by simp⟩
  | succ n ih =>
    obtain ⟨l, hl, hq⟩ := ih (fun i hi => h i (by omega))
    obtain ⟨p, hp⟩ := h n (by omega)
    refine ⟨l ++ [p], by simp [hl], fun i q hi => ?_⟩
    rw [List.getElem?_append] at hi
    split at hi
    · exact hq i q hi
    · rename_i hge
      have h0 : i - l.length = 0 := by
        have := (List.getElem?_eq_some_iff.1 hi).1
        simp at this
        omega
      rw [h0] at hi
      simp at hi
      subst hi
      have : i = n := by omega
      rw [this]
      exact hp
theorem cells4 : Try.prog.cellsOf 4 = 1 := by kernel_rfl
theorem cells3 : Try.prog.cellsOf 3 = 1 := by kernel_rfl
theorem cells31 : Try.prog.cellsOf 31 = 1 := by kernel_rfl
/-- a row of cells of which each is known -/
theorem rdv_of {α : Type} {W : World} {a : Addr} {n : Nat} (f : α → Value) (h : ∀ i, i < n → ∃ p : α, W.cell? (a.add i) = some (f p)) : ∃ l : List α, RdV W (some a) n (l.map f) := by
  obtain ⟨l, hl, hq⟩ := list_of n _ h
  refine ⟨l, by simp [hl], fun h0 => ⟨a, rfl, ?_, fun j v hj => ?_⟩⟩
  · obtain ⟨p, hp⟩ := h 0 h0
    have := block_lt_of_cell hp
    rwa [addr_add_block] at this
  · simp only [List.getElem?_map, Option.map_eq_some_iff] at hj
    obtain ⟨p, hp, rfl⟩ := hj
    exact hq j p hp
theorem bools_of {H : Type} {enc : TypeId × Value → H} {W : World} {fuel : Nat} {a0 : Option Addr} {len0 cap0 : Nat} {x : DataW H × List MemPlace}
    (h : DataW.trod enc Try.prog W 0 (fun _ => true) true fuel 101 [.slice a0 len0 cap0] = some x) : ∃ fl : List Bool, RdV W a0 len0 (fl.map Value.bool) ∧ len0 ≤ cap0 ∧ cap0 ≤ maxLen := by
  rcases open_slice Try.underlying101 h with ⟨hcs, _⟩ | ⟨a, len, cap, m, n, D, Pl, hcs, _, hl, hm, hmm, _, hi⟩
  · simp at hcs
    obtain ⟨rfl, rfl, rfl⟩ := hcs
    exact ⟨[], RdV.nil _ _, Nat.le_refl _, Nat.zero_le _⟩
  · simp at hcs
    obtain ⟨rfl, rfl, rfl⟩ := hcs
    simp only [if_true] at hmm
    subst hmm
    obtain ⟨l, hr⟩ := rdv_of (W := W) (a := a) (n := len0) Value.bool (by
      intro i hil
      obtain ⟨cs', hc, ht⟩ := hi i (by omega)
      rw [cells4] at hc
      obtain ⟨_, hcl, hat⟩ := World.cells?_some hc
      obtain ⟨b, e2, _⟩ := DataW.trod_bool Try.underlying4 ht
      have c0 := hat 0 (by omega)
      rw [addr_add_add] at c0
      subst e2
      exact ⟨b, by simpa using c0⟩)
    exact ⟨l, hr, hl, hm⟩
theorem ints_of {H : Type} {enc : TypeId × Value → H} {W : World} {fuel : Nat} {a0 : Option Addr} {len0 cap0 : Nat} {x : DataW H × List MemPlace}
    (h : DataW.trod enc Try.prog W 0 (fun _ => true) true fuel 38 [.slice a0 len0 cap0] = some x) : ∃ ls : List Int, RdV W a0 len0 (ls.map (Value.int .i64)) ∧ (∀ x ∈ ls, -9223372036854775808 ≤ x ∧ x ≤ 9223372036854775807) ∧ len0 ≤ cap0 ∧ cap0 ≤ maxLen := by
  rcases open_slice Try.underlying38 h with ⟨hcs, _⟩ | ⟨a, len, cap, m, n, D, Pl, hcs, _, hl, hm, hmm, _, hi⟩
  · simp at hcs
    obtain ⟨rfl, rfl, rfl⟩ := hcs
    exact ⟨[], RdV.nil _ _, fun x hx => by simp at hx, Nat.le_refl _, Nat.zero_le _⟩
  · simp at hcs
    obtain ⟨rfl, rfl, rfl⟩ := hcs
    simp only [if_true] at hmm
    subst hmm
    obtain ⟨l, hl2, hq⟩ := list_of len0 (fun i (p : Int) => W.cell? (a.add i) = some (.int .i64 p) ∧ -9223372036854775808 ≤ p ∧ p ≤ 9223372036854775807) (by
      intro i hil
      obtain ⟨cs', hc, ht⟩ := hi i (by omega)
      rw [cells3] at hc
      obtain ⟨_, hcl, hat⟩ := World.cells?_some hc
      obtain ⟨N, e0, _, wN⟩ := DataW.trod_int Try.underlying3 ht
      have c0 := hat 0 (by omega)
      rw [addr_add_add] at c0
      subst e0
      refine ⟨N, by simpa using c0, ?_⟩
      simp [Lit.wf, IntKind.min, IntKind.max, IntKind.signed, IntKind.bits] at wN
      omega)
    refine ⟨l, ⟨by simp [hl2], fun h0 => ⟨a, rfl, ?_, fun j v hj => ?_⟩⟩, fun x hx => ?_, hl, hm⟩
    · obtain ⟨p, hp⟩ : ∃ p, l[0]? = some p := ⟨_, List.getElem?_eq_getElem (by omega)⟩
      have := block_lt_of_cell (hq 0 p hp).1
      rwa [addr_add_block] at this
    · simp only [List.getElem?_map, Option.map_eq_some_iff] at hj
      obtain ⟨p, hp, rfl⟩ := hj
      exact (hq j p hp).1
    · obtain ⟨i, hi⟩ := List.mem_iff_getElem?.1 hx
      exact (hq i x hi).2
theorem mr_of {H : Type} {enc : TypeId × Value → H} {W : World} {fuel : Nat} {a0 : Option Addr} {len0 cap0 : Nat} {x : DataW H × List MemPlace}
    (h : DataW.trod enc Try.prog W 0 (fun _ => true) true fuel 47 [.slice a0 len0 cap0] = some x) : ∃ M : List (List UInt8), MR W a0 len0 M ∧ (∀ r ∈ M, r.length ≤ maxLen) ∧ len0 ≤ cap0 ∧ cap0 ≤ maxLen := by
  rcases open_slice Try.underlying47 h with ⟨hcs, _⟩ | ⟨a, len, cap, m, n, D, Pl, hcs, _, hl, hm, hmm, _, hi⟩
  · simp at hcs
    obtain ⟨rfl, rfl, rfl⟩ := hcs
    exact ⟨[], ⟨rfl, [], RdV.nil _ _, fun i r hi => by simp at hi⟩, fun r hr => by simp at hr, Nat.le_refl _, Nat.zero_le _⟩
  · simp at hcs
    obtain ⟨rfl, rfl, rfl⟩ := hcs
    simp only [if_true] at hmm
    subst hmm
    obtain ⟨l, hl2, hq⟩ := list_of len0 (fun i (p : List UInt8 × Option Addr × Nat) => W.cell? (a.add i) = some (.slice p.2.1 p.1.length p.2.2) ∧ Rd W p.2.1 p.1.length p.1 ∧ p.1.length ≤ maxLen) (by
      intro i hil
      obtain ⟨cs', hc, ht⟩ := hi i (by omega)
      rw [cells31] at hc
      obtain ⟨_, hcl, hat⟩ := World.cells?_some hc
      have c0 := hat 0 (by omega)
      rw [addr_add_add] at c0
      rcases open_ints Try.underlying31 Try.underlying5 (by kernel_rfl) ht with ⟨hcs, _⟩ | ⟨x, l, c, zs, hcs, _, hl2, hm2, hz, _, hcell, hwz⟩
      · subst hcs
        exact ⟨([], none, 0), by simpa using c0, Rd.nil _ _, Nat.zero_le _⟩
      · subst hcs
        obtain ⟨pl, h1, h2, h3⟩ := rd_of_row (w := W) (a := some x) (len := l) (cap := c) (zs := zs) (.inr ⟨x, rfl, hl2, hm2, by simpa using hz, hcell, hwz⟩)
        have e := h1.len
        refine ⟨(pl, some x, c), ?_, ?_, ?_⟩
        · simp only [e]; simpa using c0
        · simp only [e]; exact h1
        · simp only [e]; omega)
    refine ⟨l.map (·.1), ⟨by simp [hl2], l.map (fun p => Value.slice p.2.1 p.1.length p.2.2), ⟨by simp [hl2], fun h0 => ⟨a, rfl, ?_, fun j v hj => ?_⟩⟩, fun i r hi => ?_⟩, fun r hr => ?_, hl, hm⟩
    · obtain ⟨p, hp⟩ : ∃ p, l[0]? = some p := ⟨_, List.getElem?_eq_getElem (by omega)⟩
      have := block_lt_of_cell (hq 0 p hp).1
      rwa [addr_add_block] at this
    · simp only [List.getElem?_map, Option.map_eq_some_iff] at hj
      obtain ⟨p, hp, rfl⟩ := hj
      exact (hq j p hp).1
    · simp only [List.getElem?_map, Option.map_eq_some_iff] at hi
      obtain ⟨p, hp, rfl⟩ := hi
      exact ⟨p.2.1, p.2.2, by simp [hp], (hq i p hp).2.1⟩
    · simp only [List.mem_map] at hr
      obtain ⟨p, hp, rfl⟩ := hr
      obtain ⟨i, hi⟩ := List.mem_iff_getElem?.1 hp
      exact (hq i p hi).2.2
end Go.Proofs.Ytobbjeephmfdeaa
namespace Go.Proofs.Ytobbjeephmfdeaa
open Go.RowKit Go.Coop Go.ChangeShapes Go.WideShapes Go.Deep
set_option maxRecDepth 100000

theorem mr32_of {H : Type} {enc : TypeId × Value → H} {W : World} {fuel : Nat} {a0 : Option Addr} {len0 cap0 : Nat} {x : DataW H × List MemPlace}
    (h : DataW.trod enc Try.prog W 0 (fun _ => true) true fuel 32 [.slice a0 len0 cap0] = some x) : ∃ M : List (List UInt8), MR W a0 len0 M ∧ (∀ r ∈ M, r.length ≤ maxLen) ∧ len0 ≤ cap0 ∧ cap0 ≤ maxLen := by
  rcases open_slice Try.underlying32 h with ⟨hcs, _⟩ | ⟨a, len, cap, m, n, D, Pl, hcs, _, hl, hm, hmm, _, hi⟩
  · simp at hcs
    obtain ⟨rfl, rfl, rfl⟩ := hcs
    exact ⟨[], ⟨rfl, [], RdV.nil _ _, fun i r hi => by simp at hi⟩, fun r hr => by simp at hr, Nat.le_refl _, Nat.zero_le _⟩
  · simp at hcs
    obtain ⟨rfl, rfl, rfl⟩ := hcs
    simp only [if_true] at hmm
    subst hmm
    obtain ⟨l, hl2, hq⟩ := list_of len0 (fun i (p : List UInt8 × Option Addr × Nat) => W.cell? (a.add i) = some (.slice p.2.1 p.1.length p.2.2) ∧ Rd W p.2.1 p.1.length p.1 ∧ p.1.length ≤ maxLen) (by
      intro i hil
      obtain ⟨cs', hc, ht⟩ := hi i (by omega)
      rw [cells31] at hc
      obtain ⟨_, hcl, hat⟩ := World.cells?_some hc
      have c0 := hat 0 (by omega)
      rw [addr_add_add] at c0
      rcases open_ints Try.underlying31 Try.underlying5 (by kernel_rfl) ht with ⟨hcs, _⟩ | ⟨x, l, c, zs, hcs, _, hl2, hm2, hz, _, hcell, hwz⟩
      · subst hcs
        exact ⟨([], none, 0), by simpa using c0, Rd.nil _ _, Nat.zero_le _⟩
      · subst hcs
        obtain ⟨pl, h1, h2, h3⟩ := rd_of_row (w := W) (a := some x) (len := l) (cap := c) (zs := zs) (.inr ⟨x, rfl, hl2, hm2, by simpa using hz, hcell, hwz⟩)
        have e := h1.len
        refine ⟨(pl, some x, c), ?_, ?_, ?_⟩
        · simp only [e]; simpa using c0
        · simp only [e]; exact h1
        · simp only [e]; omega)
    refine ⟨l.map (·.1), ⟨by simp [hl2], l.map (fun p => Value.slice p.2.1 p.1.length p.2.2), ⟨by simp [hl2], fun h0 => ⟨a, rfl, ?_, fun j v hj => ?_⟩⟩, fun i r hi => ?_⟩, fun r hr => ?_, hl, hm⟩
    · obtain ⟨p, hp⟩ : ∃ p, l[0]? = some p := ⟨_, List.getElem?_eq_getElem (by omega)⟩
      have := block_lt_of_cell (hq 0 p hp).1
      rwa [addr_add_block] at this
    · simp only [List.getElem?_map, Option.map_eq_some_iff] at hj
      obtain ⟨p, hp, rfl⟩ := hj
      exact (hq j p hp).1
    · simp only [List.getElem?_map, Option.map_eq_some_iff] at hi
      obtain ⟨p, hp, rfl⟩ := hi
      exact ⟨p.2.1, p.2.2, by simp [hp], (hq i p hp).2.1⟩
    · simp only [List.mem_map] at hr
      obtain ⟨p, hp, rfl⟩ := hr
      obtain ⟨i, hi⟩ := List.mem_iff_getElem?.1 hp
      exact (hq i p hi).2.2

theorem u8_of {H : Type} {enc : TypeId × Value → H} {W : World} {n : Nat} {v : Value} {y : DataW H × List MemPlace} (h : DataW.trod enc Try.prog W 0 (fun _ => true) true n 5 [v] = some y) : ∃ k : Nat, k < 256 ∧ v = .int .u8 (k : Int) := by
  obtain ⟨N, e0, _, wN⟩ := DataW.trod_int Try.underlying5 h
  simp [Lit.wf, IntKind.min, IntKind.max, IntKind.signed, IntKind.bits] at wN
  obtain ⟨k, rfl⟩ := Int.eq_ofNat_of_zero_le (show 0 ≤ N by omega)
  refine ⟨k, by omega, ?_⟩
  simpa using e0
theorem i64_of {H : Type} {enc : TypeId × Value → H} {W : World} {n : Nat} {v : Value} {y : DataW H × List MemPlace} (h : DataW.trod enc Try.prog W 0 (fun _ => true) true n 3 [v] = some y) : ∃ k : Int, (-9223372036854775808 ≤ k ∧ k ≤ 9223372036854775807) ∧ v = .int .i64 k := by
  obtain ⟨N, e0, _, wN⟩ := DataW.trod_int Try.underlying3 h
  simp [Lit.wf, IntKind.min, IntKind.max, IntKind.signed, IntKind.bits] at wN
  exact ⟨N, by omega, by simpa using e0⟩
theorem bytes_of {H : Type} {enc : TypeId × Value → H} {W : World} {n : Nat} {v : Value} {y : DataW H × List MemPlace} (h : DataW.trod enc Try.prog W 0 (fun _ => true) true n 31 [v] = some y) : ∃ (B : Option Addr) (len cap : Nat) (l : List UInt8), v = .slice B len cap ∧ Rd W B len l ∧ len ≤ cap ∧ cap ≤ maxLen := by
  rcases open_ints Try.underlying31 Try.underlying5 (by kernel_rfl) h with ⟨hcs, _⟩ | ⟨x, l, c, zs, hcs, _, hl2, hm2, hz, _, hcell, hwz⟩
  · exact ⟨none, 0, 0, [], by simpa using hcs, Rd.nil _ _, Nat.le_refl _, Nat.zero_le _⟩
  · obtain ⟨pl, h1, h2, h3⟩ := rd_of_row (w := W) (a := some x) (len := l) (cap := c) (zs := zs) (.inr ⟨x, rfl, hl2, hm2, by simpa using hz, hcell, hwz⟩)
    exact ⟨some x, l, c, pl, by simpa using hcs, h1, h2, h3⟩
/-- an argument that is a stripe's numbers and bytes -/
theorem stripe_of {H : Type} {enc : TypeId × Value → H} {W : World} {r : Reach} {b0 : Nat} {v : Value} {d : DataW H} {p : List MemPlace} (hv : Value.okWide Try.prog W r b0 66 v) (h : DataW.Trod enc Try.prog W 0 (fun _ => true) true 66 v d p) :
    ∃ (kz mz sz : Nat) (B : Option Addr) (len cap : Nat) (l : List UInt8), v = .agg #[.int .u8 (kz : Int), .int .u8 (mz : Int), .int .u8 (sz : Int), .slice B len cap] ∧ kz < 256 ∧ mz < 256 ∧ sz < 256 ∧ Rd W B len l ∧ len ≤ cap ∧ cap ≤ maxLen := by
  obtain ⟨v0, v1, v2, v3, y0, y1, y2, y3, n, rfl, _, _, h0, h1, h2, h3⟩ := Go.Joins.open_agg4 Try.underlying66 (by kernel_rfl) (by kernel_rfl) hv h
  obtain ⟨kz, b0, rfl⟩ := u8_of h0
  obtain ⟨mz, b1, rfl⟩ := u8_of h1
  obtain ⟨sz, b2, rfl⟩ := u8_of h2
  obtain ⟨B, len, cap, l, rfl, hr, hl, hc⟩ := bytes_of h3
  exact ⟨kz, mz, sz, B, len, cap, l, rfl, b0, b1, b2, hr, hl, hc⟩
end Go.Proofs.Ytobbjeephmfdeaa
namespace Go.Proofs.Ytobbjeephmfdeaa
open Go.RowKit Go.Coop Go.ChangeShapes Go.WideShapes Go.Deep
set_option maxRecDepth 100000

theorem array9 {α : Type} {cs : Array α} (h : cs.size = 9) : ∃ c0 c1 c2 c3 c4 c5 c6 c7 c8, cs = #[c0, c1, c2, c3, c4, c5, c6, c7, c8] := by
  obtain ⟨l⟩ := cs
  match l, h with
  | [c0, c1, c2, c3, c4, c5, c6, c7, c8], _ => exact ⟨c0, c1, c2, c3, c4, c5, c6, c7, c8, rfl⟩
theorem slc {H : Type} {enc : TypeId × Value → H} {W : World} {n : Nat} {t e : TypeId} {c : Value} {y : DataW H × List MemPlace} (ht : Try.prog.underlying t = some (.slice e)) (h : DataW.trod enc Try.prog W 0 (fun _ => true) true n t [c] = some y) : ∃ a l k, c = Value.slice a l k := by
  rcases open_slice ht h with ⟨hcs, _⟩ | ⟨a, len, cap, m, n, D, Pl, hcs, _⟩
  · exact ⟨_, _, _, by simpa using hcs⟩
  · exact ⟨_, _, _, by simpa using hcs⟩
/-- an argument that is a case -/
theorem case_of {H : Type} {enc : TypeId × Value → H} {W : World} {r : Reach} {b0 : Nat} {v : Value} {d : DataW H} {p : List MemPlace} (hv : Value.okWide Try.prog W r b0 46 v) (h : DataW.Trod enc Try.prog W 0 (fun _ => true) true 46 v d p) :
    ∃ (K N I Z L : Int) (D : Option Addr) (dl dc : Nat) (E : Option Addr) (el ec : Nat) (F : Option Addr) (fl fc : Nat) (B : Option Addr) (bl bc : Nat) (MD ME : List (List UInt8)) (MF : List Int) (MB : List UInt8),
      v = .agg #[.int .i64 K, .int .i64 N, .int .i64 I, .int .i64 Z, .int .i64 L, .slice D dl dc, .slice E el ec, .slice F fl fc, .slice B bl bc] ∧
      (-9223372036854775808 ≤ K ∧ K ≤ 9223372036854775807) ∧ (-9223372036854775808 ≤ N ∧ N ≤ 9223372036854775807) ∧ (-9223372036854775808 ≤ I ∧ I ≤ 9223372036854775807) ∧ (-9223372036854775808 ≤ Z ∧ Z ≤ 9223372036854775807) ∧ (-9223372036854775808 ≤ L ∧ L ≤ 9223372036854775807) ∧
      (MR W D dl MD ∧ (∀ r ∈ MD, r.length ≤ maxLen) ∧ dl ≤ dc ∧ dc ≤ maxLen) ∧ (MR W E el ME ∧ (∀ r ∈ ME, r.length ≤ maxLen) ∧ el ≤ ec ∧ ec ≤ maxLen) ∧
      (RdV W F fl (MF.map (Value.int .i64)) ∧ (∀ x ∈ MF, -9223372036854775808 ≤ x ∧ x ≤ 9223372036854775807) ∧ fl ≤ fc ∧ fc ≤ maxLen) ∧ (Rd W B bl MB ∧ bl ≤ bc ∧ bc ≤ maxLen) := by
  obtain ⟨cs, rfl, hsz⟩ := okWide_struct Try.underlying46 hv
  obtain ⟨c0, c1, c2, c3, c4, c5, c6, c7, c8, rfl⟩ := array9 (hsz.trans (show Try.prog.cellsOf 46 = 9 by kernel_rfl))
  obtain ⟨fuel, hf⟩ := h
  obtain ⟨xs, n, _, _, hl, hlen, hf⟩ := DataW.trod_struct Try.underlying46 hf
  have q3 : Try.prog.cellsOf 3 = 1 := by kernel_rfl
  have q31 : Try.prog.cellsOf 31 = 1 := by kernel_rfl
  have q32 : Try.prog.cellsOf 32 = 1 := by kernel_rfl
  have q38 : Try.prog.cellsOf 38 = 1 := by kernel_rfl
  match xs, hlen with
  | [y0, y1, y2, y3, y4, y5, y6, y7, y8], _ =>
    have h0 : DataW.trod enc Try.prog W 0 (fun _ => true) true n 3 [c0] = some y0 := by simpa [Value.cells, q3] using hf 0 _ rfl
    have h1 : DataW.trod enc Try.prog W 0 (fun _ => true) true n 3 [c1] = some y1 := by simpa [Value.cells, q3] using hf 1 _ rfl
    have h2 : DataW.trod enc Try.prog W 0 (fun _ => true) true n 3 [c2] = some y2 := by simpa [Value.cells, q3] using hf 2 _ rfl
    have h3 : DataW.trod enc Try.prog W 0 (fun _ => true) true n 3 [c3] = some y3 := by simpa [Value.cells, q3] using hf 3 _ rfl
    have h4 : DataW.trod enc Try.prog W 0 (fun _ => true) true n 3 [c4] = some y4 := by simpa [Value.cells, q3] using hf 4 _ rfl
    have h5 : DataW.trod enc Try.prog W 0 (fun _ => true) true n 32 [c5] = some y5 := by simpa [Value.cells, q32] using hf 5 _ rfl
    have h6 : DataW.trod enc Try.prog W 0 (fun _ => true) true n 32 [c6] = some y6 := by simpa [Value.cells, q32] using hf 6 _ rfl
    have h7 : DataW.trod enc Try.prog W 0 (fun _ => true) true n 38 [c7] = some y7 := by simpa [Value.cells, q38] using hf 7 _ rfl
    have h8 : DataW.trod enc Try.prog W 0 (fun _ => true) true n 31 [c8] = some y8 := by simpa [Value.cells, q31] using hf 8 _ rfl
    obtain ⟨D, dl, dc, rfl⟩ : ∃ a l k, c5 = Value.slice a l k := slc Try.underlying32 h5
    obtain ⟨E, el, ec, rfl⟩ : ∃ a l k, c6 = Value.slice a l k := slc Try.underlying32 h6
    obtain ⟨F, fl, fc, rfl⟩ : ∃ a l k, c7 = Value.slice a l k := slc Try.underlying38 h7
    obtain ⟨K, bK, rfl⟩ := i64_of h0
    obtain ⟨N, bN, rfl⟩ := i64_of h1
    obtain ⟨I, bI, rfl⟩ := i64_of h2
    obtain ⟨Z, bZ, rfl⟩ := i64_of h3
    obtain ⟨L, bL, rfl⟩ := i64_of h4
    obtain ⟨B, bl, bc, MB, rfl, hB⟩ := bytes_of h8
    obtain ⟨MD, hD⟩ := mr32_of h5
    obtain ⟨ME, hE⟩ := mr32_of h6
    obtain ⟨MF, hF⟩ := ints_of h7
    exact ⟨K, N, I, Z, L, D, dl, dc, E, el, ec, F, fl, fc, B, bl, bc, MD, ME, MF, MB, rfl, bK, bN, bI, bZ, bL, hD, hE, hF, hB⟩
end Go.Proofs.Ytobbjeephmfdeaa
