/- The laws' lists of deeds and of datagrams in memory; arguments that are such, as the rows hand them over. -/
import Derived.Test.YthhablokbnfpcaaNetK
import Derived.Test.YthhablokbnfpcaaArgs
import Derived.Deep.Slices
import Derived.Deep.Fields
import Derived.Lib.SmallJoins
import Derived.OpenShut
namespace Go.Proofs.Ythhablokbnfpcaa
open Go.RowKit Go.Coop Go.ChangeShapes Go.WideShapes Go.Deep
set_option maxRecDepth 100000
/-- a deed of the laws -/
structure DeedV where
  kd : Int
  fr : Int
  tt : Int
  at_ : Int
  X : Option Addr
  n : Nat
  c : Nat
  l : List UInt8
def DeedV.cells (o : DeedV) : List Value := [.int .u8 o.kd, .int .i64 o.fr, .int .i64 o.tt, .int .i64 o.at_, .slice o.X o.n o.c]
structure DeedV.Ok (o : DeedV) (w : World) : Prop where
  rd : Rd w o.X o.n o.l
  nc : o.n ≤ o.c
  cm : o.c ≤ 9223372036854775807
  kd : 0 ≤ o.kd ∧ o.kd ≤ 255
  fr : -9223372036854775808 ≤ o.fr ∧ o.fr ≤ 9223372036854775807
  tt : -9223372036854775808 ≤ o.tt ∧ o.tt ≤ 9223372036854775807
  at_ : -9223372036854775808 ≤ o.at_ ∧ o.at_ ≤ 9223372036854775807
theorem DeedV.Ok.below {o : DeedV} {w w' : World} {B : Nat} (h : o.Ok w) (hb : Below B w w') (hB : w.heap.size ≤ B) : o.Ok w' := ⟨h.rd.below hb hB, h.nc, h.cm, h.kd, h.fr, h.tt, h.at_⟩
/-- a datagram of the laws -/
structure DatV where
  fr : Int
  tt : Int
  X : Option Addr
  n : Nat
  c : Nat
  l : List UInt8
def DatV.cells (o : DatV) : List Value := [.int .i64 o.fr, .int .i64 o.tt, .slice o.X o.n o.c]
structure DatV.Ok (o : DatV) (w : World) : Prop where
  rd : Rd w o.X o.n o.l
  nc : o.n ≤ o.c
  cm : o.c ≤ 9223372036854775807
  fr : -9223372036854775808 ≤ o.fr ∧ o.fr ≤ 9223372036854775807
  tt : -9223372036854775808 ≤ o.tt ∧ o.tt ≤ 9223372036854775807
theorem DatV.Ok.below {o : DatV} {w w' : World} {B : Nat} (h : o.Ok w) (hb : Below B w w') (hB : w.heap.size ≤ B) : o.Ok w' := ⟨h.rd.below hb hB, h.nc, h.cm, h.fr, h.tt⟩
/-- the slice at F of m elements reads as these structs -/
structure LAt {α : Type} (cells : α → List Value) (k : Nat) (ok : α → World → Prop) (w : World) (F : Option Addr) (m : Nat) (os : List α) : Prop where
  len : os.length = m
  at_ : ∀ (i : Nat) (o : α), os[i]? = some o → ok o w ∧ ∃ ad, F = some ad ∧ ad.block < w.heap.size ∧ ∀ j v, (cells o)[j]? = some v → w.cell? (ad.add (i * k + j)) = some v
abbrev DeedsAt := LAt DeedV.cells 5 DeedV.Ok
abbrev DatsAt := LAt DatV.cells 3 DatV.Ok
theorem DeedsAt.below {w w' : World} {F : Option Addr} {m : Nat} {os : List DeedV} {B : Nat} (h : DeedsAt w F m os) (hb : Below B w w') (hB : w.heap.size ≤ B) : DeedsAt w' F m os :=
  ⟨h.len, fun i o hi => by
    obtain ⟨h1, ad, h2, h3, h4⟩ := h.at_ i o hi
    exact ⟨h1.below hb hB, ad, h2, Nat.lt_of_lt_of_le h3 hb.size, fun j v hj => (hb.cell (by rw [addr_add_block]; omega)).trans (h4 j v hj)⟩⟩
theorem DatsAt.below {w w' : World} {F : Option Addr} {m : Nat} {os : List DatV} {B : Nat} (h : DatsAt w F m os) (hb : Below B w w') (hB : w.heap.size ≤ B) : DatsAt w' F m os :=
  ⟨h.len, fun i o hi => by
    obtain ⟨h1, ad, h2, h3, h4⟩ := h.at_ i o hi
    exact ⟨h1.below hb hB, ad, h2, Nat.lt_of_lt_of_le h3 hb.size, fun j v hj => (hb.cell (by rw [addr_add_block]; omega)).trans (h4 j v hj)⟩⟩
/-- the i-th deed, by value -/
theorem DeedsAt.get {w : World} {F : Option Addr} {m : Nat} {os : List DeedV} (h : DeedsAt w F m os) {i : Nat} (hi : i < m) : ∃ o ad, os[i]? = some o ∧ o.Ok w ∧ F = some ad ∧ (Instr.loadAt 46 (.pointer (some (ad.add (i * 5))))).run Try.prog w = .ok (.agg #[.int .u8 o.kd, .int .i64 o.fr, .int .i64 o.tt, .int .i64 o.at_, .slice o.X o.n o.c]) w := by
  have hl := h.len
  obtain ⟨o, ho⟩ : ∃ o, os[i]? = some o := ⟨_, List.getElem?_eq_getElem (by omega)⟩
  obtain ⟨h1, ad, h2, h3, h4⟩ := h.at_ i o ho
  refine ⟨o, ad, ho, h1, h2, ?_⟩
  exact run_loadAt_at w _ 46 o.cells _ (fun j v hj => by rw [addr_add_add]; exact h4 j v hj) Try.underlying46 rfl (by kernel_rfl)
theorem list_of {α : Type} (n : Nat) (Q : Nat → α → Prop) (h : ∀ i, i < n → ∃ p, Q i p) : ∃ l : List α, l.length = n ∧ ∀ (i : Nat) (p : α), l[i]? = some p → Q i p := by
  induction n with
  | zero => exact ⟨[], rfl, by simp⟩
  | succ n ih =>
    obtain ⟨l, hl, hq⟩ := ih (fun i hi => h i (by omega))
    obtain ⟨p, hp⟩ := h n (by omega)
    refine ⟨l ++ [p], by simp [hl], fun i q hi => ?_⟩
    rw [List.getElem?_append] at hi
    split at hi
    · exact hq i q hi
    · rename_i hge
      have h0 : i - l.length = 0 := by
        have := (List.getElem?_eq_some_iff.1 hi).1
        simp at this
        omega
      rw [h0] at hi
      simp at hi
      subst hi
      have : i = n := by omega
      rw [this]
      exact hp
theorem cells3 : Try.prog.cellsOf 3 = 1 := by kernel_rfl
theorem cells5 : Try.prog.cellsOf 5 = 1 := by kernel_rfl
theorem cells29 : Try.prog.cellsOf 29 = 1 := by kernel_rfl
theorem cells34 : Try.prog.cellsOf 34 = 3 := by kernel_rfl
theorem cells46 : Try.prog.cellsOf 46 = 5 := by kernel_rfl
theorem i64_of {H : Type} {enc : TypeId × Value → H} {W : World} {n : Nat} {v : Value} {y : DataW H × List MemPlace} (h : DataW.trod enc Try.prog W 0 (fun _ => true) true n 3 [v] = some y) : ∃ k : Int, (-9223372036854775808 ≤ k ∧ k ≤ 9223372036854775807) ∧ v = .int .i64 k := by
  obtain ⟨N, e0, _, wN⟩ := DataW.trod_int Try.underlying3 h
  simp [Lit.wf, IntKind.min, IntKind.max, IntKind.signed, IntKind.bits] at wN
  exact ⟨N, by omega, by simpa using e0⟩
theorem u8_of {H : Type} {enc : TypeId × Value → H} {W : World} {n : Nat} {v : Value} {y : DataW H × List MemPlace} (h : DataW.trod enc Try.prog W 0 (fun _ => true) true n 5 [v] = some y) : ∃ k : Int, (0 ≤ k ∧ k ≤ 255) ∧ v = .int .u8 k := by
  obtain ⟨N, e0, _, wN⟩ := DataW.trod_int Try.underlying5 h
  simp [Lit.wf, IntKind.min, IntKind.max, IntKind.signed, IntKind.bits] at wN
  exact ⟨N, by omega, by simpa using e0⟩
theorem bytes_of {H : Type} {enc : TypeId × Value → H} {W : World} {n : Nat} {v : Value} {y : DataW H × List MemPlace} (h : DataW.trod enc Try.prog W 0 (fun _ => true) true n 29 [v] = some y) : ∃ (B : Option Addr) (len cap : Nat) (l : List UInt8), v = .slice B len cap ∧ Rd W B len l ∧ len ≤ cap ∧ cap ≤ maxLen := by
  rcases open_ints Try.underlying29 Try.underlying5 (by kernel_rfl) h with ⟨hcs, _⟩ | ⟨x, l, c, zs, hcs, _, hl2, hm2, hz, _, hcell, hwz⟩
  · exact ⟨none, 0, 0, [], by simpa using hcs, Rd.nil _ _, Nat.le_refl _, Nat.zero_le _⟩
  · obtain ⟨pl, h1, h2, h3⟩ := rd_of_row (w := W) (a := some x) (len := l) (cap := c) (zs := zs) (.inr ⟨x, rfl, hl2, hm2, by simpa using hz, hcell, hwz⟩)
    exact ⟨some x, l, c, pl, by simpa using hcs, h1, h2, h3⟩
/-- a deed out of its cells -/
theorem deed_cells {H : Type} {enc : TypeId × Value → H} {W : World} {n : Nat} {cs : List Value} {y : DataW H × List MemPlace} (hcl : cs.length = 5) (ht : DataW.trod enc Try.prog W 0 (fun _ => true) true n 46 cs = some y) : ∃ o : DeedV, o.Ok W ∧ cs = o.cells := by
  obtain ⟨ys, n', _, _, _, hyl, hf⟩ := DataW.trod_struct Try.underlying46 ht
  match cs, hcl with
  | [v0, v1, v2, v3, v4], _ =>
    have f0 : DataW.trod enc Try.prog W 0 (fun _ => true) true n' 5 (([v0, v1, v2, v3, v4].drop 0).take (Try.prog.cellsOf 5)) = ys[0]? := hf 0 _ rfl
    have f1 : DataW.trod enc Try.prog W 0 (fun _ => true) true n' 3 (([v0, v1, v2, v3, v4].drop 1).take (Try.prog.cellsOf 3)) = ys[1]? := hf 1 _ rfl
    have f2 : DataW.trod enc Try.prog W 0 (fun _ => true) true n' 3 (([v0, v1, v2, v3, v4].drop 2).take (Try.prog.cellsOf 3)) = ys[2]? := hf 2 _ rfl
    have f3 : DataW.trod enc Try.prog W 0 (fun _ => true) true n' 3 (([v0, v1, v2, v3, v4].drop 3).take (Try.prog.cellsOf 3)) = ys[3]? := hf 3 _ rfl
    have f4 : DataW.trod enc Try.prog W 0 (fun _ => true) true n' 29 (([v0, v1, v2, v3, v4].drop 4).take (Try.prog.cellsOf 29)) = ys[4]? := hf 4 _ rfl
    have hy : ∀ j, j < 5 → ∃ y, ys[j]? = some y := fun j hj => ⟨_, List.getElem?_eq_getElem (by rw [hyl]; exact hj)⟩
    obtain ⟨y0, hy0⟩ := hy 0 (by omega)
    obtain ⟨y1, hy1⟩ := hy 1 (by omega)
    obtain ⟨y2, hy2⟩ := hy 2 (by omega)
    obtain ⟨y3, hy3⟩ := hy 3 (by omega)
    obtain ⟨y4, hy4⟩ := hy 4 (by omega)
    rw [hy0, cells5] at f0
    rw [hy1, cells3] at f1
    rw [hy2, cells3] at f2
    rw [hy3, cells3] at f3
    rw [hy4, cells29] at f4
    obtain ⟨kd, b0, rfl⟩ := u8_of f0
    obtain ⟨fr, b1, rfl⟩ := i64_of f1
    obtain ⟨tt, b2, rfl⟩ := i64_of f2
    obtain ⟨at_, b3, rfl⟩ := i64_of f3
    obtain ⟨X, nl, nc, l, rfl, hr, h1, h2⟩ := bytes_of f4
    exact ⟨⟨kd, fr, tt, at_, X, nl, nc, l⟩, ⟨hr, h1, by unfold maxLen at h2; show nc ≤ _; omega, b0, b1, b2, b3⟩, rfl⟩
theorem dat_cells {H : Type} {enc : TypeId × Value → H} {W : World} {n : Nat} {cs : List Value} {y : DataW H × List MemPlace} (hcl : cs.length = 3) (ht : DataW.trod enc Try.prog W 0 (fun _ => true) true n 34 cs = some y) : ∃ o : DatV, o.Ok W ∧ cs = o.cells := by
  obtain ⟨ys, n', _, _, _, hyl, hf⟩ := DataW.trod_struct Try.underlying34 ht
  match cs, hcl with
  | [v0, v1, v2], _ =>
    have f0 : DataW.trod enc Try.prog W 0 (fun _ => true) true n' 3 (([v0, v1, v2].drop 0).take (Try.prog.cellsOf 3)) = ys[0]? := hf 0 _ rfl
    have f1 : DataW.trod enc Try.prog W 0 (fun _ => true) true n' 3 (([v0, v1, v2].drop 1).take (Try.prog.cellsOf 3)) = ys[1]? := hf 1 _ rfl
    have f2 : DataW.trod enc Try.prog W 0 (fun _ => true) true n' 29 (([v0, v1, v2].drop 2).take (Try.prog.cellsOf 29)) = ys[2]? := hf 2 _ rfl
    have hy : ∀ j, j < 3 → ∃ y, ys[j]? = some y := fun j hj => ⟨_, List.getElem?_eq_getElem (by rw [hyl]; exact hj)⟩
    obtain ⟨y0, hy0⟩ := hy 0 (by omega)
    obtain ⟨y1, hy1⟩ := hy 1 (by omega)
    obtain ⟨y2, hy2⟩ := hy 2 (by omega)
    rw [hy0, cells3] at f0
    rw [hy1, cells3] at f1
    rw [hy2, cells29] at f2
    obtain ⟨fr, b1, rfl⟩ := i64_of f0
    obtain ⟨tt, b2, rfl⟩ := i64_of f1
    obtain ⟨X, nl, nc, l, rfl, hr, h1, h2⟩ := bytes_of f2
    exact ⟨⟨fr, tt, X, nl, nc, l⟩, ⟨hr, h1, by unfold maxLen at h2; show nc ≤ _; omega, b1, b2⟩, rfl⟩
theorem deeds_of {H : Type} {enc : TypeId × Value → H} {W : World} {fuel : Nat} {a0 : Option Addr} {len0 cap0 : Nat} {x : DataW H × List MemPlace}
    (h : DataW.trod enc Try.prog W 0 (fun _ => true) true fuel 39 [.slice a0 len0 cap0] = some x) : ∃ os, DeedsAt W a0 len0 os ∧ len0 ≤ cap0 ∧ cap0 ≤ maxLen := by
  rcases open_slice Try.underlying39 h with ⟨hcs, _⟩ | ⟨a, len, cap, m, n, D, Pl, hcs, _, hl, hm, hmm, _, hi⟩
  · simp at hcs
    obtain ⟨rfl, rfl, rfl⟩ := hcs
    exact ⟨[], ⟨rfl, by simp⟩, Nat.le_refl _, Nat.zero_le _⟩
  · simp at hcs
    obtain ⟨rfl, rfl, rfl⟩ := hcs
    simp only [if_true] at hmm
    subst hmm
    have key : ∀ i, i < len0 → ∃ o : DeedV, o.Ok W ∧ ∃ ad, some a = some ad ∧ ad.block < W.heap.size ∧ ∀ j v, o.cells[j]? = some v → W.cell? (ad.add (i * 5 + j)) = some v := by
      intro i hil
      obtain ⟨cs', hc, ht⟩ := hi i (by omega)
      rw [cells46] at hc
      obtain ⟨_, hcl, hat⟩ := World.cells?_some hc
      obtain ⟨o, ho, rfl⟩ := deed_cells hcl ht
      have hblk : a.block < W.heap.size := by
        have c0 := hat 0 (by omega)
        rw [addr_add_add] at c0
        have := block_lt_of_cell (c0.trans (show o.cells[0]? = some (.int .u8 o.kd) from rfl))
        rwa [addr_add_block] at this
      refine ⟨o, ho, a, rfl, hblk, fun j v hj => ?_⟩
      have hj5 : j < 5 := by have := (List.getElem?_eq_some_iff.1 hj).1; simpa [DeedV.cells] using this
      have cj := hat j hj5
      rw [addr_add_add] at cj
      rw [cj]
      exact hj
    obtain ⟨os, h1, h2⟩ := list_of len0 _ key
    exact ⟨os, ⟨h1, h2⟩, hl, hm⟩
theorem dats_of {H : Type} {enc : TypeId × Value → H} {W : World} {fuel : Nat} {a0 : Option Addr} {len0 cap0 : Nat} {x : DataW H × List MemPlace}
    (h : DataW.trod enc Try.prog W 0 (fun _ => true) true fuel 67 [.slice a0 len0 cap0] = some x) : ∃ os, DatsAt W a0 len0 os ∧ len0 ≤ cap0 ∧ cap0 ≤ maxLen := by
  rcases open_slice Try.underlying67 h with ⟨hcs, _⟩ | ⟨a, len, cap, m, n, D, Pl, hcs, _, hl, hm, hmm, _, hi⟩
  · simp at hcs
    obtain ⟨rfl, rfl, rfl⟩ := hcs
    exact ⟨[], ⟨rfl, by simp⟩, Nat.le_refl _, Nat.zero_le _⟩
  · simp at hcs
    obtain ⟨rfl, rfl, rfl⟩ := hcs
    simp only [if_true] at hmm
    subst hmm
    have key : ∀ i, i < len0 → ∃ o : DatV, o.Ok W ∧ ∃ ad, some a = some ad ∧ ad.block < W.heap.size ∧ ∀ j v, o.cells[j]? = some v → W.cell? (ad.add (i * 3 + j)) = some v := by
      intro i hil
      obtain ⟨cs', hc, ht⟩ := hi i (by omega)
      rw [cells34] at hc
      obtain ⟨_, hcl, hat⟩ := World.cells?_some hc
      obtain ⟨o, ho, rfl⟩ := dat_cells hcl ht
      have hblk : a.block < W.heap.size := by
        have c0 := hat 0 (by omega)
        rw [addr_add_add] at c0
        have := block_lt_of_cell (c0.trans (show o.cells[0]? = some (.int .i64 o.fr) from rfl))
        rwa [addr_add_block] at this
      refine ⟨o, ho, a, rfl, hblk, fun j v hj => ?_⟩
      have hj5 : j < 3 := by have := (List.getElem?_eq_some_iff.1 hj).1; simpa [DatV.cells] using this
      have cj := hat j hj5
      rw [addr_add_add] at cj
      rw [cj]
      exact hj
    obtain ⟨os, h1, h2⟩ := list_of len0 _ key
    exact ⟨os, ⟨h1, h2⟩, hl, hm⟩
theorem array5 {α : Type} {cs : Array α} (h : cs.size = 5) : ∃ a b c d e, cs = #[a, b, c, d, e] := by
  obtain ⟨l⟩ := cs
  match l, h with
  | [a, b, c, d, e], _ => exact ⟨a, b, c, d, e, rfl⟩
/-- an argument that is a deed -/
theorem deed_of {H : Type} {enc : TypeId × Value → H} {W : World} {r : Reach} {b0 : Nat} {v : Value} {d : DataW H} {p : List MemPlace} (hv : Value.okWide Try.prog W r b0 46 v) (h : DataW.Trod enc Try.prog W 0 (fun _ => true) true 46 v d p) :
    ∃ o : DeedV, o.Ok W ∧ v = .agg #[.int .u8 o.kd, .int .i64 o.fr, .int .i64 o.tt, .int .i64 o.at_, .slice o.X o.n o.c] := by
  obtain ⟨cs, rfl, hsz⟩ := okWide_struct Try.underlying46 hv
  obtain ⟨c0, c1, c2, c3, c4, rfl⟩ := array5 (hsz.trans cells46)
  obtain ⟨fuel, hf⟩ := h
  obtain ⟨ys, n', _, _, _, hyl, hq⟩ := DataW.trod_struct Try.underlying46 hf
  match ys, hyl with
  | [y0, y1, y2, y3, y4], _ =>
    have h0 : DataW.trod enc Try.prog W 0 (fun _ => true) true n' 5 [c0] = some y0 := by simpa [Value.cells, cells5] using hq 0 _ rfl
    have h1 : DataW.trod enc Try.prog W 0 (fun _ => true) true n' 3 [c1] = some y1 := by simpa [Value.cells, cells3] using hq 1 _ rfl
    have h2 : DataW.trod enc Try.prog W 0 (fun _ => true) true n' 3 [c2] = some y2 := by simpa [Value.cells, cells3] using hq 2 _ rfl
    have h3 : DataW.trod enc Try.prog W 0 (fun _ => true) true n' 3 [c3] = some y3 := by simpa [Value.cells, cells3] using hq 3 _ rfl
    have h4 : DataW.trod enc Try.prog W 0 (fun _ => true) true n' 29 [c4] = some y4 := by simpa [Value.cells, cells29] using hq 4 _ rfl
    obtain ⟨kd, b0, rfl⟩ := u8_of h0
    obtain ⟨fr, b1, rfl⟩ := i64_of h1
    obtain ⟨tt, b2, rfl⟩ := i64_of h2
    obtain ⟨at_, b3, rfl⟩ := i64_of h3
    obtain ⟨X, nl, nc, l, rfl, hr, e1, e2⟩ := bytes_of h4
    exact ⟨⟨kd, fr, tt, at_, X, nl, nc, l⟩, ⟨hr, e1, by unfold maxLen at e2; show nc ≤ _; omega, b0, b1, b2, b3⟩, rfl⟩
end Go.Proofs.Ythhablokbnfpcaa
