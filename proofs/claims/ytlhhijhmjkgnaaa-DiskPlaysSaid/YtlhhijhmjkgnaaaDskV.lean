/- What any call makes of a disk, and what it leaves as it was: for laws over any calls, and over several disks. -/
import Derived.Test.YtlhhijhmjkgnaaaDskX
namespace Go.Proofs.Ytlhhijhmjkgnaaa
open Go.RowKit Go.Coop
set_option maxRecDepth 100000

namespace DS
def writeOf (S : DS) (i : Int) (l : List UInt8) : DS := if S.down = true then S else if i < 0 ∨ (S.n : Int) ≤ i then S else if S.fails = true then S.failed else S.took.put i.toNat l
def flushOf (S : DS) : DS := if S.down = true then S else if S.fails = true then S.failed else S.took.flushed
def spoilOf (S : DS) (i a : Int) (t : UInt8) : DS := if i < 0 ∨ (S.n : Int) ≤ i then S else if a < 0 ∨ 64 ≤ a then S else S.spoilt i.toNat (turn (S.med i.toNat) a.toNat t)
def armOf (S : DS) (n : Int) : DS := if S.down = true then S else S.armedBy n.toNat
end DS

/-- a call upon the disk at g was done: nothing but its blocks has changed -/
def Did (g m c : Nat) (S : DS) (r : Value) (w : World) (e : Ending) (w' : World) : Prop := e = .returned r ∧ ∃ c', DiskAt w' g m c' S ∧ But [g, m, c] w w' ∧ (c' = c ∨ w.heap.size ≤ c')
def DidE (g m c : Nat) (S : DS) (w : World) (e : Ending) (w' : World) : Prop := ∃ r : Int, Did g m c S (.int .i64 r) w e w'
theorem Did.dk {w w' : World} {g m c B : Nat} {S : DS} {r : Value} {e : Ending} (h : Did g m c S r w e w') (hB : B ≤ w.heap.size) (hg : B ≤ g) (hm : B ≤ m) (hc : B ≤ c) : DkP B g S r w e w' := by
  obtain ⟨he, c', hd, hb, hc'⟩ := h
  exact ⟨he, did hB hg hm hc (by omega) (by simp) hd hb⟩
section
variable (w : World) {g m c : Nat} {S : DS}
theorem did_same {w w' : World} {r : Value} {e : Ending} (h : DiskAt w g m c S) (h' : e = .returned r ∧ w = w') : Did g m c S r w e w' := by
  obtain ⟨he, rfl⟩ := h'
  exact ⟨he, c, h, But.refl _ _, .inl rfl⟩
theorem dd_write (h : DiskAt w g m c S) (i : Int) {A : Option Addr} {l : List UInt8} (hr : Rd w A 64 l) (cap : Nat) : Calls Try.prog 13 #[.pointer (some ⟨g, 0, none⟩), .int .i64 i, .slice A 64 cap] w (DidE g m c (S.writeOf i l) w) := by
  unfold DS.writeOf
  cases hd : S.down
  · by_cases hi : i < 0 ∨ (S.n : Int) ≤ i
    · rw [if_neg (by simp), if_pos hi]
      exact (write_sector w h hd hi _).mono fun _ _ h' => ⟨50, did_same h h'⟩
    · obtain ⟨k, rfl⟩ : ∃ k : Nat, i = (k : Int) := ⟨i.toNat, by omega⟩
      have hk : k < S.n := by omega
      rw [if_neg (by simp), if_neg hi]
      cases hf : S.fails
      · rw [if_neg (by simp), Int.toNat_natCast]
        exact (write_goes w h hd hf hk hr cap).mono fun _ _ ⟨he, hD, hB⟩ => ⟨0, he, c, hD, hB.mono (by simp; try omega), .inl rfl⟩
      · rw [if_pos rfl]
        exact (write_fails w h hd hf hk A cap).mono fun _ _ ⟨he, hD, hB⟩ => ⟨15, he, c, hD, hB.mono (by simp), .inl rfl⟩
  · rw [if_pos rfl]
    exact (write_down w h hd i _).mono fun _ _ h' => ⟨15, did_same h h'⟩
theorem dd_flush (h : DiskAt w g m c S) : Calls Try.prog 20 #[.pointer (some ⟨g, 0, none⟩)] w (DidE g m c S.flushOf w) := by
  unfold DS.flushOf
  cases hd : S.down
  · rw [if_neg (by simp)]
    cases hf : S.fails
    · rw [if_neg (by simp)]
      exact (flush_goes w h hd hf).mono fun _ _ ⟨he, c', hD, hB, hc⟩ => ⟨0, he, c', hD, hB.mono (by simp; try omega), .inr hc⟩
    · rw [if_pos rfl]
      exact (flush_fails w h hd hf).mono fun _ _ ⟨he, hD, hB⟩ => ⟨15, he, c, hD, hB.mono (by simp), .inl rfl⟩
  · rw [if_pos rfl]
    exact (flush_down w h hd).mono fun _ _ h' => ⟨15, did_same h h'⟩
theorem dd_spoil (h : DiskAt w g m c S) (i a : Int) (t : UInt8) : Calls Try.prog 15 #[.pointer (some ⟨g, 0, none⟩), .int .i64 i, .int .i64 a, .int .u8 (t.toNat : Int)] w (DidE g m c (S.spoilOf i a t) w) := by
  unfold DS.spoilOf
  by_cases hi : i < 0 ∨ (S.n : Int) ≤ i
  · rw [if_pos hi]
    exact (spoil_sector w h hi a _).mono fun _ _ h' => ⟨50, did_same h h'⟩
  · rw [if_neg hi]
    obtain ⟨k, rfl⟩ : ∃ k : Nat, i = (k : Int) := ⟨i.toNat, by omega⟩
    have hk : k < S.n := by omega
    by_cases ha : a < 0 ∨ 64 ≤ a
    · rw [if_pos ha]
      exact (spoil_arg w h hk ha _).mono fun _ _ h' => ⟨2, did_same h h'⟩
    · rw [if_neg ha]
      obtain ⟨j, rfl⟩ : ∃ j : Nat, a = (j : Int) := ⟨a.toNat, by omega⟩
      rw [Int.toNat_natCast, Int.toNat_natCast]
      exact (spoil_yes w h hk (by omega) t).mono fun _ _ ⟨he, hD, hB⟩ => ⟨0, he, c, hD, hB.mono (by simp), .inl rfl⟩
theorem dd_arm (h : DiskAt w g m c S) (n : Int) (hn : n ≤ 9223372036854775807) : Calls Try.prog 19 #[.pointer (some ⟨g, 0, none⟩), .int .i64 n] w (Did g m c (S.armOf n) (.tuple #[]) w) := by
  unfold DS.armOf
  cases hd : S.down
  · rw [if_neg (by simp)]
    exact (arm_up w h hd n hn).mono fun _ _ ⟨he, hD, hB⟩ => ⟨he, c, hD, hB.mono (by simp), .inl rfl⟩
  · rw [if_pos rfl]
    exact (arm_down w h hd n).mono fun _ _ h' => did_same h h'
theorem dd_crash (h : DiskAt w g m c S) (A : Option Addr) (n cap : Nat) (ks : List Bool) (hk : RdV w A n (bools ks)) (hn : n ≤ 9223372036854775807) : Calls Try.prog 18 #[.pointer (some ⟨g, 0, none⟩), .slice A n cap] w (Did g m c (S.crashed ks) (.tuple #[]) w) :=
  (crash_yes w h A n cap ks hk hn).mono fun _ _ ⟨he, c', hD, hB, hc'⟩ => ⟨he, c', hD, hB.mono (by simp; try omega), .inr hc'⟩
end

/-- a call, as the laws hand it over -/
structure OpV where
  kind : Int
  i : Int
  a : Int
  n : Int
  b : UInt8
  A : Option Addr
  len : Nat
  cap : Nat
  ks : List Bool
def OpV.cells (o : OpV) : List Value := [.int .i64 o.kind, .int .i64 o.i, .int .i64 o.a, .int .i64 o.n, .int .u8 (o.b.toNat : Int), .slice o.A o.len o.cap]
structure OpV.Ok (w : World) (o : OpV) : Prop where
  n : o.n ≤ 9223372036854775807
  len : o.len ≤ 9223372036854775807
  ks : RdV w o.A o.len (bools o.ks)
theorem OpV.Ok.below {w w' : World} {o : OpV} {B : Nat} (h : o.Ok w) (hb : Below B w w') (hB : w.heap.size ≤ B) : o.Ok w' := ⟨h.n, h.len, h.ks.below hb hB⟩
namespace DS
/-- what the laws' does makes of a disk -/
def does (S : DS) (o : OpV) : DS :=
  if o.kind = 1 ∨ o.kind = 2 ∨ o.kind = 3 ∨ o.kind = 4 then S.writeOf o.i (ofB o.b)
  else if o.kind = 5 ∨ o.kind = 6 then S.flushOf
  else if o.kind = 8 then S.spoilOf o.i o.a o.b
  else if o.kind = 9 then S.armOf o.n
  else if o.kind = 10 ∨ o.kind = 11 then S.crashed o.ks
  else S
end DS
theorem DiskAt.op_ok {w : World} {g m c : Nat} {S : DS} {r : Value} {w0 : World} {e : Ending} (h : Did g m c S r w0 e w) : S.Ok := by
  obtain ⟨_, c', hd, _⟩ := h
  exact hd.ok
end Go.Proofs.Ytlhhijhmjkgnaaa
