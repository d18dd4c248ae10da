/- Two nets beside each other: what is done to one leaves the other; tag. -/
import Derived.Test.YthhablokbnfpcaaQueA
namespace Go.Proofs.Ythhablokbnfpcaa
open Go.RowKit Go.Coop Go.Maps
set_option maxRecDepth 100000
def Two (w : World) (B ga ca : Nat) (Sa : NS) (gb cb : Nat) (Sb : NS) : Prop := B ≤ w.heap.size ∧ ∃ Aa xa Ab xb, NetAt w B ga Aa xa ca Sa ∧ NetAt w B gb Ab xb cb Sb ∧ ∀ k, k ∈ Nb ga Aa ca → k ∈ Nb gb Ab cb → False
section
variable {w w' : World} {B ga ca gb cb : Nat} {Sa Sb : NS}
theorem Two.symm (h : Two w B ga ca Sa gb cb Sb) : Two w B gb cb Sb ga ca Sa := by
  obtain ⟨h0, Aa, xa, Ab, xb, h1, h2, h3⟩ := h
  exact ⟨h0, Ab, xb, Aa, xa, h2, h1, fun k k1 k2 => h3 k k2 k1⟩
theorem Two.left (h : Two w B ga ca Sa gb cb Sb) : Nt w B ga ca Sa := by
  obtain ⟨h0, Aa, xa, Ab, xb, h1, h2, h3⟩ := h
  exact ⟨h0, Aa, xa, fun k hk => h1.lo k (mem_nb.2 (.inr (.inr hk))), h1⟩
theorem Two.right (h : Two w B ga ca Sa gb cb Sb) : Nt w B gb cb Sb := h.symm.left
theorem Two.below (h : Two w B ga ca Sa gb cb Sb) (hb : Below w.heap.size w w') : Two w' B ga ca Sa gb cb Sb := by
  obtain ⟨h0, Aa, xa, Ab, xb, h1, h2, h3⟩ := h
  exact ⟨Nat.le_trans h0 hb.size, Aa, xa, Ab, xb, h1.below hb, h2.below hb, h3⟩
theorem NetAt.in_ {A : Option Addr} {x : Nat} (h : NetAt w B ga A x ca Sa) : ∀ k, k ∈ Nb ga A ca → k < w.heap.size := by
  obtain ⟨D, hr, _⟩ := h.raw
  intro k hk
  rcases mem_nb.1 hk with rfl | rfl | e
  · exact hr.g_lt
  · exact hr.c_lt
  · exact (hr.row.block k e).2
theorem Two.did {Aa Ab : Option Addr} {xa xb : Nat} (h0 : B ≤ w.heap.size) (h1 : NetAt w B ga Aa xa ca Sa) (h2 : NetAt w B gb Ab xb cb Sb) (h3 : ∀ k, k ∈ Nb ga Aa ca → k ∈ Nb gb Ab cb → False) {S' : NS} {r : Value} {e : Ending} (hd : NetDid w B ga Aa ca S' r e w') :
    e = .returned r ∧ Two w' B ga ca S' gb cb Sb ∧ Below B w w' ∧ Kp ca w w' := by
  obtain ⟨he, hb, A', x', hN, hA⟩ := hd
  refine ⟨he, ⟨Nat.le_trans h0 hb.size, A', x', Ab, xb, hN, h2.but hb (fun k hk hm => h3 k hm hk), fun k k1 k2 => ?_⟩, hb.below h0 h1.lo, h1.kp hb fun _ hk => hk⟩
  rcases mem_nb.1 k1 with e | e | e
  · exact h3 k (mem_nb.2 (.inl e)) k2
  · exact h3 k (mem_nb.2 (.inr (.inl e))) k2
  · rcases hA with hA | ⟨j, hj, hA⟩
    · exact h3 k (mem_nb.2 (.inr (.inr (hA ▸ e)))) k2
    · have := h2.in_ k k2
      rw [hA] at e
      injection e with e
      omega
/-- a step of the one -/
def TwoP (w : World) (B ga ca : Nat) (S' : NS) (gb cb : Nat) (Sb : NS) (r : Value) (e : Ending) (w' : World) : Prop := e = .returned r ∧ Two w' B ga ca S' gb cb Sb ∧ Below B w w' ∧ Kp ca w w'
end
section
variable (w : World) {B ga ca gb cb : Nat} {Sa Sb : NS}
theorem tw_send (h : Two w B ga ca Sa gb cb Sb) (fr to : Int) {X : Option Addr} {n : Nat} {l : List UInt8} (hr : Rd w X n l) (cx : Nat) {q : Int} (hq : Sa.sendE fr to l = q) : Calls Try.prog 12 #[.pointer (some ⟨ga, 0, none⟩), .int .i64 fr, .int .i64 to, .slice X n cx] w (TwoP w B ga ca (Sa.send fr to l) gb cb Sb (.int .i64 q)) := by
  subst hq
  obtain ⟨h0, Aa, xa, Ab, xb, h1, h2, h3⟩ := h
  exact (send_is w h1 h0 fr to hr cx).mono fun e w' hd => Two.did h0 h1 h2 h3 hd
theorem tw_copy (h : Two w B ga ca Sa gb cb Sb) (i : Int) {q : Int} (hq : Sa.copyE i = q) : Calls Try.prog 15 #[.pointer (some ⟨ga, 0, none⟩), .int .i64 i] w (TwoP w B ga ca (Sa.copy i) gb cb Sb (.int .i64 q)) := by
  subst hq
  obtain ⟨h0, Aa, xa, Ab, xb, h1, h2, h3⟩ := h
  exact (copy_is w h1 h0 i).mono fun e w' hd => Two.did h0 h1 h2 h3 hd
theorem tw_drop (h : Two w B ga ca Sa gb cb Sb) (i : Int) : Calls Try.prog 13 #[.pointer (some ⟨ga, 0, none⟩), .int .i64 i] w (TwoP w B ga ca (Sa.drop i) gb cb Sb (.bool (Sa.look i).isSome)) := by
  have h' := h
  obtain ⟨h0, Aa, xa, Ab, xb, h1, h2, h3⟩ := h
  cases hl : Sa.look i with
  | none =>
    have e : Sa.drop i = Sa := by simp [NS.drop, hl]
    rw [e]
    exact (drop_out w h1 hl).mono fun e w' ⟨he, hw⟩ => ⟨he, hw ▸ h', hw ▸ Below.refl _ _, hw ▸ Kp.of_below (Below.refl _ _)⟩
  | some d =>
    have e : Sa.drop i = Sa.without i.toNat := by simp [NS.drop, hl]
    rw [e]
    obtain ⟨q1, q2, q3⟩ := NS.look_lt hl
    obtain ⟨j, rfl⟩ : ∃ j : Nat, i = j := ⟨i.toNat, by omega⟩
    exact (drop_is w h1 q3).mono fun e w' hd => Two.did h0 h1 h2 h3 hd
theorem tw_forget (h : Two w B ga ca Sa gb cb Sb) {k : Int} (k1 : -9223372036854775808 ≤ k) (k2 : k ≤ 9223372036854775807) {q : Int} (hq : (Sa.wait k : Int) = q) : Calls Try.prog 19 #[.pointer (some ⟨ga, 0, none⟩), .int .i64 k] w (TwoP w B ga ca (Sa.forget k) gb cb Sb (.int .i64 q)) := by
  subst hq
  obtain ⟨h0, Aa, xa, Ab, xb, h1, h2, h3⟩ := h
  exact (forget_is w h1 k1 k2).mono fun e w' hd => Two.did h0 h1 h2 h3 hd
def TwoT (w : World) (B ga ca : Nat) (S' : NS) (gb cb : Nat) (Sb : NS) (o : Option Dt) (e : Ending) (w' : World) : Prop := ∃ X cx, e = .returned (.tuple #[DV (o.getD nod).fr (o.getD nod).to X (o.getD nod).b.length cx, .bool o.isSome]) ∧ Told w' w.heap.size o X cx ∧ Two w' B ga ca S' gb cb Sb ∧ Below B w w' ∧ Kp ca w w'
theorem tw_take (h : Two w B ga ca Sa gb cb Sb) (i : Int) {o : Option Dt} (ho : Sa.look i = o) : Calls Try.prog 16 #[.pointer (some ⟨ga, 0, none⟩), .int .i64 i] w (TwoT w B ga ca (Sa.drop i) gb cb Sb o) := by
  subst ho
  have h' := h
  obtain ⟨h0, Aa, xa, Ab, xb, h1, h2, h3⟩ := h
  cases hl : Sa.look i with
  | none =>
    have e : Sa.drop i = Sa := by simp [NS.drop, hl]
    rw [e]
    exact (take_no w (fun w1 hb => look_out w1 (h1.below hb) hl)).mono fun e w' ⟨he, hb⟩ => ⟨none, 0, he, ⟨rfl, rfl⟩, h'.below hb, hb.mono h0, Kp.of_below hb⟩
  | some d =>
    have e : Sa.drop i = Sa.without i.toNat := by simp [NS.drop, hl]
    rw [e]
    obtain ⟨q1, q2, q3⟩ := NS.look_lt hl
    obtain ⟨j, rfl⟩ : ∃ j : Nat, i = j := ⟨i.toNat, by omega⟩
    refine (take_is w h1 q3).mono ?_
    rintro e w' ⟨X, cx, he, hn, hb, A', cap', hN, hA'⟩
    obtain ⟨_, a2, a3, a4⟩ := Two.did (r := .bool true) h0 h1 h2 h3 ⟨rfl, hb, A', cap', hN, hA'⟩
    exact ⟨X, cx, he, hn, a2, a3, a4⟩
end
def u8 (x : Int) : UInt8 := UInt8.ofNat x.toNat
def tagL (f t : Nat) (l : List UInt8) : List UInt8 := u8 f :: u8 t :: l
theorem cat_bytes (a b : UInt8) (l : List UInt8) : (ByteArray.mk #[a, b] ++ ByteArray.mk l.toArray) = ByteArray.mk (a :: b :: l).toArray := by
  apply ByteArray.ext
  rw [ByteArray.data_append]
  simp
theorem tag_is (w : World) {f t : Nat} (hf : f < 256) (ht : t < 256) {X : Option Addr} {n c : Nat} {l : List UInt8} (hr : Rd w X n l) (hlen : ¬ 9223372036854775807 < 2 + l.length) : Calls Try.prog 31 #[DV (f : Int) (t : Int) X n c] w fun e w' => e = .returned (.string ⟨(tagL f t l).toArray⟩) ∧ Below w.heap.size w w' := by
  obtain ⟨w1, hw1⟩ : ∃ v, (w.alloc (.cells #[.int .i64 (f : Int), .int .i64 (t : Int), .slice X n c] 34)).alloc (.cells #[.int .u8 (f : Int), .int .u8 (t : Int)] 5) = v := ⟨_, rfl⟩
  have hB : Below w.heap.size w w1 := hw1 ▸ ((Below.refl w.heap.size w).alloc (Nat.le_refl _) _).alloc (by simp) _
  have hrow : w1.heap[w.heap.size]? = some (.cells #[.int .i64 (f : Int), .int .i64 (t : Int), .slice X n c] 34 (0, 0)) := by
    rw [← hw1]
    exact (Below.heap_alloc _ _ _ (by simp)).trans (heap_alloc_new w _)
  have hr2 : Rd w1 (some ⟨w.heap.size + 1, 0, none⟩) 2 [u8 f, u8 t] := by
    have := Rd.new (w.alloc (.cells #[.int .i64 (f : Int), .int .i64 (t : Int), .slice X n c] 34)) [u8 f, u8 t] #[.int .u8 (f : Int), .int .u8 (t : Int)] 5 (0, 0) fun j c hj => by
      match j, hj with
      | 0, hj => simp at hj; subst hj; exact congrArg some (bv_of (f : Int) (by omega) (by omega))
      | 1, hj => simp at hj; subst hj; exact congrArg some (bv_of (t : Int) (by omega) (by omega))
    rw [hw1] at this
    simpa using this
  have e1 := conv_str (P := Try.prog) Try.underlying29 Try.underlying5 Try.underlying9 hr2 2
  have e2 := conv_str (P := Try.prog) Try.underlying29 Try.underlying5 Try.underlying9 (hr.below hB (Nat.le_refl _)) c
  have hf1 : (0 : Int) ≤ (f : Int) := by omega
  have hf2 : (f : Int) < 256 := by omega
  have ht1 : (0 : Int) ≤ (t : Int) := by omega
  have ht2 : (t : Int) < 256 := by omega
  have cl := cell_of_row _ _ 2 _ 34 (0, 0) hrow
  simp at cl
  have HB := Lib.hid hB
  clear hB hrow hr2 hr hf ht
  go_enter Try.func31, Try.ntmps31
  go_wp2
  go_ret
  refine ⟨?_, HB.out⟩
  show Ending.returned (Value.string _) = _
  rw [cat_bytes]
  rfl
end Go.Proofs.Ythhablokbnfpcaa
