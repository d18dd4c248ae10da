/- A net whose blocks all lie from a block on: its methods, each as a step; like. -/
import Derived.Test.YthhablokbnfpcaaNetJ
namespace Go.Proofs.Ythhablokbnfpcaa
open Go.RowKit Go.Coop Go.Maps
set_option maxRecDepth 100000
/-- what a call upon the net whose map lies at c leaves as it was: all blocks but those of nets and maps -/
structure Kp (c : Nat) (w w' : World) : Prop where
  size : w.heap.size ≤ w'.heap.size
  os : w'.os = w.os
  tape : w'.tape = w.tape
  output : w'.output = w.output
  cells : ∀ (k : Nat) (cs : Array Value) (T : TypeId) (fr : Nat × Nat), w.heap[k]? = some (Obj.cells cs T fr) → T ≠ 59 → T ≠ 80 → w'.heap[k]? = some (Obj.cells cs T fr)
  maps : ∀ (k : Nat) (es : Array MapEntry) (cl : Nat), k ≠ c → w.heap[k]? = some (Obj.map es cl) → w'.heap[k]? = some (Obj.map es cl)
theorem Kp.of_below {c : Nat} {w w' : World} (h : Below w.heap.size w w') : Kp c w w' :=
  ⟨h.size, h.os, h.tape, h.output, fun k cs T fr hk _ _ => (h.block k (Array.getElem?_eq_some_iff.1 hk).1).trans hk, fun k es cl _ hk => (h.block k (Array.getElem?_eq_some_iff.1 hk).1).trans hk⟩
theorem Kp.trans {c : Nat} {a b d : World} (h : Kp c a b) (k : Kp c b d) : Kp c a d :=
  ⟨Nat.le_trans h.size k.size, k.os.trans h.os, k.tape.trans h.tape, k.output.trans h.output, fun i cs T fr hi h1 h2 => k.cells i cs T fr (h.cells i cs T fr hi h1 h2) h1 h2, fun i es cl hi hk => k.maps i es cl hi (h.maps i es cl hi hk)⟩
def Nt (w : World) (B g c : Nat) (S : NS) : Prop := B ≤ w.heap.size ∧ ∃ A cap, (∀ k, A.map (·.block) = some k → B ≤ k) ∧ NetAt w B g A cap c S
/-- a step of a net -/
def NtP (w : World) (B g c : Nat) (S' : NS) (r : Value) (e : Ending) (w' : World) : Prop := e = .returned r ∧ Nt w' B g c S' ∧ Below B w w' ∧ Kp c w w'
section
variable {w w' : World} {B g c cap : Nat} {A : Option Addr} {S : NS}
theorem NetAt.kp {gs : List Nat} (h : NetAt w B g A cap c S) (hb : But gs w w') (hgs : ∀ k, k ∈ gs → k ∈ Nb g A c) : Kp c w w' :=
  ⟨hb.size, hb.os, hb.tape, hb.output, fun k cs T fr hk h1 h2 => hb.cells hk fun hm => h.nb34 hk h1 h2 (hgs k hm), fun k es cl hne hk => hb.cells hk fun hm => by
    obtain ⟨D, hr, _⟩ := h.raw
    rcases mem_nb.1 (hgs k hm) with e | e | e
    · subst e
      have := hk.symm.trans hr.blk
      injection this with e
      cases e
    · exact hne e
    · obtain ⟨cur, hc⟩ := cells80 hr.row e
      have := hk.symm.trans hc
      injection this with e
      cases e⟩
theorem Nt.below (h : Nt w B g c S) (hb : Below w.heap.size w w') : Nt w' B g c S := by
  obtain ⟨h0, A, cap, hA, h1⟩ := h
  exact ⟨Nat.le_trans h0 hb.size, A, cap, hA, h1.below hb⟩
theorem Nt.drewN (h : Nt w B g c S) (n : Nat) : Nt (w.drewN n) B g c S := h.below ⟨rfl, rfl, rfl, Nat.le_refl _, fun _ _ => rfl⟩
theorem Nt.alloc (h : Nt w B g c S) (o : Obj) : Nt (w.alloc o) B g c S := h.below ((Below.refl _ _).alloc (Nat.le_refl _) o)
theorem Nt.ok (h : Nt w B g c S) : S.Ok := by obtain ⟨_, A, cap, _, h⟩ := h; exact h.ok
theorem NetAt.lo (h : NetAt w B g A cap c S) : ∀ k, k ∈ Nb g A c → B ≤ k := by
  obtain ⟨D, hr, _⟩ := h.raw
  intro k hk
  rcases mem_nb.1 hk with rfl | rfl | e
  · exact hr.hg
  · exact hr.hc
  · exact (hr.row.block k e).1
theorem ntp_of {r : Value} {S' : NS} {e : Ending} (h0 : B ≤ w.heap.size) (h : NetAt w B g A cap c S) (hd : NetDid w B g A c S' r e w') : NtP w B g c S' r e w' := by
  obtain ⟨he, hb, A', cap', hN, hA⟩ := hd
  exact ⟨he, ⟨Nat.le_trans h0 hb.size, A', cap', fun k hk => hN.lo k (mem_nb.2 (.inr (.inr hk))), hN⟩, hb.below h0 h.lo, h.kp hb fun _ hk => hk⟩
theorem Nw.kp {lo : Nat} {l : List UInt8} {X : Option Addr} (h : Nw w lo X l) (hk : Kp c w w') : Nw w' lo X l := by
  obtain ⟨k, cur, fr, rfl, h2, h3, h4⟩ := h.own
  have e := hk.cells k cur 5 fr h3 (by decide) (by decide)
  have e2 : w'.heap[k]? = w.heap[k]? := e.trans h3.symm
  refine ⟨⟨h.rd.len, fun h0 => ?_⟩, k, cur, fr, rfl, h2, e, fun j hj => (frozen_block e2).trans (h4 j hj)⟩
  obtain ⟨ad', ea, hlt, hc⟩ := h.rd.cells h0
  injection ea with ea
  subst ea
  refine ⟨_, rfl, Nat.lt_of_lt_of_le hlt hk.size, fun j c' hj => ?_⟩
  have := hc j c' hj
  exact (World.cell?_of_block (w := w) (by rw [addr_add_block]; exact e2)).trans this
end
section
variable (w : World) {B g c : Nat} {S : NS}
theorem nt_new (ends most : Nat) (h1 : 1 ≤ ends) (h2 : ends ≤ 300) (h3 : 1 ≤ most) (h4 : most ≤ 10000) : Calls Try.prog 11 #[.int .i64 (ends : Int), .int .i64 (most : Int)] w fun e w' => ∃ g c, e = .returned (.tuple #[.pointer (some ⟨g, 0, none⟩), .int .i64 0]) ∧ Nt w' w.heap.size g c (NS.new ends most) ∧ Below w.heap.size w w' :=
  (new_yes w ends most h1 h2 h3 h4).mono fun _ _ ⟨he, hn, hb⟩ => ⟨_, _, he, ⟨hb.size, none, 0, by simp, hn⟩, hb⟩
theorem nt_send (h : Nt w B g c S) (fr to : Int) {X : Option Addr} {n : Nat} {l : List UInt8} (hr : Rd w X n l) (cx : Nat) {q : Int} (hq : S.sendE fr to l = q) {S' : NS} (hS : S.send fr to l = S') : Calls Try.prog 12 #[.pointer (some ⟨g, 0, none⟩), .int .i64 fr, .int .i64 to, .slice X n cx] w (NtP w B g c S' (.int .i64 q)) := by
  subst hq hS
  obtain ⟨h0, A, cap, hA, h1⟩ := h
  exact (send_is w h1 h0 fr to hr cx).mono fun e w' hd => ntp_of h0 h1 hd
theorem nt_copy (h : Nt w B g c S) (i : Int) {q : Int} (hq : S.copyE i = q) {S' : NS} (hS : S.copy i = S') : Calls Try.prog 15 #[.pointer (some ⟨g, 0, none⟩), .int .i64 i] w (NtP w B g c S' (.int .i64 q)) := by
  subst hq hS
  obtain ⟨h0, A, cap, hA, h1⟩ := h
  exact (copy_is w h1 h0 i).mono fun e w' hd => ntp_of h0 h1 hd
theorem nt_flying (h : Nt w B g c S) {q : Int} (hq : (S.heap.length : Int) = q) : Calls Try.prog 14 #[.pointer (some ⟨g, 0, none⟩)] w fun e w' => e = .returned (.int .i64 q) ∧ w = w' := by
  subst hq
  obtain ⟨h0, A, cap, hA, h1⟩ := h
  exact flying_is w h1
theorem nt_waiting (h : Nt w B g c S) {k : Int} (h1 : -9223372036854775808 ≤ k) (h2 : k ≤ 9223372036854775807) {q : Int} (hq : (S.wait k : Int) = q) : Calls Try.prog 18 #[.pointer (some ⟨g, 0, none⟩), .int .i64 k] w fun e w' => e = .returned (.int .i64 q) ∧ w = w' := by
  subst hq
  obtain ⟨h0, A, cap, hA, hN⟩ := h
  exact waiting_is w hN h1 h2
theorem nt_drop (h : Nt w B g c S) (i : Int) {q : Bool} (hq : (S.look i).isSome = q) {S' : NS} (hS : S.drop i = S') : Calls Try.prog 13 #[.pointer (some ⟨g, 0, none⟩), .int .i64 i] w (NtP w B g c S' (.bool q)) := by
  subst hq hS
  have h' := h
  obtain ⟨h0, A, cap, hA, h1⟩ := h
  cases hl : S.look i with
  | none =>
    have e : S.drop i = S := by simp [NS.drop, hl]
    rw [e]
    exact (drop_out w h1 hl).mono fun e w' ⟨he, hw⟩ => ⟨he, hw ▸ h', hw ▸ Below.refl _ _, hw ▸ Kp.of_below (Below.refl _ _)⟩
  | some d =>
    have e : S.drop i = S.without i.toNat := by simp [NS.drop, hl]
    rw [e]
    obtain ⟨q1, q2, q3⟩ := NS.look_lt hl
    obtain ⟨j, rfl⟩ : ∃ j : Nat, i = j := ⟨i.toNat, by omega⟩
    exact (drop_is w h1 q3).mono fun e w' hd => ntp_of h0 h1 hd
theorem nt_forget (h : Nt w B g c S) {k : Int} (h1 : -9223372036854775808 ≤ k) (h2 : k ≤ 9223372036854775807) {q : Int} (hq : (S.wait k : Int) = q) {S' : NS} (hS : S.forget k = S') : Calls Try.prog 19 #[.pointer (some ⟨g, 0, none⟩), .int .i64 k] w (NtP w B g c S' (.int .i64 q)) := by
  subst hq hS
  obtain ⟨h0, A, cap, hA, hN⟩ := h
  exact (forget_is w hN h1 h2).mono fun e w' hd => ntp_of h0 hN hd
/-- a datagram's bytes, as an answer has them -/
def Told (w : World) (lo : Nat) (o : Option Dt) (X : Option Addr) (cx : Nat) : Prop := match o with
  | none => X = none ∧ cx = 0
  | some d => Nw w lo X d.b
def nod : Dt := ⟨0, 0, []⟩
theorem Told.rd {w : World} {lo : Nat} {o : Option Dt} {X : Option Addr} {cx : Nat} (h : Told w lo o X cx) : Rd w X (o.getD nod).b.length (o.getD nod).b := by
  cases o with
  | none => exact Rd.nil _ _
  | some d => exact Nw.rd h
theorem Told.kp {w w' : World} {c lo : Nat} {o : Option Dt} {X : Option Addr} {cx : Nat} (h : Told w lo o X cx) (hk : Kp c w w') : Told w' lo o X cx := by
  cases o with
  | none => exact h
  | some d => exact Nw.kp h hk
/-- Look: any place -/
def LookP (w : World) (o : Option Dt) (e : Ending) (w' : World) : Prop := ∃ X cx, e = .returned (.tuple #[DV (o.getD nod).fr (o.getD nod).to X (o.getD nod).b.length cx, .bool o.isSome]) ∧ Told w' w.heap.size o X cx ∧ Below w.heap.size w w'
theorem nt_look (h : Nt w B g c S) (i : Int) {o : Option Dt} (ho : S.look i = o) : Calls Try.prog 17 #[.pointer (some ⟨g, 0, none⟩), .int .i64 i] w (LookP w o) := by
  subst ho
  obtain ⟨h0, A, cap, hA, h1⟩ := h
  cases hl : S.look i with
  | none => exact (look_out w h1 hl).mono fun e w' ⟨he, hb⟩ => ⟨none, 0, he, ⟨rfl, rfl⟩, hb⟩
  | some d =>
    obtain ⟨q1, q2, q3⟩ := NS.look_lt hl
    obtain ⟨j, rfl⟩ : ∃ j : Nat, i = j := ⟨i.toNat, by omega⟩
    exact (look_is w h1 q3).mono fun e w' ⟨X, cx, he, hn, hb⟩ => ⟨X, cx, he, hn, hb⟩
/-- Take: any place -/
def TakeP (w : World) (B g c : Nat) (S' : NS) (o : Option Dt) (e : Ending) (w' : World) : Prop := ∃ X cx, e = .returned (.tuple #[DV (o.getD nod).fr (o.getD nod).to X (o.getD nod).b.length cx, .bool o.isSome]) ∧ Told w' w.heap.size o X cx ∧ Nt w' B g c S' ∧ Below B w w' ∧ Kp c w w'
theorem nt_take (h : Nt w B g c S) (i : Int) {o : Option Dt} (ho : S.look i = o) {S' : NS} (hS : S.drop i = S') : Calls Try.prog 16 #[.pointer (some ⟨g, 0, none⟩), .int .i64 i] w (TakeP w B g c S' o) := by
  subst ho hS
  have h' := h
  obtain ⟨h0, A, cap, hA, h1⟩ := h
  cases hl : S.look i with
  | none =>
    have e : S.drop i = S := by simp [NS.drop, hl]
    rw [e]
    exact (take_no w (fun w1 hb => look_out w1 (h1.below hb) hl)).mono fun e w' ⟨he, hb⟩ => ⟨none, 0, he, ⟨rfl, rfl⟩, h'.below hb, hb.mono h0, Kp.of_below hb⟩
  | some d =>
    have e : S.drop i = S.without i.toNat := by simp [NS.drop, hl]
    rw [e]
    obtain ⟨q1, q2, q3⟩ := NS.look_lt hl
    obtain ⟨j, rfl⟩ : ∃ j : Nat, i = j := ⟨i.toNat, by omega⟩
    refine (take_is w h1 q3).mono ?_
    rintro e w' ⟨X, cx, he, hn, hb, A', cap', hN, hA'⟩
    obtain ⟨_, a2, a3, a4⟩ := ntp_of (r := .bool true) h0 h1 ⟨rfl, hb, A', cap', hN, hA'⟩
    exact ⟨X, cx, he, hn, a2, a3, a4⟩
end
theorem like_is (w : World) {a1 a2 b1 b2 : Int} {X Y : Option Addr} {n m cx cy : Nat} {l k : List UInt8} (hx : Rd w X n l) (hy : Rd w Y m k) {q : Bool} (hq : (decide (a1 = b1) && decide (a2 = b2) && decide (l = k)) = q) :
    Calls Try.prog 27 #[DV a1 a2 X n cx, DV b1 b2 Y m cy] w fun e w' => e = .returned (.bool q) ∧ Below w.heap.size w w' := by
  by_cases h1 : a1 = b1
  · subst h1
    by_cases h2 : a2 = b2
    · subst h2
      have hB := ((Below.refl w.heap.size w).alloc (Nat.le_refl _) (.cells #[.int .i64 a1, .int .i64 a2, .slice X n cx] 34)).alloc (by simp) (.cells #[.int .i64 a1, .int .i64 a2, .slice Y m cy] 34)
      have e1 := conv_str (P := Try.prog) Try.underlying29 Try.underlying5 Try.underlying9 (hx.below hB (Nat.le_refl _)) cx
      have e2 := conv_str (P := Try.prog) Try.underlying29 Try.underlying5 Try.underlying9 (hy.below hB (Nat.le_refl _)) cy
      have hq : decide (l = k) = q := by rw [← hq]; simp
      have HB := Lib.hid (And.intro hB hq)
      clear hB hx hy hq
      go_enter Try.func27, Try.ntmps27
      go_wp2
      go_ret
      refine ⟨?_, HB.out.1⟩
      rw [← HB.out.2]
      show Ending.returned (Value.bool (l == k)) = _
      congr 2
      by_cases h : l = k <;> simp [h]
    · have hq : false = q := by rw [← hq]; simp [h2]
      have hB := ((Below.refl w.heap.size w).alloc (Nat.le_refl _) (.cells #[.int .i64 a1, .int .i64 a2, .slice X n cx] 34)).alloc (by simp) (.cells #[.int .i64 a1, .int .i64 b2, .slice Y m cy] 34)
      have h2' : (a2 == b2) = false := by simpa using h2
      have HB := Lib.hid (And.intro hB hq)
      clear hB hx hy hq h2
      go_enter Try.func27, Try.ntmps27
      go_wp2
      go_ret
      exact ⟨by rw [← HB.out.2]; rfl, HB.out.1⟩
  · have hq : false = q := by rw [← hq]; simp [h1]
    have hB := ((Below.refl w.heap.size w).alloc (Nat.le_refl _) (.cells #[.int .i64 a1, .int .i64 a2, .slice X n cx] 34)).alloc (by simp) (.cells #[.int .i64 b1, .int .i64 b2, .slice Y m cy] 34)
    have h1' : (a1 == b1) = false := by simpa using h1
    have HB := Lib.hid (And.intro hB hq)
    clear hB hx hy hq h1
    go_enter Try.func27, Try.ntmps27
    go_wp2
    go_ret
    exact ⟨by rw [← HB.out.2]; rfl, HB.out.1⟩
end Go.Proofs.Ythhablokbnfpcaa
