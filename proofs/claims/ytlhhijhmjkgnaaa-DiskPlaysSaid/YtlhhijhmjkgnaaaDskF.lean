/- Whether two byte slices are the same; whether a sector is of one byte (reads); Spoil. -/
import Derived.Test.YtlhhijhmjkgnaaaDskE
namespace Go.Proofs.Ytlhhijhmjkgnaaa
open Go.RowKit Go.Coop
set_option maxRecDepth 100000

theorem same_any (A : Option Addr) (n c : Nat) (l : List UInt8) (B : Option Addr) (m d : Nat) (k : List UInt8) (w : World) (ha : Rd w A n l) (hb : Rd w B m k) :
    Calls Try.prog 29 #[.slice A n c, .slice B m d] w fun e w' => e = .returned (.bool (l == k)) ∧ w = w' := by
  have ka := conv_str (P := Try.prog) Try.underlying29 Try.underlying5 Try.underlying9 ha c
  have kb := conv_str (P := Try.prog) Try.underlying29 Try.underlying5 Try.underlying9 hb d
  go_enter Try.func29, Try.ntmps29
  go_wp2
  go_ret
  exact ⟨rfl, rfl⟩
/-- the same, the answer under a name -/
theorem same_k (A : Option Addr) (n c : Nat) (l : List UInt8) (B : Option Addr) (m d : Nat) (k : List UInt8) (w : World) (ha : Rd w A n l) (hb : Rd w B m k) {q : Bool} (hq : (l == k) = q) :
    Calls Try.prog 29 #[.slice A n c, .slice B m d] w fun e w' => e = .returned (.bool q) ∧ w = w' := by
  rw [← hq]
  exact same_any A n c l B m d k w ha hb
theorem rd_new (w : World) (l : List UInt8) {n : Nat} (hl : l.length = n) (E : TypeId) : Rd (w.alloc (.cells (bvs l).toArray E)) (some ⟨w.heap.size, 0, none⟩) n l := by
  subst hl
  exact Rd.new w l _ E (0, 0) fun j c hj => by simpa using bvs_at' hj

section
variable (w : World) {g m c : Nat} {S : DS}
theorem reads_k (h : DiskAt w g m c S) (hd : S.down = false) {i : Nat} (hi : i < S.n) (b : UInt8) {q : Bool} (hq : (S.at_ i == ofB b) = q) :
    Calls Try.prog 17 #[.pointer (some ⟨g, 0, none⟩), .int .i64 (i : Int), .int .u8 (b.toNat : Int)] w fun e w' => e = .returned (.bool q) ∧ Below w.heap.size w w' := by
  have H := Lib.hid h
  have HD := Lib.hid hd
  have HI := Lib.hid hi
  have HQ := Lib.hid hq
  have HL := Lib.hid (h.ok.at_ i)
  clear h hd hi hq
  go_enter Try.func17, Try.ntmps17
  go_wp2_with fail
  refine (read_yes _ H.out HD.out HI.out).mono ?_
  rintro e w1 ⟨rfl, rfl⟩
  go_wp2_with fail
  refine (of_any b _).mono ?_
  rintro e w2 ⟨rfl, rfl⟩
  have HR1 := Lib.hid ((rd_new w (S.at_ i) HL.out 77).alloc (.cells (bvs (ofB b)).toArray 5))
  have hr2 := rd_new (w.alloc (.cells (bvs (S.at_ i)).toArray 77)) (ofB b) (ofB_len b) 5
  rw [World.size_alloc] at hr2
  have HR2 := Lib.hid hr2
  clear hr2
  go_wp2_with fail
  refine (same_k _ _ _ _ _ _ _ _ _ HR1.out HR2.out HQ.out).mono ?_
  rintro e w3 ⟨rfl, rfl⟩
  go_wp2
  go_ret
  exact ⟨rfl, ((Below.refl _ _).alloc (Nat.le_refl _) _).alloc (by simp) _⟩
theorem reads_down (h : DiskAt w g m c S) (hd : S.down = true) (i : Int) (b : UInt8) :
    Calls Try.prog 17 #[.pointer (some ⟨g, 0, none⟩), .int .i64 i, .int .u8 (b.toNat : Int)] w fun e w' => e = .returned (.bool false) ∧ Below w.heap.size w w' := by
  have H := Lib.hid h
  have HD := Lib.hid hd
  clear h hd
  go_enter Try.func17, Try.ntmps17
  go_wp2_with (go_at_call 16; refine (read_down _ H.out HD.out _).mono ?_; rintro e w1 ⟨rfl, rfl⟩)
  go_ret
  exact ⟨rfl, Below.refl _ _⟩
theorem spoil_none {p : Option Addr} (h : NoD w p) (i at_ t : Int) : Calls Try.prog 15 #[.pointer p, .int .i64 i, .int .i64 at_, .int .u8 t] w fun e w' => e = .returned (.int .i64 1) ∧ w = w' := by
  have H := Lib.hid h
  clear h
  go_enter Try.func15, Try.ntmps15
  go_wp2_with (go_at_call 37; refine (made_none _ H.out).mono ?_; rintro e w' ⟨rfl, rfl⟩)
  go_ret
  exact ⟨rfl, rfl⟩
theorem spoil_sector (h : DiskAt w g m c S) {i : Int} (hi : i < 0 ∨ (S.n : Int) ≤ i) (at_ t : Int) : Calls Try.prog 15 #[.pointer (some ⟨g, 0, none⟩), .int .i64 i, .int .i64 at_, .int .u8 t] w fun e w' => e = .returned (.int .i64 50) ∧ w = w' := by
  have H := Lib.hid h
  have HI := Lib.hid hi
  clear h hi
  go_enter Try.func15, Try.ntmps15
  go_wp2_with (first
    | (go_at_call 37; refine (made_yes _ H.out).mono ?_; rintro e w' ⟨rfl, rfl⟩)
    | (go_at_call 39; refine (has_no _ H.out HI.out).mono ?_; rintro e w' ⟨rfl, rfl⟩))
  go_ret
  exact ⟨rfl, rfl⟩
theorem spoil_arg (h : DiskAt w g m c S) {i : Nat} (hi : i < S.n) {at_ : Int} (ha : at_ < 0 ∨ 64 ≤ at_) (t : Int) : Calls Try.prog 15 #[.pointer (some ⟨g, 0, none⟩), .int .i64 (i : Int), .int .i64 at_, .int .u8 t] w fun e w' => e = .returned (.int .i64 2) ∧ w = w' := by
  have H := Lib.hid h
  have HI := Lib.hid hi
  clear h hi
  go_enter Try.func15, Try.ntmps15
  go_wp2_with (first
    | (go_at_call 37; refine (made_yes _ H.out).mono ?_; rintro e w' ⟨rfl, rfl⟩)
    | (go_at_call 39; refine (has_yes _ H.out HI.out).mono ?_; rintro e w' ⟨rfl, rfl⟩))
  all_goals first | (exfalso; omega) | skip
  all_goals go_ret
  all_goals exact ⟨rfl, rfl⟩
/-- a sector with one byte turned -/
def turn (l : List UInt8) (k : Nat) (t : UInt8) : List UInt8 := l.set k (l.getD k 0 ^^^ t)
theorem turn_len (l : List UInt8) (k : Nat) (t : UInt8) : (turn l k t).length = l.length := by simp [turn]
theorem u8_xor (a b : UInt8) : bits .xor .u8 (a.toNat : Int) (b.toNat : Int) = (((a ^^^ b).toNat : Nat) : Int) := by
  show IntKind.u8.wrap ((BitVec.ofInt 8 (a.toNat : Int) ^^^ BitVec.ofInt 8 (b.toNat : Int)).toNat : Int) = _
  rw [BitVec.ofInt_natCast, BitVec.ofInt_natCast, BitVec.toNat_xor, BitVec.toNat_ofNat, BitVec.toNat_ofNat, UInt8.toNat_xor]
  have ha := a.toNat_lt
  have hb := b.toNat_lt
  rw [Nat.mod_eq_of_lt (by omega), Nat.mod_eq_of_lt (by omega)]
  have hx : a.toNat ^^^ b.toNat < 2 ^ 8 := Nat.xor_lt_two_pow (by omega) (by omega)
  simp [IntKind.wrap, IntKind.signed, IntKind.bits]
  omega
theorem med_cell (h : DiskAt w g m c S) {i k : Nat} (hi : i < S.n) (hk : k < 64) : w.cell? ⟨m, i * 64 + k, none⟩ = some (BV ((S.med i).getD k 0)) := by
  rw [cell_of_row w m _ _ 77 (0, 0) h.med, List.getElem?_toArray, Nat.mul_comm, flat_at hi (fun i _ => h.ok.med i) hk]
  refine bvs_at' ?_
  have := h.ok.med i
  rw [List.getD_eq_getElem?_getD, List.getElem?_eq_getElem (by omega)]
  rfl
theorem med_turn (h : DiskAt w g m c S) {i k : Nat} (hi : i < S.n) (hk : k < 64) (t : UInt8) : DiskAt (w.setCell ⟨m, i * 64 + k, none⟩ (BV ((S.med i).getD k 0 ^^^ t))) g m c (S.spoilt i (turn (S.med i) k t)) := by
  have hs := h.med_ hi (l := turn (S.med i) k t) (by rw [turn_len]; exact h.ok.med i)
  have e : w.setCell ⟨m, i * 64 + k, none⟩ (BV ((S.med i).getD k 0 ^^^ t)) = w.setRow m (flat i S.med ++ bvs (turn (S.med i) k t) ++ behind S.n i S.med).toArray := by
    rw [setCell_eq_setRow w m _ _ 77 (0, 0) _ h.med]
    congr 1
    rw [List.setIfInBounds_toArray, flat_split hi]
    congr 1
    have h1 := flat_len (n := i) (f := S.med) (fun a _ => h.ok.med a)
    have h2 : (bvs (S.med i)).length = 64 := by rw [bvs_length]; exact h.ok.med i
    rw [List.append_assoc, List.set_append_right _ _ (by omega), h1, List.append_assoc]
    have : i * 64 + k - 64 * i = k := by omega
    rw [this, List.set_append_left _ _ (by omega)]
    congr 2
    unfold turn bvs
    rw [List.map_set]
  rw [e]
  exact hs
theorem spoil_yes (h : DiskAt w g m c S) {i k : Nat} (hi : i < S.n) (hk : k < 64) (t : UInt8) : Calls Try.prog 15 #[.pointer (some ⟨g, 0, none⟩), .int .i64 (i : Int), .int .i64 (k : Int), .int .u8 (t.toNat : Int)] w fun e w' =>
    e = .returned (.int .i64 0) ∧ DiskAt w' g m c (S.spoilt i (turn (S.med i) k t)) ∧ But [m] w w' := by
  have c0 := h.c0
  have hcell := med_cell w h hi hk
  have hfr : w.frozen? ⟨m, i * 64 + k, none⟩ = false := frozen_of_row w m _ _ 77 h.med
  have ht := med_turn w h hi hk t
  obtain ⟨l', hl'⟩ : ∃ l', turn (S.med i) k t = l' := ⟨_, rfl⟩
  rw [hl'] at ht ⊢
  obtain ⟨x, hx⟩ : ∃ x, (S.med i).getD k 0 = x := ⟨_, rfl⟩
  rw [hx] at hcell ht
  unfold BV at hcell
  have HX := Lib.hid (u8_xor x t)
  have HT := Lib.hid ht
  clear ht hl' hx
  have H := Lib.hid h
  have HI := Lib.hid hi
  have hin : (i : Int) < (S.n : Int) := by omega
  have hd1 : decide ((k : Int) < 0) = false := by simp
  have hd2 : decide ((64 : Int) ≤ k) = false := by simp; omega
  clear h hi
  go_enter Try.func15, Try.ntmps15
  go_wp2_with (first
    | (go_at_call 37; refine (made_yes _ H.out).mono ?_; rintro e w' ⟨rfl, rfl⟩)
    | (go_at_call 39; refine (has_yes _ H.out HI.out).mono ?_; rintro e w' ⟨rfl, rfl⟩))
  go_region
  all_goals go_wp2
  all_goals go_ret
  all_goals rw [HX.out]
  all_goals exact ⟨rfl, HT.out.drew, ((But.refl _ _).setCell (by simp) _).drew⟩
end
end Go.Proofs.Ytlhhijhmjkgnaaa
