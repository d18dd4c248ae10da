/- slices.IndexFunc and slices.DeleteFunc at datagrams, by whom they are for. -/
import Derived.Test.YthhablokbnfpcaaNetG
namespace Go.Proofs.Ythhablokbnfpcaa
open Go.RowKit Go.Coop Go.Maps
set_option maxRecDepth 100000
/-- is it for k? -/
def Dt.for_ (d : Dt) (k : Int) : Bool := decide ((d.to : Int) = k)
theorem closure_is (W : World) (d : Dt) (N : Nat) {k : Int} (hN : W.cell? ⟨N, 0, none⟩ = some (.int .i64 k)) {q : Bool} (hq : d.for_ k = q) : Calls Try.prog 44 #[.agg #[.int .i64 (d.fr : Int), .int .i64 (d.to : Int), SV d.b], .pointer (some ⟨N, 0, none⟩)] W fun e w' => e = .returned (.bool q) ∧ w' = W.alloc (.cells #[.int .i64 (d.fr : Int), .int .i64 (d.to : Int), SV d.b] 80) := by
  subst hq
  have hc : (W.alloc (.cells #[.int .i64 (d.fr : Int), .int .i64 (d.to : Int), SV d.b] 80)).cell? ⟨N, 0, none⟩ = some (.int .i64 k) := ((Below.refl W.heap.size W).alloc (Nat.le_refl _) _).cell (by have := block_lt_of_cell hN; simpa using this) |>.trans hN
  clear hN
  go_enter Try.func44, Try.ntmps44
  go_wp2
  go_ret
  exact ⟨rfl, rfl⟩
/-- the row, at its j-th datagram -/
theorem row_get {w : World} {r : Nat} {l : List Dt} {pre sp : List Value} (h : w.heap[r]? = some (.cells (pre ++ (dvs l ++ sp)).toArray 80 (0, 0))) {d : Dt} {t : List Dt} (hl : l = d :: t) {o : Nat} (ho : pre.length = o) :
    w.cell? ⟨r, o, none⟩ = some (.int .i64 (d.fr : Int)) ∧ w.cell? ⟨r, o + 1, none⟩ = some (.int .i64 (d.to : Int)) ∧ w.cell? ⟨r, o + 2, none⟩ = some (SV d.b) := by
  have hx : ∀ j v, d.vs[j]? = some v → w.cell? ⟨r, o + j, none⟩ = some v := fun j v hj => by
    simp only [World.cell?, h]
    simp only [List.getElem?_toArray]
    rw [List.getElem?_append_right (by omega), ho, Nat.add_sub_cancel_left, hl, dvs_cons, List.append_assoc, List.getElem?_append_left (List.getElem?_eq_some_iff.1 hj).1, hj]
    rfl
  exact ⟨hx 0 _ rfl, hx 1 _ rfl, hx 2 _ rfl⟩
theorem find_one (w : World) {r n cap N : Nat} {l : List Dt} {sp : List Value} {k : Int} (hl : l.length = n) (hr : w.heap[r]? = some (.cells (dvs l ++ sp).toArray 80 (0, 0))) (hN : w.cell? ⟨N, 0, none⟩ = some (.int .i64 k)) (hm : n ≤ 1000000) (hex : ∃ d ∈ l, d.for_ k = true) :
    Calls Try.prog 49 #[.slice (some ⟨r, 0, none⟩) n cap, .func (.func 44) #[] #[.pointer (some ⟨N, 0, none⟩)]] w fun e w' => ∃ (q : Nat) (d : Dt), e = .returned (.int .i64 (q : Int)) ∧ l[q]? = some d ∧ d.for_ k = true ∧ (∀ x ∈ l.take q, x.for_ k = false) ∧ Below w.heap.size w w' := by
  have HR := Lib.hid (And.intro hr (And.intro hN (And.intro hl hex)))
  clear hr hN hl hex
  go_enter Try.func49, Try.ntmps49
  go_wp2
  go_loopw [5, 8] (fun _ s8 wr => ∃ j : Nat, j ≤ n ∧ s8 = .int .i64 j ∧ Hid (Below w.heap.size w wr) ∧ Hid (∀ x ∈ l.take j, x.for_ k = false)) (fun _ s8 _ => n - (Go.RowKit.intOf s8).toNat)
  case atStart => exact ⟨0, by omega, rfl, Below.refl _ _, by show ∀ x ∈ l.take 0, _; simp⟩
  case round =>
    obtain ⟨j, hj, rfl, HB, HT⟩ := hrel
    by_cases hlt : j < n
    · obtain ⟨d, hd⟩ : ∃ d, l[j]? = some d := ⟨_, List.getElem?_eq_getElem (by rw [HR.out.2.2.1]; exact hlt)⟩
      have hsplit : dvs l = dvs (l.take j) ++ dvs (l.drop j) := by rw [← dvs_append, List.take_append_drop]
      have hdrop : l.drop j = d :: l.drop (j + 1) := by
        rw [List.drop_eq_getElem_cons (by rw [HR.out.2.2.1]; exact hlt), (List.getElem?_eq_some_iff.1 hd).2]
      have hrow : wr.heap[r]? = some (.cells (dvs (l.take j) ++ (dvs (l.drop j) ++ sp)).toArray 80 (0, 0)) := by
        rw [← List.append_assoc, ← hsplit]
        exact (HB.out.block _ (Array.getElem?_eq_some_iff.1 HR.out.1).1).trans HR.out.1
      obtain ⟨d0, d1, d2⟩ := row_get hrow hdrop (o := j * 3) (by rw [dvs_len, List.length_take]; have := HR.out.2.2.1; omega)
      have hNr : wr.cell? ⟨N, 0, none⟩ = some (.int .i64 k) := (HB.out.cell (by have := block_lt_of_cell HR.out.2.1; simpa using this)).trans HR.out.2.1
      have HD := Lib.hid (And.intro hd hNr)
      have hw1 : IntKind.i64.wrap ((j : Int) + 1) = (j : Int) + 1 := IntWalk.i64_in _ (by omega)
      have hi1 : (0 : Int) ≤ (j : Int) := by omega
      have hi2 : (j : Int) < (n : Int) := by omega
      clear hd hsplit hdrop hrow hNr hlt
      cases hq : d.for_ k with
      | true =>
        have HQ := Lib.hid hq
        clear hq hw1
        go_wp2_with fail
        refine (closure_is _ d N HD.out.2 HQ.out).mono ?_
        rintro e w1 ⟨rfl, hw⟩
        have HW := Lib.hid hw
        clear hw
        go_wp2
        go_ret
        exact ⟨j, d, rfl, HD.out.1, HQ.out, HT.out, HB.out.trans (by rw [HW.out]; exact (Below.refl _ _).alloc HB.out.size _)⟩
      | false =>
        have HQ := Lib.hid hq
        clear hq
        go_wp2_with fail
        refine (closure_is _ d N HD.out.2 HQ.out).mono ?_
        rintro e w1 ⟨rfl, hw⟩
        have HW := Lib.hid hw
        clear hw
        go_wp2
        go_roundw
        case rel =>
          refine ⟨j + 1, by omega, by go_num, HB.out.trans (by rw [HW.out]; exact (Below.refl _ _).alloc HB.out.size _), ?_⟩
          show ∀ x ∈ l.take (j + 1), x.for_ k = false
          rw [List.take_add_one, HD.out.1]
          intro x hx
          rcases List.mem_append.1 hx with hx | hx
          · exact HT.out x hx
          · simp at hx
            subst hx
            exact HQ.out
        case measure => simp [Go.RowKit.intOf]; omega
    · exfalso
      obtain rfl : j = n := by omega
      obtain ⟨d, hd, hdk⟩ := HR.out.2.2.2
      have := HT.out d (by rwa [List.take_of_length_le (by rw [HR.out.2.2.1]; exact Nat.le_refl _)])
      rw [this] at hdk
      cases hdk
end Go.Proofs.Ythhablokbnfpcaa
