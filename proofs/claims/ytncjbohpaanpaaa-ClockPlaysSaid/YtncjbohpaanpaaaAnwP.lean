/- A timer that is set anew, plain. -/
import Derived.Test.YtncjbohpaanpaaaDoe
namespace Go.Proofs.Ytncjbohpaanpaaa
set_option maxRecDepth 100000
theorem del_del (i : Int) (L : List Tm) : del i (del i L) = del i L := del_none fun _ ht => (mem_del.1 ht).2
theorem del_ins {L : List Tm} {x : Tm} (h : ∀ t ∈ L, t.id ≠ x.id) (hs : Srt L) : del x.id (ins x L) = L := by
  rw [ins_take hs]
  unfold del
  rw [List.filter_append, List.filter_cons_of_neg (by simp)]
  have e1 : (L.take (placeOf x L)).filter (fun t => !decide (t.id = x.id)) = L.take (placeOf x L) := List.filter_eq_self.2 fun t ht => by simp [h t (List.mem_of_mem_take ht)]
  have e2 : (L.drop (placeOf x L)).filter (fun t => !decide (t.id = x.id)) = L.drop (placeOf x L) := List.filter_eq_self.2 fun t ht => by simp [h t (List.mem_of_mem_drop ht)]
  rw [e1, e2, List.take_append_drop]
namespace CS
variable {S : CS} {i d d' : Int}
theorem laid_del (h : S.Ok) (i d : Int) : del i (S.laid i d).L = del i S.L := del_ins (x := ⟨S.now + d, i⟩) (fun _ ht => (mem_del.1 ht).2) (h.srt.del i)
theorem laid_laid (h : S.Ok) : (S.laid i d).laid i d' = S.laid i d' := by
  have e := laid_del h i d
  unfold laid at e ⊢
  simp only at e ⊢
  rw [e]
theorem laid_unset (h : S.Ok) : (S.laid i d).unset i = S.unset i := by
  have e := laid_del h i d
  unfold laid unset at *
  simp only at e ⊢
  rw [e]
theorem unset_laid' : (S.unset i).laid i d = S.laid i d := by
  unfold laid unset
  simp only
  rw [del_del]
theorem unset_unset : (S.unset i).unset i = S.unset i := by
  unfold unset
  simp only
  rw [del_del]
theorem laid_find (hok : (S.laid i d).Ok) : (S.laid i d).find i = some (S.now + d) := findD_mem (t := ⟨S.now + d, i⟩) hok.nod (mem_ins.2 (.inl rfl))
theorem laid_len : (S.laid i d).L.length = (S.unset i).L.length + 1 := ins_len _ _
theorem unset_len : (S.unset i).L.length ≤ S.L.length := List.length_filter_le _ _
theorem set_len (d : Int) : (S.set i d).L.length ≤ S.L.length + 1 := by
  unfold set
  split
  · rw [laid_len]; have := unset_len (S := S) (i := i); omega
  · omega
theorem does_len (o : OpV) : (S.does o).L.length ≤ S.L.length + 1 := by
  unfold does
  split
  · exact set_len _
  · split
    · have := unset_len (S := S) (i := o.id); omega
    · omega
theorem set_now (d : Int) : (S.set i d).now = S.now ∧ (S.set i d).most = S.most := by
  unfold set
  split <;> exact ⟨rfl, rfl⟩
theorem does_now (o : OpV) : (S.does o).now = S.now ∧ (S.does o).most = S.most := by
  unfold does
  split
  · exact set_now _
  · split <;> exact ⟨rfl, rfl⟩
/-- there is room, and time -/
theorem setE_ok (h1 : 1 ≤ d) (h2 : S.now + d ≤ 1152921504606846976) (h3 : S.L.length < S.most) : S.setE i d = 0 := by
  unfold setE
  rw [if_neg (by omega), if_neg (fun h => by omega)]
theorem setE_some (h1 : 1 ≤ d) (h2 : S.now + d ≤ 1152921504606846976) {e : Int} (h3 : S.find i = some e) : S.setE i d = 0 := by
  unfold setE
  rw [if_neg (by omega), if_neg (fun h => by rw [h3] at h; cases h.1)]
theorem set_of (h : S.setE i d = 0) : S.set i d = S.laid i d := by
  unfold set
  rw [if_pos h]
end CS
open Go.RowKit Go.Coop in
/-- the same, each part of the answer a letter -/
theorem ck_next_k (w : World) {B g c : Nat} {a : Option Nat} {S : CS} (h : Ck w B g c a S) {t : Tm} (ht : S.L.head?.getD noT = t) {b : Bool} (hb : S.L.head?.isSome = b) : Calls Try.prog 19 #[.pointer (some ⟨g, 0, none⟩)] w (NextP w t b) := by
  subst ht hb
  exact ck_next w h rfl
open Go.RowKit Go.Coop in
theorem ck_due_k (w : World) {B g c : Nat} {a : Option Nat} {S : CS} (h : Ck w B g c a S) {i : Int} (hi1 : -9223372036854775808 ≤ i) (hi2 : i ≤ 9223372036854775807) {d : Int} (hd : (S.find i).getD 0 = d) {b : Bool} (hb : (S.find i).isSome = b) : Calls Try.prog 18 #[.pointer (some ⟨g, 0, none⟩), .int .i64 i] w fun e w' => e = .returned (.tuple #[.int .i64 d, .bool b]) ∧ w = w' := by
  subst hd hb
  exact ck_due w h hi1 hi2 rfl
end Go.Proofs.Ytncjbohpaanpaaa
