/- What is owed, plain: how many datagrams say the same; a map of texts that says so. -/
import Derived.Test.YthhablokbnfpcaaOthD
namespace Go.Proofs.Ythhablokbnfpcaa
open Go.RowKit Go.Coop Go.Maps
set_option maxRecDepth 100000
def tg (d : Dt) : List UInt8 := tagL d.fr d.to d.b
def cntL (l : List Dt) (s : List UInt8) : Nat := (l.filter fun d => decide (tg d = s)).length
theorem cntL_append (a b : List Dt) (s : List UInt8) : cntL (a ++ b) s = cntL a s + cntL b s := by
  simp [cntL, List.filter_append]
theorem cntL_one (d : Dt) (s : List UInt8) : cntL [d] s = if tg d = s then 1 else 0 := by
  by_cases h : tg d = s <;> simp [cntL, h]
theorem cntL_le (l : List Dt) (s : List UInt8) : cntL l s ≤ l.length := List.length_filter_le _ _
theorem split_at {l : List Dt} {i : Nat} {d : Dt} (h : l[i]? = some d) : l = l.take i ++ ([d] ++ l.drop (i + 1)) := by
  have hi := (List.getElem?_eq_some_iff.1 h).1
  have := List.take_append_drop i l
  rw [List.drop_eq_getElem_cons hi, (List.getElem?_eq_some_iff.1 h).2] at this
  simpa using this.symm
theorem cntL_take (l : List Dt) {i : Nat} {d : Dt} (h : l[i]? = some d) (s : List UInt8) : cntL (l.take (i + 1)) s = cntL (l.take i) s + if tg d = s then 1 else 0 := by
  rw [List.take_add_one, h, cntL_append]
  congr 1
  exact cntL_one d s
theorem cntL_laid (S : NS) (d : Dt) (s : List UInt8) : cntL (S.laid d).heap s = cntL S.heap s + if tg d = s then 1 else 0 := by
  show cntL (S.heap ++ [d]) s = _
  rw [cntL_append, cntL_one]
theorem cntL_without (S : NS) {i : Nat} {d : Dt} (h : S.heap[i]? = some d) (s : List UInt8) : cntL S.heap s = cntL (S.without i).heap s + if tg d = s then 1 else 0 := by
  have e2 : (S.without i).heap = S.heap.take i ++ S.heap.drop (i + 1) := List.eraseIdx_eq_take_drop_succ S.heap i
  conv => lhs; rw [split_at h]
  rw [e2, cntL_append, cntL_append, cntL_append, cntL_one]
  omega
/-- what is left when those for a station among the first k are struck -/
def restL (t k : Nat) (l : List Dt) : List Dt := ((l.take k).filter fun d => !decide ((d.to : Int) = (t : Int))) ++ l.drop k
theorem restL_zero (t : Nat) (l : List Dt) : restL t 0 l = l := by simp [restL]
theorem restL_all (t k : Nat) (l : List Dt) (h : l.length ≤ k) : restL t k l = l.filter fun d => !decide ((d.to : Int) = (t : Int)) := by
  simp [restL, List.take_of_length_le h, List.drop_eq_nil_of_le h]
theorem restL_yes (t : Nat) {l : List Dt} {k : Nat} {d : Dt} (h : l[k]? = some d) (hd : d.to = t) (s : List UInt8) : cntL (restL t k l) s = cntL (restL t (k + 1) l) s + if tg d = s then 1 else 0 := by
  have hi := (List.getElem?_eq_some_iff.1 h).1
  have e : l.drop k = [d] ++ l.drop (k + 1) := by rw [List.drop_eq_getElem_cons hi, (List.getElem?_eq_some_iff.1 h).2]; rfl
  unfold restL
  rw [e, List.take_add_one, h, List.filter_append, cntL_append, cntL_append, cntL_append, cntL_append, cntL_one]
  have : ((some d).toList.filter fun d => !decide ((d.to : Int) = (t : Int))) = [] := by simp [hd]
  rw [this]
  simp only [cntL, List.filter_nil, List.length_nil]
  omega
theorem restL_no (t : Nat) {l : List Dt} {k : Nat} {d : Dt} (h : l[k]? = some d) (hd : d.to ≠ t) : restL t (k + 1) l = restL t k l := by
  have hi := (List.getElem?_eq_some_iff.1 h).1
  have e : l.drop k = [d] ++ l.drop (k + 1) := by rw [List.drop_eq_getElem_cons hi, (List.getElem?_eq_some_iff.1 h).2]; rfl
  unfold restL
  rw [e, List.take_add_one, h, List.filter_append]
  have : ((some d).toList.filter fun d => !decide ((d.to : Int) = (t : Int))) = [d] := by simp; omega
  rw [this, List.append_assoc]
/-- the map of texts -/
structure OwedIs (D : DataW Value) (f : List UInt8 → Nat) : Prop where
  at_ : ∀ s, D.atKey (.string s) (.lit (.int .i64 0)) = .lit (.int .i64 (f s : Int))
theorem keylitS (s : List UInt8) : WideAt.IsKeyLit (.string s) := by simp [WideAt.IsKeyLit]
theorem OwedIs.empty : OwedIs (.map []) (fun _ => 0) := ⟨fun s => rfl⟩
theorem OwedIs.congr {D : DataW Value} {f g : List UInt8 → Nat} (h : OwedIs D f) (e : ∀ s, f s = g s) : OwedIs D g := ⟨fun s => by rw [← e s]; exact h.at_ s⟩
theorem OwedIs.put {D : DataW Value} {f g : List UInt8 → Nat} (h : OwedIs D f) (hD : IsMap D) {s : List UInt8} {x : Int} (hx : (g s : Int) = x) (he : ∀ r, r ≠ s → f r = g r) : OwedIs (D.put (.string s) (.lit (.int .i64 x))) g := by
  refine ⟨fun r => ?_⟩
  by_cases e : r = s
  · subst e
    rw [atKey_put_same hD (keylitS _), hx]
  · rw [atKey_put_other (fun h => e (by injection h)), h.at_ r, he r e]
theorem OwedIs.num {D : DataW Value} {f : List UInt8 → Nat} (h : OwedIs D f) {s : List UInt8} {k : Nat} {c : Int} (hk : f s = k) (hat : D.atKey (.string s) (.lit (.int .i64 0)) = .lit (.int .i64 c)) : (k : Int) = c := by
  have e := (h.at_ s).symm.trans hat
  injection e with e
  injection e with _ e
  rw [← hk]
  exact e
theorem keyS {s : List UInt8} (h : s.length ≤ 9223372036854775807) : keyOf Try.prog 9 (.string ⟨s.toArray⟩) = some (.string s) := by
  simpa using WideMaps.keyOf_string_mk (P := Try.prog) Try.underlying9 (s := ⟨s.toArray⟩) (by simp [ByteArray.size, maxLen]; omega)
theorem keyS_inv {key : Value} {kl : Lit} (h : keyOf Try.prog 9 key = some kl) : ∃ s : List UInt8, key = .string ⟨s.toArray⟩ ∧ kl = .string s := by
  cases key <;> simp [keyOf, Try.underlying9, mapKey] at h
  rename_i x
  obtain ⟨h1, h2⟩ := h
  exact ⟨x.data.toList, rfl, h2.symm⟩
theorem entryS {D : DataW Value} {s : List UInt8} {c : Int} {kl : Lit} {y : DataW Value × List MemPlace} (hkey : keyOf Try.prog 9 (.string ⟨s.toArray⟩) = some kl) (hv : plainElem Try.prog 3 (.int .i64 c) = some y) (hat : ∀ zd, D.atKey kl zd = y.1) :
    kl = .string s ∧ (∀ zd, D.atKey (.string s) zd = .lit (.int .i64 c)) ∧ Maps.has D (.string s) = true := by
  obtain ⟨s', e1, rfl⟩ := keyS_inv hkey
  obtain rfl : s = s' := by simpa using e1
  obtain ⟨c', e2, rfl, _⟩ := plainElem_int_inv Try.underlying3 hv
  injection e2 with _ e2
  subst e2
  exact ⟨rfl, hat, Maps.has_true_of_atKey hat⟩
end Go.Proofs.Ythhablokbnfpcaa
