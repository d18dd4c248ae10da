/- A net, plain: how many stations, how many datagrams each may have, what lies about; what each call makes of it. -/
import Derived.Test.YthhablokbnfpcaaArr
namespace Go.Proofs.Ythhablokbnfpcaa
open Go.RowKit Go.Coop
set_option maxRecDepth 100000

/-- a datagram -/
structure Dt where
  fr : Nat
  to : Nat
  b : List UInt8
/-- a net -/
structure NS where
  ends : Nat
  most : Nat
  heap : List Dt
namespace NS
/-- how many lie about for a station -/
def wait (S : NS) (k : Int) : Nat := (S.heap.filter fun d => decide ((d.to : Int) = k)).length
structure Ok (S : NS) : Prop where
  n1 : 1 ≤ S.ends
  n2 : S.ends ≤ 300
  m1 : 1 ≤ S.most
  m2 : S.most ≤ 10000
  len : S.heap.length ≤ 10000
  its : ∀ d ∈ S.heap, d.fr < S.ends ∧ d.to < S.ends ∧ d.b.length ≤ 131072
def new (ends most : Nat) : NS := ⟨ends, most, []⟩
theorem new_ok {ends most : Nat} (h1 : 1 ≤ ends) (h2 : ends ≤ 300) (h3 : 1 ≤ most) (h4 : most ≤ 10000) : (new ends most).Ok := ⟨h1, h2, h3, h4, by simp [new], by simp [new]⟩
def laid (S : NS) (d : Dt) : NS := { S with heap := S.heap ++ [d] }
def full (S : NS) (k : Nat) : Bool := decide (S.most ≤ S.wait k) || decide (10000 ≤ S.heap.length)
def lay (S : NS) (d : Dt) : NS := if S.full d.to then S else S.laid d
def layE (S : NS) (d : Dt) : Int := if S.full d.to then 5 else 0
def joins (S : NS) (k : Int) : Bool := decide (0 ≤ k) && decide (k < S.ends)
def send (S : NS) (fr to : Int) (b : List UInt8) : NS := if S.joins fr && S.joins to then (if b.length ≤ 131072 then S.lay ⟨fr.toNat, to.toNat, b⟩ else S) else S
def sendE (S : NS) (fr to : Int) (b : List UInt8) : Int := if S.joins fr && S.joins to then (if b.length ≤ 131072 then S.layE ⟨fr.toNat, to.toNat, b⟩ else 3) else 2
/-- the i-th -/
def look (S : NS) (i : Int) : Option Dt := if 0 ≤ i then S.heap[i.toNat]? else none
def copy (S : NS) (i : Int) : NS := match S.look i with
  | none => S
  | some d => S.lay d
def copyE (S : NS) (i : Int) : Int := match S.look i with
  | none => 2
  | some d => S.layE d
def without (S : NS) (i : Nat) : NS := { S with heap := S.heap.eraseIdx i }
def drop (S : NS) (i : Int) : NS := match S.look i with
  | none => S
  | some _ => S.without i.toNat
def forget (S : NS) (k : Int) : NS := { S with heap := S.heap.filter fun d => !decide ((d.to : Int) = k) }

theorem laid_ok {S : NS} (h : S.Ok) {d : Dt} (hd : d.fr < S.ends ∧ d.to < S.ends ∧ d.b.length ≤ 131072) (hf : S.full d.to = false) : (S.laid d).Ok := by
  simp [full] at hf
  exact ⟨h.n1, h.n2, h.m1, h.m2, by simp [laid]; omega, fun x hx => by
    simp [laid] at hx
    rcases hx with hx | rfl
    · exact h.its x hx
    · exact hd⟩
theorem lay_ok {S : NS} (h : S.Ok) {d : Dt} (hd : d.fr < S.ends ∧ d.to < S.ends ∧ d.b.length ≤ 131072) : (S.lay d).Ok := by
  unfold lay
  split
  · exact h
  · rename_i hf
    exact laid_ok h hd (by simpa using hf)
theorem joins_iff {S : NS} {k : Int} : S.joins k = true ↔ 0 ≤ k ∧ k < S.ends := by simp [joins]
theorem send_ok {S : NS} (h : S.Ok) (fr to : Int) (b : List UInt8) : (S.send fr to b).Ok := by
  unfold send
  split
  · rename_i hj
    rw [Bool.and_eq_true, joins_iff, joins_iff] at hj
    split
    · exact lay_ok h ⟨by show fr.toNat < _; omega, by show to.toNat < _; omega, by assumption⟩
    · exact h
  · exact h
theorem look_mem {S : NS} {i : Int} {d : Dt} (h : S.look i = some d) : d ∈ S.heap := by
  unfold look at h
  split at h
  · exact List.mem_of_getElem? h
  · cases h
theorem look_lt {S : NS} {i : Int} {d : Dt} (h : S.look i = some d) : 0 ≤ i ∧ i.toNat < S.heap.length ∧ S.heap[i.toNat]? = some d := by
  unfold look at h
  split at h
  · exact ⟨by assumption, (List.getElem?_eq_some_iff.1 h).1, h⟩
  · cases h
theorem look_none {S : NS} {i : Int} (h : S.look i = none) : i < 0 ∨ (S.heap.length : Int) ≤ i := by
  unfold look at h
  split at h
  · have := List.getElem?_eq_none_iff.1 h
    omega
  · omega
theorem look_at {S : NS} {i : Nat} : S.look (i : Int) = S.heap[i]? := by
  unfold look
  rw [if_pos (by omega)]
  rfl
theorem look_out {S : NS} {i : Int} (h : i < 0 ∨ (S.heap.length : Int) ≤ i) : S.look i = none := by
  unfold look
  split
  · exact List.getElem?_eq_none_iff.2 (by omega)
  · rfl
theorem copy_ok {S : NS} (h : S.Ok) (i : Int) : (S.copy i).Ok := by
  unfold copy
  split
  · exact h
  · rename_i d hd
    exact lay_ok h (h.its d (look_mem hd))
theorem without_ok {S : NS} (h : S.Ok) (i : Nat) : (S.without i).Ok := by
  refine ⟨h.n1, h.n2, h.m1, h.m2, ?_, fun x hx => h.its x ?_⟩
  · have := List.length_eraseIdx_le S.heap i
    have := h.len
    simp only [without]
    omega
  · exact List.mem_of_mem_eraseIdx hx
theorem drop_ok {S : NS} (h : S.Ok) (i : Int) : (S.drop i).Ok := by
  unfold drop
  split
  · exact h
  · exact without_ok h _
theorem forget_ok {S : NS} (h : S.Ok) (k : Int) : (S.forget k).Ok := by
  refine ⟨h.n1, h.n2, h.m1, h.m2, ?_, fun x hx => h.its x ?_⟩
  · have := List.length_filter_le (fun d : Dt => !decide ((d.to : Int) = k)) S.heap
    have := h.len
    simp only [forget]
    omega
  · exact (List.mem_filter.1 hx).1
theorem wait_le (S : NS) (k : Int) : S.wait k ≤ S.heap.length := List.length_filter_le _ _
theorem wait_laid (S : NS) (d : Dt) (k : Int) : (S.laid d).wait k = S.wait k + if (d.to : Int) = k then 1 else 0 := by
  simp only [wait, laid, List.filter_append, List.length_append]
  congr 1
  by_cases e : (d.to : Int) = k <;> simp [e]
theorem wait_without (S : NS) {i : Nat} {d : Dt} (h : S.heap[i]? = some d) (k : Int) : S.wait k = (S.without i).wait k + if (d.to : Int) = k then 1 else 0 := by
  have hi := (List.getElem?_eq_some_iff.1 h).1
  have e : S.heap = S.heap.take i ++ d :: S.heap.drop (i + 1) := by
    have := List.take_append_drop i S.heap
    rw [List.drop_eq_getElem_cons hi, (List.getElem?_eq_some_iff.1 h).2] at this
    exact this.symm
  have e2 : (S.without i).heap = S.heap.take i ++ S.heap.drop (i + 1) := List.eraseIdx_eq_take_drop_succ S.heap i
  simp only [wait]
  rw [e2]
  conv => lhs; rw [e]
  rw [List.filter_append, List.filter_append, List.length_append, List.length_append]
  by_cases e : (d.to : Int) = k
  · rw [List.filter_cons_of_pos (by simpa using e), if_pos e, List.length_cons]
    omega
  · rw [List.filter_cons_of_neg (by simpa using e), if_neg e]
    omega
theorem wait_forget (S : NS) (k j : Int) : (S.forget k).wait j = if j = k then 0 else S.wait j := by
  simp only [wait, forget, List.filter_filter]
  by_cases e : j = k
  · subst e
    rw [if_pos rfl, List.length_eq_zero_iff, List.filter_eq_nil_iff]
    intro d _
    simp
  · rw [if_neg e]
    congr 1
    refine List.filter_congr fun d _ => ?_
    by_cases e2 : (d.to : Int) = j
    · subst e2
      simp [e]
    · simp [e2]
theorem forget_zero (S : NS) {k : Int} (h : S.wait k = 0) : S.forget k = S := by
  have e := List.length_eq_zero_iff.1 h
  have : S.heap.filter (fun d => !decide ((d.to : Int) = k)) = S.heap := List.filter_eq_self.2 fun d hd => by
    have := List.filter_eq_nil_iff.1 e d hd
    simpa using this
  cases S
  simp only [forget] at this ⊢
  rw [this]
theorem wait_zero {S : NS} (h : S.Ok) {k : Int} (hk : S.joins k = false) : S.wait k = 0 := by
  rw [wait, List.length_eq_zero_iff, List.filter_eq_nil_iff]
  intro d hd e
  have := h.its d hd
  simp [joins] at hk e
  omega
end NS
end Go.Proofs.Ythhablokbnfpcaa
