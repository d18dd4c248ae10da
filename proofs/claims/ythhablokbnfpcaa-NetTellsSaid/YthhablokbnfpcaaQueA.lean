/- Pick; rows of the laws' datagrams; an append of some to such a row. -/
import Derived.Test.YthhablokbnfpcaaArgsD
import Derived.Test.YthhablokbnfpcaaAwk
namespace Go.Proofs.Ythhablokbnfpcaa
open Go.RowKit Go.Coop Go.Maps
set_option maxRecDepth 100000
def pk (x : Int) (n : Nat) : Nat := (x % (n : Int)).toNat
theorem pk_lt (x : Int) {n : Nat} (hn : 0 < n) : pk x n < n := by
  unfold pk
  have := Int.emod_lt_of_pos x (b := (n : Int)) (by omega)
  have := Int.emod_nonneg x (b := (n : Int)) (by omega)
  omega
theorem pick_any (x : Int) (n : Nat) (hn : 0 < n) (hn2 : n ≤ 1000) (hx : -9223372036854775808 ≤ x ∧ x ≤ 9223372036854775807) (w : World) : Calls Try.prog 30 #[.int .i64 x, .int .i64 (n : Int)] w fun e w' => e = .returned (.int .i64 (pk x n : Int)) ∧ w = w' := by
  have hp : ((pk x n : Nat) : Int) = x % (n : Int) := by
    unfold pk
    have := Int.emod_nonneg x (b := (n : Int)) (by omega)
    omega
  obtain ⟨p, hpp⟩ : ∃ p, pk x n = p := ⟨_, rfl⟩
  rw [hpp] at hp ⊢
  have hn' : ¬ (n : Int) ≤ 0 := by omega
  obtain ⟨r, hr⟩ : ∃ r, x.tmod (n : Int) = r := ⟨_, rfl⟩
  have hb : -(n : Int) < r ∧ r < n := by
    rw [← hr]
    have h1 := Int.tmod_lt_of_pos x (b := (n : Int)) (by omega)
    have h2 := Int.lt_tmod_of_pos x (b := (n : Int)) (by omega)
    omega
  have he : (r < 0 → (p : Int) = r + n) ∧ (0 ≤ r → (p : Int) = r) := by
    rw [hp, ← hr]
    have h1 : x.tmod (n : Int) = x % (n : Int) - ((if 0 ≤ x ∨ (n : Int) ∣ x then 0 else (n : Int).natAbs : Nat) : Int) := Int.tmod_eq_emod
    have h2 := Int.emod_nonneg x (b := (n : Int)) (by omega)
    have h3 := Int.emod_lt_of_pos x (b := (n : Int)) (by omega)
    rw [h1]
    split <;> constructor <;> intro _ <;> omega
  have HE := Lib.hid he
  clear he hp hpp
  go_enter Try.func30, Try.ntmps30
  by_cases hneg : r < 0
  · go_wp2
    go_ret
    refine ⟨?_, rfl⟩
    rw [HE.out.1 hneg]
    rfl
  · go_wp2
    go_ret
    refine ⟨?_, rfl⟩
    rw [HE.out.2 (by omega)]
    rfl
/-- the cells of a row of datagrams -/
def dcs (L : List DatV) : List Value := L.flatMap DatV.cells
theorem dcs_append (a b : List DatV) : dcs (a ++ b) = dcs a ++ dcs b := List.flatMap_append
theorem dcs_cons (a : DatV) (b : List DatV) : dcs (a :: b) = a.cells ++ dcs b := rfl
theorem dcs_len (l : List DatV) : (dcs l).length = l.length * 3 := by
  induction l with
  | nil => rfl
  | cons a l ih => rw [dcs_cons, List.length_append, ih, List.length_cons]; simp [DatV.cells]; omega
theorem dcs_one (l : List DatV) : ∀ u ∈ dcs l, u.oneCell' = true := by
  intro u hu
  obtain ⟨c, _, hc⟩ := List.mem_flatMap.1 hu
  simp [DatV.cells] at hc
  rcases hc with rfl | rfl | rfl <;> rfl
theorem dcs_split {l : List DatV} {i : Nat} {d : DatV} (h : l[i]? = some d) : dcs l = dcs (l.take i) ++ (d.cells ++ dcs (l.drop (i + 1))) := by
  have hi : i < l.length := (List.getElem?_eq_some_iff.1 h).1
  have e : l = l.take i ++ d :: l.drop (i + 1) := by
    have := List.take_append_drop i l
    rw [List.drop_eq_getElem_cons hi, (List.getElem?_eq_some_iff.1 h).2] at this
    exact this.symm
  conv => lhs; rw [e]
  rw [dcs_append, dcs_cons]
theorem dcs_get {l : List DatV} {i : Nat} {d : DatV} (h : l[i]? = some d) {j : Nat} {v : Value} (hj : d.cells[j]? = some v) : (dcs l)[i * 3 + j]? = some v := by
  have hi : i < l.length := (List.getElem?_eq_some_iff.1 h).1
  have hl : (dcs (l.take i)).length = i * 3 := by rw [dcs_len, List.length_take]; omega
  have hj' := (List.getElem?_eq_some_iff.1 hj).1
  rw [dcs_split h, List.getElem?_append_right (by omega), hl, Nat.add_sub_cancel_left, List.getElem?_append_left (List.getElem?_eq_some_iff.1 hj).1, hj]
theorem dcs_erase {l : List DatV} {i : Nat} : dcs (l.eraseIdx i) = (dcs l).take (i * 3) ++ (dcs l).drop ((i + 1) * 3) := by
  have h1 : ∀ k, (dcs l).take (k * 3) = dcs (l.take k) := fun k => by
    conv => lhs; rw [← List.take_append_drop k l, dcs_append]
    by_cases hk : k ≤ l.length
    · rw [List.take_left' (by rw [dcs_len, List.length_take]; omega)]
    · have e1 : l.drop k = [] := List.drop_eq_nil_of_le (by omega)
      rw [e1]
      show List.take _ (dcs (l.take k) ++ []) = _
      rw [List.append_nil, List.take_of_length_le (by rw [dcs_len, List.length_take]; omega)]
  have h2 : ∀ k, (dcs l).drop (k * 3) = dcs (l.drop k) := fun k => by
    conv => lhs; rw [← List.take_append_drop k l, dcs_append]
    by_cases hk : k ≤ l.length
    · rw [List.drop_left' (by rw [dcs_len, List.length_take]; omega)]
    · have e1 : l.drop k = [] := List.drop_eq_nil_of_le (by omega)
      rw [e1]
      show List.drop _ (dcs (l.take k) ++ []) = dcs []
      rw [List.append_nil]
      exact List.drop_eq_nil_of_le (by rw [dcs_len, List.length_take]; omega)
  rw [h1, h2, ← dcs_append, List.eraseIdx_eq_take_drop_succ]
theorem info34 : (Try.prog.info? 34).map (fun i => (i.zero, i.size, i.bytes)) = some (some (.agg #[.int .i64 0, .int .i64 0, .slice none 0 0]), 3, 40) := by kernel_rfl
/-- an append of some elements (none at all, too) that lie somewhere -/
theorem step_appKs {P : Program} {w : World} {ops : Array Oper} {o : Oper} {a : Act} {K : Act → World → Prop} {Q : Exit → Act → World → Prop} {Z : Prop} (hgd : o.guard = none) (s x : Operand) (t : TypeId)
    (ho : o.op = .call { callee := .builtin .append, args := #[s, x], argTypes := #[t, t] })
    (base : Nat) (E k : Nat) (z : Value) (bytes : Nat) (ht : P.underlying t = some (.slice E)) (hi : (P.info? E).map (fun i => (i.zero, i.size, i.bytes)) = some (some z, k, bytes)) (hz1 : z.cells.size = k) (hk : 0 < k)
    {A : Option Addr} {n c : Nat} {vs : List Value} (hs : a.eval s = .slice A n c) (hown : OwnK w base E k A n c vs) {ad : Addr} {m d : Nat} {us : List Value} (hx : a.eval x = .slice (some ad) m d) (hl : us.length = m * k) (hc : ∀ j u, us[j]? = some u → w.cell? (ad.add j) = some u) (h1 : ∀ u ∈ us, u.oneCell' = true)
    (hsz : (n + m) * bytes ≤ 140737488355328) (hmax : n + m ≤ 140737488355328) (hbase : base ≤ w.heap.size) (N : Nat) (hN : N = n + m)
    (h : ∀ A' c' w', OwnK w' base E k A' N c' (vs ++ us) → w.grownBy w' (A.map (·.block)) → (A'.map (·.block) = A.map (·.block) ∨ A'.map (·.block) = some w.heap.size) → K (a.put o.dst (.slice A' N c')) w') :
    if Region.wanted o (yielded ops a.tmps) = true then Oper.wp P o a w K Q else Z := by
  subst hN
  obtain ⟨i, hi, hz, hs1, hs2⟩ := info_parts hi
  have ob : ∀ (X : Option Addr) (p q : Nat), (Value.slice X p q).ownBlock = X.map (·.block) := by intro X p q; cases X <;> rfl
  obtain ⟨v', w', hrun, h2', h3, _, h5⟩ := run_append_own_at (P := P) w base t o.type E i z k bytes ht hi hz hs1 hs2 hz1 hk (.slice A n c) n vs hown.row ad m d us hl hc h1 (by simp only [maxLen]; omega) hsz hbase
  obtain ⟨A', c', rfl⟩ : ∃ A' c', v' = .slice A' (n + m) c' := by
    rcases h2'.2 with ⟨rfl, h0⟩ | ⟨g, cap, cur, rfl, _⟩
    · exact ⟨none, 0, by rw [h0]⟩
    · exact ⟨_, _, rfl⟩
  refine step_app_run hgd s x t ho hs hx hrun (h A' c' w' ⟨h2'⟩ ?_ ?_)
  · rwa [ob] at h3
  · rwa [ob, ob] at h5
theorem own34_kp {w w' : World} {base k n c cm : Nat} {A : Option Addr} {vs : List Value} (h : OwnK w base 34 k A n c vs) (hk : Kp cm w w') : OwnK w' base 34 k A n c vs := by
  rcases h.row.2 with ⟨hv, h0⟩ | ⟨g, cap, cur, hv, hb, hg, r⟩
  · exact ⟨⟨h.row.1, .inl ⟨hv, h0⟩⟩⟩
  · exact ⟨⟨h.row.1, .inr ⟨g, cap, cur, hv, hb, hk.cells _ _ _ _ hg (by decide) (by decide), r⟩⟩⟩
/-- what a datagram of the laws is upon a net -/
def DatV.dt (o : DatV) : Dt := ⟨o.fr.toNat, o.tt.toNat, o.l⟩
structure DatV.In (o : DatV) (w0 : World) : Prop where
  rd : Rd w0 o.X o.n o.l
  n60 : o.n ≤ 60
  fr : 0 ≤ o.fr ∧ o.fr < 5
  tt : 0 ≤ o.tt ∧ o.tt < 5
/-- a row of datagrams grows: a net stays -/
theorem Nt.grown34 {w w' : World} {B g c base k n cc : Nat} {S : NS} {A : Option Addr} {vs : List Value} (h : Nt w B g c S) (ho : OwnK w base 34 k A n cc vs) (hg : w.grownBy w' (A.map (·.block))) : Nt w' B g c S := by
  rcases ho.row.2 with ⟨hv, h0⟩ | ⟨r, cap, cur, hv, hb, hr, _⟩
  · injection hv with hA _ _
    subst hA
    exact h.below ⟨hg.os, hg.tape, hg.output, hg.size, fun k hk => hg.block k hk (by simp)⟩
  · injection hv with hA _ _
    subst hA
    obtain ⟨h0, A2, cap2, hA2, h1⟩ := h
    have hb : But [r] w w' := grown_but hg
    refine ⟨Nat.le_trans h0 hb.size, A2, cap2, hA2, h1.but hb fun j hj hm => ?_⟩
    simp at hm
    subst hm
    exact h1.nb34 hr (by decide) (by decide) hj
theorem own34_lo {w : World} {base k n cc : Nat} {A : Option Addr} {vs : List Value} (ho : OwnK w base 34 k A n cc vs) : ∀ k, A.map (·.block) = some k → base ≤ k := fun k hk => (ho.block k hk).1
end Go.Proofs.Ythhablokbnfpcaa
