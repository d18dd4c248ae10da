/- Matrices of which no two rows share memory. -/
import Derived.Test.YtobbjeephmfdeaaPickN
namespace Go.Proofs.Ytobbjeephmfdeaa
open Go.RowKit Go.Coop
set_option maxRecDepth 100000

/-- as MO, and no two rows lie in one block -/
structure MX (w : World) (bo br : Nat) (A : Option Addr) (n c : Nat) (M : List (List UInt8)) : Prop where
  len : M.length = n
  out : ∃ vs : List Value, OwnV w bo 31 A n c vs ∧ (∀ (i : Nat) (r : List UInt8), M[i]? = some r → ∃ (B : Option Addr) (d : Nat), vs[i]? = some (Value.slice B r.length d) ∧ Own w br 5 B r.length d r) ∧
    ∀ (i j bi bj Li Lj di dj : Nat), i ≠ j → vs[i]? = some (.slice (some ⟨bi, 0, none⟩) Li di) → vs[j]? = some (.slice (some ⟨bj, 0, none⟩) Lj dj) → bi ≠ bj
section
variable {w w' : World} {bo br : Nat} {A : Option Addr} {n c : Nat} {M : List (List UInt8)}
theorem MX.mo (h : MX w bo br A n c M) : MO w bo br A n c M := by
  obtain ⟨vs, h1, h2, _⟩ := h.out
  exact ⟨h.len, vs, h1, h2⟩
theorem MX.nil (w : World) (bo br : Nat) : MX w bo br none 0 0 [] := ⟨rfl, [], OwnV.nil _ _ _, fun i r h => by simp at h, fun i j _ _ _ _ _ _ _ h => by simp at h⟩
theorem MX.below {B : Nat} (h : MX w bo br A n c M) (hb : Below B w w') (hB : w.heap.size ≤ B) : MX w' bo br A n c M := by
  obtain ⟨vs, h1, h2, h3⟩ := h.out
  exact ⟨h.len, vs, h1.below hb hB, fun i r hi => by obtain ⟨B', d, a, b⟩ := h2 i r hi; exact ⟨B', d, a, b.below hb hB⟩, h3⟩
theorem MX.alloc (h : MX w bo br A n c M) (o : Obj) : MX (w.alloc o) bo br A n c M := h.below ((Below.refl w.heap.size w).alloc (Nat.le_refl _) o) (Nat.le_refl _)
theorem MX.lower {bo' br' : Nat} (h : MX w bo br A n c M) (h1 : bo' ≤ bo) (h2 : br' ≤ br) : MX w bo' br' A n c M := by
  obtain ⟨vs, ho, hr, hd⟩ := h.out
  exact ⟨h.len, vs, ho.lower h1, fun i r hi => by obtain ⟨B, d, hv, hw⟩ := hr i r hi; exact ⟨B, d, hv, hw.lower h2⟩, hd⟩
end
theorem own_lt {w : World} {b E n c : Nat} {A : Option Addr} {l : List UInt8} (h : Own w b E A n c l) {g : Nat} (hA : A = some ⟨g, 0, none⟩) : b ≤ g ∧ g < w.heap.size := by
  obtain ⟨cur, hg, hb⟩ := h.cells_at g hA
  exact ⟨hb, (Array.getElem?_eq_some_iff.1 hg).1⟩
section
variable (w : World)
/-- a row more, by append: one that lies behind all others -/
theorem wpList_appX {ops : Array Oper} {rest : List Oper} {o : Oper} {a : Act} {Q : Exit → Act → World → Prop} (hgd : o.guard = none) (s x : Operand)
    (ho : o.op = .call { callee := .builtin .append, args := #[s, x], argTypes := #[47, 47] }) {bo br : Nat}
    {A : Option Addr} {n c : Nat} {M : List (List UInt8)} (hs : a.eval s = .slice A n c) {w0 : World} (hM0 : MX w0 bo br A n c M) (hw0 : Below w0.heap.size w0 w) {X : Option Addr} {d : Nat} (hx : a.eval x = .slice X 1 d)
    {B : Option Addr} {k e : Nat} {r : List UInt8} (hX : RdV w X 1 [.slice B k e]) (hk : r.length = k) (hB : Own w w0.heap.size 5 B k e r) (hbr : br ≤ w0.heap.size) (hn : n ≤ 1000000) (hbase : bo ≤ w.heap.size) (N : Nat) (hN : N = n + 1)
    (h : ∀ A' c' w', MX w' bo br A' N c' (M ++ [r]) → w.grownBy w' (A.map (·.block)) → wpList Try.prog ops Q rest (a.put o.dst (.slice A' N c')) w') : wpList Try.prog ops Q (o :: rest) a w := by
  subst hk
  obtain ⟨vs, hv0, hr0, hd⟩ := hM0.out
  have hM := hM0.below hw0 (Nat.le_refl _)
  have hv : OwnV w bo 31 A n c vs := hv0.below hw0 (Nat.le_refl _)
  refine wpList_appV w hgd s x 47 ho bo 31 (.slice none 0 0) 24 Try.underlying47 info31 rfl hs hv hx hX (fun u hu => by simp at hu; subst hu; rfl) (by omega) (by omega) hbase N hN fun A' c' w' h1 h2 _ => h A' c' w' ⟨?_, _, h1, fun i q hi => ?_, fun i j bi bj Li Lj di dj hij hi hj => ?_⟩ h2
  · rw [List.length_append, hM.len, hN]; rfl
  · have hl : vs.length = M.length := by rw [hv.len, hM.len]
    rw [List.getElem?_append] at hi
    rw [List.getElem?_append]
    split at hi
    · rename_i hlt
      obtain ⟨B', d', hv', ho'⟩ := hr0 i q hi
      rw [if_pos (by omega)]
      exact ⟨B', d', hv', own_grown (ho'.below hw0 (Nat.le_refl _)) hv h2⟩
    · rename_i hlt
      have : i - M.length = 0 := by
        have := (List.getElem?_eq_some_iff.1 hi).1
        simpa using this
      rw [this] at hi
      simp at hi
      subst hi
      rw [if_neg (by omega), hl, this]
      exact ⟨B, e, rfl, own_grown (hB.lower hbr) hv h2⟩
  · have hl : vs.length = M.length := by rw [hv.len, hM.len]
    have hold : ∀ (i b L d : Nat), i < vs.length → vs[i]? = some (.slice (some ⟨b, 0, none⟩) L d) → b < w0.heap.size := fun i b L d hil hi => by
      obtain ⟨B', d', hv', ho'⟩ := hr0 i _ (List.getElem?_eq_getElem (show i < M.length by omega))
      rw [hi] at hv'
      injection hv' with hv'
      injection hv' with e1 _ _
      exact (own_lt ho' e1.symm).2
    have hnew : ∀ (i b L d : Nat), ¬ i < vs.length → (vs ++ [Value.slice B r.length e])[i]? = some (.slice (some ⟨b, 0, none⟩) L d) → w0.heap.size ≤ b := fun i b L d hil hi => by
      rw [List.getElem?_append, if_neg hil] at hi
      have : i - vs.length = 0 := by
        have := (List.getElem?_eq_some_iff.1 hi).1
        simpa using this
      rw [this] at hi
      simp at hi
      exact (own_lt hB hi.1).1
    have hap : ∀ (i b L d : Nat), i < vs.length → (vs ++ [Value.slice B r.length e])[i]? = some (.slice (some ⟨b, 0, none⟩) L d) → vs[i]? = some (.slice (some ⟨b, 0, none⟩) L d) := fun i b L d hil hi => by
      rwa [List.getElem?_append, if_pos hil] at hi
    by_cases h1 : i < vs.length
    · by_cases h2 : j < vs.length
      · exact hd i j bi bj Li Lj di dj hij (hap _ _ _ _ h1 hi) (hap _ _ _ _ h2 hj)
      · have a1 := hold _ _ _ _ h1 (hap _ _ _ _ h1 hi)
        have a2 := hnew _ _ _ _ h2 hj
        omega
    · by_cases h2 : j < vs.length
      · have a1 := hold _ _ _ _ h2 (hap _ _ _ _ h2 hj)
        have a2 := hnew _ _ _ _ h1 hi
        omega
      · have e1 := (List.getElem?_eq_some_iff.1 hi).1
        have e2 := (List.getElem?_eq_some_iff.1 hj).1
        simp at e1 e2
        omega
end

def PickedX (w : World) (m : Nat) (N : List (List UInt8)) (e : Ending) (w' : World) : Prop :=
  ∃ A c, e = .returned (.tuple #[.slice A m c, .int .i64 0]) ∧ MX w' w.heap.size w.heap.size A m c N ∧ Below w.heap.size w w'
set_option maxRecDepth 100000 in
theorem pick_x {bo br : Nat} (A : Option Addr) (n c k : Nat) (F : Fn2) (R : Option Addr) (m d : Nat) (ls : List Nat) (w : World) (h : MO w bo br A n c (tabM n k F)) (hn1 : 1 ≤ n) (hn2 : n ≤ 255) (hk1 : 1 ≤ k) (hk2 : k ≤ 255) (hR : RdV w R m (nvs ls)) (hm1 : 1 ≤ m) (hm2 : m ≤ 255) (hls : ∀ x ∈ ls, x < n) :
    Calls Try.prog 73 #[.slice A n c, .slice R m d] w (PickedX w m (tabM m k (pickF ls F))) := by
  have K := right_yes A n c k F w h hn1 hn2 hk1 hk2
  have HK := Lib.hid K
  have HM := Lib.hid h
  have HR := Lib.hid hR
  have HLS := Lib.hid hls
  have HLl : Hid (ls.length = m) := by have := hR.len; show ls.length = m; rwa [nvs_len] at this
  clear h hR K hls
  go_enter Try.func73, Try.ntmps73
  go_wp2_with (first | (go_at_call 75; refine HK.out.mono ?_; rintro e w' ⟨rfl, rfl⟩) | (go_at_call 68; refine (side_yes _ _ (by omega) (by omega)).mono ?_; rintro e w' ⟨rfl, rfl⟩))
  clear HK
  go_loopw [6, 18] (fun v i wr => ∃ (q : Nat) (A' : Option Addr) (c' : Nat), q ≤ m ∧ i = .int .i64 q ∧ v = .slice A' q c' ∧ Hid (MX wr w.heap.size w.heap.size A' q c' (tabM q k (pickF ls F))) ∧ Hid (Below w.heap.size w wr)) (fun _ i _ => m - (intOf i).toNat)
  case atStart => exact ⟨0, none, 0, by omega, rfl, rfl, MX.nil _ _ _, Below.refl _ _⟩
  case round =>
    obtain ⟨q, A', c', hq, rfl, rfl, HO, HB⟩ := hrel
    by_cases hlt : q < m
    · obtain ⟨ad, v, rfl, _, hv, hcv⟩ := (HR.out.below HB.out (Nat.le_refl _)).at_ hlt
      obtain ⟨X, hx, rfl⟩ := nvs_at hv
      clear hv
      have hXn := HLS.out X (List.mem_of_getElem? hx)
      obtain ⟨g, B, e, r, rfl, _, _, _, hrr, hcr, hor⟩ := (HM.out.below HB.out (Nat.le_refl _)).row hXn
      rw [tabM_at k F hXn] at hrr
      injection hrr with hrr
      rw [← hrr, rowL_len] at hcr hor
      have HX := Lib.hid hx
      have HOR := Lib.hid hor
      have hin1 : (X : Int) < n := by omega
      have hd : decide ((X : Int) < 0) = false := by simp
      have hd2 : decide ((n : Int) ≤ (X : Int)) = false := by simp; omega
      clear hx hrr hor
      go_wp2_with fail
      refine (concat_one B k e (rowL k (F X)) wr HOR.out.rd (by omega)).mono ?_
      rintro e1 w1 ⟨A1, c1, rfl, ho1, hb1⟩
      have hba : Below wr.heap.size wr w1 := ((Below.refl _ _).alloc (Nat.le_refl _) _).trans (hb1.mono (by simp))
      have hbs := HB.out.size
      have HN1 := Lib.hid (ho1.lower (show wr.heap.size ≤ _ by rw [size_alloc]; omega))
      have HB1 : Hid (Below w.heap.size w w1) := HB.out.trans (hba.mono hbs)
      have HBA := Lib.hid hba
      clear ho1 hb1 hba
      go_wp2_with (at_builtin; refine wpList_appX _ rfl (.tmp 30) (.tmp 37) rfl rfl HO.out (HBA.out.alloc HBA.out.size _) rfl (RdV.one _ _ _ _) (rowL_len _ _) (HN1.out.alloc _) (by omega) (by omega) (by rw [size_alloc]; have := HB1.out.size; omega) (q + 1) rfl ?_; intro A2 c2 w2 hM2 hg2)
      have HM2 := Lib.hid hM2
      have HB2 : Hid (Below w.heap.size w w2) := (HB1.out.alloc HB1.out.size _).grown hg2 (by rw [size_alloc]; have := HB1.out.size; omega) (fun k hk => (mo_block HO.out.mo k hk).1)
      clear hM2 hg2
      go_roundw
      case rel =>
        refine ⟨q + 1, A2, c2, by omega, by go_num, rfl, ?_, HB2.out⟩
        have e : pickF ls F q = F X := by funext j; unfold pickF; rw [List.getD_eq_getElem?_getD, HX.out]; rfl
        rw [tabM_snoc, e]
        exact HM2.out
      case measure => simp [intOf]; omega
    · obtain rfl : q = m := by omega
      go_wp2
      go_ret2
      exact ⟨A', c', rfl, HO.out, HB.out⟩
end Go.Proofs.Ytobbjeephmfdeaa
