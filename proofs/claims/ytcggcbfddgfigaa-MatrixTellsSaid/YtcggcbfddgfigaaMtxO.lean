/- The law's own helper: some. -/
import Derived.Test.YtcggcbfddgfigaaMtxN
namespace Go.Proofs.Ytcggcbfddgfigaa
open Go.RowKit Go.Coop

theorem info3 : (Try.prog.info? 3).map (fun i => (i.zero, i.size, i.bytes)) = some (some (.int .i64 0), 1, 8) := by kernel_rfl
def nvs (l : List Nat) : List Value := l.map fun x : Nat => Value.int .i64 (x : Int)
theorem nvs_len (l : List Nat) : (nvs l).length = l.length := by simp [nvs]
theorem nvs_at {l : List Nat} {j : Nat} {u : Value} (h : (nvs l)[j]? = some u) : ∃ x, l[j]? = some x ∧ u = .int .i64 (x : Int) := by
  simp only [nvs, List.getElem?_map, Option.map_eq_some_iff] at h
  obtain ⟨c, hc, e⟩ := h
  exact ⟨c, hc, e.symm⟩
theorem nvs_one (l : List Nat) : ∀ u ∈ nvs l, u.oneCell' = true := by
  intro u hu
  simp only [nvs, List.mem_map] at hu
  obtain ⟨x, _, rfl⟩ := hu
  rfl
theorem nvs_snoc (l : List Nat) (x : Nat) : nvs (l ++ [x]) = nvs l ++ [.int .i64 (x : Int)] := by simp [nvs]

/-- places below n, rising -/
structure Rising (n : Nat) (ls : List Nat) : Prop where
  lt : ∀ (i x : Nat), ls[i]? = some x → x < n
  up : ∀ (i j x y : Nat), i < j → ls[i]? = some x → ls[j]? = some y → x < y
theorem Rising.snoc {q : Nat} {ls : List Nat} (h : Rising q ls) : Rising (q + 1) (ls ++ [q]) := by
  refine ⟨fun i x hi => ?_, fun i j x y hij hi hj => ?_⟩
  · rw [List.getElem?_append] at hi
    split at hi
    · have := h.lt i x hi; omega
    · have e := List.mem_of_getElem? hi
      simp at e
      omega
  · rw [List.getElem?_append] at hi hj
    split at hj
    · rw [if_pos (by omega)] at hi
      exact h.up i j x y hij hi hj
    · have e := List.mem_of_getElem? hj
      simp at e
      subst e
      split at hi
      · exact h.lt i x hi
      · rename_i h1 h2
        have := (List.getElem?_eq_some_iff.1 hj).1
        simp at this
        omega
theorem Rising.mono {q n : Nat} {ls : List Nat} (h : Rising q ls) (hq : q ≤ n) : Rising n ls := ⟨fun i x hi => by have := h.lt i x hi; omega, h.up⟩

def Somes (w : World) (n : Nat) (e : Ending) (w' : World) : Prop :=
  ∃ (ls : List Nat) (k : Nat) (A : Option Addr) (c : Nat), e = .returned (.slice A k c) ∧ OwnV w' w.heap.size 3 A k c (nvs ls) ∧ 1 ≤ k ∧ k ≤ n ∧ Rising n ls ∧ Below w.heap.size w w'

set_option maxHeartbeats 1000000 in
set_option maxRecDepth 100000 in
theorem some_any (n : Nat) (B : Option Addr) (m d : Nat) (fl : List Bool) (w : World) (h : RdV w B m (fl.map Value.bool)) (hn0 : 1 ≤ n) (hn : n ≤ 60) :
    Calls Try.prog 30 #[.int .i64 (n : Int), .slice B m d] w (Somes w n) := by
  have HR := Lib.hid h
  clear h
  go_enter Try.func30, Try.ntmps30
  go_wp2
  go_loopw [5, 6] (fun v i wr => ∃ (q k : Nat) (ls : List Nat) (A : Option Addr) (c : Nat), q ≤ n ∧ k ≤ q ∧ i = .int .i64 q ∧ v = .slice A k c ∧ Hid (OwnV wr w.heap.size 3 A k c (nvs ls)) ∧ Hid (Rising q ls) ∧ Hid (Below w.heap.size w wr)) (fun _ i _ => n - (intOf i).toNat)
  case atStart => exact ⟨0, 0, [], none, 0, by omega, by omega, rfl, rfl, OwnV.nil _ _ _, ⟨fun i x hi => by simp at hi, fun i j x y _ hi => by simp at hi⟩, Below.refl _ _⟩
  case round =>
    obtain ⟨q, k, ls, A, c, hq, hkq, rfl, rfl, HO, HS, HB⟩ := hrel
    by_cases hlt : q < n
    · by_cases hin : q < m
      · obtain ⟨ad, v, rfl, _, hv, hcv⟩ := (HR.out.below HB.out (Nat.le_refl _)).at_ hin
        simp only [List.getElem?_map, Option.map_eq_some_iff] at hv
        obtain ⟨b, _, rfl⟩ := hv
        by_cases hb : b = true
        · subst hb
          have hbs := HB.out.size
          go_wp2_with (at_builtin; refine wpList_appV _ rfl (.tmp 22) (.tmp 24) _ rfl w.heap.size 3 (.int .i64 0) 8 Try.underlying29 info3 rfl rfl (HO.out.alloc _) rfl (RdV.one _ _ _ _) (by intro u hu; simp at hu; subst hu; rfl) (by omega) (by omega) (by rw [size_alloc]; omega) (k + 1) rfl ?_; intro A2 c2 w2 ho hg _)
          have HO2 := Lib.hid ho
          have HB2 : Hid (Below w.heap.size w w2) := (HB.out.alloc hbs _).grown hg (by rw [size_alloc]; omega) (fun k hk => (HO.out.block k hk).1)
          clear ho hg
          go_roundw
          case rel => exact ⟨q + 1, k + 1, ls ++ [q], A2, c2, by omega, by omega, by go_num, rfl, by rw [nvs_snoc]; exact HO2.out, HS.out.snoc, HB2.out⟩
          case measure => simp [intOf]; omega
        · obtain rfl : b = false := by simpa using hb
          go_wp2
          go_roundw
          case rel => exact ⟨q + 1, k, ls, A, c, by omega, by omega, by go_num, rfl, HO.out, HS.out.mono (by omega), HB.out⟩
          case measure => simp [intOf]; omega
      · go_wp2
        go_roundw
        case rel => exact ⟨q + 1, k, ls, A, c, by omega, by omega, by go_num, rfl, HO.out, HS.out.mono (by omega), HB.out⟩
        case measure => simp [intOf]; omega
    · obtain rfl : q = n := by omega
      by_cases hk : k = 0
      · subst hk
        go_wp2
        go_ret
        exact ⟨[0], 1, _, _, rfl, ⟨rfl, rfl, .inr ⟨wr.heap.size, 1, #[.int .i64 0], rfl, HB.out.size, heap_alloc_new _ _, Nat.le_refl _, by simp [maxLen], rfl, rfl⟩⟩, by omega, by omega, ⟨fun i x hi => by have := List.mem_of_getElem? hi; simp at this; omega, fun i j x y hij hi hj => by have := (List.getElem?_eq_some_iff.1 hj).1; simp at this; omega⟩, HB.out.alloc HB.out.size _⟩
      · have hk2 : ((k : Int) == 0) = false := beq_eq_false_iff_ne.2 (by omega)
        go_wp2
        go_ret
        exact ⟨ls, k, A, c, rfl, HO.out, by omega, by omega, HS.out, HB.out⟩
end Go.Proofs.Ytcggcbfddgfigaa
