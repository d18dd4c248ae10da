/- The reference's numbers. -/
import Derived.Test.YtmiapegecoaccaaTelC
namespace Go.Coop
/-- the reference's numbers, from a place on -/
def rn (b : List UInt8) : Nat → Nat → Option (List Nat × Nat)
  | 0, x => some ([], x)
  | k + 1, x => if (getU b (x : Int)).2.2 = 0 ∧ (getU b (x : Int)).1 ≤ 4611686018427387904 then (rn b k (getU b (x : Int)).2.1).map (fun p => ((getU b (x : Int)).1 :: p.1, p.2)) else none
theorem rn_len {b : List UInt8} : ∀ {k x : Nat} {p : List Nat × Nat}, rn b k x = some p → p.1.length = k
  | 0, x, p, h => by
    simp only [rn, Option.some.injEq] at h
    subst h
    rfl
  | k + 1, x, p, h => by
    unfold rn at h
    split at h
    · rw [Option.map_eq_some_iff] at h
      obtain ⟨q, hq, rfl⟩ := h
      simp [rn_len hq]
    · cases h
end Go.Coop
namespace Go.Proofs.Ytmiapegecoaccaa
open Go.RowKit Go.Coop
set_option maxRecDepth 100000
theorem info3 : (Try.prog.info? 3).map (fun i => (i.zero, i.size, i.bytes)) = some (some (.int .i64 0), 1, 8) := by kernel_rfl
def NV (x : Nat) : Value := .int .i64 (x : Int)
theorem nvs_one (l : List Nat) : ∀ u ∈ l.map NV, u.oneCell' = true := by
  intro u hu
  obtain ⟨x, _, rfl⟩ := List.mem_map.1 hu
  rfl
/-- what the reference's numbers tells -/
def Nums (w : World) (r : Option (List Nat × Nat)) (e : Ending) (w' : World) : Prop :=
  Below w.heap.size w w' ∧ ((r = none ∧ e = .returned (.tuple #[.slice none 0 0, .int .i64 (-1)])) ∨ ∃ p A c, r = some p ∧ e = .returned (.tuple #[.slice A p.1.length c, .int .i64 (p.2 : Int)]) ∧ OwnV w' w.heap.size 3 A p.1.length c (p.1.map NV) ∧ p.2 ≤ 1000000)
section
variable (w : World)
set_option maxHeartbeats 2000000 in
theorem rnums_is {X : Option Addr} {n c : Nat} {b : List UInt8} (hr : Rd w X n b) (hn : n ≤ 1000000) (x0 : Nat) (hx : x0 ≤ n) (many : Nat) (hm : many ≤ 1000) : Calls Try.prog 50 #[.slice X n c, .int .i64 (x0 : Int), .int .i64 (many : Int)] w (Nums w (rn b many x0)) := by
  have HR := Lib.hid hr
  clear hr
  go_enter Try.func50, Try.ntmps50
  go_wp2
  go_loopw [1, 8, 9, 10, 11, 12] (fun s1 s8 s9 _ _ _ wr => ∃ (i x : Nat) (l : List Nat) (A : Option Addr) (c' : Nat), i ≤ many ∧ s9 = .int .i64 i ∧ s1 = .int .i64 (x : Int) ∧ s8 = .slice A i c' ∧ x ≤ n ∧ Hid (l.length = i ∧ OwnV wr w.heap.size 3 A i c' (l.map NV) ∧ Below w.heap.size w wr ∧ rn b many x0 = (rn b (many - i) x).map (fun p => (l ++ p.1, p.2)))) (fun _ _ s9 _ _ _ _ => many - (Go.RowKit.intOf s9).toNat)
  case atStart => exact ⟨0, x0, [], none, 0, by omega, rfl, rfl, rfl, hx, (⟨rfl, OwnV.nil _ _ _, Below.refl _ _, by simp⟩ : _ ∧ _ ∧ _ ∧ _)⟩
  case round =>
    obtain ⟨i, x, l, A, c', hi, rfl, rfl, rfl, hxn, HK⟩ := hrel
    by_cases hlt : i < many
    · have hi1 : (0 : Int) ≤ (i : Int) := by omega
      have hi2 : (i : Int) < (many : Int) := by omega
      have hwk : IntKind.i64.wrap ((i : Int) + 1) = (i : Int) + 1 := IntWalk.i64_in _ (by omega)
      have hG := rgetUint_any X n c b (x : Int) wr (HR.out.below HK.out.2.2.1 (Nat.le_refl _)) (by omega)
      have hok := getU_ok b (x : Int)
      obtain ⟨⟨N, nx, E⟩, hre⟩ : ∃ r, getU b (x : Int) = r := ⟨_, rfl⟩
      rw [hre] at hG hok
      obtain ⟨o1, o2, o3, o4⟩ := hok
      simp only at o1 o2 o3 o4
      rw [HR.out.len] at o2
      have hs : rn b (many - i) x = if E = 0 ∧ N ≤ 4611686018427387904 then (rn b (many - (i + 1)) nx).map (fun p => (N :: p.1, p.2)) else none := by
        rw [show many - i = (many - (i + 1)) + 1 by omega]
        conv => lhs; unfold rn
        rw [hre]
      have HG := Lib.hid hG
      have HT := Lib.hid hlt
      clear hlt hG o4 hre
      by_cases hE : E = 0
      · subst hE
        by_cases hN : N ≤ 4611686018427387904
        · rw [if_pos ⟨rfl, hN⟩] at hs
          have HS := Lib.hid hs
          clear hs
          have hwN : IntKind.i64.wrap (N : Int) = (N : Int) := IntWalk.i64_in _ (by omega)
          have hN1 : ¬ (4611686018427387904 : Int) < (N : Int) := by omega
          have hN2 : (N : Int) ≤ 4611686018427387904 := by omega
          go_wp2_with fail
          refine HG.out.mono ?_
          rintro e w1 ⟨rfl, rfl⟩
          go_wp2_with (at_builtin; refine wpList_appV _ rfl (.tmp 31) (.tmp 34) _ rfl w.heap.size 3 (.int .i64 0) 8 Try.underlying81 info3 rfl rfl (HK.out.2.1.alloc _) rfl (RdV.one wr (NV N) 3 (0, 0)) (nvs_one [N]) (by omega) (by omega) (Nat.le_trans HK.out.2.2.1.size (by simp)) (i + 1) rfl ?_; intro A' c2 w' ho hg hat)
          go_roundw
          case rel =>
            refine ⟨i + 1, nx, l ++ [N], A', c2, by have := HT.out; omega, by go_num, rfl, rfl, o2, ?_⟩
            have hb : Below w.heap.size w w' := (HK.out.2.2.1.alloc HK.out.2.2.1.size (.cells #[NV N] 3)).grown hg (by rw [size_alloc]; exact Nat.le_succ_of_le HK.out.2.2.1.size) (fun k hk => (HK.out.2.1.block k hk).1)
            refine Lib.hid ⟨by rw [List.length_append, HK.out.1]; rfl, by simpa using ho, hb, ?_⟩
            rw [HK.out.2.2.2, HS.out]
            cases rn b (many - (i + 1)) nx <;> simp
          case measure => have := HT.out; simp [Go.RowKit.intOf]; omega
        · rw [if_neg (fun h => hN h.2)] at hs
          have HS := Lib.hid hs
          clear hs
          have hN1 : (4611686018427387904 : Int) < (N : Int) := by omega
          clear hN
          go_wp2_with fail
          refine HG.out.mono ?_
          rintro e w1 ⟨rfl, rfl⟩
          go_wp2
          go_ret2
          refine ⟨HK.out.2.2.1, .inl ⟨?_, rfl⟩⟩
          rw [HK.out.2.2.2, HS.out]
          rfl
      · rw [if_neg (fun h => hE h.1)] at hs
        have HS := Lib.hid hs
        have hE1 : ((E : Int) != 0) = true := by simp; omega
        clear hs hE
        go_wp2_with fail
        refine HG.out.mono ?_
        rintro e w1 ⟨rfl, rfl⟩
        go_wp2
        go_ret2
        refine ⟨HK.out.2.2.1, .inl ⟨?_, rfl⟩⟩
        rw [HK.out.2.2.2, HS.out]
        rfl
    · obtain rfl : i = many := by omega
      go_wp2
      go_ret2
      have h1 := HK.out.2.2.2
      rw [Nat.sub_self] at h1
      simp only [rn, Option.map_some, List.append_nil] at h1
      have h2 := HK.out.1
      refine ⟨HK.out.2.2.1, .inr ⟨(l, x), A, c', h1, ?_, ?_, by show x ≤ 1000000; omega⟩⟩
      · simp only [h2]
        rfl
      · simp only [h2]
        exact HK.out.2.1
theorem rnums_6 {X : Option Addr} {n c : Nat} {b : List UInt8} (hr : Rd w X n b) (hn : n ≤ 1000000) (x0 : Nat) (hx : x0 ≤ n) : Calls Try.prog 50 #[.slice X n c, .int .i64 (x0 : Int), .int .i64 6] w (Nums w (rn b 6 x0)) := rnums_is w hr hn x0 hx 6 (by omega)
theorem rnums_61 {X : Option Addr} {n c : Nat} {b : List UInt8} (hr : Rd w X n b) (hn : n ≤ 1000000) (hx : 1 ≤ n) : Calls Try.prog 50 #[.slice X n c, .int .i64 1, .int .i64 6] w (Nums w (rn b 6 1)) := rnums_is w hr hn 1 hx 6 (by omega)
theorem rnums_4 {X : Option Addr} {n c : Nat} {b : List UInt8} (hr : Rd w X n b) (hn : n ≤ 1000000) (x0 : Nat) (hx : x0 ≤ n) : Calls Try.prog 50 #[.slice X n c, .int .i64 (x0 : Int), .int .i64 4] w (Nums w (rn b 4 x0)) := rnums_is w hr hn x0 hx 4 (by omega)
end
end Go.Proofs.Ytmiapegecoaccaa
