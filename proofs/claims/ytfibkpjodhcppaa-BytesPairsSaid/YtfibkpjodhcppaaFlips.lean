import Derived.Test.YtfibkpjodhcppaaMakes
import Derived.Test.YtfibkpjodhcppaaVals
import Derived.Test.YtfibkpjodhcppaaTurn
import Derived.Deep.RegionHeld3
import Derived.BigRegion
import Derived.RegionTactic
namespace Go.Proofs.Ytfibkpjodhcppaa
open Go.RowKit Go.Coop

def V16 (x : Nat) : Value := .int .u16 (x : Int)
set_option maxHeartbeats 1000000 in
set_option maxRecDepth 100000 in
theorem turned_any (A : Option Addr) (n c : Nat) (l : List UInt8) (F : Option Addr) (m d : Nat) (ks : List Nat) (w : World) (hr : Rd w A n l) (hf : RdV w F m (ks.map V16)) (h16 : ∀ k ∈ ks, k < 65536) (hn0 : 0 < n) (hn : n ≤ 1048576) (hm : m ≤ 1048576) :
    Calls Try.prog 33 #[.slice A n c, .slice F m d] w (Fresh w n (turnF l ks)) := by
  have HR := Lib.hid hr
  have HF := Lib.hid hf
  have H16 := Lib.hid h16
  clear hr hf h16
  go_enter Try.func33, Try.ntmps33
  go_wp2_with fail
  refine (copy_any A n c l w HR.out (by omega)).mono ?_
  rintro e w1 ⟨A2, c2, rfl, ho2, hb2⟩
  obtain ⟨g, rfl, hg1, hg2, hg3⟩ := ho2.addr hn0
  clear hg3
  go_wp2
  go_loopw [13] (fun i wr => ∃ (j : Nat) (l' : List UInt8), j ≤ m ∧ i = .int .i64 j ∧ Own wr w.heap.size 5 (some ⟨g, 0, none⟩) n c2 l' ∧ Below w.heap.size w wr ∧ Hid (l' = turnF l (ks.take j))) (fun i _ => m - (intOf i).toNat)
  case atStart => exact ⟨0, l, by omega, rfl, ho2, hb2, rfl⟩
  case round =>
    obtain ⟨j, l', hj, rfl, hown, hbel, HE⟩ := hrel
    by_cases hlt : j < m
    · obtain ⟨ad, v, rfl, hab, hv, hcell⟩ := (HF.out.below hbel (Nat.le_refl _)).at_ hlt
      obtain ⟨k, hk, rfl⟩ : ∃ k, ks[j]? = some k ∧ v = V16 k := by
        simp only [List.getElem?_map, Option.map_eq_some_iff] at hv
        obtain ⟨k, hk, e⟩ := hv
        exact ⟨k, hk, e.symm⟩
      have hk16 := H16.out k (List.mem_of_getElem? hk)
      unfold V16 at hcell
      have HK := Lib.hid hk
      have HO := Lib.hid hown
      have HB := Lib.hid hbel
      clear hk hv hown hbel ho2 hb2
      go_wp2
      have hi : (k : Int) % (8 * (n : Int)) = ((k % (8 * n) : Nat) : Int) := by push_cast; rfl
      rw [hi]
      have hi8 : k % (8 * n) < 8 * n := Nat.mod_lt _ (by omega)
      clear hi
      obtain ⟨i, hie⟩ : ∃ i, k % (8 * n) = i := ⟨_, rfl⟩
      rw [hie] at hi8 ⊢
      have HI := Lib.hid hie
      obtain ⟨p, hp⟩ : ∃ p, p = n - 1 - i / 8 := ⟨_, rfl⟩
      have hpn : p < n := by omega
      obtain ⟨g', cy, e', _, hcy, hcell2⟩ := HO.out.rd.at_ hpn
      injection e' with e'
      subst e'
      have hcell3 : wr.cell? ⟨g, p, none⟩ = some (.int .u8 (cy.toNat : Int)) := by
        have hadd : (⟨g, 0, none⟩ : Addr).add p = ⟨g, p, none⟩ := by unfold Addr.add; split <;> simp_all
        rw [hadd] at hcell2; exact hcell2
      have hfz : wr.frozen? ⟨g, p, none⟩ = false := by
        obtain ⟨g2, e2, _, _, h2⟩ := HO.out.addr hn0
        injection e2 with e2
        injection e2 with e2
        subst e2
        exact h2 p
      have e1 : IntKind.i64.wrap ((n : Int) - 1) = (n : Int) - 1 := by rw [IntKind.wrap_i64]; omega
      have e3 : (n : Int) - 1 - (i : Int) / 8 = (p : Int) := by omega
      have hpp : (0 : Int) ≤ p := by omega
      have hpn' : (p : Int) < n := by omega
      have HP := Lib.hid hp
      have HC := Lib.hid hcy
      have hx := cy.toNat_lt
      obtain ⟨xb, hxb⟩ : ∃ xb, cy.toNat = xb := ⟨_, rfl⟩
      rw [hxb] at hx hcell3
      have HX := Lib.hid hxb
      clear hxb
      clear hie hp hcell2 hcy hcell hk16
      go_region
      go_wp2
      go_roundw
      case rel =>
        refine ⟨j + 1, flip1 l' i, by omega, by go_num, ?_, ?_, ?_⟩
        · have hv : Value.int IntKind.u8 (bits BinOp.xor IntKind.u8 (xb : Int) (2 ^ (i % 8) % 256)) = BV (l'.getD p 0 ^^^ UInt8.ofNat (2 ^ (i % 8))) := by
            rw [List.getD_eq_getElem?_getD, HC.out]
            have e := u8_xor_nat xb (2 ^ (i % 8) % 256) hx (Nat.mod_lt _ (by omega))
            unfold BV
            rw [Option.getD_some, UInt8.toNat_xor, HX.out, UInt8.toNat_ofNat']
            have e2 : ((2 : Int) ^ (i % 8) % 256) = ((2 ^ (i % 8) % 256 : Nat) : Int) := by push_cast; rfl
            rw [e2, e]
          rw [hv]
          have := (HO.out.set rfl (k := p) (l'.getD p 0 ^^^ UInt8.ofNat (2 ^ (i % 8)))).drew
          unfold flip1
          rw [HO.out.len, ← HP.out]
          exact this
        · exact (HB.out.setCell (by exact hg1) _).drew
        · show flip1 l' i = _
          rw [List.take_add_one, HK.out]
          unfold turnF
          rw [List.foldl_append]
          have := HE.out
          unfold turnF at this
          rw [← this]
          simp only [Option.toList_some, List.foldl_cons, List.foldl_nil]
          rw [HO.out.len, HI.out]
      case measure => simp [intOf]; omega
    · go_wp2
      go_ret
      obtain rfl : j = m := by omega
      have e : ks.take j = ks := List.take_of_length_le (by have := HF.out.len; simp at this; omega)
      have := HE.out
      rw [e] at this
      exact ⟨_, c2, rfl, by rw [← this]; exact hown, hbel⟩
end Go.Proofs.Ytfibkpjodhcppaa
