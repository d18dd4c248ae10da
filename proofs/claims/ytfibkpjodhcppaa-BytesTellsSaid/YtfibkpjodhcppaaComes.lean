import Derived.Test.YtfibkpjodhcppaaSeal
import Derived.Test.YtfibkpjodhcppaaTable
import Derived.Test.YtfibkpjodhcppaaGets
import Derived.Deep.RegionWith
namespace Go.Proofs.Ytfibkpjodhcppaa
open Go.RowKit Go.Coop

theorem getUint_any (A : Option Addr) (n c : Nat) (l : List UInt8) (x : Int) (w : World) (hr : Rd w A n l) (hn : n ≤ 140737488355328) (hc : n ≤ c) :
    Calls Try.prog 11 #[.slice A n c, .int .i64 x] w (Trip w (getU l x)) := by
  by_cases hx : 0 ≤ x ∧ x ≤ n
  · obtain ⟨m, rfl⟩ := Int.eq_ofNat_of_zero_le hx.1
    exact getUint_in A n c l m w hr hn (by omega) hc
  · have e : getU l x = (0, 0, 2) := by unfold getU; rw [if_neg (by rw [hr.len]; exact hx)]
    rw [e]
    exact getUint_out A n c x w hx

theorem uint_nil (n : Nat) (w : World) (h1 : n ≤ 18446744073709551615) : Calls Try.prog 13 #[.slice none 0 0, .int .u64 (n : Int)] w (Fresh w (dig n).length (dig n)) := by
  have h := uint_any none 0 0 [] n w (Rd.nil _ _) (by omega) (by omega) (by omega)
  simp only [Nat.zero_add, List.nil_append, Int.toNat_natCast] at h
  exact h

/-- a call that hands back a string and turns nothing that was there -/
def Str (w : World) (l : List UInt8) (e : Ending) (w' : World) : Prop := e = .returned (.string ⟨l.toArray⟩) ∧ Below w.heap.size w w'

set_option maxRecDepth 100000 in
theorem comes_err (s : ByteArray) (x : Int) (r : Nat × Nat × Nat) (w : World) (hs : s.size ≤ 1048576) (hu : getU s.data.toList x = r) (hok : SOk s.data.toList.length r) (he : r.2.2 ≠ 0) :
    Calls Try.prog 14 #[.string s, .int .i64 x] w (Str w ([101, 114, 114, 111, 114, 32] ++ dig r.2.2)) := by
  obtain ⟨r1, r2, r3⟩ := r
  obtain ⟨h1, h2, h3, h4⟩ := hok
  obtain ⟨h5, h6⟩ := h4 he
  simp only at h1 h2 h3 h5 h6 he
  subst h5 h6
  have HU := Lib.hid hu
  have hne : ((r3 : Int) != 0) = true := by simp; omega
  have hge := grownCap_ge w s.size 0 5
  have kc := fun (w : World) => Lib.run_convert_string_bytes (P := Try.prog) w 9 32 5 s Try.underlying9 Try.underlying32 Try.underlying5
  have HR := Lib.hid (rd_bytes w 5 s)
  have HB := Lib.hid (below_bytes w 5 s)
  clear hu h4 he
  go_enter Try.func14, Try.ntmps14
  go_wp2_with fail
  have hG := getUint_any _ _ (grownCap w s.size 0 5) _ x _ HR.out (by omega) hge
  rw [HU.out] at hG
  refine hG.mono ?_
  rintro e w' ⟨rfl, rfl⟩
  clear hG kc hge
  generalize Lib.bytesWorld w 5 s = w1 at *
  have hb1 := HB.out
  go_wp2_with (go_at_call 13; refine (uint_nil _ _ (by omega)).mono ?_; rintro e w2 ⟨A2, c2, rfl, ho2, hb2⟩; have kc := conv_str (P := Try.prog) Try.underlying32 Try.underlying5 Try.underlying9 ho2.rd c2; have hl := dig_length r3)
  go_ret
  exact ⟨congrArg (fun b => Ending.returned (Value.string b)) (ByteArray.mk_append_mk [101, 114, 114, 111, 114, 32] (dig r3)), hb1.trans (hb2.mono hb1.size)⟩

theorem join3 (a b : List UInt8) : (ByteArray.mk a.toArray ++ ByteArray.mk #[32] ++ ByteArray.mk b.toArray) = ByteArray.mk (a ++ [32] ++ b).toArray := by
  rw [show ByteArray.mk #[32] = ByteArray.mk [32].toArray from rfl, ByteArray.mk_append_mk, ByteArray.mk_append_mk]

set_option maxRecDepth 100000 in
theorem comes_num (s : ByteArray) (x : Int) (r1 r2 : Nat) (w : World) (hs : s.size ≤ 1048576) (hu : getU s.data.toList x = (r1, r2, 0)) (hok : SOk s.data.toList.length (r1, r2, 0)) :
    Calls Try.prog 14 #[.string s, .int .i64 x] w (Str w (dig r1 ++ [32] ++ dig r2)) := by
  obtain ⟨h1, h2, h3, h4⟩ := hok
  simp only at h1 h2
  have h2' : r2 ≤ 1048576 := by rw [Array.length_toList] at h2; have : s.data.size ≤ 1048576 := hs; omega
  have HU := Lib.hid hu
  have hge := grownCap_ge w s.size 0 5
  have kc := fun (w : World) => Lib.run_convert_string_bytes (P := Try.prog) w 9 32 5 s Try.underlying9 Try.underlying32 Try.underlying5
  have HR := Lib.hid (rd_bytes w 5 s)
  have HB := Lib.hid (below_bytes w 5 s)
  clear hu h4 h3 h2
  go_enter Try.func14, Try.ntmps14
  go_wp2_with fail
  have hG := getUint_any _ _ (grownCap w s.size 0 5) _ x _ HR.out (by omega) hge
  rw [HU.out] at hG
  refine hG.mono ?_
  rintro e w' ⟨rfl, rfl⟩
  clear hG kc hge
  generalize Lib.bytesWorld w 5 s = w1 at *
  have hb1 := HB.out
  have hl1 := dig_length r1
  have hl2 := dig_length r2
  go_wp2_with fail
  have hw2 : IntKind.u64.wrap (r2 : Int) = (r2 : Int) := by rw [IntKind.wrap_u64]; omega
  go_region_with (first
    | (go_at_call 13; (with_reducible refine (uint_nil r1 _ (by omega)).mono ?_); rintro e w2 ⟨A2, c2, rfl, ho2, hb2⟩; have kc1 := conv_str (P := Try.prog) Try.underlying32 Try.underlying5 Try.underlying9 ho2.rd c2)
    | (go_at_call 13; (with_reducible refine (uint_nil r2 _ (by omega)).mono ?_); rintro e w3 ⟨A3, c3, rfl, ho3, hb3⟩; have kc2 := conv_str (P := Try.prog) Try.underlying32 Try.underlying5 Try.underlying9 ho3.rd c3; have kc3 := conv_str (P := Try.prog) Try.underlying32 Try.underlying5 Try.underlying9 (ho2.rd.below hb3 (Nat.le_refl _)) c2))
  all_goals (try go_wp2)
  all_goals go_ret
  all_goals exact ⟨congrArg (fun b => Ending.returned (Value.string b)) (join3 (dig r1) (dig r2)), hb1.drew.trans ((hb2.trans (hb3.mono hb2.size)).mono hb1.size)⟩

theorem comes_any (s : ByteArray) (x : Int) (w : World) (hs : s.size ≤ 1048576) : Calls Try.prog 14 #[.string s, .int .i64 x] w (Str w (comesF s.data.toList x)) := by
  have hok := getU_ok s.data.toList x
  unfold comesF
  by_cases he : (getU s.data.toList x).2.2 = 0
  · rw [if_pos he]
    have e : getU s.data.toList x = ((getU s.data.toList x).1, (getU s.data.toList x).2.1, 0) := by rw [← he]
    exact comes_num s x _ _ w hs e (by rw [← e]; exact hok)
  · rw [if_neg he]
    exact comes_err s x _ w hs rfl hok he
end Go.Proofs.Ytfibkpjodhcppaa
