import Derived.Test.YtfibkpjodhcppaaMakes
import Derived.Test.YtfibkpjodhcppaaEntry
import Derived.Test.YtfibkpjodhcppaaComes
namespace Go.Proofs.Ytfibkpjodhcppaa
open Go.RowKit Go.Coop

/-- What a call hands back that makes bytes which are only read. -/
def Given (w : World) (n : Nat) (l : List UInt8) (e : Ending) (w' : World) : Prop :=
  ∃ A c, e = .returned (.slice A n c) ∧ Rd w' A n l ∧ Below w.heap.size w w'

set_option maxRecDepth 100000 in
theorem varint_any (x : Int) (w : World) (h0 : 0 ≤ x) (h1 : x ≤ 18446744073709551615) :
    Calls Try.prog 42 #[.int .u64 x] w (Fresh w (dig x.toNat).length (dig x.toNat)) := by
  obtain ⟨n, rfl⟩ := Int.eq_ofNat_of_zero_le h0
  go_enter Try.func42, Try.ntmps42
  go_wp2
  go_loopw [0, 3] (fun v0 v3 wr => ∃ (k m j : Nat) (A : Option Addr) (c : Nat) (d : List UInt8), v0 = .int .u64 (m : Int) ∧ v3 = .slice A j c ∧ j + k ≤ 9 ∧ Own wr w.heap.size 5 A j c d ∧ Below w.heap.size w wr ∧ DRel n k m d)
    (fun v0 _ _ => (intOf v0).toNat)
  case atStart => exact ⟨9, n, 0, none, 0, [], rfl, rfl, by omega, Own.nil _ _ _, Below.refl _ _, DRel.start (by omega)⟩
  case round =>
    obtain ⟨k, m, j, A, c, d, rfl, rfl, hjk, hown, hbel, hrel⟩ := hrel
    have hm := hrel.small
    have hbs := hbel.size
    by_cases hge : 128 ≤ m
    · obtain ⟨k', rfl, hst⟩ := hrel.step hge
      clear hrel
      go_wp2_with (at_builtin; refine wpList_app _ rfl (.tmp 11) (.tmp 16) _ rfl w.heap.size 5 Try.underlying32 info5 rfl (hown.alloc _) rfl (Rd.one wr _ (by omega) (by omega) 5 _) (by omega) (by simp; omega) (j + 1) rfl ?_; intro A' c' w' ho hg hat)
      go_roundw
      case rel => 
        refine ⟨k', m / 128, j + 1, A', c', _, by go_num, rfl, by omega, ho, ?_, ?_⟩
        · exact (hbel.alloc hbs _).grown hg (by simp; omega) (fun k hk => (hown.block k hk).1)
        · have e : ((m : Int) % 128 + 128).toNat = m % 128 + 128 := by omega
          rw [e]; exact hst
      case measure => simp [intOf]; omega
    · go_wp2_with (at_builtin; refine wpList_app _ rfl (.tmp 6) (.tmp 9) _ rfl w.heap.size 5 Try.underlying32 info5 rfl (hown.alloc _) rfl (Rd.one wr _ (by omega) (by omega) 5 _) (by omega) (by simp; omega) (j + 1) rfl ?_; intro A' c' w' ho hg hat)
      go_ret
      have e := hrel.done (by omega)
      rw [e]
      have hl := hown.len
      refine ⟨A', c', ?_, ?_, (hbel.alloc hbs _).grown hg (by simp; omega) (fun k hk => (hown.block k hk).1)⟩
      · simp [hl]
      · simpa [hl] using ho

theorem varint_nat (x : Nat) (w : World) (h1 : x ≤ 18446744073709551615) : Calls Try.prog 42 #[.int .u64 (x : Int)] w (Fresh w (dig x).length (dig x)) := varint_any x w (by omega) (by omega)

theorem joined_any (A : Option Addr) (n c : Nat) (l : List UInt8) (B : Option Addr) (m d : Nat) (k : List UInt8) (w : World) (ha : Rd w A n l) (hb : Rd w B m k) (hn : n + m ≤ 140737488355328) :
    Calls Try.prog 41 #[.slice A n c, .slice B m d] w (Given w (n + m) (l ++ k)) := by
  have k1 := conv_str (P := Try.prog) Try.underlying32 Try.underlying5 Try.underlying9 ha c
  have k2 := conv_str (P := Try.prog) Try.underlying32 Try.underlying5 Try.underlying9 hb d
  have hs : ByteArray.mk l.toArray ++ ByteArray.mk k.toArray = ByteArray.mk (l ++ k).toArray := ByteArray.mk_append_mk l k
  have hz : (ByteArray.mk (l ++ k).toArray).size = n + m := by
    have h1 := ha.len
    have h2 := hb.len
    show (l ++ k).toArray.size = n + m
    simp [h1, h2]
  have kc := fun (w : World) => Lib.run_convert_string_bytes (P := Try.prog) w 9 32 5 (ByteArray.mk (l ++ k).toArray) Try.underlying9 Try.underlying32 Try.underlying5
  have HR := Lib.hid (rd_bytes w 5 (ByteArray.mk (l ++ k).toArray))
  have HB := Lib.hid (below_bytes w 5 (ByteArray.mk (l ++ k).toArray))
  have hle : l.length + k.length ≤ 140737488355328 := by rw [ha.len, hb.len]; exact hn
  have HZ := Lib.hid (And.intro ha.len hb.len)
  have HY := Lib.hid hz
  clear hz ha hb hn
  go_enter Try.func41, Try.ntmps41
  go_wp2
  go_ret
  have h := HR.out
  rw [HY.out] at h
  exact ⟨_, _, by rw [HZ.out.1, HZ.out.2]; rfl, h, HB.out⟩

theorem Given.keep {w w' : World} {n : Nat} {l : List UInt8} (h : Below w.heap.size w w') : ∀ e w'', Given w' n l e w'' → Given w n l e w'' := by
  rintro e w'' ⟨A, c, rfl, hr, hb⟩
  exact ⟨A, c, rfl, hr, h.trans (hb.mono h.size)⟩

theorem ruint_any (A : Option Addr) (n c : Nat) (l : List UInt8) (x : Nat) (w : World) (ha : Rd w A n l) (hn : n ≤ 1048576) (h1 : x ≤ 18446744073709551615) :
    Calls Try.prog 22 #[.slice A n c, .int .u64 (x : Int)] w (Given w (n + (dig x).length) (l ++ dig x)) := by
  go_enter Try.func22, Try.ntmps22
  go_wp2_with (first
    | (go_at_call 42; refine (varint_nat _ _ h1).mono ?_; rintro e w1 ⟨A1, c1, rfl, ho1, hb1⟩)
    | (go_at_call 41; refine (joined_any _ _ _ _ _ _ _ _ _ (ha.below hb1 (Nat.le_refl _)) ho1.rd (by have := dig_length x; omega)).mono ?_; rintro e w2 ⟨A2, c2, rfl, hr2, hb2⟩))
  go_ret
  exact ⟨A2, c2, rfl, hr2, hb1.trans (hb2.mono hb1.size)⟩

theorem rblob_any (A : Option Addr) (n c : Nat) (l : List UInt8) (B : Option Addr) (m d : Nat) (k : List UInt8) (w : World) (ha : Rd w A n l) (hb : Rd w B m k) (hn : n ≤ 1048576) (hm : m ≤ 1048576) :
    Calls Try.prog 24 #[.slice A n c, .slice B m d] w (Given w (n + (dig m).length + m) (l ++ dig m ++ k)) := by
  go_enter Try.func24, Try.ntmps24
  go_wp2_with (first
    | (go_at_call 22; refine (ruint_any _ _ _ _ _ _ ha hn (by omega)).mono ?_; rintro e w1 ⟨A1, c1, rfl, hr1, hb1⟩)
    | (go_at_call 41; refine (joined_any _ _ _ _ _ _ _ _ _ hr1 (hb.below hb1 (Nat.le_refl _)) (by have := dig_length m; omega)).mono ?_; rintro e w2 ⟨A2, c2, rfl, hr2, hb2⟩))
  go_ret
  exact ⟨A2, c2, rfl, hr2, hb1.trans (hb2.mono hb1.size)⟩
end Go.Proofs.Ytfibkpjodhcppaa
