import Derived.Test.YtmiapegecoaccaaByt
import Derived.Test.YtmiapegecoaccaaGets
namespace Go.Proofs.Ytmiapegecoaccaa
open Go.RowKit Go.Coop

/-- What a call hands back that makes bytes which are only read. -/
def Given (w : World) (n : Nat) (l : List UInt8) (e : Ending) (w' : World) : Prop :=
  ∃ A c, e = .returned (.slice A n c) ∧ Rd w' A n l ∧ Below w.heap.size w w'

set_option maxRecDepth 100000 in
theorem varint_any (x : Int) (w : World) (h0 : 0 ≤ x) (h1 : x ≤ 18446744073709551615) :
    Calls Try.prog 68 #[.int .u64 x] w (Fresh w (dig x.toNat).length (dig x.toNat)) := by
  obtain ⟨n, rfl⟩ := Int.eq_ofNat_of_zero_le h0
  go_enter Try.func68, Try.ntmps68
  go_wp2
  go_loopw [0, 3] (fun v0 v3 wr => ∃ (k m j : Nat) (A : Option Addr) (c : Nat) (d : List UInt8), v0 = .int .u64 (m : Int) ∧ v3 = .slice A j c ∧ j + k ≤ 9 ∧ Own wr w.heap.size 5 A j c d ∧ Below w.heap.size w wr ∧ DRel n k m d)
    (fun v0 _ _ => (intOf v0).toNat)
  case atStart => exact ⟨9, n, 0, none, 0, [], rfl, rfl, by omega, Own.nil _ _ _, Below.refl _ _, DRel.start (by omega)⟩
  case round =>
    obtain ⟨k, m, j, A, c, d, rfl, rfl, hjk, hown, hbel, hrel⟩ := hrel
    have hm := hrel.small
    have hbs := hbel.size
    by_cases hge : 128 ≤ m
    · obtain ⟨k', rfl, hst⟩ := hrel.step hge
      clear hrel
      go_wp2_with (at_builtin; refine wpList_app _ rfl (.tmp 11) (.tmp 16) _ rfl w.heap.size 5 Try.underlying23 info5 rfl (hown.alloc _) rfl (Rd.one wr _ (by omega) (by omega) 5 _) (by omega) (by simp; omega) (j + 1) rfl ?_; intro A' c' w' ho hg hat)
      go_roundw
      case rel => 
        refine ⟨k', m / 128, j + 1, A', c', _, by go_num, rfl, by omega, ho, ?_, ?_⟩
        · exact (hbel.alloc hbs _).grown hg (by simp; omega) (fun k hk => (hown.block k hk).1)
        · have e : ((m : Int) % 128 + 128).toNat = m % 128 + 128 := by omega
          rw [e]; exact hst
      case measure => simp [intOf]; omega
    · go_wp2_with (at_builtin; refine wpList_app _ rfl (.tmp 6) (.tmp 9) _ rfl w.heap.size 5 Try.underlying23 info5 rfl (hown.alloc _) rfl (Rd.one wr _ (by omega) (by omega) 5 _) (by omega) (by simp; omega) (j + 1) rfl ?_; intro A' c' w' ho hg hat)
      go_ret
      have e := hrel.done (by omega)
      rw [e]
      have hl := hown.len
      refine ⟨A', c', ?_, ?_, (hbel.alloc hbs _).grown hg (by simp; omega) (fun k hk => (hown.block k hk).1)⟩
      · simp [hl]
      · simpa [hl] using ho

theorem varint_nat (x : Nat) (w : World) (h1 : x ≤ 18446744073709551615) : Calls Try.prog 68 #[.int .u64 (x : Int)] w (Fresh w (dig x).length (dig x)) := varint_any x w (by omega) (by omega)

theorem joined_eq (A : Option Addr) (n c : Nat) (l : List UInt8) (B : Option Addr) (m d : Nat) (k : List UInt8) (w : World) (ha : Rd w A n l) (hb : Rd w B m k) (hn : n + m ≤ 140737488355328) :
    Calls Try.prog 60 #[.slice A n c, .slice B m d] w fun e w' => ∃ A c, e = .returned (.slice A (n + m) c) ∧ Rd w' A (n + m) (l ++ k) ∧ n + m ≤ c ∧ (∀ j, A.map (·.block) = some j → w.heap.size ≤ j) ∧ Below w.heap.size w w' := by
  have k1 := conv_str (P := Try.prog) Try.underlying23 Try.underlying5 Try.underlying9 ha c
  have k2 := conv_str (P := Try.prog) Try.underlying23 Try.underlying5 Try.underlying9 hb d
  have hs : ByteArray.mk l.toArray ++ ByteArray.mk k.toArray = ByteArray.mk (l ++ k).toArray := ByteArray.mk_append_mk l k
  have hz : (ByteArray.mk (l ++ k).toArray).size = n + m := by
    have h1 := ha.len
    have h2 := hb.len
    show (l ++ k).toArray.size = n + m
    simp [h1, h2]
  have kc := fun (w : World) => Lib.run_convert_string_bytes (P := Try.prog) w 9 23 5 (ByteArray.mk (l ++ k).toArray) Try.underlying9 Try.underlying23 Try.underlying5
  have HR := Lib.hid (rd_bytes w 5 (ByteArray.mk (l ++ k).toArray))
  have HB := Lib.hid (below_bytes w 5 (ByteArray.mk (l ++ k).toArray))
  have hle : l.length + k.length ≤ 140737488355328 := by rw [ha.len, hb.len]; exact hn
  have HZ := Lib.hid (And.intro ha.len hb.len)
  have HY := Lib.hid hz
  clear hz ha hb hn
  go_enter Try.func60, Try.ntmps60
  go_wp2
  go_ret
  have h := HR.out
  rw [HY.out] at h
  refine ⟨some ⟨w.heap.size, 0, none⟩, _, by rw [HZ.out.1, HZ.out.2]; rfl, h, grownCap_ge _ _ _ _, fun j hj => ?_, HB.out⟩
  cases hj
  exact Nat.le_refl _
theorem joined_any (A : Option Addr) (n c : Nat) (l : List UInt8) (B : Option Addr) (m d : Nat) (k : List UInt8) (w : World) (ha : Rd w A n l) (hb : Rd w B m k) (hn : n + m ≤ 140737488355328) :
    Calls Try.prog 60 #[.slice A n c, .slice B m d] w (Given w (n + m) (l ++ k)) :=
  (joined_eq A n c l B m d k w ha hb hn).mono fun e w' ⟨A, c, h1, h2, _, _, h3⟩ => ⟨A, c, h1, h2, h3⟩

theorem Given.keep {w w' : World} {n : Nat} {l : List UInt8} (h : Below w.heap.size w w') : ∀ e w'', Given w' n l e w'' → Given w n l e w'' := by
  rintro e w'' ⟨A, c, rfl, hr, hb⟩
  exact ⟨A, c, rfl, hr, h.trans (hb.mono h.size)⟩

theorem ruint_any (A : Option Addr) (n c : Nat) (l : List UInt8) (x : Nat) (w : World) (ha : Rd w A n l) (hn : n ≤ 1048576) (h1 : x ≤ 18446744073709551615) :
    Calls Try.prog 67 #[.slice A n c, .int .u64 (x : Int)] w (Given w (n + (dig x).length) (l ++ dig x)) := by
  go_enter Try.func67, Try.ntmps67
  go_wp2_with (first
    | (go_at_call 68; refine (varint_nat _ _ h1).mono ?_; rintro e w1 ⟨A1, c1, rfl, ho1, hb1⟩)
    | (go_at_call 60; refine (joined_any _ _ _ _ _ _ _ _ _ (ha.below hb1 (Nat.le_refl _)) ho1.rd (by have := dig_length x; omega)).mono ?_; rintro e w2 ⟨A2, c2, rfl, hr2, hb2⟩))
  go_ret
  exact ⟨A2, c2, rfl, hr2, hb1.trans (hb2.mono hb1.size)⟩

theorem rblob_any (A : Option Addr) (n c : Nat) (l : List UInt8) (B : Option Addr) (m d : Nat) (k : List UInt8) (w : World) (ha : Rd w A n l) (hb : Rd w B m k) (hn : n ≤ 1048576) (hm : m ≤ 1048576) :
    Calls Try.prog 62 #[.slice A n c, .slice B m d] w (Given w (n + (dig m).length + m) (l ++ dig m ++ k)) := by
  go_enter Try.func62, Try.ntmps62
  go_wp2_with (first
    | (go_at_call 67; refine (ruint_any _ _ _ _ _ _ ha hn (by omega)).mono ?_; rintro e w1 ⟨A1, c1, rfl, hr1, hb1⟩)
    | (go_at_call 60; refine (joined_any _ _ _ _ _ _ _ _ _ hr1 (hb.below hb1 (Nat.le_refl _)) (by have := dig_length m; omega)).mono ?_; rintro e w2 ⟨A2, c2, rfl, hr2, hb2⟩))
  go_ret
  exact ⟨A2, c2, rfl, hr2, hb1.trans (hb2.mono hb1.size)⟩
end Go.Proofs.Ytmiapegecoaccaa
