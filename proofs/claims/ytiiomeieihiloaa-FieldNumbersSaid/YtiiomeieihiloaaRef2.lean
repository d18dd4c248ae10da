import Derived.Test.YtiiomeieihiloaaRef
namespace Go.Proofs.Ytiiomeieihiloaa
open Go.RowKit Go.Coop

/-- by squares -/
theorem rpow_low (a n : Int) (w : World) (hn : n ≤ 0) : Calls Try.prog 24 #[.int .u8 a, .int .i64 n] w fun e w' => e = .returned (.int .u8 1) ∧ w = w' := by
  go_enter Try.func24, Try.ntmps24
  go_wp2
  go_loop [0, 1, 5] (fun v0 v1 v5 => v0 = .int .u8 a ∧ v1 = .int .i64 n ∧ v5 = .int .u8 1) (fun _ _ _ => 0)
  case atStart => exact ⟨rfl, rfl, rfl⟩
  case round =>
    obtain ⟨rfl, rfl, rfl⟩ := hrel
    go_wp2
    go_ret
    exact ⟨rfl, rfl⟩
set_option maxRecDepth 100000 in
theorem rpow_any (a n : Nat) (w : World) (ha : a < 256) (hn : n ≤ 9223372036854775807) : Calls Try.prog 24 #[.int .u8 (a : Int), .int .i64 (n : Int)] w fun e w' => e = .returned (.int .u8 (pw a n : Int)) ∧ w = w' := by
  go_enter Try.func24, Try.ntmps24
  go_wp2
  go_loop [0, 1, 5] (fun v0 v1 v5 => ∃ b k x : Nat, b < 256 ∧ k ≤ n ∧ x < 256 ∧ v0 = .int .u8 (b : Int) ∧ v1 = .int .i64 (k : Int) ∧ v5 = .int .u8 (x : Int) ∧ Hid (mul x (pw b k) = pw a n)) (fun _ v1 _ => (intOf v1).toNat)
  case atStart => exact ⟨a, n, 1, ha, Nat.le_refl _, by omega, rfl, rfl, rfl, by show mul 1 (pw a n) = _; rw [mul_comm, mul_one _ (pw_lt a n)]⟩
  case round =>
    obtain ⟨b, k, x, hb, hk, hx, rfl, rfl, rfl, HE⟩ := hrel
    by_cases h0 : 0 < k
    · have HB := Lib.hid (pw_dbl b (k / 2))
      by_cases hs : k % 2 = 1
      · have hq : ((k : Int) % 2 == 1) = true := beq_iff_eq.2 (by omega)
        have H1 : Hid (mul (mul x b) (pw (mul b b) (k / 2)) = pw a n) := by
          show _ = _
          rw [HB.out, mul_assoc, mul_comm b, ← HE.out]
          show mul x (pw b (2 * (k / 2) + 1)) = _
          rw [show 2 * (k / 2) + 1 = k from by omega]
        clear hs
        go_wp2_with fail
        refine (rmul_any x b _ hx hb).mono ?_
        rintro e w' ⟨rfl, rfl⟩
        go_wp2_with fail
        refine (rmul_any b b _ hb hb).mono ?_
        rintro e w' ⟨rfl, rfl⟩
        go_wp2
        go_round
        case rel => exact ⟨mul b b, k / 2, mul x b, mul_lt _ _, by omega, mul_lt _ _, rfl, by go_num, rfl, H1.out⟩
        case measure => simp [intOf]; omega
      · have hq : ((k : Int) % 2 == 1) = false := beq_eq_false_iff_ne.2 (by omega)
        have H1 : Hid (mul x (pw (mul b b) (k / 2)) = pw a n) := by
          show _ = _
          rw [HB.out, show 2 * (k / 2) = k from by omega]
          exact HE.out
        clear hs
        go_wp2_with (go_at_call 12; refine (rmul_any b b _ hb hb).mono ?_; rintro e w' ⟨rfl, rfl⟩)
        go_round
        case rel => exact ⟨mul b b, k / 2, x, mul_lt _ _, by omega, hx, rfl, by go_num, rfl, H1.out⟩
        case measure => simp [intOf]; omega
    · obtain rfl : k = 0 := by omega
      go_wp2
      go_ret
      refine ⟨ret_int ?_, rfl⟩
      rw [← HE.out]
      show (x : Int) = (mul x 1 : Nat)
      rw [mul_one x hx]

theorem rmul_q (a b : Nat) (w : World) (ha : a < 256) (hb : b < 256) (n : Nat) : Calls Try.prog 12 #[.int .u8 (a : Int), .int .u8 (b : Int)] (w.drewN n) fun e w'' => e = .returned (.int .u8 (mul a b : Int)) ∧ ∃ m, w'' = w.drewN m :=
  (rmul_any a b (w.drewN n) ha hb).mono fun _ _ ⟨he, hw⟩ => ⟨he, n, hw.symm⟩

set_option maxRecDepth 100000 in
theorem rdot_any (A : Option Addr) (n c : Nat) (la : List UInt8) (B : Option Addr) (m d : Nat) (lb : List UInt8) (w : World) (ha : Rd w A n la) (hb : Rd w B m lb) (hn : n ≤ 140737488355328) :
    Calls Try.prog 25 #[.slice A n c, .slice B m d] w (Still w (.int .u8 (dot la lb : Int))) := by
  have HA := Lib.hid ha
  have HB := Lib.hid hb
  clear ha hb
  go_enter Try.func25, Try.ntmps25
  go_wp2
  go_loopw [5, 6] (fun v i wr => ∃ (k S q : Nat), k ≤ n ∧ i = .int .i64 k ∧ v = .int .u8 (S : Int) ∧ S < 256 ∧ Hid (S = dotZ ((la.zip lb).take k)) ∧ wr = w.drewN q) (fun _ i _ => n - (intOf i).toNat)
  case atStart => exact ⟨0, 0, 0, by omega, rfl, rfl, by omega, rfl, rfl⟩
  case round =>
    obtain ⟨k, S, q, hk, rfl, rfl, hS, HS, hq⟩ := hrel
    have HQ := Lib.hid hq
    clear hq
    by_cases hlt : k < n ∧ k < m
    · obtain ⟨hkn', hkm'⟩ := hlt
      obtain ⟨ad, x, rfl, _, hx, hcx⟩ := (show Rd wr A n la by rw [HQ.out]; exact HA.out.drewN q).at_ (k := k) (by omega)
      obtain ⟨bd, y, rfl, _, hy, hcy⟩ := (show Rd wr B m lb by rw [HQ.out]; exact HB.out.drewN q).at_ (k := k) (by omega)
      have HZ := Lib.hid (zip_snoc hx hy)
      unfold BV at hcx hcy
      have hx' := x.toNat_lt
      have hy' := y.toNat_lt
      clear hx hy
      obtain ⟨X, hX⟩ : ∃ X, x.toNat = X := ⟨_, rfl⟩
      obtain ⟨Y, hY⟩ : ∃ Y, y.toNat = Y := ⟨_, rfl⟩
      rw [hX] at hcx hx'
      rw [hY] at hcy hy'
      have HX := Lib.hid hX
      have HY := Lib.hid hY
      clear hX hY
      have hkn : (k : Int) < n := by omega
      have hkm : (k : Int) < m := by omega
      have hk0 : (0 : Int) ≤ k := by omega
      have KM := Lib.hid (rmul_q X Y wr hx' hy')
      have hxor := u8_xor_nat S (mul X Y) hS (mul_lt _ _)
      go_wp2_with fail
      go_quiet ((go_at_call 12; exact KM.out _))
      go_wp2
      go_roundw
      case rel =>
        exact ⟨k + 1, S ^^^ mul X Y, _, by omega, by go_num, rfl, xor_lt _ _ hS (mul_lt _ _), by show _ = _; rw [HZ.out, dotZ_snoc, ← HS.out, HX.out, HY.out], by rw [HQ.out, World.drewN_drewN]⟩
      case measure => simp [intOf]; omega
    · have H4 : Hid (n ≤ k ∨ m ≤ k) := by show _ ∨ _; omega
      by_cases hkn : k < n
      · have hb1 : decide (k < m) = false := by simp; omega
        clear hlt
        go_wp2
        go_ret
        refine ⟨ret_int ?_, q, HQ.out⟩
        have hz : (la.zip lb).take k = la.zip lb := List.take_of_length_le (by rw [List.length_zip, HA.out.len, HB.out.len]; have := H4.out; omega)
        rw [HS.out, hz]
        rfl
      · clear hlt
        go_wp2
        go_ret
        refine ⟨ret_int ?_, q, HQ.out⟩
        have hz : (la.zip lb).take k = la.zip lb := List.take_of_length_le (by rw [List.length_zip, HA.out.len, HB.out.len]; have := H4.out; omega)
        rw [HS.out, hz]
        rfl

theorem lay_snoc {c : Nat} {l k : List UInt8} {i : Nat} {o x : UInt8} (ho : l[i]? = some o) (hx : k[i]? = some x) : (lay c l k).take (i + 1) = (lay c l k).take i ++ [lay1 c o x] := by
  rw [List.take_add_one, lay_at, ho, hx]; rfl
theorem lay_snoc' {c : Nat} {l k : List UInt8} {i : Nat} {o : UInt8} (ho : l[i]? = some o) (hx : k.length ≤ i) : (lay c l k).take (i + 1) = (lay c l k).take i ++ [o] := by
  rw [List.take_add_one, lay_here _ _ _ _ hx, ho]; rfl

set_option maxRecDepth 100000 in
theorem rlay_any (A : Option Addr) (n ca : Nat) (lo : List UInt8) (c : Nat) (B : Option Addr) (m d : Nat) (lx : List UInt8) (w : World) (ha : Rd w A n lo) (hb : Rd w B m lx) (hc : c < 256) (hn : n ≤ 140737488355320) :
    Calls Try.prog 27 #[.slice A n ca, .int .u8 (c : Int), .slice B m d] w (Fresh w n (lay c lo lx)) := by
  have HA := Lib.hid ha
  have HB := Lib.hid hb
  clear ha hb
  go_enter Try.func27, Try.ntmps27
  go_wp2
  go_loopw [7, 8] (fun v i wr => ∃ (k : Nat) (A' : Option Addr) (c' : Nat) (l' : List UInt8), k ≤ n ∧ i = .int .i64 k ∧ v = .slice A' k c' ∧ Own wr w.heap.size 5 A' k c' l' ∧ Below w.heap.size w wr ∧ Hid (l' = (lay c lo lx).take k)) (fun _ i _ => n - (intOf i).toNat)
  case atStart => exact ⟨0, none, 0, [], by omega, rfl, rfl, Own.nil _ _ _, Below.refl _ _, by show [] = _; rw [List.take_zero]⟩
  case round =>
    obtain ⟨k, A', c', l', hk, rfl, rfl, hown, hbel, HE⟩ := hrel
    have hbs := hbel.size
    by_cases hlt : k < n
    · obtain ⟨ad, o, rfl, _, ho, hco⟩ := (HA.out.below hbel (Nat.le_refl _)).at_ (k := k) (by omega)
      unfold BV at hco
      have ho' := o.toNat_lt
      obtain ⟨O, hO⟩ : ∃ O, o.toNat = O := ⟨_, rfl⟩
      rw [hO] at hco ho'
      have HO := Lib.hid hO
      have HLO := Lib.hid ho
      clear hO ho
      by_cases hkm : k < m
      · obtain ⟨bd, x, rfl, _, hx, hcx⟩ := (HB.out.below hbel (Nat.le_refl _)).at_ (k := k) (by omega)
        unfold BV at hcx
        have hx' := x.toNat_lt
        obtain ⟨X, hX⟩ : ∃ X, x.toNat = X := ⟨_, rfl⟩
        rw [hX] at hcx hx'
        have HX := Lib.hid hX
        have HS := Lib.hid (lay_snoc (c := c) HLO.out hx)
        clear hX hx
        have hxor := u8_xor_nat O (mul c X) ho' (mul_lt _ _)
        have hxl := xor_lt O (mul c X) ho' (mul_lt _ _)
        obtain ⟨R, hR⟩ : ∃ R, O ^^^ mul c X = R := ⟨_, rfl⟩
        rw [hR] at hxor hxl
        have HR := Lib.hid hR
        clear hR
        go_wp2_with (first
          | (go_at_call 12; refine (rmul_any c X _ hc hx').mono ?_; rintro e w' ⟨rfl, rfl⟩)
          | (at_builtin; refine wpList_app _ rfl (.tmp 32) (.tmp 34) _ rfl w.heap.size 5 Try.underlying33 info5 rfl (hown.alloc _) rfl (Rd.one wr _ (by omega) (by omega) 5 _) (by omega) (by simp; omega) (k + 1) rfl ?_; intro A2 c2 w2 ho2 hg2 hat2))
        go_roundw
        case rel =>
          refine ⟨k + 1, A2, c2, _, by omega, by go_num, rfl, ho2, ?_, ?_⟩
          · exact (hbel.alloc hbs _).grown hg2 (by simp; omega) (fun k hk => (hown.block k hk).1)
          · show _ = _
            rw [HS.out, HE.out]
            congr 2
            unfold lay1
            rw [HO.out, HX.out, HR.out, Int.toNat_natCast]
        case measure => simp [intOf]; omega
      · have HS := Lib.hid (lay_snoc' (c := c) (k := lx) HLO.out (by rw [HB.out.len]; omega))
        go_wp2_with (at_builtin; refine wpList_app _ rfl (.tmp 32) (.tmp 34) _ rfl w.heap.size 5 Try.underlying33 info5 rfl (hown.alloc _) rfl (Rd.one wr _ (by omega) (by omega) 5 _) (by omega) (by simp; omega) (k + 1) rfl ?_; intro A2 c2 w2 ho2 hg2 hat2)
        go_roundw
        case rel =>
          refine ⟨k + 1, A2, c2, _, by omega, by go_num, rfl, ho2, ?_, ?_⟩
          · exact (hbel.alloc hbs _).grown hg2 (by simp; omega) (fun k hk => (hown.block k hk).1)
          · show _ = _
            rw [HS.out, HE.out]
            congr 2
            rw [Int.toNat_natCast, ← HO.out, UInt8.ofNat_toNat]
        case measure => simp [intOf]; omega
    · have hkk : k = n := by omega
      have HK := Lib.hid hkk
      clear hkk
      go_wp2
      go_ret
      have e : l' = lay c lo lx := by rw [HE.out, List.take_of_length_le (by rw [lay_len, HA.out.len]; omega)]
      rw [e] at hown
      have hk2 := HK.out
      subst hk2
      exact ⟨A', c', rfl, hown, hbel⟩
end Go.Proofs.Ytiiomeieihiloaa
