/- WireTurned's walk. -/
import Derived.Test.YtmiapegecoaccaaLawA
import Derived.Test.YtmiapegecoaccaaOrder
namespace Go.Proofs.Ytmiapegecoaccaa
open Go.RowKit Go.Coop
set_option maxRecDepth 100000
set_option linter.unusedVariables false
theorem four_inj {s t : Nat} (hs : s < 4294967296) (ht : t < 4294967296) (h : four s = four t) : s = t := by
  unfold four at h
  simp only [List.cons.injEq, and_true] at h
  obtain ⟨h1, h2, h3, h4⟩ := h
  have g : ∀ a b : Nat, UInt8.ofNat a = UInt8.ofNat b → a % 256 = b % 256 := by
    intro a b h
    have := congrArg UInt8.toNat h
    simpa [UInt8.toNat_ofNat'] using this
  have := g _ _ h1
  have := g _ _ h2
  have := g _ _ h3
  have := g _ _ h4
  omega
theorem unsealed_other {x b : List UInt8} {n : Nat} (hl : x.length = n) (hne : x ≠ b) (hs : crc entry x = crc entry b → x = b) : unsealed (crc entry ((x ++ four (crc entry b)).take (n + 4 - 4))) (x ++ four (crc entry b)) = ([], 12) := by
  have h4 : (four (crc entry b)).length = 4 := rfl
  have ht : (x ++ four (crc entry b)).take n = x := by rw [← hl]; exact List.take_left
  unfold unsealed
  rw [Nat.add_sub_cancel, ht, List.length_append, hl, h4, if_neg (by omega), Nat.add_sub_cancel, ht, if_neg]
  intro he
  have := List.append_cancel_left he
  exact hne (hs (four_inj (crc_lt _ _) (crc_lt _ _) this))

theorem pick_any (x : Int) (n : Nat) (w : World) (hn : 0 < n) (hn2 : n ≤ 1048576) :
    Calls Try.prog 29 #[.int .i64 x, .int .i64 (n : Int)] w fun e w' => (∃ k : Nat, k < n ∧ e = .returned (.int .i64 (k : Int))) ∧ w = w' := by
  go_enter Try.func29, Try.ntmps29
  go_wp2
  · have hlo := Int.lt_tmod_of_pos x (show (0 : Int) < n by omega)
    have hhi := Int.tmod_lt_of_pos x (show (0 : Int) < n by omega)
    have hneg : x.tmod n < 0 := by assumption
    go_ret
    refine ⟨⟨(x.tmod n + n).toNat, by omega, ?_⟩, rfl⟩
    refine ret_int ?_
    unfold wrap64
    omega
  · have hhi := Int.tmod_lt_of_pos x (show (0 : Int) < n by omega)
    have hpos : 0 ≤ x.tmod n := by assumption
    go_ret
    exact ⟨⟨(x.tmod n).toNat, by omega, ret_int (by omega)⟩, rfl⟩
/-- where the turning of four bytes stands -/
structure Tn (b x : List UInt8) (k j : Nat) (ch : Bool) : Prop where
  len : x.length = b.length
  out : ∀ i, i < k ∨ k + j ≤ i → x[i]? = b[i]?
  ch : ch = !decide (x = b)
theorem Tn.start (b : List UInt8) (k : Nat) : Tn b b k 0 false := ⟨rfl, fun _ _ => rfl, by simp⟩
theorem Tn.step {b x : List UInt8} {k j : Nat} {ch : Bool} (h : Tn b x k j ch) {y : UInt8} (hy : x[k + j]? = some y) {t : Nat} (ht : t < 256) : Tn b (x.set (k + j) (UInt8.ofNat (y.toNat ^^^ t))) k (j + 1) (ch || decide (t ≠ 0)) := by
  have hyb : b[k + j]? = some y := by rw [← h.out _ (.inr (Nat.le_refl _))]; exact hy
  refine ⟨by rw [List.length_set]; exact h.len, fun i hi => ?_, ?_⟩
  · rw [List.getElem?_set, if_neg (by omega)]
    exact h.out i (by omega)
  · by_cases h0 : t = 0
    · subst h0
      have he : x.set (k + j) (UInt8.ofNat (y.toNat ^^^ 0)) = x := by
        rw [Nat.xor_zero]
        have : UInt8.ofNat y.toNat = y := by simp
        rw [this]
        apply List.ext_getElem?
        intro i
        rw [List.getElem?_set]
        split
        · rename_i e; subst e; rw [hy]; split
          · rfl
          · rename_i hh; exact absurd (List.getElem?_eq_some_iff.1 hy).1 hh
        · rfl
      rw [he, ← h.ch]
      simp
    · have hne : ¬ x.set (k + j) (UInt8.ofNat (y.toNat ^^^ t)) = b := by
        intro e
        have h1 : (x.set (k + j) (UInt8.ofNat (y.toNat ^^^ t)))[k + j]? = some (UInt8.ofNat (y.toNat ^^^ t)) := by
          rw [List.getElem?_set, if_pos rfl, if_pos (List.getElem?_eq_some_iff.1 hy).1]
        rw [e, hyb] at h1
        injection h1 with h1
        have h2 := congrArg UInt8.toNat h1
        rw [UInt8.toNat_ofNat', Nat.mod_eq_of_lt (Nat.xor_lt_two_pow (n := 8) y.toNat_lt ht)] at h2
        have h3 := congrArg (y.toNat ^^^ ·) h2
        simp only [Nat.xor_self, ← Nat.xor_assoc, Nat.zero_xor] at h3
        exact h0 h3.symm
      rw [decide_eq_false hne, decide_eq_true h0]
      simp
/-- what is read of bytes of which up to four next to each other were turned -/
theorem getA_turned {a : AskP} (ha : RightA a) {x : List UInt8} {k j : Nat} {ch : Bool} (h : Tn (sealed entry (encA a)) x k j ch) (hj : j ≤ 4) (hk : k + j ≤ (encA a).length) : getA entry x = if ch then (zeroA, 12) else (a, 0) := by
  by_cases hx : x = sealed entry (encA a)
  · have : ch = false := by rw [h.ch, decide_eq_true hx]; rfl
    rw [this, hx, getA_put ha]
    rfl
  · have hc : ch = true := by rw [h.ch, decide_eq_false hx]; rfl
    rw [hc]
    have hl := h.len
    rw [sealed_length] at hl
    have htail : x.drop (encA a).length = four (crc entry (encA a)) := by
      have : x.drop (encA a).length = (sealed entry (encA a)).drop (encA a).length := by
        apply List.ext_getElem?
        intro i
        rw [List.getElem?_drop, List.getElem?_drop]
        exact h.out _ (.inr (by omega))
      rw [this]
      unfold sealed
      exact List.drop_left
    have hxe : x = x.take (encA a).length ++ four (crc entry (encA a)) := by rw [← htail, List.take_append_drop]
    have hne : x.take (encA a).length ≠ encA a := fun e => hx (by rw [hxe, e]; rfl)
    have hlen : (x.take (encA a).length).length = (encA a).length := by rw [List.length_take]; omega
    have hu := unsealed_other (x := x.take (encA a).length) (b := encA a) (n := (encA a).length) hlen hne (fun hcrc => burst_seen (k := k) hlen (by omega) (fun i hi => by
      rw [List.getElem?_take]
      split
      · rename_i hlt
        rw [h.out i (by omega)]
        unfold sealed
        rw [List.getElem?_append_left hlt]
      · rw [List.getElem?_eq_none (by omega)]) hcrc)
    rw [← hxe] at hu
    have hs : unsl entry x = ([], 12) := by
      unfold unsl
      rw [hl]
      exact hu
    unfold getA
    rw [hs, if_neg (by simp)]
    rfl
theorem Tb.but {u u' : World} {gs : List Nat} {p : Nat} {t : Nat → Nat} (h : Tb u p t) (hb : But gs u u') (hp : p ∉ gs) : Tb u' p t :=
  ⟨fun i hi => ⟨(h.1 i hi).1, (World.cell?_of_block (by rw [addr_add_block]; exact hb.block p h.2 hp)).trans (h.1 i hi).2⟩, Nat.lt_of_lt_of_le h.2 hb.size⟩
theorem getA_cut {a : AskP} (ha : RightA a) {k : Nat} (hk : k < (encA a).length) : getA entry (sealed entry ((encA a).take k)) = (zeroA, 110) := by
  unfold getA
  rw [unsl_sealed, if_pos rfl]
  simp only
  rw [parseA_less ha hk]
  rfl
theorem getA_longer {a : AskP} (ha : RightA a) (x : UInt8) : getA entry (sealed entry (encA a ++ [x])) = (zeroA, 110) := by
  unfold getA
  rw [unsl_sealed, if_pos rfl]
  simp only
  rw [parseA_more ha (by simp)]
  rfl
section
variable (w : World)
set_option maxHeartbeats 16000000 in
theorem turned_law (l s o st i ve : Int) (bs : List UInt8) {A : Option Addr} {n c : Nat} (hA : Rd w A n bs) (at_ : Int) (t0 t1 t2 t3 : Nat) (ht0 : t0 < 256) (ht1 : t1 < 256) (ht2 : t2 < 256) (ht3 : t3 < 256) (cut : Nat) (hcut : cut < 65536) :
    Calls Try.prog 7 #[.agg #[.int .i64 l, .int .i64 s, .int .u8 o, .int .i64 st, .int .i64 i, .int .i64 ve, .slice A n c], .int .i64 at_, .agg #[.int .u8 (t0 : Int), .int .u8 (t1 : Int), .int .u8 (t2 : Int), .int .u8 (t3 : Int)], .int .u16 (cut : Int)] w (Told w true) := by
  have HK := Lib.hid (Keep.start w)
  replace HK := Lib.hid (HK.out.read (hA))
  have hlen := hA.len
  clear hA
  obtain ⟨g, hg⟩ : ∃ g, w.heap.size = g := ⟨_, rfl⟩
  obtain ⟨w2, e⟩ : ∃ x, w.alloc (.cells #[.int .i64 l, .int .i64 s, .int .u8 o, .int .i64 st, .int .i64 i, .int .i64 ve, .slice A n c] 25) = x := ⟨_, rfl⟩
  obtain ⟨hW, hx⟩ := box_new e
  rw [hg] at hx
  have Ew2 := Lib.hid e
  have Sw2 := size_of_alloc e
  clear e
  replace hx := Lib.hid hx
  replace HK := Lib.hid (HK.out.below hW (Nat.le_refl _))
  have HB := Lib.hid hW
  clear hW
  replace HK := Lib.hid (HK.out.row (show Row w2 (g) #[.int .i64 l, .int .i64 s, .int .u8 o, .int .i64 st, .int .i64 i, .int .i64 ve, .slice A n c] 25 from hx.out))
  clear hx
  have z1 : w2.heap.size = g + 1 := by rw [Sw2, hg]
  clear Sw2
  obtain ⟨w3, e⟩ : ∃ x, w2.alloc (.cells #[.int .u8 (t0 : Int), .int .u8 (t1 : Int), .int .u8 (t2 : Int), .int .u8 (t3 : Int)] 58) = x := ⟨_, rfl⟩
  obtain ⟨hW, hx⟩ := box_new e
  rw [z1] at hx
  have Ew3 := Lib.hid e
  clear e
  replace hx := Lib.hid hx
  replace HK := Lib.hid (HK.out.below hW (Nat.le_refl _))
  replace HB := Lib.hid (HB.out.trans (hW.mono HB.out.size))
  clear hW
  replace HK := Lib.hid (HK.out.row (show Row w3 (g + 1) #[.int .u8 (t0 : Int), .int .u8 (t1 : Int), .int .u8 (t2 : Int), .int .u8 (t3 : Int)] 58 from hx.out))
  clear hx
  clear z1
  by_cases hs : n ≤ 500
  · have ks := Lib.hid (show decide (n ≤ 500 ∧ 0 ≤ 500 ∧ 0 ≤ 60 ∧ 0 ≤ 1000) = true by simp [hs])
    by_cases HR : RightA ⟨l, s, o, st, i, ve, bs⟩
    · have kR := Lib.hid (decide_eq_true HR)
      replace HR := Lib.hid HR
      obtain ⟨Z, hZs, hz⟩ := zero39
      have HZ := Lib.hid hZs
      clear hZs
      have hz25 := (zero_of_info zero25).1
      go_enter Try.func7, Try.ntmps7
      obtain ⟨a0, a1, a2, a3, a4, a5, a6⟩ := arr7 (w := (World.alloc (World.alloc w (.cells #[.int .i64 l, .int .i64 s, .int .u8 o, .int .i64 st, .int .i64 i, .int .i64 ve, .slice A n c] 25)) (.cells #[.int .u8 (t0 : Int), .int .u8 (t1 : Int), .int .u8 (t2 : Int), .int .u8 (t3 : Int)] 58))) (by rw [Ew2.out, Ew3.out]; exact (HK.out.rows _ (.tail _ (.head _))))
      go_wp2_with fail
      rw [Ew2.out]
      rw [Ew3.out]
      clear Ew2 Ew3
      refine (small_is w3 l s o st i ve 0 0 0 0 0 ks.out).mono ?_
      rintro e w4 ⟨rfl, hb⟩
      have hW : Below w3.heap.size w3 w4 := hb
      replace HK := Lib.hid (HK.out.below hW (Nat.le_refl _))
      replace HB := Lib.hid (HB.out.trans (hW.mono HB.out.size))
      clear hW
      clear a0 a1 a2 a3 a4 a5 a6 hb
      obtain ⟨a0, a1, a2, a3, a4, a5, a6⟩ := arr7 (w := w4) (by exact (HK.out.rows _ (.tail _ (.head _))))
      go_wp2_with fail
      refine (rightA_is w4 l s o st i ve bs A n c hlen kR.out).mono ?_
      rintro e w5 ⟨rfl, hb⟩
      have hW : Below w4.heap.size w4 w5 := hb
      replace HK := Lib.hid (HK.out.below hW (Nat.le_refl _))
      replace HB := Lib.hid (HB.out.trans (hW.mono HB.out.size))
      clear hW
      clear a0 a1 a2 a3 a4 a5 a6 hb
      go_upto_region 4 with (first
        | (go_at_call 12; refine (table_any _).mono ?_; rintro e w1 ⟨rfl, hb1⟩; rw [show tarr ((List.range 256).map entry) = T0 from rfl])
        | ((with_reducible refine wpList_store_new (o := ⟨none, .store 39 (.tmp 9) (.tmp 33), _, _, _, _⟩) ?_ 39 (.tmp 9) (.tmp 33) ?_ T0 Z ?_ ?_ 39 size39' HZ.out T0_one ?_)
           case refine_1 => rfl
           case refine_2 => rfl
           case refine_3 => rfl
           case refine_4 => rfl))
      have hW : Below w5.heap.size w5 w1 := hb1
      clear hb1 hz
      replace HK := Lib.hid (HK.out.below hW (Nat.le_refl _))
      replace HB := Lib.hid (HB.out.trans (hW.mono HB.out.size))
      clear hW
      obtain ⟨p, hp⟩ : ∃ p, w1.heap.size = p := ⟨_, rfl⟩
      obtain ⟨wT, e⟩ : ∃ x, w1.alloc (.cells T0 39) = x := ⟨_, rfl⟩
      obtain ⟨hW, hx⟩ := box_new e
      rw [hp] at hx
      have EwT := Lib.hid e
      clear e
      replace hx := Lib.hid hx
      replace HK := Lib.hid (HK.out.below hW (Nat.le_refl _))
      replace HB := Lib.hid (HB.out.trans (hW.mono HB.out.size))
      clear hW
      clear hx
      have hTb : Tb wT p entry := by rw [← EwT.out, ← hp]; exact ⟨tab_new w1 (0, 0), by rw [size_alloc]; simp⟩
      replace HK := Lib.hid (HK.out.tab (hTb))
      clear hTb
      rw [EwT.out]
      clear EwT
      (try rw [hp])
      obtain ⟨a0, a1, a2, a3, a4, a5, a6⟩ := arr7 (w := wT) (by exact (HK.out.rows _ (.tail _ (.head _))))
      obtain ⟨body, hbody⟩ : ∃ b, encA ⟨l, s, o, st, i, ve, bs⟩ = b := ⟨_, rfl⟩
      obtain ⟨N, hN⟩ : ∃ N, body.length = N := ⟨_, rfl⟩
      have hN0 : 0 < N := by obtain ⟨r, hr⟩ := encA_head ⟨l, s, o, st, i, ve, bs⟩; rw [← hN, ← hbody, hr]; simp
      have hN1 : N ≤ 600 := by have := encA_len ⟨l, s, o, st, i, ve, bs⟩; rw [hbody, hN] at this; simp only at this; omega
      have HPx := Lib.hid (show putA entry ⟨l, s, o, st, i, ve, bs⟩ = (sealed entry body, 0) by unfold putA; rw [if_pos HR.out, hbody])
      have HBd := Lib.hid (And.intro hbody hN)
      go_wp2_with fail
      refine (putA_is wT (HK.out.tabs _ (.head _)).1 (HK.out.tabs _ (.head _)).2 l s o st i ve bs (HK.out.reads _ (.head _)) (show n ≤ 1000000 by omega)).mono ?_
      rintro e w6 ⟨C, cn, cc, rfl, hoc, hb⟩
      rw [HPx.out] at hoc ⊢
      simp only at hoc ⊢
      clear a0 a1 a2 a3 a4 a5 a6
      obtain rfl : cn = N + 4 := by rw [← hoc.len, sealed_length, hN]
      have hbC := fun j hj => (hoc.block j hj).2
      have hW : Below wT.heap.size wT w6 := hb
      replace HK := Lib.hid (HK.out.below hW (Nat.le_refl _))
      replace HB := Lib.hid (HB.out.trans (hW.mono HB.out.size))
      clear hW
      replace HK := Lib.hid (HK.out.read (hoc.rd))
      have hcC := hoc.cap
      clear hoc hb hbody hN
      have i5 : ¬ ((N : Int) + 4 < 5) := by omega
      skip
      go_wp2_with fail
      refine (pick_any at_ N w6 hN0 (by omega)).mono ?_
      rintro e w6' ⟨⟨k, hk, rfl⟩, rfl⟩
      have hwl := Lib.hid HB.out.size
      have hpw6 := Lib.hid (show p < w6.heap.size from (HK.out.tabs _ (.head _)).2)
      go_wp2_with fail
      refine (copy_any C (N + 4) cc _ w6 (HK.out.reads _ (.head _)) (show N + 4 ≤ 140737488355328 by omega)).mono ?_
      rintro e w7 ⟨D, dc, rfl, hod, hb⟩
      have hW : Below w6.heap.size w6 w7 := hb
      replace HK := Lib.hid (HK.out.below hW (Nat.le_refl _))
      replace HB := Lib.hid (HB.out.trans (hW.mono HB.out.size))
      clear hW
      have HO := Lib.hid hod
      have hdc := hod.cap
      obtain ⟨gl, rfl, hgl1, hgl2, _⟩ := hod.addr (by omega)
      have HGL := Lib.hid (And.intro hgl1 (And.intro hgl2 hpw6.out))
      clear hod hb hgl1 hgl2 hpw6
      go_wp2
      go_loopw [14, 15] (fun s14 s15 wr => ∃ (j : Nat) (ch : Bool) (x : List UInt8), j ≤ 4 ∧ k + j ≤ N ∧ s14 = .bool ch ∧ s15 = .int .i64 (j : Int) ∧ Own wr w6.heap.size 5 (some ⟨gl, 0, none⟩) (N + 4) dc x ∧ Hid (Tn (sealed entry body) x k j ch ∧ But [gl] w7 wr)) (fun _ s15 _ => 4 - (Go.RowKit.intOf s15).toNat)
      case atStart => exact ⟨0, false, _, by omega, by omega, rfl, rfl, HO.out, (⟨Tn.start _ _, But.refl _ _⟩ : _ ∧ _)⟩
      case round =>
        obtain ⟨j, ch, x, hj, hkj, rfl, rfl, hown, HT⟩ := hrel
        have hRT := ((HK.out.rows _ (.head _)) : Row w7 (g + 1) #[.int .u8 (t0 : Int), .int .u8 (t1 : Int), .int .u8 (t2 : Int), .int .u8 (t3 : Int)] 58)
        obtain ⟨cur, hcur⟩ := HO.out.typ (j := gl) rfl
        have hgne : g + 1 ≠ gl := ne_of_type (E := 58) (F := 5) hRT hcur (by decide)
        have hRTr : Row wr (g + 1) #[.int .u8 (t0 : Int), .int .u8 (t1 : Int), .int .u8 (t2 : Int), .int .u8 (t3 : Int)] 58 := HT.out.2.cells hRT (by simpa using hgne)
        clear hcur
        by_cases hlt : j < 4 ∧ k + j < N
        · obtain ⟨hlt1, hlt2⟩ := hlt
          obtain ⟨ad, y, hade, hadl, hy, hcell⟩ := hown.rd.at_ (k := k + j) (by omega)
          injection hade with hade
          subst hade
          have hfz : wr.frozen? ⟨gl, k + j, none⟩ = false := by
            obtain ⟨g2, e2, _, _, h2⟩ := hown.addr (by omega)
            injection e2 with e2
            injection e2 with e2
            subst e2
            exact h2 (k + j)
          have hadd : (⟨gl, 0, none⟩ : Addr).add (k + j) = ⟨gl, k + j, none⟩ := by unfold Addr.add; split <;> simp_all
          rw [hadd] at hcell
          unfold BV at hcell
          obtain ⟨t, ht, htc⟩ : ∃ t : Nat, t < 256 ∧ wr.cell? ⟨g + 1, j, none⟩ = some (.int .u8 (t : Int)) := by
            rcases (show j = 0 ∨ j = 1 ∨ j = 2 ∨ j = 3 by omega) with rfl | rfl | rfl | rfl
            · exact ⟨t0, ht0, cell_of_row wr (g + 1) 0 _ 58 (0, 0) hRTr⟩
            · exact ⟨t1, ht1, cell_of_row wr (g + 1) 1 _ 58 (0, 0) hRTr⟩
            · exact ⟨t2, ht2, cell_of_row wr (g + 1) 2 _ 58 (0, 0) hRTr⟩
            · exact ⟨t3, ht3, cell_of_row wr (g + 1) 3 _ 58 (0, 0) hRTr⟩
          have htc2 : ∀ v, (wr.setCell ⟨gl, k + j, none⟩ v).cell? ⟨g + 1, j, none⟩ = some (.int .u8 (t : Int)) := fun v => by rw [← htc]; exact World.cell?_of_block (Below.heap_setCell _ _ _ _ (by simpa using hgne))
          have hx := y.toNat_lt
          obtain ⟨yb, hyb⟩ : ∃ yb, y.toNat = yb := ⟨_, rfl⟩
          rw [hyb] at hx hcell
          have hxx := u8_xor_nat yb t hx ht
          have hi1 : (0 : Int) ≤ (j : Int) := by omega
          have hi2 : (j : Int) < 4 := by omega
          have hi3 : (k : Int) + (j : Int) < (N : Int) := by omega
          have hi4 : (k : Int) + (j : Int) < (N : Int) + 4 := by omega
          have hi5 : (0 : Int) ≤ (k : Int) + (j : Int) := by omega
          have hwk : IntKind.i64.wrap ((j : Int) + 1) = (j : Int) + 1 := IntWalk.i64_in _ (by omega)
          have hwj : IntKind.i64.wrap ((k : Int) + (j : Int)) = (k : Int) + (j : Int) := IntWalk.i64_in _ (by omega)
          have HX := Lib.hid (And.intro hyb (And.intro hy (And.intro hown (And.intro hlt1 hlt2))))
          have HGN := Lib.hid hgne
          clear hy hyb hown hadd hadl hRT hRTr hgne hlt1 hlt2
          have hst := HT.out.1.step HX.out.2.1 ht
          rw [HX.out.1] at hst
          have hcell3 := htc2 (.int .u8 ((yb ^^^ t : Nat) : Int))
          have hcell4 : (World.drew (wr.setCell ⟨gl, k + j, none⟩ (.int .u8 ((yb ^^^ t : Nat) : Int)))).cell? ⟨g + 1, j, none⟩ = some (.int .u8 (t : Int)) := hcell3
          have HF := Lib.hid (show Own (World.drew (wr.setCell ⟨gl, k + j, none⟩ (.int .u8 ((yb ^^^ t : Nat) : Int)))) w6.heap.size 5 (some ⟨gl, 0, none⟩) (N + 4) dc (x.set (k + j) (UInt8.ofNat (yb ^^^ t))) ∧ But [gl] w7 (World.drew (wr.setCell ⟨gl, k + j, none⟩ (.int .u8 ((yb ^^^ t : Nat) : Int)))) from by
            have hv : Value.int IntKind.u8 ((yb ^^^ t : Nat) : Int) = BV (UInt8.ofNat (yb ^^^ t)) := by
              unfold BV
              rw [UInt8.toNat_ofNat', Nat.mod_eq_of_lt (Nat.xor_lt_two_pow (n := 8) hx ht)]
            rw [hv]
            exact ⟨(HX.out.2.2.1.set rfl (k := k + j) _).drew, (HT.out.2.setCell (by simp) _).drew⟩)
          clear hcell3 htc2
          obtain ⟨wv, hwv⟩ : ∃ u, World.drew (wr.setCell ⟨gl, k + j, none⟩ (.int .u8 ((yb ^^^ t : Nat) : Int))) = u := ⟨_, rfl⟩
          rw [hwv] at HF hcell4
          have HWV := Lib.hid hwv
          clear hwv
          go_wp2_with fail
          go_region
          rw [HWV.out]
          cases ch with
          | true =>
            replace hst := Lib.hid (show Tn (sealed entry body) (x.set (k + j) (UInt8.ofNat (yb ^^^ t))) k (j + 1) true by simpa using hst)
            go_wp2
            go_roundw
            case rel => exact ⟨j + 1, true, _, by have := HX.out.2.2.2; omega, by have := HX.out.2.2.2; omega, rfl, by go_num, HF.out.1, (⟨hst.out, HF.out.2⟩ : _ ∧ _)⟩
            case measure => have := HX.out.2.2.2; simp [Go.RowKit.intOf]; omega
          | false =>
            by_cases htz : t = 0
            · have hb0 : ((t : Int) != 0) = false := by simp [htz]
              replace hst := Lib.hid (show Tn (sealed entry body) (x.set (k + j) (UInt8.ofNat (yb ^^^ t))) k (j + 1) false by simpa [htz] using hst)
              clear htz
              go_wp2
              go_roundw
              case rel => exact ⟨j + 1, false, _, by have := HX.out.2.2.2; omega, by have := HX.out.2.2.2; omega, rfl, by go_num, HF.out.1, (⟨hst.out, HF.out.2⟩ : _ ∧ _)⟩
              case measure => have := HX.out.2.2.2; simp [Go.RowKit.intOf]; omega
            · have hb0 : ((t : Int) != 0) = true := by simp; omega
              replace hst := Lib.hid (show Tn (sealed entry body) (x.set (k + j) (UInt8.ofNat (yb ^^^ t))) k (j + 1) true by simpa [htz] using hst)
              clear htz
              go_wp2
              go_roundw
              case rel => exact ⟨j + 1, true, _, by have := HX.out.2.2.2; omega, by have := HX.out.2.2.2; omega, rfl, by go_num, HF.out.1, (⟨hst.out, HF.out.2⟩ : _ ∧ _)⟩
              case measure => have := HX.out.2.2.2; simp [Go.RowKit.intOf]; omega
        · have hgt := getA_turned HR.out (x := x) (k := k) (j := j) (ch := ch) (by rw [HBd.out.1]; exact HT.out.1) hj (by rw [HBd.out.1, HBd.out.2]; exact hkj)
          have HGT := Lib.hid hgt
          have hgT7 := (HK.out.tabs _ (.head _))
          have hpgl : p ∉ [gl] := by have := HGL.out; simp; omega
          have hCgl : ∀ i, C.map (·.block) = some i → i ∉ [gl] := fun i hi => by have := hbC i hi; have := HGL.out; simp; omega
          have KN := Lib.hid (show Keep wr [] [(C, N + 4, sealed entry body)] [] [(p, entry)] from (((Keep.start wr).read (rd_but (HK.out.reads _ (.head _)) HT.out.2 hCgl)).tab (Tb.but (show Tb w7 p entry from hgT7) HT.out.2 hpgl)))
          have HBN := Lib.hid (HB.out.trans (HT.out.2.below HB.out.size (by simp; have := HGL.out; have := hwl.out; omega)))
          clear HK HB hgt hgT7 hRT hgne hRTr
          have HK := KN
          have HB := HBN
          clear KN HBN
          have HOr := Lib.hid hown
          have hdc2 := hown.cap
          clear hown HT
          by_cases h4 : j < 4
          · cases ch with
            | true =>
              have g1 : (j : Int) < 4 := by omega
              have g2 : (N : Int) ≤ (k : Int) + (j : Int) := by omega
              have g3 : IntKind.i64.wrap ((k : Int) + (j : Int)) = (k : Int) + (j : Int) := IntWalk.i64_in _ (by omega)
              replace HGT := Lib.hid (show getA entry x = (zeroA, 12) from HGT.out)
              go_wp2_with fail
              refine (getA_is wr (HK.out.tabs _ (.head _)).1 (HK.out.tabs _ (.head _)).2 HOr.out.rd (show N + 4 ≤ 1000000 by omega) hdc2).mono ?_
              rintro e v1 ⟨A4, n4, c4, rfl, ho4, hb⟩
              rw [HGT.out] at ho4 ⊢
              simp only [zeroA] at ho4 ⊢
              have hW : Below wr.heap.size wr v1 := hb
              replace HK := Lib.hid (HK.out.below hW (Nat.le_refl _))
              replace HB := Lib.hid (HB.out.trans (hW.mono HB.out.size))
              clear hW
              clear ho4 hb
              obtain ⟨g_v2, h_v2⟩ : ∃ g, v1.heap.size = g := ⟨_, rfl⟩
              obtain ⟨v2, e⟩ : ∃ x, v1.alloc (.cells #[.int .i64 0, .int .i64 0, .int .u8 0, .int .i64 0, .int .i64 0, .int .i64 0, .slice A4 n4 c4] 25) = x := ⟨_, rfl⟩
              obtain ⟨hW, hx⟩ := box_new e
              rw [h_v2] at hx
              have Ev2 := Lib.hid e
              clear e
              replace hx := Lib.hid hx
              replace HK := Lib.hid (HK.out.below hW (Nat.le_refl _))
              replace HB := Lib.hid (HB.out.trans (hW.mono HB.out.size))
              clear hW
              clear hx
              obtain ⟨k2, hk2⟩ : ∃ q, cut % N = q := ⟨_, rfl⟩
              have hk2N : k2 < N := by rw [← hk2]; exact Nat.mod_lt _ (by omega)
              have m1 : (cut : Int) % (N : Int) = (k2 : Int) := by omega
              have m2 : (cut : Int).tmod (N : Int) = (k2 : Int) := by rw [Int.tmod_eq_emod_of_nonneg (by omega)]; exact m1
              have hNz : ((N : Int) == 0) = false := by simp; omega
              have sw : IntKind.i64.wrap (cut : Int) = (cut : Int) := IntWalk.i64_in _ (by omega)
              have sl1 := fun W => slice_h C (N + 4) cc N (by omega) W
              have sl2 := fun W => slice_h C N cc k2 (by omega) W
              have HK2 := Lib.hid hk2
              clear hk2
              have htk : (sealed entry body).take N = body := by rw [← HBd.out.2]; unfold sealed; exact List.take_left
              have HTK := Lib.hid htk
              clear htk
              go_wp2_with fail
              rw [Ev2.out]
              clear Ev2
              refine (seal_any ⟨p, 0, none⟩ entry C k2 cc (body.take k2) v2 (HK.out.tabs _ (.head _)).1 (show Rd v2 C k2 (body.take k2) from Rd.take (show Rd v2 C N body from (by have := (show Rd _ C (N + 4) (sealed entry body) from (HK.out.reads _ (.head _))).take (k := N) (show N ≤ N + 4 by omega); rwa [HTK.out] at this)) (by omega)) (show k2 ≤ 70368744177664 by omega)).mono ?_
              rintro e v3 ⟨S, sc, rfl, hos, hb⟩
              have hW : Below v2.heap.size v2 v3 := hb
              replace HK := Lib.hid (HK.out.below hW (Nat.le_refl _))
              replace HB := Lib.hid (HB.out.trans (hW.mono HB.out.size))
              clear hW
              have hcs := hos.cap
              have HS := Lib.hid hos
              clear hos hb
              go_wp2_with fail
              refine (getA_is v3 (HK.out.tabs _ (.head _)).1 (HK.out.tabs _ (.head _)).2 HS.out.rd (show k2 + 4 ≤ 1000000 by omega) hcs).mono ?_
              rintro e v4 ⟨A5, n5, c5, rfl, ho5, hb⟩
              have hg5 : getA entry (sealed entry (body.take k2)) = (zeroA, 110) := by rw [← HBd.out.1]; exact getA_cut HR.out (by rw [HBd.out.1, HBd.out.2]; exact hk2N)
              rw [hg5] at ho5 ⊢
              simp only [zeroA] at ho5 ⊢
              have hW : Below v3.heap.size v3 v4 := hb
              replace HK := Lib.hid (HK.out.below hW (Nat.le_refl _))
              replace HB := Lib.hid (HB.out.trans (hW.mono HB.out.size))
              clear hW
              clear ho5 hb hg5 HS
              obtain ⟨g_v5, h_v5⟩ : ∃ g, v4.heap.size = g := ⟨_, rfl⟩
              obtain ⟨v5, e⟩ : ∃ x, v4.alloc (.cells #[.int .i64 0, .int .i64 0, .int .u8 0, .int .i64 0, .int .i64 0, .int .i64 0, .slice A5 n5 c5] 25) = x := ⟨_, rfl⟩
              obtain ⟨hW, hx⟩ := box_new e
              rw [h_v5] at hx
              have Ev5 := Lib.hid e
              clear e
              replace hx := Lib.hid hx
              replace HK := Lib.hid (HK.out.below hW (Nat.le_refl _))
              replace HB := Lib.hid (HB.out.trans (hW.mono HB.out.size))
              clear hW
              clear hx
              have K5 := Lib.hid (And.intro HK.out HB.out)
              go_wp2_with fail
              rw [Ev5.out]
              clear Ev5
              refine (copy_any C N cc body v5 (show Rd v5 C N body from (by have := (show Rd _ C (N + 4) (sealed entry body) from (HK.out.reads _ (.head _))).take (k := N) (show N ≤ N + 4 by omega); rwa [HTK.out] at this)) (show N ≤ 140737488355328 by omega)).mono ?_
              rintro e v6 ⟨E, ec, rfl, hoe, hb⟩
              have hW : Below v5.heap.size v5 v6 := hb
              replace HK := Lib.hid (HK.out.below hW (Nat.le_refl _))
              replace HB := Lib.hid (HB.out.trans (hW.mono HB.out.size))
              clear hW
              obtain ⟨u, hu⟩ : ∃ u, IntKind.u8.wrap (cut : Int) = u := ⟨_, rfl⟩
              have hu0 : 0 ≤ u ∧ u < 256 := by rw [← hu, IntKind.wrap_u8]; omega
              have hs5 := hb.size
              have HE := Lib.hid (And.intro hoe hb)
              clear hoe hb
              go_wp2_with (at_builtin; refine wpList_app _ rfl (.tmp 118) (.tmp 121) _ rfl v5.heap.size 5 Try.underlying23 info5 rfl (HE.out.1.alloc _) rfl (Rd.one v6 u hu0.1 hu0.2 5 (0, 0)) (by omega) (by rw [size_alloc]; omega) (N + 1) rfl ?_; intro F fc v7 hof hgf hatf)
              have hT6 := (HK.out.tabs _ (.head _))
              have hb57 : Below v5.heap.size v5 v7 := (HE.out.2.alloc hs5 _).grown hgf (by rw [size_alloc]; omega) (fun q hq => (HE.out.1.block q hq).1)
              clear HK HB
              have HK := Lib.hid (K5.out.1.below hb57 (Nat.le_refl _))
              have HB := Lib.hid (K5.out.2.trans (hb57.mono K5.out.2.size))
              clear K5 hT6 HE hgf hatf hb57
              refine (seal_any ⟨p, 0, none⟩ entry F (N + 1) fc (body ++ [UInt8.ofNat u.toNat]) v7 (HK.out.tabs _ (.head _)).1 hof.rd (show N + 1 ≤ 70368744177664 by omega)).mono ?_
              rintro e v8 ⟨S2, sc2, rfl, hos, hb⟩
              have hW : Below v7.heap.size v7 v8 := hb
              replace HK := Lib.hid (HK.out.below hW (Nat.le_refl _))
              replace HB := Lib.hid (HB.out.trans (hW.mono HB.out.size))
              clear hW
              have hcs2 := hos.cap
              have HS2 := Lib.hid hos
              clear hos hb hof
              go_wp2_with fail
              refine (getA_is v8 (HK.out.tabs _ (.head _)).1 (HK.out.tabs _ (.head _)).2 HS2.out.rd (show N + 1 + 4 ≤ 1000000 by omega) hcs2).mono ?_
              rintro e v9 ⟨A6, n6, c6, rfl, ho6, hb⟩
              have hg6 : getA entry (sealed entry (body ++ [UInt8.ofNat u.toNat])) = (zeroA, 110) := by rw [← HBd.out.1]; exact getA_longer HR.out _
              rw [hg6] at ho6 ⊢
              simp only [zeroA] at ho6 ⊢
              have hW : Below v8.heap.size v8 v9 := hb
              replace HK := Lib.hid (HK.out.below hW (Nat.le_refl _))
              replace HB := Lib.hid (HB.out.trans (hW.mono HB.out.size))
              clear hW
              clear ho6 hb hg6 HS2
              obtain ⟨g_v10, h_v10⟩ : ∃ g, v9.heap.size = g := ⟨_, rfl⟩
              obtain ⟨v10, e⟩ : ∃ x, v9.alloc (.cells #[.int .i64 0, .int .i64 0, .int .u8 0, .int .i64 0, .int .i64 0, .int .i64 0, .slice A6 n6 c6] 25) = x := ⟨_, rfl⟩
              obtain ⟨hW, hx⟩ := box_new e
              rw [h_v10] at hx
              have Ev10 := Lib.hid e
              clear e
              replace hx := Lib.hid hx
              replace HK := Lib.hid (HK.out.below hW (Nat.le_refl _))
              replace HB := Lib.hid (HB.out.trans (hW.mono HB.out.size))
              clear hW
              clear hx
              go_wp2_with fail
              rw [Ev10.out]
              clear Ev10
              refine (awake_is _).mono ?_
              rintro e wz ⟨rfl, hb⟩
              have hW : Below v10.heap.size v10 wz := hb
              replace HK := Lib.hid (HK.out.below hW (Nat.le_refl _))
              replace HB := Lib.hid (HB.out.trans (hW.mono HB.out.size))
              clear hW
              go_wp2
              go_ret
              exact told_mk (by simp) HB.out
            | false =>
              have g1 : (j : Int) < 4 := by omega
              have g2 : (N : Int) ≤ (k : Int) + (j : Int) := by omega
              have g3 : IntKind.i64.wrap ((k : Int) + (j : Int)) = (k : Int) + (j : Int) := IntWalk.i64_in _ (by omega)
              replace HGT := Lib.hid (show getA entry x = (⟨l, s, o, st, i, ve, bs⟩, 0) from HGT.out)
              go_wp2_with fail
              refine (getA_is wr (HK.out.tabs _ (.head _)).1 (HK.out.tabs _ (.head _)).2 HOr.out.rd (show N + 4 ≤ 1000000 by omega) hdc2).mono ?_
              rintro e v1 ⟨A4, n4, c4, rfl, ho4, hb⟩
              rw [HGT.out] at ho4 ⊢
              simp only at ho4 ⊢
              have hW : Below wr.heap.size wr v1 := hb
              replace HK := Lib.hid (HK.out.below hW (Nat.le_refl _))
              replace HB := Lib.hid (HB.out.trans (hW.mono HB.out.size))
              clear hW
              clear ho4 hb
              obtain ⟨g_v2, h_v2⟩ : ∃ g, v1.heap.size = g := ⟨_, rfl⟩
              obtain ⟨v2, e⟩ : ∃ x, v1.alloc (.cells #[.int .i64 l, .int .i64 s, .int .u8 o, .int .i64 st, .int .i64 i, .int .i64 ve, .slice A4 n4 c4] 25) = x := ⟨_, rfl⟩
              obtain ⟨hW, hx⟩ := box_new e
              rw [h_v2] at hx
              have Ev2 := Lib.hid e
              clear e
              replace hx := Lib.hid hx
              replace HK := Lib.hid (HK.out.below hW (Nat.le_refl _))
              replace HB := Lib.hid (HB.out.trans (hW.mono HB.out.size))
              clear hW
              clear hx
              obtain ⟨k2, hk2⟩ : ∃ q, cut % N = q := ⟨_, rfl⟩
              have hk2N : k2 < N := by rw [← hk2]; exact Nat.mod_lt _ (by omega)
              have m1 : (cut : Int) % (N : Int) = (k2 : Int) := by omega
              have m2 : (cut : Int).tmod (N : Int) = (k2 : Int) := by rw [Int.tmod_eq_emod_of_nonneg (by omega)]; exact m1
              have hNz : ((N : Int) == 0) = false := by simp; omega
              have sw : IntKind.i64.wrap (cut : Int) = (cut : Int) := IntWalk.i64_in _ (by omega)
              have sl1 := fun W => slice_h C (N + 4) cc N (by omega) W
              have sl2 := fun W => slice_h C N cc k2 (by omega) W
              have HK2 := Lib.hid hk2
              clear hk2
              have htk : (sealed entry body).take N = body := by rw [← HBd.out.2]; unfold sealed; exact List.take_left
              have HTK := Lib.hid htk
              clear htk
              go_wp2_with fail
              rw [Ev2.out]
              clear Ev2
              refine (seal_any ⟨p, 0, none⟩ entry C k2 cc (body.take k2) v2 (HK.out.tabs _ (.head _)).1 (show Rd v2 C k2 (body.take k2) from Rd.take (show Rd v2 C N body from (by have := (show Rd _ C (N + 4) (sealed entry body) from (HK.out.reads _ (.head _))).take (k := N) (show N ≤ N + 4 by omega); rwa [HTK.out] at this)) (by omega)) (show k2 ≤ 70368744177664 by omega)).mono ?_
              rintro e v3 ⟨S, sc, rfl, hos, hb⟩
              have hW : Below v2.heap.size v2 v3 := hb
              replace HK := Lib.hid (HK.out.below hW (Nat.le_refl _))
              replace HB := Lib.hid (HB.out.trans (hW.mono HB.out.size))
              clear hW
              have hcs := hos.cap
              have HS := Lib.hid hos
              clear hos hb
              go_wp2_with fail
              refine (getA_is v3 (HK.out.tabs _ (.head _)).1 (HK.out.tabs _ (.head _)).2 HS.out.rd (show k2 + 4 ≤ 1000000 by omega) hcs).mono ?_
              rintro e v4 ⟨A5, n5, c5, rfl, ho5, hb⟩
              have hg5 : getA entry (sealed entry (body.take k2)) = (zeroA, 110) := by rw [← HBd.out.1]; exact getA_cut HR.out (by rw [HBd.out.1, HBd.out.2]; exact hk2N)
              rw [hg5] at ho5 ⊢
              simp only [zeroA] at ho5 ⊢
              have hW : Below v3.heap.size v3 v4 := hb
              replace HK := Lib.hid (HK.out.below hW (Nat.le_refl _))
              replace HB := Lib.hid (HB.out.trans (hW.mono HB.out.size))
              clear hW
              clear ho5 hb hg5 HS
              obtain ⟨g_v5, h_v5⟩ : ∃ g, v4.heap.size = g := ⟨_, rfl⟩
              obtain ⟨v5, e⟩ : ∃ x, v4.alloc (.cells #[.int .i64 0, .int .i64 0, .int .u8 0, .int .i64 0, .int .i64 0, .int .i64 0, .slice A5 n5 c5] 25) = x := ⟨_, rfl⟩
              obtain ⟨hW, hx⟩ := box_new e
              rw [h_v5] at hx
              have Ev5 := Lib.hid e
              clear e
              replace hx := Lib.hid hx
              replace HK := Lib.hid (HK.out.below hW (Nat.le_refl _))
              replace HB := Lib.hid (HB.out.trans (hW.mono HB.out.size))
              clear hW
              clear hx
              have K5 := Lib.hid (And.intro HK.out HB.out)
              go_wp2_with fail
              rw [Ev5.out]
              clear Ev5
              refine (copy_any C N cc body v5 (show Rd v5 C N body from (by have := (show Rd _ C (N + 4) (sealed entry body) from (HK.out.reads _ (.head _))).take (k := N) (show N ≤ N + 4 by omega); rwa [HTK.out] at this)) (show N ≤ 140737488355328 by omega)).mono ?_
              rintro e v6 ⟨E, ec, rfl, hoe, hb⟩
              have hW : Below v5.heap.size v5 v6 := hb
              replace HK := Lib.hid (HK.out.below hW (Nat.le_refl _))
              replace HB := Lib.hid (HB.out.trans (hW.mono HB.out.size))
              clear hW
              obtain ⟨u, hu⟩ : ∃ u, IntKind.u8.wrap (cut : Int) = u := ⟨_, rfl⟩
              have hu0 : 0 ≤ u ∧ u < 256 := by rw [← hu, IntKind.wrap_u8]; omega
              have hs5 := hb.size
              have HE := Lib.hid (And.intro hoe hb)
              clear hoe hb
              go_wp2_with (at_builtin; refine wpList_app _ rfl (.tmp 118) (.tmp 121) _ rfl v5.heap.size 5 Try.underlying23 info5 rfl (HE.out.1.alloc _) rfl (Rd.one v6 u hu0.1 hu0.2 5 (0, 0)) (by omega) (by rw [size_alloc]; omega) (N + 1) rfl ?_; intro F fc v7 hof hgf hatf)
              have hT6 := (HK.out.tabs _ (.head _))
              have hb57 : Below v5.heap.size v5 v7 := (HE.out.2.alloc hs5 _).grown hgf (by rw [size_alloc]; omega) (fun q hq => (HE.out.1.block q hq).1)
              clear HK HB
              have HK := Lib.hid (K5.out.1.below hb57 (Nat.le_refl _))
              have HB := Lib.hid (K5.out.2.trans (hb57.mono K5.out.2.size))
              clear K5 hT6 HE hgf hatf hb57
              refine (seal_any ⟨p, 0, none⟩ entry F (N + 1) fc (body ++ [UInt8.ofNat u.toNat]) v7 (HK.out.tabs _ (.head _)).1 hof.rd (show N + 1 ≤ 70368744177664 by omega)).mono ?_
              rintro e v8 ⟨S2, sc2, rfl, hos, hb⟩
              have hW : Below v7.heap.size v7 v8 := hb
              replace HK := Lib.hid (HK.out.below hW (Nat.le_refl _))
              replace HB := Lib.hid (HB.out.trans (hW.mono HB.out.size))
              clear hW
              have hcs2 := hos.cap
              have HS2 := Lib.hid hos
              clear hos hb hof
              go_wp2_with fail
              refine (getA_is v8 (HK.out.tabs _ (.head _)).1 (HK.out.tabs _ (.head _)).2 HS2.out.rd (show N + 1 + 4 ≤ 1000000 by omega) hcs2).mono ?_
              rintro e v9 ⟨A6, n6, c6, rfl, ho6, hb⟩
              have hg6 : getA entry (sealed entry (body ++ [UInt8.ofNat u.toNat])) = (zeroA, 110) := by rw [← HBd.out.1]; exact getA_longer HR.out _
              rw [hg6] at ho6 ⊢
              simp only [zeroA] at ho6 ⊢
              have hW : Below v8.heap.size v8 v9 := hb
              replace HK := Lib.hid (HK.out.below hW (Nat.le_refl _))
              replace HB := Lib.hid (HB.out.trans (hW.mono HB.out.size))
              clear hW
              clear ho6 hb hg6 HS2
              obtain ⟨g_v10, h_v10⟩ : ∃ g, v9.heap.size = g := ⟨_, rfl⟩
              obtain ⟨v10, e⟩ : ∃ x, v9.alloc (.cells #[.int .i64 0, .int .i64 0, .int .u8 0, .int .i64 0, .int .i64 0, .int .i64 0, .slice A6 n6 c6] 25) = x := ⟨_, rfl⟩
              obtain ⟨hW, hx⟩ := box_new e
              rw [h_v10] at hx
              have Ev10 := Lib.hid e
              clear e
              replace hx := Lib.hid hx
              replace HK := Lib.hid (HK.out.below hW (Nat.le_refl _))
              replace HB := Lib.hid (HB.out.trans (hW.mono HB.out.size))
              clear hW
              clear hx
              go_wp2_with fail
              rw [Ev10.out]
              clear Ev10
              refine (awake_is _).mono ?_
              rintro e wz ⟨rfl, hb⟩
              have hW : Below v10.heap.size v10 wz := hb
              replace HK := Lib.hid (HK.out.below hW (Nat.le_refl _))
              replace HB := Lib.hid (HB.out.trans (hW.mono HB.out.size))
              clear hW
              go_wp2
              go_ret
              exact told_mk (by simp) HB.out
          · cases ch with
            | true =>
              have g1 : (4 : Int) ≤ (j : Int) := by omega
              replace HGT := Lib.hid (show getA entry x = (zeroA, 12) from HGT.out)
              go_wp2_with fail
              refine (getA_is wr (HK.out.tabs _ (.head _)).1 (HK.out.tabs _ (.head _)).2 HOr.out.rd (show N + 4 ≤ 1000000 by omega) hdc2).mono ?_
              rintro e v1 ⟨A4, n4, c4, rfl, ho4, hb⟩
              rw [HGT.out] at ho4 ⊢
              simp only [zeroA] at ho4 ⊢
              have hW : Below wr.heap.size wr v1 := hb
              replace HK := Lib.hid (HK.out.below hW (Nat.le_refl _))
              replace HB := Lib.hid (HB.out.trans (hW.mono HB.out.size))
              clear hW
              clear ho4 hb
              obtain ⟨g_v2, h_v2⟩ : ∃ g, v1.heap.size = g := ⟨_, rfl⟩
              obtain ⟨v2, e⟩ : ∃ x, v1.alloc (.cells #[.int .i64 0, .int .i64 0, .int .u8 0, .int .i64 0, .int .i64 0, .int .i64 0, .slice A4 n4 c4] 25) = x := ⟨_, rfl⟩
              obtain ⟨hW, hx⟩ := box_new e
              rw [h_v2] at hx
              have Ev2 := Lib.hid e
              clear e
              replace hx := Lib.hid hx
              replace HK := Lib.hid (HK.out.below hW (Nat.le_refl _))
              replace HB := Lib.hid (HB.out.trans (hW.mono HB.out.size))
              clear hW
              clear hx
              obtain ⟨k2, hk2⟩ : ∃ q, cut % N = q := ⟨_, rfl⟩
              have hk2N : k2 < N := by rw [← hk2]; exact Nat.mod_lt _ (by omega)
              have m1 : (cut : Int) % (N : Int) = (k2 : Int) := by omega
              have m2 : (cut : Int).tmod (N : Int) = (k2 : Int) := by rw [Int.tmod_eq_emod_of_nonneg (by omega)]; exact m1
              have hNz : ((N : Int) == 0) = false := by simp; omega
              have sw : IntKind.i64.wrap (cut : Int) = (cut : Int) := IntWalk.i64_in _ (by omega)
              have sl1 := fun W => slice_h C (N + 4) cc N (by omega) W
              have sl2 := fun W => slice_h C N cc k2 (by omega) W
              have HK2 := Lib.hid hk2
              clear hk2
              have htk : (sealed entry body).take N = body := by rw [← HBd.out.2]; unfold sealed; exact List.take_left
              have HTK := Lib.hid htk
              clear htk
              go_wp2_with fail
              rw [Ev2.out]
              clear Ev2
              refine (seal_any ⟨p, 0, none⟩ entry C k2 cc (body.take k2) v2 (HK.out.tabs _ (.head _)).1 (show Rd v2 C k2 (body.take k2) from Rd.take (show Rd v2 C N body from (by have := (show Rd _ C (N + 4) (sealed entry body) from (HK.out.reads _ (.head _))).take (k := N) (show N ≤ N + 4 by omega); rwa [HTK.out] at this)) (by omega)) (show k2 ≤ 70368744177664 by omega)).mono ?_
              rintro e v3 ⟨S, sc, rfl, hos, hb⟩
              have hW : Below v2.heap.size v2 v3 := hb
              replace HK := Lib.hid (HK.out.below hW (Nat.le_refl _))
              replace HB := Lib.hid (HB.out.trans (hW.mono HB.out.size))
              clear hW
              have hcs := hos.cap
              have HS := Lib.hid hos
              clear hos hb
              go_wp2_with fail
              refine (getA_is v3 (HK.out.tabs _ (.head _)).1 (HK.out.tabs _ (.head _)).2 HS.out.rd (show k2 + 4 ≤ 1000000 by omega) hcs).mono ?_
              rintro e v4 ⟨A5, n5, c5, rfl, ho5, hb⟩
              have hg5 : getA entry (sealed entry (body.take k2)) = (zeroA, 110) := by rw [← HBd.out.1]; exact getA_cut HR.out (by rw [HBd.out.1, HBd.out.2]; exact hk2N)
              rw [hg5] at ho5 ⊢
              simp only [zeroA] at ho5 ⊢
              have hW : Below v3.heap.size v3 v4 := hb
              replace HK := Lib.hid (HK.out.below hW (Nat.le_refl _))
              replace HB := Lib.hid (HB.out.trans (hW.mono HB.out.size))
              clear hW
              clear ho5 hb hg5 HS
              obtain ⟨g_v5, h_v5⟩ : ∃ g, v4.heap.size = g := ⟨_, rfl⟩
              obtain ⟨v5, e⟩ : ∃ x, v4.alloc (.cells #[.int .i64 0, .int .i64 0, .int .u8 0, .int .i64 0, .int .i64 0, .int .i64 0, .slice A5 n5 c5] 25) = x := ⟨_, rfl⟩
              obtain ⟨hW, hx⟩ := box_new e
              rw [h_v5] at hx
              have Ev5 := Lib.hid e
              clear e
              replace hx := Lib.hid hx
              replace HK := Lib.hid (HK.out.below hW (Nat.le_refl _))
              replace HB := Lib.hid (HB.out.trans (hW.mono HB.out.size))
              clear hW
              clear hx
              have K5 := Lib.hid (And.intro HK.out HB.out)
              go_wp2_with fail
              rw [Ev5.out]
              clear Ev5
              refine (copy_any C N cc body v5 (show Rd v5 C N body from (by have := (show Rd _ C (N + 4) (sealed entry body) from (HK.out.reads _ (.head _))).take (k := N) (show N ≤ N + 4 by omega); rwa [HTK.out] at this)) (show N ≤ 140737488355328 by omega)).mono ?_
              rintro e v6 ⟨E, ec, rfl, hoe, hb⟩
              have hW : Below v5.heap.size v5 v6 := hb
              replace HK := Lib.hid (HK.out.below hW (Nat.le_refl _))
              replace HB := Lib.hid (HB.out.trans (hW.mono HB.out.size))
              clear hW
              obtain ⟨u, hu⟩ : ∃ u, IntKind.u8.wrap (cut : Int) = u := ⟨_, rfl⟩
              have hu0 : 0 ≤ u ∧ u < 256 := by rw [← hu, IntKind.wrap_u8]; omega
              have hs5 := hb.size
              have HE := Lib.hid (And.intro hoe hb)
              clear hoe hb
              go_wp2_with (at_builtin; refine wpList_app _ rfl (.tmp 118) (.tmp 121) _ rfl v5.heap.size 5 Try.underlying23 info5 rfl (HE.out.1.alloc _) rfl (Rd.one v6 u hu0.1 hu0.2 5 (0, 0)) (by omega) (by rw [size_alloc]; omega) (N + 1) rfl ?_; intro F fc v7 hof hgf hatf)
              have hT6 := (HK.out.tabs _ (.head _))
              have hb57 : Below v5.heap.size v5 v7 := (HE.out.2.alloc hs5 _).grown hgf (by rw [size_alloc]; omega) (fun q hq => (HE.out.1.block q hq).1)
              clear HK HB
              have HK := Lib.hid (K5.out.1.below hb57 (Nat.le_refl _))
              have HB := Lib.hid (K5.out.2.trans (hb57.mono K5.out.2.size))
              clear K5 hT6 HE hgf hatf hb57
              refine (seal_any ⟨p, 0, none⟩ entry F (N + 1) fc (body ++ [UInt8.ofNat u.toNat]) v7 (HK.out.tabs _ (.head _)).1 hof.rd (show N + 1 ≤ 70368744177664 by omega)).mono ?_
              rintro e v8 ⟨S2, sc2, rfl, hos, hb⟩
              have hW : Below v7.heap.size v7 v8 := hb
              replace HK := Lib.hid (HK.out.below hW (Nat.le_refl _))
              replace HB := Lib.hid (HB.out.trans (hW.mono HB.out.size))
              clear hW
              have hcs2 := hos.cap
              have HS2 := Lib.hid hos
              clear hos hb hof
              go_wp2_with fail
              refine (getA_is v8 (HK.out.tabs _ (.head _)).1 (HK.out.tabs _ (.head _)).2 HS2.out.rd (show N + 1 + 4 ≤ 1000000 by omega) hcs2).mono ?_
              rintro e v9 ⟨A6, n6, c6, rfl, ho6, hb⟩
              have hg6 : getA entry (sealed entry (body ++ [UInt8.ofNat u.toNat])) = (zeroA, 110) := by rw [← HBd.out.1]; exact getA_longer HR.out _
              rw [hg6] at ho6 ⊢
              simp only [zeroA] at ho6 ⊢
              have hW : Below v8.heap.size v8 v9 := hb
              replace HK := Lib.hid (HK.out.below hW (Nat.le_refl _))
              replace HB := Lib.hid (HB.out.trans (hW.mono HB.out.size))
              clear hW
              clear ho6 hb hg6 HS2
              obtain ⟨g_v10, h_v10⟩ : ∃ g, v9.heap.size = g := ⟨_, rfl⟩
              obtain ⟨v10, e⟩ : ∃ x, v9.alloc (.cells #[.int .i64 0, .int .i64 0, .int .u8 0, .int .i64 0, .int .i64 0, .int .i64 0, .slice A6 n6 c6] 25) = x := ⟨_, rfl⟩
              obtain ⟨hW, hx⟩ := box_new e
              rw [h_v10] at hx
              have Ev10 := Lib.hid e
              clear e
              replace hx := Lib.hid hx
              replace HK := Lib.hid (HK.out.below hW (Nat.le_refl _))
              replace HB := Lib.hid (HB.out.trans (hW.mono HB.out.size))
              clear hW
              clear hx
              go_wp2_with fail
              rw [Ev10.out]
              clear Ev10
              refine (awake_is _).mono ?_
              rintro e wz ⟨rfl, hb⟩
              have hW : Below v10.heap.size v10 wz := hb
              replace HK := Lib.hid (HK.out.below hW (Nat.le_refl _))
              replace HB := Lib.hid (HB.out.trans (hW.mono HB.out.size))
              clear hW
              go_wp2
              go_ret
              exact told_mk (by simp) HB.out
            | false =>
              have g1 : (4 : Int) ≤ (j : Int) := by omega
              replace HGT := Lib.hid (show getA entry x = (⟨l, s, o, st, i, ve, bs⟩, 0) from HGT.out)
              go_wp2_with fail
              refine (getA_is wr (HK.out.tabs _ (.head _)).1 (HK.out.tabs _ (.head _)).2 HOr.out.rd (show N + 4 ≤ 1000000 by omega) hdc2).mono ?_
              rintro e v1 ⟨A4, n4, c4, rfl, ho4, hb⟩
              rw [HGT.out] at ho4 ⊢
              simp only at ho4 ⊢
              have hW : Below wr.heap.size wr v1 := hb
              replace HK := Lib.hid (HK.out.below hW (Nat.le_refl _))
              replace HB := Lib.hid (HB.out.trans (hW.mono HB.out.size))
              clear hW
              clear ho4 hb
              obtain ⟨g_v2, h_v2⟩ : ∃ g, v1.heap.size = g := ⟨_, rfl⟩
              obtain ⟨v2, e⟩ : ∃ x, v1.alloc (.cells #[.int .i64 l, .int .i64 s, .int .u8 o, .int .i64 st, .int .i64 i, .int .i64 ve, .slice A4 n4 c4] 25) = x := ⟨_, rfl⟩
              obtain ⟨hW, hx⟩ := box_new e
              rw [h_v2] at hx
              have Ev2 := Lib.hid e
              clear e
              replace hx := Lib.hid hx
              replace HK := Lib.hid (HK.out.below hW (Nat.le_refl _))
              replace HB := Lib.hid (HB.out.trans (hW.mono HB.out.size))
              clear hW
              clear hx
              obtain ⟨k2, hk2⟩ : ∃ q, cut % N = q := ⟨_, rfl⟩
              have hk2N : k2 < N := by rw [← hk2]; exact Nat.mod_lt _ (by omega)
              have m1 : (cut : Int) % (N : Int) = (k2 : Int) := by omega
              have m2 : (cut : Int).tmod (N : Int) = (k2 : Int) := by rw [Int.tmod_eq_emod_of_nonneg (by omega)]; exact m1
              have hNz : ((N : Int) == 0) = false := by simp; omega
              have sw : IntKind.i64.wrap (cut : Int) = (cut : Int) := IntWalk.i64_in _ (by omega)
              have sl1 := fun W => slice_h C (N + 4) cc N (by omega) W
              have sl2 := fun W => slice_h C N cc k2 (by omega) W
              have HK2 := Lib.hid hk2
              clear hk2
              have htk : (sealed entry body).take N = body := by rw [← HBd.out.2]; unfold sealed; exact List.take_left
              have HTK := Lib.hid htk
              clear htk
              go_wp2_with fail
              rw [Ev2.out]
              clear Ev2
              refine (seal_any ⟨p, 0, none⟩ entry C k2 cc (body.take k2) v2 (HK.out.tabs _ (.head _)).1 (show Rd v2 C k2 (body.take k2) from Rd.take (show Rd v2 C N body from (by have := (show Rd _ C (N + 4) (sealed entry body) from (HK.out.reads _ (.head _))).take (k := N) (show N ≤ N + 4 by omega); rwa [HTK.out] at this)) (by omega)) (show k2 ≤ 70368744177664 by omega)).mono ?_
              rintro e v3 ⟨S, sc, rfl, hos, hb⟩
              have hW : Below v2.heap.size v2 v3 := hb
              replace HK := Lib.hid (HK.out.below hW (Nat.le_refl _))
              replace HB := Lib.hid (HB.out.trans (hW.mono HB.out.size))
              clear hW
              have hcs := hos.cap
              have HS := Lib.hid hos
              clear hos hb
              go_wp2_with fail
              refine (getA_is v3 (HK.out.tabs _ (.head _)).1 (HK.out.tabs _ (.head _)).2 HS.out.rd (show k2 + 4 ≤ 1000000 by omega) hcs).mono ?_
              rintro e v4 ⟨A5, n5, c5, rfl, ho5, hb⟩
              have hg5 : getA entry (sealed entry (body.take k2)) = (zeroA, 110) := by rw [← HBd.out.1]; exact getA_cut HR.out (by rw [HBd.out.1, HBd.out.2]; exact hk2N)
              rw [hg5] at ho5 ⊢
              simp only [zeroA] at ho5 ⊢
              have hW : Below v3.heap.size v3 v4 := hb
              replace HK := Lib.hid (HK.out.below hW (Nat.le_refl _))
              replace HB := Lib.hid (HB.out.trans (hW.mono HB.out.size))
              clear hW
              clear ho5 hb hg5 HS
              obtain ⟨g_v5, h_v5⟩ : ∃ g, v4.heap.size = g := ⟨_, rfl⟩
              obtain ⟨v5, e⟩ : ∃ x, v4.alloc (.cells #[.int .i64 0, .int .i64 0, .int .u8 0, .int .i64 0, .int .i64 0, .int .i64 0, .slice A5 n5 c5] 25) = x := ⟨_, rfl⟩
              obtain ⟨hW, hx⟩ := box_new e
              rw [h_v5] at hx
              have Ev5 := Lib.hid e
              clear e
              replace hx := Lib.hid hx
              replace HK := Lib.hid (HK.out.below hW (Nat.le_refl _))
              replace HB := Lib.hid (HB.out.trans (hW.mono HB.out.size))
              clear hW
              clear hx
              have K5 := Lib.hid (And.intro HK.out HB.out)
              go_wp2_with fail
              rw [Ev5.out]
              clear Ev5
              refine (copy_any C N cc body v5 (show Rd v5 C N body from (by have := (show Rd _ C (N + 4) (sealed entry body) from (HK.out.reads _ (.head _))).take (k := N) (show N ≤ N + 4 by omega); rwa [HTK.out] at this)) (show N ≤ 140737488355328 by omega)).mono ?_
              rintro e v6 ⟨E, ec, rfl, hoe, hb⟩
              have hW : Below v5.heap.size v5 v6 := hb
              replace HK := Lib.hid (HK.out.below hW (Nat.le_refl _))
              replace HB := Lib.hid (HB.out.trans (hW.mono HB.out.size))
              clear hW
              obtain ⟨u, hu⟩ : ∃ u, IntKind.u8.wrap (cut : Int) = u := ⟨_, rfl⟩
              have hu0 : 0 ≤ u ∧ u < 256 := by rw [← hu, IntKind.wrap_u8]; omega
              have hs5 := hb.size
              have HE := Lib.hid (And.intro hoe hb)
              clear hoe hb
              go_wp2_with (at_builtin; refine wpList_app _ rfl (.tmp 118) (.tmp 121) _ rfl v5.heap.size 5 Try.underlying23 info5 rfl (HE.out.1.alloc _) rfl (Rd.one v6 u hu0.1 hu0.2 5 (0, 0)) (by omega) (by rw [size_alloc]; omega) (N + 1) rfl ?_; intro F fc v7 hof hgf hatf)
              have hT6 := (HK.out.tabs _ (.head _))
              have hb57 : Below v5.heap.size v5 v7 := (HE.out.2.alloc hs5 _).grown hgf (by rw [size_alloc]; omega) (fun q hq => (HE.out.1.block q hq).1)
              clear HK HB
              have HK := Lib.hid (K5.out.1.below hb57 (Nat.le_refl _))
              have HB := Lib.hid (K5.out.2.trans (hb57.mono K5.out.2.size))
              clear K5 hT6 HE hgf hatf hb57
              refine (seal_any ⟨p, 0, none⟩ entry F (N + 1) fc (body ++ [UInt8.ofNat u.toNat]) v7 (HK.out.tabs _ (.head _)).1 hof.rd (show N + 1 ≤ 70368744177664 by omega)).mono ?_
              rintro e v8 ⟨S2, sc2, rfl, hos, hb⟩
              have hW : Below v7.heap.size v7 v8 := hb
              replace HK := Lib.hid (HK.out.below hW (Nat.le_refl _))
              replace HB := Lib.hid (HB.out.trans (hW.mono HB.out.size))
              clear hW
              have hcs2 := hos.cap
              have HS2 := Lib.hid hos
              clear hos hb hof
              go_wp2_with fail
              refine (getA_is v8 (HK.out.tabs _ (.head _)).1 (HK.out.tabs _ (.head _)).2 HS2.out.rd (show N + 1 + 4 ≤ 1000000 by omega) hcs2).mono ?_
              rintro e v9 ⟨A6, n6, c6, rfl, ho6, hb⟩
              have hg6 : getA entry (sealed entry (body ++ [UInt8.ofNat u.toNat])) = (zeroA, 110) := by rw [← HBd.out.1]; exact getA_longer HR.out _
              rw [hg6] at ho6 ⊢
              simp only [zeroA] at ho6 ⊢
              have hW : Below v8.heap.size v8 v9 := hb
              replace HK := Lib.hid (HK.out.below hW (Nat.le_refl _))
              replace HB := Lib.hid (HB.out.trans (hW.mono HB.out.size))
              clear hW
              clear ho6 hb hg6 HS2
              obtain ⟨g_v10, h_v10⟩ : ∃ g, v9.heap.size = g := ⟨_, rfl⟩
              obtain ⟨v10, e⟩ : ∃ x, v9.alloc (.cells #[.int .i64 0, .int .i64 0, .int .u8 0, .int .i64 0, .int .i64 0, .int .i64 0, .slice A6 n6 c6] 25) = x := ⟨_, rfl⟩
              obtain ⟨hW, hx⟩ := box_new e
              rw [h_v10] at hx
              have Ev10 := Lib.hid e
              clear e
              replace hx := Lib.hid hx
              replace HK := Lib.hid (HK.out.below hW (Nat.le_refl _))
              replace HB := Lib.hid (HB.out.trans (hW.mono HB.out.size))
              clear hW
              clear hx
              go_wp2_with fail
              rw [Ev10.out]
              clear Ev10
              refine (awake_is _).mono ?_
              rintro e wz ⟨rfl, hb⟩
              have hW : Below v10.heap.size v10 wz := hb
              replace HK := Lib.hid (HK.out.below hW (Nat.le_refl _))
              replace HB := Lib.hid (HB.out.trans (hW.mono HB.out.size))
              clear hW
              go_wp2
              go_ret
              exact told_mk (by simp) HB.out
    · have kR := Lib.hid (decide_eq_false HR)
      clear HR
      go_enter Try.func7, Try.ntmps7
      obtain ⟨a0, a1, a2, a3, a4, a5, a6⟩ := arr7 (w := (World.alloc (World.alloc w (.cells #[.int .i64 l, .int .i64 s, .int .u8 o, .int .i64 st, .int .i64 i, .int .i64 ve, .slice A n c] 25)) (.cells #[.int .u8 (t0 : Int), .int .u8 (t1 : Int), .int .u8 (t2 : Int), .int .u8 (t3 : Int)] 58))) (by rw [Ew2.out, Ew3.out]; exact (HK.out.rows _ (.tail _ (.head _))))
      go_wp2_with fail
      rw [Ew2.out]
      rw [Ew3.out]
      clear Ew2 Ew3
      refine (small_is w3 l s o st i ve 0 0 0 0 0 ks.out).mono ?_
      rintro e w4 ⟨rfl, hb⟩
      have hW : Below w3.heap.size w3 w4 := hb
      replace HK := Lib.hid (HK.out.below hW (Nat.le_refl _))
      replace HB := Lib.hid (HB.out.trans (hW.mono HB.out.size))
      clear hW
      clear a0 a1 a2 a3 a4 a5 a6 hb
      obtain ⟨a0, a1, a2, a3, a4, a5, a6⟩ := arr7 (w := w4) (by exact (HK.out.rows _ (.tail _ (.head _))))
      go_wp2_with fail
      refine (rightA_is w4 l s o st i ve bs A n c hlen kR.out).mono ?_
      rintro e w5 ⟨rfl, hb⟩
      have hW : Below w4.heap.size w4 w5 := hb
      replace HK := Lib.hid (HK.out.below hW (Nat.le_refl _))
      replace HB := Lib.hid (HB.out.trans (hW.mono HB.out.size))
      clear hW
      clear a0 a1 a2 a3 a4 a5 a6 hb
      go_wp2_with fail
      refine (awake_is _).mono ?_
      rintro e wz ⟨rfl, hb⟩
      have hW : Below w5.heap.size w5 wz := hb
      replace HK := Lib.hid (HK.out.below hW (Nat.le_refl _))
      replace HB := Lib.hid (HB.out.trans (hW.mono HB.out.size))
      clear hW
      go_wp2
      go_ret
      exact told_mk (by simp) HB.out
  · have ks := Lib.hid (show decide (n ≤ 500 ∧ 0 ≤ 500 ∧ 0 ≤ 60 ∧ 0 ≤ 1000) = false by simp; omega)
    go_enter Try.func7, Try.ntmps7
    obtain ⟨a0, a1, a2, a3, a4, a5, a6⟩ := arr7 (w := (World.alloc (World.alloc w (.cells #[.int .i64 l, .int .i64 s, .int .u8 o, .int .i64 st, .int .i64 i, .int .i64 ve, .slice A n c] 25)) (.cells #[.int .u8 (t0 : Int), .int .u8 (t1 : Int), .int .u8 (t2 : Int), .int .u8 (t3 : Int)] 58))) (by rw [Ew2.out, Ew3.out]; exact (HK.out.rows _ (.tail _ (.head _))))
    go_wp2_with fail
    rw [Ew2.out]
    rw [Ew3.out]
    clear Ew2 Ew3
    refine (small_is w3 l s o st i ve 0 0 0 0 0 ks.out).mono ?_
    rintro e w4 ⟨rfl, hb⟩
    have hW : Below w3.heap.size w3 w4 := hb
    replace HK := Lib.hid (HK.out.below hW (Nat.le_refl _))
    replace HB := Lib.hid (HB.out.trans (hW.mono HB.out.size))
    clear hW
    clear a0 a1 a2 a3 a4 a5 a6 hb
    go_wp2_with fail
    refine (awake_is _).mono ?_
    rintro e wz ⟨rfl, hb⟩
    have hW : Below w4.heap.size w4 wz := hb
    replace HK := Lib.hid (HK.out.below hW (Nat.le_refl _))
    replace HB := Lib.hid (HB.out.trans (hW.mono HB.out.size))
    clear hW
    go_wp2
    go_ret
    exact told_mk (by simp) HB.out
end
end Go.Proofs.Ytmiapegecoaccaa
