import Derived.Test.YtfibkpjodhcppaaGot
import Derived.Test.YtfibkpjodhcppaaTails
namespace Go.Proofs.Ytfibkpjodhcppaa
open Go.RowKit Go.Coop

theorem info51 : (Try.prog.info? 51).map (·.size) = some 3 := by kernel_rfl
theorem slice_h49 (A : Option Addr) (n c y : Nat) (hy : y ≤ c) (w : World) : (Instr.slice 49 (.slice A n c) none (some (.int .i64 (y : Int))) none).run Try.prog w = .ok (.slice A y c) w := by
  obtain ⟨i, hi, h1⟩ := Option.map_eq_some_iff.1 info51
  have he : Try.prog.elem 49 = 51 := by simp [Program.elem, Try.underlying49]
  have hb : (Instr.sliceBounds true n c none (some (.int .i64 (y : Int))) none).run Try.prog w = .ok (0, y, c) w := by
    simp [Instr.sliceBounds, run_sliceBound, *]
  rw [run_slice_any w 49 A n c (by rw [he]; exact Try.underlying49), hb, he]
  simp [sizeOf, typeInfo, hi, h1, sliced, Result.andThen]
  cases A <;> simp [Addr.add]

theorem PRd.below {w w' : World} {F : Option Addr} {m : Nat} {ps : List Par} {B : Nat} (h : PRd w F m ps) (hb : Below B w w') (hB : w.heap.size ≤ B) : PRd w' F m ps :=
  ⟨h.len, fun i p hp => by
    obtain ⟨hok, ad, e, hab, h0, h1, h2⟩ := h.at_ i p hp
    have hc : ∀ k, w'.cell? (ad.add k) = w.cell? (ad.add k) := fun k => hb.cell (by rw [addr_add_block]; omega)
    exact ⟨⟨hok.num, hok.cap, hok.rd.below hb hB⟩, ad, e, by have := hb.size; omega, (hc _).trans h0, (hc _).trans h1, (hc _).trans h2⟩⟩
theorem PRd.take {w : World} {F : Option Addr} {m : Nat} {ps : List Par} (h : PRd w F m ps) {k : Nat} (hk : k ≤ m) : PRd w F k (ps.take k) :=
  ⟨by have := h.len; simp; omega, fun i p hp => by
    rw [List.getElem?_take] at hp
    split at hp
    · exact h.at_ i p hp
    · cases hp⟩
/-- the cells of one of them, as the walk asks for them -/
theorem PRd.cells {w : World} {F : Option Addr} {m : Nat} {ps : List Par} (h : PRd w F m ps) {j : Nat} (hj : j < m) :
    ∃ ad N B n c l s, F = some ad ∧ ps[j]? = some ⟨N, B, n, c, l, s⟩ ∧ N ≤ 18446744073709551615 ∧ n ≤ c ∧ Rd w B n l ∧ w.cell? (ad.add (j * 3)) = some (.int .u64 (N : Int)) ∧
      w.cell? ⟨(ad.add (j * 3)).block, (ad.add (j * 3)).off + 1, none⟩ = some (.slice B n c) ∧ w.cell? ⟨(ad.add (j * 3)).block, (ad.add (j * 3)).off + 2, none⟩ = some (.bool s) := by
  obtain ⟨p, hp⟩ : ∃ p, ps[j]? = some p := ⟨_, List.getElem?_eq_getElem (by rw [h.len]; exact hj)⟩
  obtain ⟨hok, ad, e, hab, h0, h1, h2⟩ := h.at_ j p hp
  rw [← addr_add_add] at h1 h2
  exact ⟨ad, p.N, p.B, p.n, p.c, p.l, p.s, e, hp, hok.num, hok.cap, hok.rd, h0, h1, h2⟩

theorem encs_split {ps : List Par} {i : Nat} {p : Par} (h : ps[i]? = some p) : encs ps = encs (ps.take i) ++ (enc p ++ encs (ps.drop (i + 1))) := by
  have hi : i < ps.length := (List.getElem?_eq_some_iff.1 h).1
  have e : ps = ps.take i ++ (p :: ps.drop (i + 1)) := by
    have h2 : ps[i] = p := (List.getElem?_eq_some_iff.1 h).2
    rw [← h2, ← List.drop_eq_getElem_cons hi, List.take_append_drop]
  conv => lhs; rw [e]
  simp [encs]
theorem encs_small : ∀ (ps : List Par), (∀ p ∈ ps, p.n ≤ 100) → (∀ p ∈ ps, p.l.length = p.n) → (encs ps).length ≤ 200 * ps.length
  | [], _, _ => by simp [encs]
  | p :: r, h, h' => by
    have ih := encs_small r (fun q hq => h q (by simp [hq])) (fun q hq => h' q (by simp [hq]))
    have hn := h p (by simp)
    have hl := h' p (by simp)
    have e : encs (p :: r) = enc p ++ encs r := by simp [encs]
    have h1 := dig_length p.N
    have h2 := dig_length p.l.length
    have hx : (dig p.N ++ pb p.l).length = (dig p.N).length + ((dig p.l.length).length + p.l.length) := by simp [pb]
    have h3 := dig_length (sealed entry (dig p.N ++ pb p.l)).length
    have he : (enc p).length ≤ 200 := by
      unfold enc
      split
      · have : (pb (sealed entry (dig p.N ++ pb p.l))).length = (dig (sealed entry (dig p.N ++ pb p.l)).length).length + (sealed entry (dig p.N ++ pb p.l)).length := by simp [pb]
        rw [this, sealed_length, hx]
        rw [sealed_length, hx] at h3
        omega
      · rw [hx]; omega
    rw [e, List.length_append, List.length_cons]
    omega

set_option maxHeartbeats 2000000 in
set_option maxRecDepth 100000 in
theorem parcels_any (F : Option Addr) (m d : Nat) (ps0 : List Par) (A : Option Addr) (n c : Nat) (la : List UInt8) (B : Option Addr) (bn bc : Nat) (lb : List UInt8) (w : World)
    (hp : PRd w F m ps0) (hmd : m ≤ d) (hm : m ≤ 9223372036854775807) (hra : Rd w A n la) (hrb : Rd w B bn lb) :
    Calls Try.prog 5 #[.slice F m d, .slice A n c, .slice B bn bc] w (Holds w) := by
  obtain ⟨Z, hZs, hz⟩ := zero24
  have HZ := Lib.hid hZs
  obtain ⟨s, hs1, hs2, hs3⟩ : ∃ s : Nat, s ≤ m ∧ s ≤ 20 ∧ min (m : Int) 20 = (s : Int) := ⟨min m 20, by omega, by omega, by omega⟩
  have hsl := fun w => slice_h49 F m d s (by omega) w
  obtain ⟨ps, hps⟩ : ∃ ps, ps = ps0.take s := ⟨_, rfl⟩
  have HP := Lib.hid (hp.take (k := s) hs1)
  rw [← hps] at HP
  have HA := Lib.hid hra
  have HB := Lib.hid hrb
  clear hZs hp hps hra hrb
  go_enter Try.func5, Try.ntmps5
  go_wp2
  clear hsl hs3
  go_loopw [24] (fun v wr => ∃ j : Nat, j ≤ s ∧ v = .int .i64 j ∧ Hid (∀ p ∈ ps.take j, p.n ≤ 100) ∧ Below w.heap.size w wr) (fun v _ => s - (intOf v).toNat)
  case atStart => exact ⟨0, by omega, rfl, by simp [Hid], Below.refl _ _⟩
  case round =>
    obtain ⟨j, hj, rfl, HS, hbel⟩ := hrel
    by_cases hlt : j < s
    · obtain ⟨ad, N, pB, pn, pc, pl, psd, rfl, hpj, hN, hcc, hrd, h0, h1, h2⟩ := (HP.out.below hbel (Nat.le_refl _)).cells hlt
      have HPJ := Lib.hid hpj
      have HBL := Lib.hid hbel
      have hbs := hbel.size
      clear hpj hrd hbel
      by_cases h100 : 100 < pn
      · go_wp2_with (go_at_call 18; refine (awake_any _).mono ?_; rintro e w1 ⟨rfl, hb1⟩)
        go_ret
        exact ⟨rfl, (HBL.out.alloc hbs _).trans (hb1.mono (by rw [size_alloc]; omega))⟩
      · go_wp2
        go_roundw
        case rel =>
          refine ⟨j + 1, by omega, by go_num, ?_, HBL.out.alloc hbs _⟩
          intro p hp
          rw [List.take_add_one, HPJ.out, List.mem_append] at hp
          rcases hp with hp | hp
          · exact HS.out p hp
          · simp at hp
            subst hp
            show pn ≤ 100
            omega
        case measure => simp [intOf]; omega
    · obtain rfl : j = s := by omega
      have hall : ∀ p ∈ ps, p.n ≤ 100 := by
        have e : ps.take j = ps := List.take_of_length_le (by rw [HP.out.len]; omega)
        have := HS.out
        rwa [e] at this
      have HALL := Lib.hid hall
      have HBL := Lib.hid hbel
      have hbs := hbel.size
      clear hall hbel HS
      by_cases h1 : 100 < n
      · go_wp2_with (go_at_call 18; refine (awake_any _).mono ?_; rintro e w1 ⟨rfl, hb1⟩)
        go_ret
        exact ⟨rfl, HBL.out.trans (hb1.mono hbs)⟩
      · by_cases h2 : 100 < bn
        · go_wp2_with (go_at_call 18; refine (awake_any _).mono ?_; rintro e w1 ⟨rfl, hb1⟩)
          go_ret
          exact ⟨rfl, HBL.out.trans (hb1.mono hbs)⟩
        · have hd1 : decide (100 < (n : Int)) = false := by simp; omega
          have hd2 : decide (100 < (bn : Int)) = false := by simp; omega
          go_wp2_with (first
            | (go_at_call 10; refine (table_any _).mono ?_; rintro e w1 ⟨rfl, hb1⟩; rw [show tarr ((List.range 256).map entry) = T0 from rfl])
            | ((with_reducible refine wpList_store_new (o := ⟨none, .store 24 (.tmp 9) (.tmp 43), _, _, _, _⟩) ?_ 24 (.tmp 9) (.tmp 43) ?_ T0 Z ?_ ?_ 24 size24' HZ.out T0_one ?_)
               case refine_1 => rfl
               case refine_2 => rfl
               case refine_3 => rfl
               case refine_4 => rfl))
          have hbw2 : Below w.heap.size w (w1.alloc (.cells T0 24)) := (HBL.out.trans (hb1.mono hbs)).alloc (Nat.le_trans hbs hb1.size) _
          have HT := Lib.hid (tab_new w1 (0, 0))
          have hltw : w1.heap.size < (w1.alloc (.cells T0 24)).heap.size := by rw [size_alloc]; omega
          have HBW := Lib.hid hbw2
          have hsw : w.heap.size ≤ (w1.alloc (.cells T0 24)).heap.size := hbw2.size
          have HP2 := Lib.hid (HP.out.below hbw2 (Nat.le_refl _))
          have HA2 := Lib.hid (HA.out.below hbw2 (Nat.le_refl _))
          have HB2 := Lib.hid (HB.out.below hbw2 (Nat.le_refl _))
          clear hd1 hd2 hz hb1 hbw2 HBL
          generalize w1.alloc (.cells T0 24) = w2 at *
          refine (copy_any A n c la _ HA2.out (by omega)).mono ?_
          rintro e w3 ⟨A3, c3, rfl, ho3, hb3⟩
          have hs3 := hb3.size
          go_wp2_with fail
          refine (sent_any ⟨w1.heap.size, 0, none⟩ w2.heap.size A3 n c3 la F j d ps w3 (HT.out.below hltw hb3) (Nat.lt_of_lt_of_le hltw hs3) ho3 hs3 (HP2.out.below hb3 (Nat.le_refl _)) (by omega) (by omega) HALL.out).mono ?_
          rintro e w4 ⟨D, q, e', rfl, ho4, hb4⟩
          have hb24 : Below w2.heap.size w2 w4 := hb3.trans hb4
          have hs4 := hb24.size
          have HO4 := Lib.hid ho4
          have HB24 := Lib.hid hb24
          have hql := ho4.len
          have hqs : q ≤ 100 + 200 * j := by
            rw [← hql, List.length_append, HA2.out.len]
            have := encs_small ps HALL.out (fun p hp => by obtain ⟨i, hi⟩ := List.getElem?_of_mem hp; exact ((HP2.out.at_ i p hi).1).rd.len)
            rw [HP2.out.len] at this
            omega
          have HQL := Lib.hid hql
          clear ho3 hb3 ho4 hb4 hb24 hql
          go_wp2_with (at_builtin; refine wpList_app _ rfl (.tmp 50) (.tmp 51) _ rfl w2.heap.size 5 Try.underlying32 info5 rfl HO4.out rfl (HB2.out.below HB24.out (Nat.le_refl _)) (by omega) hs4 (q + bn) rfl ?_; intro D5 c5 w5 ho5 hg5 hat5)
          have hb25 : Below w2.heap.size w2 w5 := HB24.out.grown hg5 hs4 (fun k hk => (HO4.out.block k hk).1)
          have hs5 := hb25.size
          have hc5 := ho5.cap
          have HO5 := Lib.hid ho5
          have HB5 := Lib.hid hb25
          have HP5 := Lib.hid (HP2.out.below hb25 (Nat.le_refl _))
          have HT5 := Lib.hid (HT.out.below hltw hb25)
          have hlt5 : w1.heap.size < w5.heap.size := Nat.lt_of_lt_of_le hltw hs5
          clear ho5 hg5 hat5 hb25 HO4
          go_loopw [12, 57] (fun v z wr => ∃ (i k : Nat), i ≤ j ∧ z = .int .i64 i ∧ v = .int .i64 k ∧ Hid (k = (la ++ encs (ps.take i)).length) ∧ Below w5.heap.size w5 wr) (fun _ z _ => j - (intOf z).toNat)
          case atStart => exact ⟨0, n, by omega, rfl, rfl, by show n = _; simp [encs, HA2.out.len], Below.refl _ _⟩
          case round =>
            obtain ⟨i, k, hi, rfl, rfl, HK, hbel2⟩ := hrel
            have hbs2 := hbel2.size
            have HBL2 := Lib.hid hbel2
            by_cases hlt2 : i < j
            · obtain ⟨ad, N, pB, pn, pc, pl, psd, rfl, hpj, hN, hcc, hrd, h0, h1c, h2c⟩ := (HP5.out.below hbel2 (Nat.le_refl _)).cells hlt2
              have hpn := HALL.out _ (List.mem_of_getElem? hpj)
              simp only at hpn
              have HPJ := Lib.hid hpj
              have HRD := Lib.hid hrd
              have ht6 := (HT5.out.below hlt5 hbel2).below (Nat.lt_of_lt_of_le hlt5 hbs2) ((Below.refl wr.heap.size wr).alloc (Nat.le_refl _) (.cells #[.int .u64 (N : Int), .slice pB pn pc, .bool psd] 51))
              have HT6 := Lib.hid ht6
              have hlt6 : w1.heap.size < (wr.alloc (.cells #[.int .u64 (N : Int), .slice pB pn pc, .bool psd] 51)).heap.size := by rw [size_alloc]; omega
              clear hpj hrd hbel2 ht6
              cases psd
              · have hlen : la ++ encs ps ++ lb = (la ++ encs (ps.take i)) ++ ((dig N ++ pb pl) ++ (encs (ps.drop (i + 1)) ++ lb)) := by
                  rw [encs_split HPJ.out]; simp [enc, List.append_assoc]
                have hG := got_plain ⟨w1.heap.size, 0, none⟩ D5 (q + bn) c5 _ k N pB pn pc pl (la ++ encs (ps.take i)) (encs (ps.drop (i + 1)) ++ lb) (wr.alloc (.cells #[.int .u64 (N : Int), .slice pB pn pc, .bool false] 51)) ((HO5.out.rd.below HBL2.out (Nat.le_refl _)).alloc _) hc5 (by omega) (HRD.out.alloc _) hpn hN hlen HK.out
                have HG := Lib.hid hG
                clear hG hlen
                go_wp2_with fail
                refine HG.out.mono ?_
                rintro e w7 ⟨rfl, hb7⟩
                go_wp2
                go_roundw
                case rel =>
                  refine ⟨i + 1, _, by omega, by go_num, rfl, ?_, (HBL2.out.alloc hbs2 _).trans (hb7.mono (by rw [size_alloc]; omega))⟩
                  show _ = _
                  rw [encs_snoc HPJ.out]
                  simp [enc, Nat.add_assoc]
                case measure => simp [intOf]; omega
              · have hlen : la ++ encs ps ++ lb = (la ++ encs (ps.take i)) ++ (pb (sealed entry (dig N ++ pb pl)) ++ (encs (ps.drop (i + 1)) ++ lb)) := by
                  rw [encs_split HPJ.out]; simp [enc, List.append_assoc]
                have hG := got_sealed ⟨w1.heap.size, 0, none⟩ D5 (q + bn) c5 _ k N pB pn pc pl (la ++ encs (ps.take i)) (encs (ps.drop (i + 1)) ++ lb) (wr.alloc (.cells #[.int .u64 (N : Int), .slice pB pn pc, .bool true] 51)) HT6.out hlt6 ((HO5.out.rd.below HBL2.out (Nat.le_refl _)).alloc _) hc5 (by omega) (HRD.out.alloc _) hpn hN hlen HK.out
                have HG := Lib.hid hG
                clear hG hlen
                go_wp2_with fail
                refine HG.out.mono ?_
                rintro e w7 ⟨rfl, hb7⟩
                go_wp2
                go_roundw
                case rel =>
                  refine ⟨i + 1, _, by omega, by go_num, rfl, ?_, (HBL2.out.alloc hbs2 _).trans (hb7.mono (by rw [size_alloc]; omega))⟩
                  show _ = _
                  rw [encs_snoc HPJ.out]
                  simp [enc, Nat.add_assoc]
                case measure => simp [intOf]; omega
            · obtain rfl : i = j := by omega
              have hkq : k = q := by
                rw [HK.out, ← HQL.out, List.take_of_length_le (by rw [HP5.out.len]; omega)]
              subst hkq
              clear hbel2
              go_wp2_with fail
              refine (awake_any _).mono ?_
              rintro e w7 ⟨rfl, hb7⟩
              go_wp2
              go_ret
              have hf := (HBW.out.trans (HB5.out.mono hsw)).trans (HBL2.out.mono (Nat.le_trans hsw hs5))
              exact ⟨rfl, hf.trans (hb7.mono (Nat.le_trans (Nat.le_trans hsw hs5) hbs2))⟩
end Go.Proofs.Ytfibkpjodhcppaa
