import Derived.Test.YtfibkpjodhcppaaAwake
import Derived.Test.YtfibkpjodhcppaaBlobs
import Derived.Test.YtfibkpjodhcppaaBack
import Derived.Deep.RegionHeld3
namespace Go.Proofs.Ytfibkpjodhcppaa
open Go.RowKit Go.Coop

/-- a parcel: its number, where its bytes lie, those bytes, whether it is sealed -/
structure Par where
  N : Nat
  B : Option Addr
  n : Nat
  c : Nat
  l : List UInt8
  s : Bool
def Par.cells (p : Par) : List Value := [.int .u64 (p.N : Int), .slice p.B p.n p.c, .bool p.s]
structure Par.Ok (w : World) (p : Par) : Prop where
  num : p.N ≤ 18446744073709551615
  cap : p.n ≤ p.c
  rd : Rd w p.B p.n p.l
/-- parcels that stand beside each other in memory -/
structure PRd (w : World) (F : Option Addr) (m : Nat) (ps : List Par) : Prop where
  len : ps.length = m
  at_ : ∀ (i : Nat) (p : Par), ps[i]? = some p → p.Ok w ∧ ∃ ad, F = some ad ∧ ad.block < w.heap.size ∧ w.cell? (ad.add (i * 3)) = some (.int .u64 (p.N : Int)) ∧ w.cell? (ad.add (i * 3 + 1)) = some (.slice p.B p.n p.c) ∧ w.cell? (ad.add (i * 3 + 2)) = some (.bool p.s)

/-- a string as it is sent -/
def pb (x : List UInt8) : List UInt8 := dig x.length ++ x
/-- a parcel as it is sent -/
def enc (p : Par) : List UInt8 := if p.s then pb (sealed entry (dig p.N ++ pb p.l)) else dig p.N ++ pb p.l
def encs (ps : List Par) : List UInt8 := (ps.map enc).flatten
theorem encs_snoc {ps : List Par} {j : Nat} {p : Par} (h : ps[j]? = some p) : encs (ps.take (j + 1)) = encs (ps.take j) ++ enc p := by
  rw [List.take_add_one, h]
  simp [encs]

set_option maxHeartbeats 1000000 in
set_option maxRecDepth 100000 in
theorem sent_any (a : Addr) (base : Nat) (A : Option Addr) (n c : Nat) (l : List UInt8) (F : Option Addr) (m d : Nat) (ps : List Par) (w : World) (ht : TabAt w a entry) (hal : a.block < w.heap.size) (ho : Own w base 5 A n c l) (hbase : base ≤ w.heap.size) (hp : PRd w F m ps) (hm : m ≤ 20) (hn : n ≤ 100) (hs : ∀ p ∈ ps, p.n ≤ 100) :
    Calls Try.prog 31 #[.pointer (some a), .slice A n c, .slice F m d] w fun e w' => ∃ D q c', e = .returned (.slice D q c') ∧ Own w' base 5 D q c' (l ++ encs ps) ∧ Below base w w' := by
  have HP := Lib.hid hp
  have HT := Lib.hid ht
  have HS := Lib.hid hs
  clear hp ht hs
  go_enter Try.func31, Try.ntmps31
  go_wp2
  go_loopw [1, 11] (fun v i wr => ∃ (j q : Nat) (D : Option Addr) (e : Nat), j ≤ m ∧ i = .int .i64 j ∧ v = .slice D q e ∧ q ≤ 100 + 200 * j ∧ Own wr base 5 D q e (l ++ encs (ps.take j)) ∧ Below w.heap.size w wr) (fun _ i _ => m - (intOf i).toNat)
  case atStart => exact ⟨0, n, A, c, by omega, rfl, rfl, by omega, by simpa [encs] using ho, Below.refl _ _⟩
  case round =>
    obtain ⟨j, q, D, e, hj, rfl, rfl, hq, hown, hbel⟩ := hrel
    by_cases hlt : j < m
    · obtain ⟨p, hpj⟩ : ∃ p, ps[j]? = some p := ⟨_, List.getElem?_eq_getElem (by rw [HP.out.len]; exact hlt)⟩
      obtain ⟨hok, ad, rfl, hab, h0, h1, h2⟩ := HP.out.at_ j p hpj
      have hpn := HS.out p (List.mem_of_getElem? hpj)
      have henc := encs_snoc hpj
      have hbl := hok.rd.below hbel (Nat.le_refl _)
      have hpN := hok.num
      have hpl := hok.rd.len
      have hal2 := hok.cap
      rw [← addr_add_add] at h1 h2
      obtain ⟨N, B, pn, pc, pl, psd⟩ := p
      simp only at hpn hbl hpN hpl henc h0 h1 h2
      have h0' : wr.cell? (ad.add (j * 3)) = some (.int .u64 (N : Int)) := (hbel.cell (p := ad.add (j * 3)) (by rw [addr_add_block]; exact hab)).trans h0
      have h1' : wr.cell? ⟨(ad.add (j * 3)).block, (ad.add (j * 3)).off + 1, none⟩ = some (.slice B pn pc) := (hbel.cell (p := (ad.add (j * 3)).add 1) (by rw [addr_add_block, addr_add_block]; exact hab)).trans h1
      have h2' : wr.cell? ⟨(ad.add (j * 3)).block, (ad.add (j * 3)).off + 2, none⟩ = some (.bool psd) := (hbel.cell (p := (ad.add (j * 3)).add 2) (by rw [addr_add_block, addr_add_block]; exact hab)).trans h2
      have HE := Lib.hid henc
      have HPL := Lib.hid hpl
      have HBL := Lib.hid hbel
      have hdl := dig_length N
      have hdm := dig_length pn
      have hbs := hbel.size
      have hc0 : ((wr.alloc (.cells #[.int .u64 (N : Int), .slice B pn pc, .bool psd] 51))).cell? ⟨wr.heap.size, 0, none⟩ = some (.int .u64 (N : Int)) := by rw [cell_of_row _ _ 0 _ 51 (0, 0) (heap_alloc_new wr _)]; rfl
      have hc1 : ((wr.alloc (.cells #[.int .u64 (N : Int), .slice B pn pc, .bool psd] 51))).cell? ⟨wr.heap.size, 1, none⟩ = some (.slice B pn pc) := by rw [cell_of_row _ _ 1 _ 51 (0, 0) (heap_alloc_new wr _)]; rfl
      have HO := Lib.hid (hown.alloc (.cells #[.int .u64 (N : Int), .slice B pn pc, .bool psd] 51))
      have HB := Lib.hid (hbl.alloc (.cells #[.int .u64 (N : Int), .slice B pn pc, .bool psd] 51))
      have HTw := Lib.hid ((HT.out.below hal hbel).below (Nat.lt_of_lt_of_le hal hbs) ((Below.refl wr.heap.size wr).alloc (Nat.le_refl _) (.cells #[.int .u64 (N : Int), .slice B pn pc, .bool psd] 51)))
      have hg : wr.heap.size < (wr.alloc (.cells #[.int .u64 (N : Int), .slice B pn pc, .bool psd] 51)).heap.size := by rw [size_alloc]; omega
      have halt : a.block < (wr.alloc (.cells #[.int .u64 (N : Int), .slice B pn pc, .bool psd] 51)).heap.size := by rw [size_alloc]; omega
      have HC0 := Lib.hid hc0
      have HC1 := Lib.hid hc1
      clear h0 h1 h2 hpj hok hown hbl hbel hpl henc hc0 hc1 ho
      cases psd
      · go_wp2
        have hl0 := HC0.out
        have hl1 := HC1.out
        generalize hw2e : wr.alloc (.cells #[.int .u64 (N : Int), .slice B pn pc, .bool false] 51) = w2 at *
        have HW2 := Lib.hid hw2e
        clear h0' h1' h2' hw2e
        refine wp_region_held_drew (S := fun w' => w'.cell? ⟨wr.heap.size, 0, none⟩ = some (.int .u64 (N : Int)) ∧ w'.cell? ⟨wr.heap.size, 1, none⟩ = some (.slice B pn pc)) (by kernel_rfl) (⟨hl0, hl1⟩) (fun hHeld => ?_)
        refine wpAnyH_take (i := 0) (oi := ⟨some 27, _, _, _, _, _⟩) (v := ?_) rfl (by kernel_rfl) (by kernel_rfl) (by kernel_rfl) (fun _ _ _ h => h) (Or.inl ⟨by rfl, ?_⟩) (by assumption) ?_
        rotate_left
        · intro w hSw
          (try dsimp only at hSw)
          go_simp
          all_goals (with_reducible rfl)
        try simp only [Act.put, List.setIfInBounds_toArray, List.set_cons_zero, List.set_cons_succ]
        refine wpAnyH_take (i := 1) (oi := ⟨some 28, _, _, _, _, _⟩) (v := ?_) rfl (by kernel_rfl) (by kernel_rfl) (by kernel_rfl) (fun _ _ _ h => h) (Or.inl ⟨by rfl, ?_⟩) (by assumption) ?_
        rotate_left
        · intro w hSw
          (try dsimp only at hSw)
          go_simp
          all_goals (with_reducible rfl)
        try simp only [Act.put, List.setIfInBounds_toArray, List.set_cons_zero, List.set_cons_succ]
        refine wpAnyH_take (i := 2) (oi := ⟨some 29, _, _, _, _, _⟩) (v := ?_) rfl (by kernel_rfl) (by kernel_rfl) (by kernel_rfl) (fun _ _ _ h => h) (Or.inl ⟨by rfl, ?_⟩) (by assumption) ?_
        rotate_left
        · intro w hSw
          obtain ⟨hS0, hS1⟩ := hSw
          go_simp
          all_goals (with_reducible rfl)
        try simp only [Act.put, List.setIfInBounds_toArray, List.set_cons_zero, List.set_cons_succ]
        refine wpAnyH_take (i := 4) (oi := ⟨some 31, _, _, _, _, _⟩) (v := ?_) rfl (by kernel_rfl) (by kernel_rfl) (by kernel_rfl) (fun _ _ _ h => h) (Or.inl ⟨by rfl, ?_⟩) (by assumption) ?_
        rotate_left
        · intro w hSw
          (try dsimp only at hSw)
          go_simp
          all_goals (with_reducible rfl)
        try simp only [Act.put, List.setIfInBounds_toArray, List.set_cons_zero, List.set_cons_succ]
        refine wpAnyH_take (i := 5) (oi := ⟨some 32, _, _, _, _, _⟩) (v := ?_) rfl (by kernel_rfl) (by kernel_rfl) (by kernel_rfl) (fun _ _ _ h => h) (Or.inl ⟨by rfl, ?_⟩) (by assumption) ?_
        rotate_left
        · intro w hSw
          obtain ⟨hS0, hS1⟩ := hSw
          go_simp
          all_goals (with_reducible rfl)
        try simp only [Act.put, List.setIfInBounds_toArray, List.set_cons_zero, List.set_cons_succ]
        refine wpAnyH_ready (rs := [3]) (by kernel_rfl) (by simp) (AllReadyH.cons (o := ⟨some 30, _, _, _, _, _⟩) rfl (fun K hK => ?_) AllReadyH.nil)
        go_simp
        refine (uint_any D q e _ _ _ HO.out.rd.drew (by omega) (by omega) (by omega)).mono ?_
        rintro e w3 ⟨A3, c3, rfl, ho3, hb3⟩
        simp only [Int.toNat_natCast] at ho3 ⊢
        show K _ _
        refine hK.out _ _ (⟨(hb3.cell (p := ⟨wr.heap.size, 0, none⟩) hg).trans hl0, (hb3.cell (p := ⟨wr.heap.size, 1, none⟩) hg).trans hl1⟩) (fun hHeld => ?_)
        clear hK K
        try simp only [Act.put, List.setIfInBounds_toArray, List.set_cons_zero, List.set_cons_succ]
        refine wpAnyH_ready (rs := [6]) (by kernel_rfl) (by simp) (AllReadyH.cons (o := ⟨some 33, _, _, _, _, _⟩) rfl (fun K hK => ?_) AllReadyH.nil)
        go_simp
        refine (blob_any A3 _ c3 _ B pn pc pl _ ho3.rd (HB.out.drew.below hb3 (Nat.le_refl _)) (by omega) (by omega)).mono ?_
        rintro e w4 ⟨A4, c4, rfl, ho4, hb4⟩
        have hb34 := hb3.trans (hb4.mono hb3.size)
        show K _ _
        refine hK.out _ _ (⟨(hb34.cell (p := ⟨wr.heap.size, 0, none⟩) hg).trans hl0, (hb34.cell (p := ⟨wr.heap.size, 1, none⟩) hg).trans hl1⟩) (fun hHeld => ?_)
        clear hK K
        try simp only [Act.put, List.setIfInBounds_toArray, List.set_cons_zero, List.set_cons_succ]
        refine wpAnyH_take (i := 7) (oi := ⟨some 1, _, _, _, _, _⟩) (v := ?_) rfl (by kernel_rfl) (by kernel_rfl) (by kernel_rfl) (fun _ _ _ h => h) (Or.inl ⟨by rfl, ?_⟩) (by assumption) ?_
        rotate_left
        · intro w hSw
          (try dsimp only at hSw)
          go_simp
          all_goals (with_reducible rfl)
        try simp only [Act.put, List.setIfInBounds_toArray, List.set_cons_zero, List.set_cons_succ]
        refine wpAnyH_done (by kernel_rfl) ?_ _
        go_wp2
        go_roundw
        case rel =>
          have hsz : wr.heap.size ≤ w2.heap.size := by omega
          have hbx : Below w.heap.size w w2 := by rw [← HW2.out]; exact HBL.out.alloc hbs _
          have hby : Below w2.heap.size w2 w4 := (Below.refl _ w2).drew.trans hb34
          refine ⟨j + 1, _, _, _, by omega, by go_num, rfl, ?_, ?_, hbx.trans (hby.mono (Nat.le_trans hbs hsz))⟩
          · omega
          · rw [HE.out]
            have e : l ++ (encs (ps.take j) ++ enc ⟨N, B, pn, pc, pl, false⟩) = l ++ encs (ps.take j) ++ dig N ++ dig pn ++ pl := by simp [enc, pb, HPL.out, List.append_assoc]
            rw [e]
            exact ho4.lower (by have h3 : w2.heap.size ≤ w3.heap.size := hb3.size; omega)
        case measure => simp [intOf]; omega
      · go_wp2
        have hl0 := HC0.out
        have hl1 := HC1.out
        generalize hw2e : wr.alloc (.cells #[.int .u64 (N : Int), .slice B pn pc, .bool true] 51) = w2 at *
        have HW2 := Lib.hid hw2e
        clear h0' h1' h2' hw2e
        refine wp_region_held_drew (S := fun w' => w'.cell? ⟨wr.heap.size, 0, none⟩ = some (.int .u64 (N : Int)) ∧ w'.cell? ⟨wr.heap.size, 1, none⟩ = some (.slice B pn pc)) (by kernel_rfl) (⟨hl0, hl1⟩) (fun hHeld => ?_)
        refine wpAnyH_take (i := 0) (oi := ⟨some 17, _, _, _, _, _⟩) (v := ?_) rfl (by kernel_rfl) (by kernel_rfl) (by kernel_rfl) (fun _ _ _ h => h) (Or.inl ⟨by rfl, ?_⟩) (by assumption) ?_
        rotate_left
        · intro w hSw
          (try dsimp only at hSw)
          go_simp
          all_goals (with_reducible rfl)
        try simp only [Act.put, List.setIfInBounds_toArray, List.set_cons_zero, List.set_cons_succ]
        refine wpAnyH_take (i := 1) (oi := ⟨some 18, _, _, _, _, _⟩) (v := ?_) rfl (by kernel_rfl) (by kernel_rfl) (by kernel_rfl) (fun _ _ _ h => h) (Or.inl ⟨by rfl, ?_⟩) (by assumption) ?_
        rotate_left
        · intro w hSw
          (try dsimp only at hSw)
          go_simp
          all_goals (with_reducible rfl)
        try simp only [Act.put, List.setIfInBounds_toArray, List.set_cons_zero, List.set_cons_succ]
        refine wpAnyH_take (i := 2) (oi := ⟨some 19, _, _, _, _, _⟩) (v := ?_) rfl (by kernel_rfl) (by kernel_rfl) (by kernel_rfl) (fun _ _ _ h => h) (Or.inl ⟨by rfl, ?_⟩) (by assumption) ?_
        rotate_left
        · intro w hSw
          (try dsimp only at hSw)
          go_simp
          all_goals (with_reducible rfl)
        try simp only [Act.put, List.setIfInBounds_toArray, List.set_cons_zero, List.set_cons_succ]
        refine wpAnyH_take (i := 3) (oi := ⟨some 20, _, _, _, _, _⟩) (v := ?_) rfl (by kernel_rfl) (by kernel_rfl) (by kernel_rfl) (fun _ _ _ h => h) (Or.inl ⟨by rfl, ?_⟩) (by assumption) ?_
        rotate_left
        · intro w hSw
          obtain ⟨hS0, hS1⟩ := hSw
          go_simp
          all_goals (with_reducible rfl)
        try simp only [Act.put, List.setIfInBounds_toArray, List.set_cons_zero, List.set_cons_succ]
        refine wpAnyH_take (i := 5) (oi := ⟨some 22, _, _, _, _, _⟩) (v := ?_) rfl (by kernel_rfl) (by kernel_rfl) (by kernel_rfl) (fun _ _ _ h => h) (Or.inl ⟨by rfl, ?_⟩) (by assumption) ?_
        rotate_left
        · intro w hSw
          (try dsimp only at hSw)
          go_simp
          all_goals (with_reducible rfl)
        try simp only [Act.put, List.setIfInBounds_toArray, List.set_cons_zero, List.set_cons_succ]
        refine wpAnyH_take (i := 6) (oi := ⟨some 23, _, _, _, _, _⟩) (v := ?_) rfl (by kernel_rfl) (by kernel_rfl) (by kernel_rfl) (fun _ _ _ h => h) (Or.inl ⟨by rfl, ?_⟩) (by assumption) ?_
        rotate_left
        · intro w hSw
          obtain ⟨hS0, hS1⟩ := hSw
          go_simp
          all_goals (with_reducible rfl)
        try simp only [Act.put, List.setIfInBounds_toArray, List.set_cons_zero, List.set_cons_succ]
        refine wpAnyH_ready (rs := [4]) (by kernel_rfl) (by simp) (AllReadyH.cons (o := ⟨some 21, _, _, _, _, _⟩) rfl (fun K hK => ?_) AllReadyH.nil)
        go_simp
        refine (uint_nil N _ (by omega)).mono ?_
        rintro e w3 ⟨A3, c3, rfl, ho3, hb3⟩
        show K _ _
        refine hK.out _ _ (⟨(hb3.cell (p := ⟨wr.heap.size, 0, none⟩) hg).trans hl0, (hb3.cell (p := ⟨wr.heap.size, 1, none⟩) hg).trans hl1⟩) (fun hHeld => ?_)
        clear hK K
        try simp only [Act.put, List.setIfInBounds_toArray, List.set_cons_zero, List.set_cons_succ]
        refine wpAnyH_ready (rs := [7]) (by kernel_rfl) (by simp) (AllReadyH.cons (o := ⟨some 24, _, _, _, _, _⟩) rfl (fun K hK => ?_) AllReadyH.nil)
        go_simp
        refine (blob_any A3 _ c3 _ B pn pc pl _ ho3.rd (HB.out.drew.below hb3 (Nat.le_refl _)) (by omega) (by omega)).mono ?_
        rintro e w4 ⟨A4, c4, rfl, ho4, hb4⟩
        have hb34 := hb3.trans (hb4.mono hb3.size)
        show K _ _
        refine hK.out _ _ (⟨(hb34.cell (p := ⟨wr.heap.size, 0, none⟩) hg).trans hl0, (hb34.cell (p := ⟨wr.heap.size, 1, none⟩) hg).trans hl1⟩) (fun hHeld => ?_)
        clear hK K
        try simp only [Act.put, List.setIfInBounds_toArray, List.set_cons_zero, List.set_cons_succ]
        refine wpAnyH_ready (rs := [8]) (by kernel_rfl) (by simp) (AllReadyH.cons (o := ⟨some 25, _, _, _, _, _⟩) rfl (fun K hK => ?_) AllReadyH.nil)
        go_simp
        refine (seal_any a entry A4 _ c4 _ _ ((show TabAt w2.drew a entry from HTw.out).below halt hb34) ho4.rd (by omega)).mono ?_
        rintro e w5 ⟨A5, c5, rfl, ho5, hb5⟩
        have hb35 := hb34.trans (hb5.mono hb34.size)
        show K _ _
        refine hK.out _ _ (⟨(hb35.cell (p := ⟨wr.heap.size, 0, none⟩) hg).trans hl0, (hb35.cell (p := ⟨wr.heap.size, 1, none⟩) hg).trans hl1⟩) (fun hHeld => ?_)
        clear hK K
        try simp only [Act.put, List.setIfInBounds_toArray, List.set_cons_zero, List.set_cons_succ]
        refine wpAnyH_ready (rs := [9]) (by kernel_rfl) (by simp) (AllReadyH.cons (o := ⟨some 26, _, _, _, _, _⟩) rfl (fun K hK => ?_) AllReadyH.nil)
        go_simp
        refine (blob_any D q e _ A5 _ c5 _ _ (HO.out.rd.drew.below hb35 (Nat.le_refl _)) ho5.rd (by omega) (by omega)).mono ?_
        rintro e w6 ⟨A6, c6, rfl, ho6, hb6⟩
        have hb36 := hb35.trans (hb6.mono hb35.size)
        show K _ _
        refine hK.out _ _ (⟨(hb36.cell (p := ⟨wr.heap.size, 0, none⟩) hg).trans hl0, (hb36.cell (p := ⟨wr.heap.size, 1, none⟩) hg).trans hl1⟩) (fun hHeld => ?_)
        clear hK K
        try simp only [Act.put, List.setIfInBounds_toArray, List.set_cons_zero, List.set_cons_succ]
        refine wpAnyH_take (i := 10) (oi := ⟨some 1, _, _, _, _, _⟩) (v := ?_) rfl (by kernel_rfl) (by kernel_rfl) (by kernel_rfl) (fun _ _ _ h => h) (Or.inl ⟨by rfl, ?_⟩) (by assumption) ?_
        rotate_left
        · intro w hSw
          (try dsimp only at hSw)
          go_simp
          all_goals (with_reducible rfl)
        try simp only [Act.put, List.setIfInBounds_toArray, List.set_cons_zero, List.set_cons_succ]
        refine wpAnyH_done (by kernel_rfl) ?_ _
        go_wp2
        go_roundw
        case rel =>
          have hsz : wr.heap.size ≤ w2.heap.size := by omega
          have hbx : Below w.heap.size w w2 := by rw [← HW2.out]; exact HBL.out.alloc hbs _
          have hby : Below w2.heap.size w2 w6 := (Below.refl _ w2).drew.trans hb36
          refine ⟨j + 1, _, _, _, by omega, by go_num, rfl, ?_, ?_, hbx.trans (hby.mono (Nat.le_trans hbs hsz))⟩
          · have h4 := dig_length ((dig N).length + (dig pn).length + pn + 4)
            omega
          · rw [HE.out]
            have e : l ++ (encs (ps.take j) ++ enc ⟨N, B, pn, pc, pl, true⟩) = l ++ encs (ps.take j) ++ dig ((dig N).length + (dig pn).length + pn + 4) ++ sealed entry (dig N ++ dig pn ++ pl) := by
              simp [enc, pb, HPL.out, List.append_assoc, sealed_length, Nat.add_assoc]
            rw [e]
            exact ho6.lower (by have h3 : w2.heap.size ≤ w5.heap.size := hb35.size; omega)
        case measure => simp [intOf]; omega
    · go_wp2
      go_ret
      obtain rfl : j = m := by omega
      have e1 : ps.take j = ps := List.take_of_length_le (by rw [HP.out.len]; omega)
      rw [e1] at hown
      exact ⟨D, q, e, rfl, hown, hbel.mono hbase⟩
end Go.Proofs.Ytfibkpjodhcppaa
