/- laid: datagrams laid onto a heap. -/
import Derived.Test.YthhablokbnfpcaaQueA
import Derived.Deep.RegionHeld
import Derived.Deep.CutRange
import Derived.Deep.CutBlock
namespace Go.Proofs.Ythhablokbnfpcaa
open Go.RowKit Go.Coop Go.Maps
set_option maxRecDepth 100000
structure LRel (w0 w : World) (g c : Nat) (S : NS) (A : Option Addr) (j cc : Nat) (L : List DatV) : Prop where
  nt : Nt w w0.heap.size g c S
  own : OwnK w w0.heap.size 34 3 A j cc (dcs L)
  its : ∀ o ∈ L, o.In w0
  e : S.ends = 5
  m : S.most = 200
  hp : S.heap = L.map DatV.dt
  bel : Below w0.heap.size w0 w
theorem LRel.len {w0 w : World} {g c : Nat} {S : NS} {A : Option Addr} {j cc : Nat} {L : List DatV} (h : LRel w0 w g c S A j cc L) : L.length = j := by
  have := h.own.len
  rw [dcs_len] at this
  omega
theorem addr_plus (a : Addr) (k i : Nat) (hi : 0 < i) : a.add (k + i) = ⟨(a.add k).block, (a.add k).off + i, none⟩ := by
  rw [addr_add_block]
  unfold Addr.add
  rw [if_neg (by omega)]
  split
  · rename_i h
    simp
  · simp
    omega
theorem slice_h29 (A : Option Addr) (n c y : Nat) (hyc : y ≤ c) (w : World) :
    (Instr.slice 29 (.slice A n c) none (some (.int .i64 (y : Int))) none).run Try.prog w = .ok (.slice A y c) w := by
  obtain ⟨i, hi, hz, h1, h2⟩ := info_parts info5
  have he : Try.prog.elem 29 = 5 := by simp [Program.elem, Try.underlying29]
  have hb : (Instr.sliceBounds true n c none (some (.int .i64 (y : Int))) none).run Try.prog w = .ok (0, y, c) w := by
    simp [Instr.sliceBounds, run_sliceBound, *]
  rw [run_slice_any w 29 A n c (by rw [he]; exact Try.underlying29), hb, he]
  simp [sizeOf, typeInfo, hi, h1, sliced, Result.andThen]
  cases A <;> simp [Addr.add]
theorem LRel.below2 {w0 w w' : World} {g c : Nat} {S : NS} {A : Option Addr} {j cc : Nat} {L : List DatV} (h : LRel w0 w g c S A j cc L) (hb : Below w.heap.size w w') : LRel w0 w' g c S A j cc L :=
  ⟨h.nt.below hb, h.own.below hb (Nat.le_refl _), h.its, h.e, h.m, h.hp, h.bel.trans (hb.mono h.bel.size)⟩
theorem laid_send {w0 w : World} {g c : Nat} {S : NS} {A : Option Addr} {j cc : Nat} {L : List DatV} (h : LRel w0 w g c S A j cc L) (hj : j < 50) {f t : Nat} (hf : f < 5) (ht : t < 5) {l : List UInt8} (hl : l.length ≤ 60) : S.sendE (f : Int) (t : Int) l = 0 ∧ S.send (f : Int) (t : Int) l = S.laid ⟨f, t, l⟩ := by
  have hjn : (S.joins (f : Int) && S.joins (t : Int)) = true := by
    simp only [NS.joins, h.e, Bool.and_eq_true, decide_eq_true_eq]
    omega
  have hlen : S.heap.length = j := by rw [h.hp, List.length_map, h.len]
  have hw := NS.wait_le S (t : Int)
  have hm := h.m
  have hfu : S.full t = false := by
    simp only [NS.full, Bool.or_eq_false_iff, decide_eq_false_iff_not]
    omega
  constructor
  · rw [NS.sendE, if_pos hjn, if_pos (by omega), NS.layE]
    show (if S.full t = true then (5 : Int) else 0) = 0
    rw [hfu]
    rfl
  · rw [NS.send, if_pos hjn, if_pos (by omega), NS.lay]
    show (if S.full t = true then S else _) = _
    rw [hfu]
    rfl
theorem laid_step {w0 w w8 w9 : World} {g c : Nat} {S : NS} {A A' : Option Addr} {j cc c' q f t n : Nat} {L : List DatV} {X : Option Addr} {l : List UInt8} (h : LRel w0 w g c S A j cc L) (hn : Nt w8 w0.heap.size g c (S.laid ⟨f, t, l⟩)) (hb : Below w0.heap.size w0 w8) (ho : OwnK w8 w0.heap.size 34 3 A j cc (dcs L))
    (hown : OwnK w9 w0.heap.size 34 3 A' (j + 1) c' (dcs L ++ (DatV.mk (f : Int) (t : Int) X q n l).cells)) (hgr : w8.grownBy w9 (A.map (·.block))) (hrd : Rd w0 X q l) (hq : q ≤ 60) (hf : f < 5) (ht : t < 5) :
    LRel w0 w9 g c (S.laid ⟨f, t, l⟩) A' (j + 1) c' (L ++ [DatV.mk (f : Int) (t : Int) X q n l]) := by
  refine ⟨hn.grown34 ho hgr, ?_, fun o ho => ?_, h.e, h.m, ?_, hb.grown hgr hb.size (own34_lo ho)⟩
  · rw [dcs_append]
    exact hown
  · rcases List.mem_append.1 ho with ho | ho
    · exact h.its o ho
    · simp at ho
      subst ho
      exact ⟨hrd, hq, ⟨by show (0 : Int) ≤ (f : Int); omega, by show (f : Int) < 5; omega⟩, ⟨by show (0 : Int) ≤ (t : Int); omega, by show (t : Int) < 5; omega⟩⟩
  · rw [List.map_append, ← h.hp]
    rfl
theorem laid_is (w : World) (F : Option Addr) (mo co : Nat) (os : List DatV) (ho : DatsAt w F mo os) (hm : mo ≤ 9223372036854775807) : Calls Try.prog 33 #[.slice F mo co] w fun e w' => ∃ g c A j cc L S, e = .returned (.tuple #[.pointer (some ⟨g, 0, none⟩), .slice A j cc, .bool true]) ∧ j ≤ 50 ∧ LRel w w' g c S A j cc L := by
  have HO := Lib.hid ho
  have hmi : (mo : Int) ≤ 9223372036854775807 := by omega
  clear ho hm
  go_enter Try.func33, Try.ntmps33
  go_wp2_with fail
  refine (nt_new _ 5 200 (by decide) (by decide) (by decide) (by decide)).mono ?_
  rintro e w1 ⟨g, c, rfl, hN, hb⟩
  have h0 : Hid (LRel w w1 g c (NS.new 5 200) none 0 0 []) := Lib.hid ⟨hN, OwnK.nil _ _ _ _, by simp, rfl, rfl, rfl, hb⟩
  clear hN hb
  go_wp2
  go_loopw [6, 7, 8] (fun e out i wr => ∃ (j : Nat) (A : Option Addr) (cc : Nat) (L : List DatV) (S : NS), j ≤ mo ∧ j ≤ 50 ∧ e = .int .i64 0 ∧ out = .slice A j cc ∧ i = .int .i64 j ∧ Hid (LRel w wr g c S A j cc L)) (fun _ _ i _ => 50 - (Go.RowKit.intOf i).toNat)
  case atStart => exact ⟨0, none, 0, [], _, by omega, by omega, rfl, rfl, rfl, h0.out⟩
  case round =>
    obtain ⟨j, A, cc, L, S, hj, hj5, rfl, rfl, rfl, HR⟩ := hrel
    clear h0
    by_cases hjm : j < mo
    · by_cases hj50 : j < 50
      · obtain ⟨o, ad, hoj, hok, rfl, hload⟩ : ∃ o ad, os[j]? = some o ∧ o.Ok w ∧ F = some ad ∧ ∀ i v, o.cells[i]? = some v → wr.cell? (ad.add (j * 3 + i)) = some v := by
          obtain ⟨o, ho⟩ : ∃ o, os[j]? = some o := ⟨_, List.getElem?_eq_getElem (by have := HO.out.len; omega)⟩
          obtain ⟨h1, ad, h2, h3, h4⟩ := HO.out.at_ j o ho
          exact ⟨o, ad, ho, h1, h2, fun i v hi => (HR.out.bel.cell (by rw [addr_add_block]; omega)).trans (h4 i v hi)⟩
        have hij : (0 : Int) ≤ (j : Int) := by omega
        have hjn : (j : Int) < (mo : Int) := by omega
        have hj5i : (j : Int) < 50 := by omega
        have HX := Lib.hid (And.intro hok (And.intro hload (And.intro hjm hj50)))
        clear hoj hok hload hjm hj50 hj hj5
        obtain ⟨b8, hb8⟩ : ∃ b, (ad.add (j * 3)).block = b := ⟨_, rfl⟩
        obtain ⟨o8, ho8⟩ : ∃ b, (ad.add (j * 3)).off = b := ⟨_, rfl⟩
        have e0 := HX.out.2.1 0 _ rfl
        have e1 := HX.out.2.1 1 _ rfl
        have e2 := HX.out.2.1 2 _ rfl
        rw [addr_plus _ _ 1 (by omega)] at e1
        rw [addr_plus _ _ 2 (by omega)] at e2
        have HF : Hid (∀ v, Below wr.heap.size wr v → v.cell? (ad.add (j * 3)) = some (.int .i64 o.fr) ∧ v.cell? ⟨(ad.add (j * 3)).block, (ad.add (j * 3)).off + 1, none⟩ = some (.int .i64 o.tt) ∧ v.cell? ⟨(ad.add (j * 3)).block, (ad.add (j * 3)).off + 2, none⟩ = some (.slice o.X o.n o.c)) :=
          Lib.hid fun v hv => ⟨(hv.cell (by have := block_lt_of_cell e0; simpa using this)).trans e0, (hv.cell (by have := block_lt_of_cell e1; simpa using this)).trans e1, (hv.cell (by have := block_lt_of_cell e2; simpa using this)).trans e2⟩
        clear e0 e1 e2 hb8 ho8 b8 o8
        obtain ⟨q, hq⟩ : ∃ q, min o.n 60 = q := ⟨_, rfl⟩
        have hsl : ∀ v, (Instr.slice 29 (.slice o.X o.n o.c) none (some (.int .i64 (q : Int))) none).run Try.prog v = .ok (.slice o.X q o.c) v := fun v => slice_h29 o.X o.n o.c q (by have := HX.out.1.nc; omega) v
        have hmn : (if (60 : Int) < (o.n : Int) then (60 : Int) else (o.n : Int)) = (q : Int) := by split <;> omega
        obtain ⟨f5, hf5⟩ : ∃ f, pk o.fr 5 = f := ⟨_, rfl⟩
        obtain ⟨t5, ht5⟩ : ∃ f, pk o.tt 5 = f := ⟨_, rfl⟩
        have HP := Lib.hid (And.intro hq (And.intro hf5 ht5))
        clear hq hf5 ht5
        go_upto_region 6 with (fail)
        go_cut [9] from 28 to 53 (fun p wc => ∃ b, p = .pointer (some ⟨b, 0, none⟩) ∧ Hid (wr.heap.size ≤ b ∧ wc.heap[b]? = some (.cells #[.int .i64 (f5 : Int), .int .i64 (t5 : Int), .slice o.X q o.c] 34 (0, 0)) ∧ Below wr.heap.size wr wc))
        case first =>
          refine wp_region_held_drew (S := fun v => Below wr.heap.size wr v) (by kernel_rfl) (((Below.refl wr.heap.size wr).drew)) (fun hHeld => ?_)
          refine wpAnyH_take (i := 0) (oi := ⟨some 28, _, _, _, _, _⟩) (v := ?_) rfl (by kernel_rfl) (by kernel_rfl) (by kernel_rfl) (fun _ _ _ h => h) (Or.inl ⟨by rfl, ?_⟩) (by assumption) ?_
          rotate_left
          · intro w hSw
            (try dsimp only at hSw)
            go_simp
            all_goals (with_reducible rfl)
          try simp only [Act.put, List.setIfInBounds_toArray, List.set_cons_zero, List.set_cons_succ]
          refine wpAnyH_take (i := 1) (oi := ⟨some 29, _, _, _, _, _⟩) (v := ?_) rfl (by kernel_rfl) (by kernel_rfl) (by kernel_rfl) (fun _ _ _ h => h) (Or.inl ⟨by rfl, ?_⟩) (by assumption) ?_
          rotate_left
          · intro w hSw
            (try dsimp only at hSw)
            go_simp
            all_goals (with_reducible rfl)
          try simp only [Act.put, List.setIfInBounds_toArray, List.set_cons_zero, List.set_cons_succ]
          refine wpAnyH_take (i := 2) (oi := ⟨some 30, _, _, _, _, _⟩) (v := ?_) rfl (by kernel_rfl) (by kernel_rfl) (by kernel_rfl) (fun _ _ _ h => h) (Or.inl ⟨by rfl, ?_⟩) (by assumption) ?_
          rotate_left
          · intro w hSw
            (try dsimp only at hSw)
            go_simp
            all_goals (with_reducible rfl)
          try simp only [Act.put, List.setIfInBounds_toArray, List.set_cons_zero, List.set_cons_succ]
          refine wpAnyH_take (i := 3) (oi := ⟨some 31, _, _, _, _, _⟩) (v := ?_) rfl (by kernel_rfl) (by kernel_rfl) (by kernel_rfl) (fun _ _ _ h => h) (Or.inl ⟨by rfl, ?_⟩) (by assumption) ?_
          rotate_left
          · intro w hSw
            (try dsimp only at hSw)
            go_simp
            all_goals (with_reducible rfl)
          try simp only [Act.put, List.setIfInBounds_toArray, List.set_cons_zero, List.set_cons_succ]
          refine wpAnyH_take (i := 4) (oi := ⟨some 32, _, _, _, _, _⟩) (v := ?_) rfl (by kernel_rfl) (by kernel_rfl) (by kernel_rfl) (fun _ _ _ h => h) (Or.inl ⟨by rfl, ?_⟩) (by assumption) ?_
          rotate_left
          · intro w hSw
            have cc := (HF.out w hSw).1
            go_simp
            all_goals (with_reducible rfl)
          try simp only [Act.put, List.setIfInBounds_toArray, List.set_cons_zero, List.set_cons_succ]
          refine wpAnyH_take (i := 6) (oi := ⟨some 34, _, _, _, _, _⟩) (v := ?_) rfl (by kernel_rfl) (by kernel_rfl) (by kernel_rfl) (fun _ _ _ h => h) (Or.inl ⟨by rfl, ?_⟩) (by assumption) ?_
          rotate_left
          · intro w hSw
            (try dsimp only at hSw)
            go_simp
            all_goals (with_reducible rfl)
          try simp only [Act.put, List.setIfInBounds_toArray, List.set_cons_zero, List.set_cons_succ]
          refine wpAnyH_take (i := 7) (oi := ⟨some 35, _, _, _, _, _⟩) (v := ?_) rfl (by kernel_rfl) (by kernel_rfl) (by kernel_rfl) (fun _ _ _ h => h) (Or.inl ⟨by rfl, ?_⟩) (by assumption) ?_
          rotate_left
          · intro w hSw
            (try dsimp only at hSw)
            go_simp
            all_goals (with_reducible rfl)
          try simp only [Act.put, List.setIfInBounds_toArray, List.set_cons_zero, List.set_cons_succ]
          refine wpAnyH_take (i := 8) (oi := ⟨some 36, _, _, _, _, _⟩) (v := ?_) rfl (by kernel_rfl) (by kernel_rfl) (by kernel_rfl) (fun _ _ _ h => h) (Or.inl ⟨by rfl, ?_⟩) (by assumption) ?_
          rotate_left
          · intro w hSw
            (try dsimp only at hSw)
            go_simp
            all_goals (with_reducible rfl)
          try simp only [Act.put, List.setIfInBounds_toArray, List.set_cons_zero, List.set_cons_succ]
          refine wpAnyH_take (i := 9) (oi := ⟨some 37, _, _, _, _, _⟩) (v := ?_) rfl (by kernel_rfl) (by kernel_rfl) (by kernel_rfl) (fun _ _ _ h => h) (Or.inl ⟨by rfl, ?_⟩) (by assumption) ?_
          rotate_left
          · intro w hSw
            (try dsimp only at hSw)
            go_simp
            all_goals (with_reducible rfl)
          try simp only [Act.put, List.setIfInBounds_toArray, List.set_cons_zero, List.set_cons_succ]
          refine wpAnyH_take (i := 10) (oi := ⟨some 38, _, _, _, _, _⟩) (v := ?_) rfl (by kernel_rfl) (by kernel_rfl) (by kernel_rfl) (fun _ _ _ h => h) (Or.inl ⟨by rfl, ?_⟩) (by assumption) ?_
          rotate_left
          · intro w hSw
            have cc := (HF.out w hSw).2.1
            go_simp
            all_goals (with_reducible rfl)
          try simp only [Act.put, List.setIfInBounds_toArray, List.set_cons_zero, List.set_cons_succ]
          refine wpAnyH_take (i := 12) (oi := ⟨some 40, _, _, _, _, _⟩) (v := ?_) rfl (by kernel_rfl) (by kernel_rfl) (by kernel_rfl) (fun _ _ _ h => h) (Or.inl ⟨by rfl, ?_⟩) (by assumption) ?_
          rotate_left
          · intro w hSw
            (try dsimp only at hSw)
            go_simp
            all_goals (with_reducible rfl)
          try simp only [Act.put, List.setIfInBounds_toArray, List.set_cons_zero, List.set_cons_succ]
          refine wpAnyH_take (i := 13) (oi := ⟨some 41, _, _, _, _, _⟩) (v := ?_) rfl (by kernel_rfl) (by kernel_rfl) (by kernel_rfl) (fun _ _ _ h => h) (Or.inl ⟨by rfl, ?_⟩) (by assumption) ?_
          rotate_left
          · intro w hSw
            (try dsimp only at hSw)
            go_simp
            all_goals (with_reducible rfl)
          try simp only [Act.put, List.setIfInBounds_toArray, List.set_cons_zero, List.set_cons_succ]
          refine wpAnyH_take (i := 14) (oi := ⟨some 42, _, _, _, _, _⟩) (v := ?_) rfl (by kernel_rfl) (by kernel_rfl) (by kernel_rfl) (fun _ _ _ h => h) (Or.inl ⟨by rfl, ?_⟩) (by assumption) ?_
          rotate_left
          · intro w hSw
            (try dsimp only at hSw)
            go_simp
            all_goals (with_reducible rfl)
          try simp only [Act.put, List.setIfInBounds_toArray, List.set_cons_zero, List.set_cons_succ]
          refine wpAnyH_take (i := 15) (oi := ⟨some 43, _, _, _, _, _⟩) (v := ?_) rfl (by kernel_rfl) (by kernel_rfl) (by kernel_rfl) (fun _ _ _ h => h) (Or.inl ⟨by rfl, ?_⟩) (by assumption) ?_
          rotate_left
          · intro w hSw
            (try dsimp only at hSw)
            go_simp
            all_goals (with_reducible rfl)
          try simp only [Act.put, List.setIfInBounds_toArray, List.set_cons_zero, List.set_cons_succ]
          refine wpAnyH_take (i := 16) (oi := ⟨some 44, _, _, _, _, _⟩) (v := ?_) rfl (by kernel_rfl) (by kernel_rfl) (by kernel_rfl) (fun _ _ _ h => h) (Or.inl ⟨by rfl, ?_⟩) (by assumption) ?_
          rotate_left
          · intro w hSw
            have cc := (HF.out w hSw).2.2
            go_simp
            all_goals (with_reducible rfl)
          try simp only [Act.put, List.setIfInBounds_toArray, List.set_cons_zero, List.set_cons_succ]
          refine wpAnyH_take (i := 17) (oi := ⟨some 45, _, _, _, _, _⟩) (v := ?_) rfl (by kernel_rfl) (by kernel_rfl) (by kernel_rfl) (fun _ _ _ h => h) (Or.inl ⟨by rfl, ?_⟩) (by assumption) ?_
          rotate_left
          · intro w hSw
            (try dsimp only at hSw)
            go_simp
            all_goals (with_reducible rfl)
          try simp only [Act.put, List.setIfInBounds_toArray, List.set_cons_zero, List.set_cons_succ]
          refine wpAnyH_take (i := 18) (oi := ⟨some 46, _, _, _, _, _⟩) (v := ?_) rfl (by kernel_rfl) (by kernel_rfl) (by kernel_rfl) (fun _ _ _ h => h) (Or.inl ⟨by rfl, ?_⟩) (by assumption) ?_
          rotate_left
          · intro w hSw
            (try dsimp only at hSw)
            go_simp
            all_goals (with_reducible rfl)
          try simp only [Act.put, List.setIfInBounds_toArray, List.set_cons_zero, List.set_cons_succ]
          refine wpAnyH_take (i := 19) (oi := ⟨some 47, _, _, _, _, _⟩) (v := ?_) rfl (by kernel_rfl) (by kernel_rfl) (by kernel_rfl) (fun _ _ _ h => h) (Or.inl ⟨by rfl, ?_⟩) (by assumption) ?_
          rotate_left
          · intro w hSw
            (try dsimp only at hSw)
            go_simp
            all_goals (with_reducible rfl)
          try simp only [Act.put, List.setIfInBounds_toArray, List.set_cons_zero, List.set_cons_succ]
          refine wpAnyH_take (i := 20) (oi := ⟨some 48, _, _, _, _, _⟩) (v := ?_) rfl (by kernel_rfl) (by kernel_rfl) (by kernel_rfl) (fun _ _ _ h => h) (Or.inl ⟨by rfl, ?_⟩) (by assumption) ?_
          rotate_left
          · intro w hSw
            (try dsimp only at hSw)
            go_simp
            all_goals (with_reducible rfl)
          try simp only [Act.put, List.setIfInBounds_toArray, List.set_cons_zero, List.set_cons_succ]
          refine wpAnyH_take (i := 21) (oi := ⟨some 49, _, _, _, _, _⟩) (v := ?_) rfl (by kernel_rfl) (by kernel_rfl) (by kernel_rfl) (fun _ _ _ h => h) (Or.inl ⟨by rfl, ?_⟩) (by assumption) ?_
          rotate_left
          · intro w hSw
            have cc := (HF.out w hSw).2.2
            go_simp
            all_goals (with_reducible rfl)
          try simp only [Act.put, List.setIfInBounds_toArray, List.set_cons_zero, List.set_cons_succ]
          refine wpAnyH_take (i := 22) (oi := ⟨some 50, _, _, _, _, _⟩) (v := ?_) rfl (by kernel_rfl) (by kernel_rfl) (by kernel_rfl) (fun _ _ _ h => h) (Or.inl ⟨by rfl, ?_⟩) (by assumption) ?_
          rotate_left
          · intro w hSw
            (try dsimp only at hSw)
            go_simp
            all_goals (with_reducible rfl)
          try simp only [Act.put, List.setIfInBounds_toArray, List.set_cons_zero, List.set_cons_succ]
          refine wpAnyH_take (i := 23) (oi := ⟨some 51, _, _, _, _, _⟩) (v := ?_) rfl (by kernel_rfl) (by kernel_rfl) (by kernel_rfl) (fun _ _ _ h => h) (Or.inl ⟨by rfl, ?_⟩) (by assumption) ?_
          rotate_left
          · intro w hSw
            (try dsimp only at hSw)
            go_simp
            all_goals (with_reducible rfl)
          try simp only [Act.put, List.setIfInBounds_toArray, List.set_cons_zero, List.set_cons_succ]
          refine wpAnyH_take (i := 24) (oi := ⟨some 52, _, _, _, _, _⟩) (v := ?_) rfl (by kernel_rfl) (by kernel_rfl) (by kernel_rfl) (fun _ _ _ h => h) (Or.inl ⟨by rfl, ?_⟩) (by assumption) ?_
          rotate_left
          · intro w hSw
            have hs := hsl w
            go_simp
            all_goals (with_reducible rfl)
          try simp only [Act.put, List.setIfInBounds_toArray, List.set_cons_zero, List.set_cons_succ]
          refine wpAnyH_ready (rs := [5, 26]) (by kernel_rfl) (by simp) (AllReadyH.cons (o := ⟨some 33, _, _, _, _, _⟩) rfl (fun K hK => ?_) (AllReadyH.cons (o := ⟨some 9, _, _, _, _, _⟩) rfl (fun K hK => ?_) AllReadyH.nil))
          · go_simp
            refine (pick_any o.fr 5 (by decide) (by decide) HX.out.1.fr _).mono ?_
            rintro e _ ⟨rfl, rfl⟩
            rw [HP.out.2.1]
            refine hK.out _ _ (((Below.refl wr.heap.size wr).drew)) (fun hHeld => ?_)
            clear hK K
            try simp only [Act.put, List.setIfInBounds_toArray, List.set_cons_zero, List.set_cons_succ]
            refine wpAnyH_ready (rs := [11, 26]) (by kernel_rfl) (by simp) (AllReadyH.cons (o := ⟨some 39, _, _, _, _, _⟩) rfl (fun K hK => ?_) (AllReadyH.cons (o := ⟨some 9, _, _, _, _, _⟩) rfl (fun K hK => ?_) AllReadyH.nil))
            · go_simp
              refine (pick_any o.tt 5 (by decide) (by decide) HX.out.1.tt _).mono ?_
              rintro e _ ⟨rfl, rfl⟩
              rw [HP.out.2.2]
              refine hK.out _ _ (((Below.refl wr.heap.size wr).drew)) (fun hHeld => ?_)
              clear hK K
              try simp only [Act.put, List.setIfInBounds_toArray, List.set_cons_zero, List.set_cons_succ]
              refine wpAnyH_take (i := 25) (oi := ⟨some 53, _, _, _, _, _⟩) (v := ?_) rfl (by kernel_rfl) (by kernel_rfl) (by kernel_rfl) (fun _ _ _ h => h) (Or.inl ⟨by rfl, ?_⟩) (by assumption) ?_
              rotate_left
              · intro w hSw
                (try dsimp only at hSw)
                go_simp
                all_goals (with_reducible rfl)
              try simp only [Act.put, List.setIfInBounds_toArray, List.set_cons_zero, List.set_cons_succ]
              refine wpAnyH_ready (rs := [26]) (by kernel_rfl) (by simp) (AllReadyH.cons (o := ⟨some 9, _, _, _, _, _⟩) rfl (fun K hK => ?_) AllReadyH.nil)
              go_simp
              obtain ⟨va, hva⟩ : ∃ v, (wr.alloc (.cells #[.int .i64 0, .int .i64 0, .slice none 0 0] 34)).drew = v := ⟨_, rfl⟩
              have hx : va.heap[wr.heap.size]? = some (.cells #[.int .i64 0, .int .i64 0, .slice none 0 0] 34 (0, 0)) := hva ▸ heap_alloc_new wr _
              have Bva : Hid (Below wr.heap.size wr va) := Lib.hid (hva ▸ ((Below.refl wr.heap.size wr).alloc (Nat.le_refl _) _).drew)
              refine hK.out _ _ ((((Below.refl wr.heap.size wr).alloc (Nat.le_refl _) _).drew)) (fun hHeld => ?_)
              clear hK K
              try simp only [Act.put, List.setIfInBounds_toArray, List.set_cons_zero, List.set_cons_succ]
              have HVA := Lib.hid hva
              rw [hva]
              clear hva
              obtain ⟨⟨b0, b1, b2⟩, f0, f1, f2⟩ := three hx
              refine wpAnyH_ready (rs := [27]) (by kernel_rfl) (by simp) (AllReadyH.cons (o := ⟨none, _, _, _, _, _⟩) rfl (fun K hK => ?_) AllReadyH.nil)
              go_simp
              refine hK.out _ _ ((((Bva.out.setCell (by simp) _).setCell (by simp) _).setCell (by simp) _)) (fun hHeld => ?_)
              clear hK K
              try simp only [Act.put, List.setIfInBounds_toArray, List.set_cons_zero, List.set_cons_succ]
              refine wpAnyH_done (by kernel_rfl) ?_ _
              have HE := Lib.hid (And.intro hx Bva.out)
              clear hx b0 b1 b2 f0 f1 f2 hHeld Bva
              go_wp2
              go_meet
              case rel => exact ⟨wr.heap.size, rfl, Nat.le_refl _, row3 HE.out.1, (((HE.out.2.setCell (by simp) _).setCell (by simp) _).setCell (by simp) _)⟩
            · go_simp
              obtain ⟨va, hva⟩ : ∃ v, (wr.alloc (.cells #[.int .i64 0, .int .i64 0, .slice none 0 0] 34)).drew = v := ⟨_, rfl⟩
              have hx : va.heap[wr.heap.size]? = some (.cells #[.int .i64 0, .int .i64 0, .slice none 0 0] 34 (0, 0)) := hva ▸ heap_alloc_new wr _
              have Bva : Hid (Below wr.heap.size wr va) := Lib.hid (hva ▸ ((Below.refl wr.heap.size wr).alloc (Nat.le_refl _) _).drew)
              refine hK.out _ _ ((((Below.refl wr.heap.size wr).alloc (Nat.le_refl _) _).drew)) (fun hHeld => ?_)
              clear hK K
              try simp only [Act.put, List.setIfInBounds_toArray, List.set_cons_zero, List.set_cons_succ]
              have HVA := Lib.hid hva
              rw [hva]
              clear hva
              refine wpAnyH_ready (rs := [11]) (by kernel_rfl) (by simp) (AllReadyH.cons (o := ⟨some 39, _, _, _, _, _⟩) rfl (fun K hK => ?_) AllReadyH.nil)
              go_simp
              refine (pick_any o.tt 5 (by decide) (by decide) HX.out.1.tt _).mono ?_
              rintro e _ ⟨rfl, rfl⟩
              rw [HP.out.2.2]
              refine hK.out _ _ (Bva.out) (fun hHeld => ?_)
              clear hK K
              try simp only [Act.put, List.setIfInBounds_toArray, List.set_cons_zero, List.set_cons_succ]
              refine wpAnyH_take (i := 25) (oi := ⟨some 53, _, _, _, _, _⟩) (v := ?_) rfl (by kernel_rfl) (by kernel_rfl) (by kernel_rfl) (fun _ _ _ h => h) (Or.inl ⟨by rfl, ?_⟩) (by assumption) ?_
              rotate_left
              · intro w hSw
                (try dsimp only at hSw)
                go_simp
                all_goals (with_reducible rfl)
              try simp only [Act.put, List.setIfInBounds_toArray, List.set_cons_zero, List.set_cons_succ]
              obtain ⟨⟨b0, b1, b2⟩, f0, f1, f2⟩ := three hx
              refine wpAnyH_ready (rs := [27]) (by kernel_rfl) (by simp) (AllReadyH.cons (o := ⟨none, _, _, _, _, _⟩) rfl (fun K hK => ?_) AllReadyH.nil)
              go_simp
              refine hK.out _ _ ((((Bva.out.setCell (by simp) _).setCell (by simp) _).setCell (by simp) _)) (fun hHeld => ?_)
              clear hK K
              try simp only [Act.put, List.setIfInBounds_toArray, List.set_cons_zero, List.set_cons_succ]
              refine wpAnyH_done (by kernel_rfl) ?_ _
              have HE := Lib.hid (And.intro hx Bva.out)
              clear hx b0 b1 b2 f0 f1 f2 hHeld Bva
              go_wp2
              go_meet
              case rel => exact ⟨wr.heap.size, rfl, Nat.le_refl _, row3 HE.out.1, (((HE.out.2.setCell (by simp) _).setCell (by simp) _).setCell (by simp) _)⟩
          · go_simp
            obtain ⟨va, hva⟩ : ∃ v, (wr.alloc (.cells #[.int .i64 0, .int .i64 0, .slice none 0 0] 34)).drew = v := ⟨_, rfl⟩
            have hx : va.heap[wr.heap.size]? = some (.cells #[.int .i64 0, .int .i64 0, .slice none 0 0] 34 (0, 0)) := hva ▸ heap_alloc_new wr _
            have Bva : Hid (Below wr.heap.size wr va) := Lib.hid (hva ▸ ((Below.refl wr.heap.size wr).alloc (Nat.le_refl _) _).drew)
            refine hK.out _ _ ((((Below.refl wr.heap.size wr).alloc (Nat.le_refl _) _).drew)) (fun hHeld => ?_)
            clear hK K
            try simp only [Act.put, List.setIfInBounds_toArray, List.set_cons_zero, List.set_cons_succ]
            have HVA := Lib.hid hva
            rw [hva]
            clear hva
            refine wpAnyH_ready (rs := [5]) (by kernel_rfl) (by simp) (AllReadyH.cons (o := ⟨some 33, _, _, _, _, _⟩) rfl (fun K hK => ?_) AllReadyH.nil)
            go_simp
            refine (pick_any o.fr 5 (by decide) (by decide) HX.out.1.fr _).mono ?_
            rintro e _ ⟨rfl, rfl⟩
            rw [HP.out.2.1]
            refine hK.out _ _ (Bva.out) (fun hHeld => ?_)
            clear hK K
            try simp only [Act.put, List.setIfInBounds_toArray, List.set_cons_zero, List.set_cons_succ]
            refine wpAnyH_ready (rs := [11]) (by kernel_rfl) (by simp) (AllReadyH.cons (o := ⟨some 39, _, _, _, _, _⟩) rfl (fun K hK => ?_) AllReadyH.nil)
            go_simp
            refine (pick_any o.tt 5 (by decide) (by decide) HX.out.1.tt _).mono ?_
            rintro e _ ⟨rfl, rfl⟩
            rw [HP.out.2.2]
            refine hK.out _ _ (Bva.out) (fun hHeld => ?_)
            clear hK K
            try simp only [Act.put, List.setIfInBounds_toArray, List.set_cons_zero, List.set_cons_succ]
            refine wpAnyH_take (i := 25) (oi := ⟨some 53, _, _, _, _, _⟩) (v := ?_) rfl (by kernel_rfl) (by kernel_rfl) (by kernel_rfl) (fun _ _ _ h => h) (Or.inl ⟨by rfl, ?_⟩) (by assumption) ?_
            rotate_left
            · intro w hSw
              (try dsimp only at hSw)
              go_simp
              all_goals (with_reducible rfl)
            try simp only [Act.put, List.setIfInBounds_toArray, List.set_cons_zero, List.set_cons_succ]
            obtain ⟨⟨b0, b1, b2⟩, f0, f1, f2⟩ := three hx
            refine wpAnyH_ready (rs := [27]) (by kernel_rfl) (by simp) (AllReadyH.cons (o := ⟨none, _, _, _, _, _⟩) rfl (fun K hK => ?_) AllReadyH.nil)
            go_simp
            refine hK.out _ _ ((((Bva.out.setCell (by simp) _).setCell (by simp) _).setCell (by simp) _)) (fun hHeld => ?_)
            clear hK K
            try simp only [Act.put, List.setIfInBounds_toArray, List.set_cons_zero, List.set_cons_succ]
            refine wpAnyH_done (by kernel_rfl) ?_ _
            have HE := Lib.hid (And.intro hx Bva.out)
            clear hx b0 b1 b2 f0 f1 f2 hHeld Bva
            go_wp2
            go_meet
            case rel => exact ⟨wr.heap.size, rfl, Nat.le_refl _, row3 HE.out.1, (((HE.out.2.setCell (by simp) _).setCell (by simp) _).setCell (by simp) _)⟩
        case rest =>
          obtain ⟨b, rfl, HC⟩ := hcut
          have hQ : q ≤ 60 ∧ q ≤ o.n := by have := HP.out.1; omega
          have hf5 : f5 < 5 := by rw [← HP.out.2.1]; exact pk_lt _ (by decide)
          have ht5 : t5 < 5 := by rw [← HP.out.2.2]; exact pk_lt _ (by decide)
          have hb1 : Below w.heap.size wr wc := HC.out.2.2.mono HR.out.bel.size
          have HR2 := Lib.hid (And.intro (HR.out.below2 HC.out.2.2) (And.intro HR.out.len (And.intro hQ (And.intro hf5 ht5))))
          have hrd : Rd wc o.X q (o.l.take q) := (HX.out.1.rd.below (HR.out.bel.trans hb1) (Nat.le_refl _)).take hQ.2
          have hrd0 : Rd w o.X q (o.l.take q) := HX.out.1.rd.take hQ.2
          have HD := Lib.hid (And.intro hrd hrd0)
          obtain ⟨⟨k0, k1, k2⟩, _, _, _⟩ := three HC.out.2.1
          clear hQ hf5 ht5 hrd hrd0 HR hb1 hsl hmn HF
          go_wp2_with fail
          refine (nt_send _ HR2.out.1.nt (f5 : Int) (t5 : Int) HD.out.1 _ (q := 0) (laid_send HR2.out.1 HX.out.2.2.2 HR2.out.2.2.2.1 HR2.out.2.2.2.2 (by have := HD.out.1.len; have := HR2.out.2.2.1.1; omega)).1 (laid_send HR2.out.1 HX.out.2.2.2 HR2.out.2.2.2.1 HR2.out.2.2.2.2 (by have := HD.out.1.len; have := HR2.out.2.2.1.1; omega)).2).mono ?_
          rintro e w7 ⟨rfl, hn, hb, hk⟩
          have hrow7 := hk.cells _ _ _ _ HC.out.2.1 (by decide) (by decide)
          have H7 := Lib.hid (And.intro hn (And.intro (HR2.out.1.bel.trans hb) (And.intro (own34_kp HR2.out.1.own hk) hrow7)))
          clear hn hb hk hrow7 k0 k1 k2
          obtain ⟨⟨k0, k1, k2⟩, _, _, _⟩ := three H7.out.2.2.2
          have hj5 : j < 50 := HX.out.2.2.2
          obtain ⟨w8, hw8⟩ : ∃ v, w7.alloc (.cells #[.int .i64 (f5 : Int), .int .i64 (t5 : Int), .slice o.X q o.c] 34) = v := ⟨_, rfl⟩
          have hr8 : RdV w8 (some ⟨w7.heap.size, 0, none⟩) (1 * 3) (DatV.mk (f5 : Int) (t5 : Int) o.X q o.c (o.l.take q)).cells := hw8 ▸ RdV.new w7 _ 34 (0, 0)
          have hB8 : Below w7.heap.size w7 w8 := hw8 ▸ (Below.refl _ _).alloc (Nat.le_refl _) _
          have H8 := Lib.hid (And.intro (H7.out.1.below hB8) (And.intro (H7.out.2.1.trans (hB8.mono H7.out.2.1.size)) (And.intro (H7.out.2.2.1.below hB8 (Nat.le_refl _)) hr8)))
          clear hr8 hB8
          go_wp2_with (at_builtin; refine wpList_appK _ rfl (.tmp 62) (.tmp 64) 67 rfl w.heap.size 34 3 _ 40 Try.underlying67 info34 rfl (by omega) (A := A) (n := j) (c := cc) (vs := dcs L) (B := some ⟨w7.heap.size, 0, none⟩) (m := 1) (d := 1) (us := (DatV.mk (f5 : Int) (t5 : Int) o.X q o.c (o.l.take q)).cells) rfl H8.out.2.2.1 rfl H8.out.2.2.2 (by omega) (by intro u hu; simp [DatV.cells] at hu; rcases hu with rfl | rfl | rfl <;> rfl) (by omega) (by omega) H8.out.2.1.size (j + 1) rfl ?_; intro A' c' w9 hown hgr hA)
          have HE : Hid (LRel w w9 g c (S.laid ⟨f5, t5, o.l.take q⟩) A' (j + 1) c' (L ++ [DatV.mk (f5 : Int) (t5 : Int) o.X q o.c (o.l.take q)])) := Lib.hid (laid_step HR2.out.1 H8.out.1 H8.out.2.1 H8.out.2.2.1 hown hgr HD.out.2 HR2.out.2.2.1.1 HR2.out.2.2.2.1 HR2.out.2.2.2.2)
          have HJ := Lib.hid (And.intro HX.out.2.2.1 hj5)
          clear hown hgr hA k0 k1 k2 hw8 hj5
          go_wp2
          go_roundw
          case rel => exact ⟨j + 1, A', c', _, _, by have := HJ.out.1; omega, by have := HJ.out.2; omega, rfl, rfl, by go_num, HE.out⟩
          case measure => have := HJ.out; simp [Go.RowKit.intOf]; omega
      · obtain rfl : j = 50 := by omega
        have hjn : ((50 : Nat) : Int) < (mo : Int) := by omega
        have HE := Lib.hid HR.out
        clear HR hj hj5 hjm hj50
        go_wp2
        go_ret3
        exact ⟨g, c, A, 50, cc, L, S, rfl, Nat.le_refl _, HE.out⟩
    · obtain rfl : j = mo := by omega
      have HE := Lib.hid (And.intro HR.out hj5)
      clear HR hj hj5 hjm
      go_wp2
      go_ret3
      exact ⟨g, c, A, j, cc, L, S, rfl, HE.out.2, HE.out.1⟩
end Go.Proofs.Ythhablokbnfpcaa
