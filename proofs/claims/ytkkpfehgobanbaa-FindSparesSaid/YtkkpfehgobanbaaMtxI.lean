/- The elimination. -/
import Derived.Test.YtkkpfehgobanbaaMtxH
import Derived.Deep.CutRange
namespace Go.Proofs.Ytkkpfehgobanbaa
open Go.RowKit Go.Coop
set_option maxRecDepth 100000

theorem seek_eq {F : Fn2} {col led n f : Nat} (h1 : ∀ a, led ≤ a → a < f → F a col = 0) (hf : led ≤ f) (hfn : f ≤ n) (h2 : f = n ∨ F f col ≠ 0) : led + seek F col led (n - led) = f := by
  have a := seek_le F col (n - led) led
  rcases Nat.lt_trichotomy (led + seek F col led (n - led)) f with h | h | h
  · have := seek_ne F col (n - led) led (by omega)
    exact absurd (h1 _ (by omega) h) this
  · exact h
  · have := seek_zero F col (n - led) led (f - led) (by omega)
    rw [show led + (f - led) = f from by omega] at this
    rcases h2 with e | e
    · omega
    · exact absurd this e
theorem box_set {w : World} {p : Nat} {v u : Value} {E : TypeId} (h : Box w p v E) : Box (w.setCell ⟨p, 0, none⟩ u) p u E := one_setCell h
theorem box_far {w : World} {p q : Nat} {v u : Value} {E : TypeId} (h : Box w p v E) (hne : p ≠ q) (k : Nat) : Box (w.setCell ⟨q, k, none⟩ u) p v E := (Below.heap_setCell _ _ _ _ hne).trans h
theorem box_alloc {w : World} {p : Nat} {v : Value} {E : TypeId} (h : Box w p v E) (o : Obj) : Box (w.alloc o) p v E := (Below.heap_alloc _ _ _ h.lt).trans h
theorem box_new (w : World) (v : Value) (E : TypeId) : Box (w.alloc (.cells #[v] E)) w.heap.size v E := heap_alloc_new w _

/-- the boxes of the elimination -/
structure Boxes (w : World) (s g gx gy n c d led : Nat) : Prop where
  f : Box w s (.pointer (some ⟨g, 0, none⟩)) 41
  m : Box w (s + 1) (.slice (some ⟨gx, 0, none⟩) n c) 86
  b : Box w (s + 2) (.slice (some ⟨gy, 0, none⟩) n d) 86
  l : Box w (s + 3) (.int .i64 (led : Int)) 3
theorem Boxes.but {gs : List Nat} {w w' : World} {s g gx gy n c d led : Nat} (h : Boxes w s g gx gy n c d led) (hb : But gs w w') (hg : ∀ i, s ≤ i → i < s + 4 → i ∉ gs) : Boxes w' s g gx gy n c d led :=
  ⟨h.f.but hb (hg _ (by omega) (by omega)), h.m.but hb (hg _ (by omega) (by omega)), h.b.but hb (hg _ (by omega) (by omega)), h.l.but hb (hg _ (by omega) (by omega))⟩

theorem step_led {n q led f : Nat} {F G : Fn2} (hZ : ∀ a, led ≤ a → a < f → F a q = 0) (hlf : led ≤ f) (hfn : f < n) (hz : F f q ≠ 0) :
    stepCol n q (F, G, led) = ((elimTo q led n (lead1 F led f (iv (F f q).toNat), lead1 G led f (iv (F f q).toNat))).1, (elimTo q led n (lead1 F led f (iv (F f q).toNat), lead1 G led f (iv (F f q).toNat))).2, led + 1) := by
  have e := seek_eq hZ hlf (by omega) (.inr hz) (n := n)
  unfold stepCol
  simp only
  rw [e, if_neg (by omega)]
theorem elimTo_skip {q led i : Nat} {s : Fn2 × Fn2} (h : i = led ∨ (elimTo q led i s).1 i q = 0) : elimTo q led (i + 1) s = elimTo q led i s := by
  simp only [elimTo]; rw [if_pos h]
theorem elimTo_go {q led i : Nat} {s : Fn2 × Fn2} (h1 : i ≠ led) (h2 : (elimTo q led i s).1 i q ≠ 0) : elimTo q led (i + 1) s = (onto (elimTo q led i s).1 i led ((elimTo q led i s).1 i q).toNat, onto (elimTo q led i s).2 i led ((elimTo q led i s).1 i q).toNat) := by
  simp only [elimTo]; rw [if_neg (by rintro (e | e); exact h1 e; exact h2 e)]
theorem MO.elem {w : World} {bo br gx n c k i j : Nat} {F : Fn2} (h : MO w bo br (some ⟨gx, 0, none⟩) n c (tabM n k F)) (hi : i < n) (hj : j < k) : ∃ gb d, w.cell? ⟨gx, i, none⟩ = some (.slice (some ⟨gb, 0, none⟩) k d) ∧ w.cell? ⟨gb, j, none⟩ = some (.int .u8 ((F i j).toNat : Int)) := by
  obtain ⟨g1, B1, d1, r1, e1, _, _, _, hr1, hc1, ho1⟩ := h.row hi
  injection e1 with e1
  injection e1 with e1 _ _
  subst e1
  rw [tabM_at k F hi] at hr1
  injection hr1 with hr1
  rw [← hr1, rowL_len] at hc1 ho1
  obtain ⟨gb, rfl, _⟩ := ho1.addr (by omega)
  obtain ⟨ad, x, e2, _, hx, hcx⟩ := ho1.rd.at_ hj
  injection e2 with e2
  subst e2
  rw [add_zero_off] at hcx
  rw [rowL_at _ hj] at hx
  injection hx with hx
  subst hx
  exact ⟨gb, d1, hc1, hcx⟩

def Reduced (bo' br' gx gy n d k kb : Nat) (F G : Fn2) (w : World) (e : Ending) (w' : World) : Prop :=
  e = .returned (.int .i64 (rankF n k F G : Int)) ∧ MO w' bo' br' (some ⟨gy, 0, none⟩) n d (tabM n kb (besF n k F G)) ∧ But [gx, gy] w w'

set_option maxHeartbeats 2000000 in
set_option maxRecDepth 100000 in
theorem reduce_any {bo br bo' br' : Nat} (g gx gy n c d k kb : Nat) (F G : Fn2) (w : World) (hf : FldAt w g) (h : MO w bo br (some ⟨gx, 0, none⟩) n c (tabM n k F)) (h' : MO w bo' br' (some ⟨gy, 0, none⟩) n d (tabM n kb G)) (hxy : gx ≠ gy)
    (hn1 : 1 ≤ n) (hn : n ≤ 255) (hk : k ≤ 255) (hkb : kb ≤ 255) (hbr : br ≤ w.heap.size) (hbr' : br' ≤ w.heap.size) :
    Calls Try.prog 86 #[.pointer (some ⟨g, 0, none⟩), .slice (some ⟨gx, 0, none⟩) n c, .slice (some ⟨gy, 0, none⟩) n d] w (Reduced bo' br' gx gy n d k kb F G w) := by
  have hmf : ∀ (fn : Fn) (first cap : Array Value) (w : World), (Instr.makeFunc fn first cap).run Try.prog w = .ok (.func fn first cap) w := fun _ _ _ _ => rfl
  obtain ⟨g1, B1, d1, r1, e1, _, hgl, _, hr1, hc1, ho1⟩ := h.row (show 0 < n by omega)
  injection e1 with e1
  injection e1 with e1 _ _
  subst e1
  rw [tabM_at k F (show 0 < n by omega)] at hr1
  injection hr1 with hr1
  rw [← hr1, rowL_len] at hc1 ho1
  obtain ⟨s, hs⟩ : ∃ s, w.heap.size = s := ⟨_, rfl⟩
  have HF := Lib.hid hf
  have HM := Lib.hid h
  have HN := Lib.hid h'
  have HC := Lib.hid hc1
  have HG : Hid (gx < s ∧ gy < s) := ⟨by omega, by obtain ⟨g2, _, _, _, e2, _, hlt, _⟩ := h'.row (show 0 < n by omega); injection e2 with e2; injection e2 with e2 _ _; omega⟩
  -- PART TWO
  have hc0 : ((((w.alloc (.cells #[.pointer (some ⟨g, 0, none⟩)] 41)).alloc (.cells #[.slice (some ⟨gx, 0, none⟩) n c] 86)).alloc (.cells #[.slice (some ⟨gy, 0, none⟩) n d] 86)).alloc (.cells #[.int .i64 0] 3)).cell? ⟨gx, 0, none⟩ = some (.slice B1 k d1) :=
    ((((Below.refl w.heap.size w).alloc (Nat.le_refl _) _).alloc (by simp) _).alloc (by simp; omega) _ |>.alloc (by simp; omega) _).cell (p := ⟨gx, 0, none⟩) (by exact hgl) |>.trans hc1
  have HB0 : Hid (Boxes ((((w.alloc (.cells #[.pointer (some ⟨g, 0, none⟩)] 41)).alloc (.cells #[.slice (some ⟨gx, 0, none⟩) n c] 86)).alloc (.cells #[.slice (some ⟨gy, 0, none⟩) n d] 86)).alloc (.cells #[.int .i64 0] 3)) s g gx gy n c d 0) := by
    subst hs
    refine ⟨box_alloc (box_alloc (box_alloc (box_new _ _ _) _) _) _, ?_, ?_, ?_⟩
    · have := box_alloc (box_alloc (box_new (w.alloc (.cells #[.pointer (some ⟨g, 0, none⟩)] 41)) (.slice (some ⟨gx, 0, none⟩) n c) 86) (.cells #[.slice (some ⟨gy, 0, none⟩) n d] 86)) (.cells #[.int .i64 0] 3)
      rwa [size_alloc] at this
    · have := box_alloc (box_new ((w.alloc (.cells #[.pointer (some ⟨g, 0, none⟩)] 41)).alloc (.cells #[.slice (some ⟨gx, 0, none⟩) n c] 86)) (.slice (some ⟨gy, 0, none⟩) n d) 86) (.cells #[.int .i64 0] 3)
      rwa [size_alloc, size_alloc] at this
    · have := box_new (((w.alloc (.cells #[.pointer (some ⟨g, 0, none⟩)] 41)).alloc (.cells #[.slice (some ⟨gx, 0, none⟩) n c] 86)).alloc (.cells #[.slice (some ⟨gy, 0, none⟩) n d] 86)) (.int .i64 0) 3
      rwa [size_alloc, size_alloc, size_alloc] at this
  have HW0 : Hid (But [gx, gy] w ((((w.alloc (.cells #[.pointer (some ⟨g, 0, none⟩)] 41)).alloc (.cells #[.slice (some ⟨gx, 0, none⟩) n c] 86)).alloc (.cells #[.slice (some ⟨gy, 0, none⟩) n d] 86)).alloc (.cells #[.int .i64 0] 3))) := ((((But.refl _ _).alloc _).alloc _).alloc _).alloc _
  have HM0 : Hid (MO ((((w.alloc (.cells #[.pointer (some ⟨g, 0, none⟩)] 41)).alloc (.cells #[.slice (some ⟨gx, 0, none⟩) n c] 86)).alloc (.cells #[.slice (some ⟨gy, 0, none⟩) n d] 86)).alloc (.cells #[.int .i64 0] 3)) bo br (some ⟨gx, 0, none⟩) n c (tabM n k F)) := (((h.alloc _).alloc _).alloc _).alloc _
  have HN0 : Hid (MO ((((w.alloc (.cells #[.pointer (some ⟨g, 0, none⟩)] 41)).alloc (.cells #[.slice (some ⟨gx, 0, none⟩) n c] 86)).alloc (.cells #[.slice (some ⟨gy, 0, none⟩) n d] 86)).alloc (.cells #[.int .i64 0] 3)) bo' br' (some ⟨gy, 0, none⟩) n d (tabM n kb G)) := (((h'.alloc _).alloc _).alloc _).alloc _
  have HG : Hid (gx < s ∧ gy < s) := ⟨by omega, by obtain ⟨g2, _, _, _, e2, _, hlt, _⟩ := h'.row (show 0 < n by omega); injection e2 with e2; injection e2 with e2 _ _; omega⟩
  have HF := Lib.hid hf
  have HA := Lib.hid (And.intro (fld_apart hf h (by omega)) (fld_apart hf h' (by omega)))
  clear hr1 ho1 hf h h' hc1
  go_enter Try.func86, Try.ntmps86
  go_wp2
  go_step3
  go_wp2
  go_step3
  go_wp2
  go_loopg [20] k (fun gk u20 wr => ∃ (q led : Nat) (F' G' : Fn2), gk = k - q ∧ q ≤ k ∧ u20 = .int .i64 q ∧ led ≤ n ∧ Hid (red n q (F, G, 0) = (F', G', led)) ∧ Hid (Boxes wr s g gx gy n c d led) ∧ Hid (MO wr bo br (some ⟨gx, 0, none⟩) n c (tabM n k F')) ∧ Hid (MO wr bo' br' (some ⟨gy, 0, none⟩) n d (tabM n kb G')) ∧ Hid (But [gx, gy] w wr))
  case atStart => exact ⟨0, 0, F, G, rfl, by omega, rfl, by omega, rfl, HB0.out, HM0.out, HN0.out, HW0.out⟩
  case round =>
    obtain ⟨q, led, F', G', rfl, hq, rfl, hled, HR, HB, HM, HN, HW⟩ := hrel
    clear HB0 HM0 HN0 HW0 hc0
    obtain ⟨wo, rfl⟩ : ∃ wo : World, wo = wr := ⟨_, rfl⟩
    by_cases hqk : q < k
    · have hbl := HB.out.l.cell
      have hbm := HB.out.m.cell
      have hne : wo.heap.size ≠ s + 1 := Nat.ne_of_gt HB.out.m.lt
      have hsz : s + 4 ≤ wo.heap.size := HB.out.l.lt
      go_wp2
      clear hbl hbm hne
      obtain ⟨b1, hb1⟩ : ∃ b1, wo.heap.size = b1 := ⟨_, rfl⟩
      have HBX : Hid (Box (wo.alloc (.cells #[.int .i64 (led : Int)] 3)) b1 (.int .i64 (led : Int)) 3) := by rw [← hb1]; exact box_new _ _ _
      rw [hb1] at hsz
      try rw [hb1]
      go_loopg [] (n - led) (fun gk wi => ∃ f : Nat, gk = n - f ∧ led ≤ f ∧ f ≤ n ∧ Hid (∀ a, led ≤ a → a < f → F' a q = 0) ∧ Hid (Box wi b1 (.int .i64 (f : Int)) 3) ∧ Hid (But [] wo wi))
      case atStart => exact ⟨led, rfl, Nat.le_refl _, hled, fun a h1 h2 => by omega, HBX.out, (But.refl _ _).alloc _⟩
      case round =>
        obtain ⟨f, rfl, hlf, hfn, HZ, HX, HI⟩ := hrel
        clear HBX
        obtain ⟨wi, rfl⟩ : ∃ wi : World, wi = wr := ⟨_, rfl⟩
        have HBi := Lib.hid (HB.out.but HI.out (by simp))
        have HMi := Lib.hid (HM.out.but HI.out (by simp))
        have hbf := HX.out.cell
        have hbz := HX.out.free
        have hbm := HBi.out.m.cell
        have hbl := HBi.out.l.cell
        have hbg := HBi.out.f.cell
        by_cases hfe : f = n
        · subst hfe
          go_wp2
          go_roundg (k - (q + 1))
          case measure => omega
          case rel =>
            refine ⟨q + 1, led, F', G', rfl, by omega, by go_num, hled, ?_, HB.out.but HI.out (by simp), HMi.out, HN.out.but HI.out (by simp), HW.out.trans (HI.out.mono (by simp))⟩
            show stepCol f q (red f q (F, G, 0)) = _
            rw [HR.out]
            unfold stepCol
            simp only
            rw [if_pos (seek_eq HZ.out hlf hfn (.inl rfl))]
        · obtain ⟨gb, db, hrw, hel⟩ := HMi.out.elem (show f < n by omega) hqk
          have hq1 : ((f : Int) == (n : Int)) = false := beq_eq_false_iff_ne.2 (by omega)
          by_cases hz : F' f q = 0
          · have hel0 : wi.cell? ⟨gb, q, none⟩ = some (.int .u8 0) := by rw [hel, hz]; rfl
            clear hel
            go_wp2
            go_roundg (n - (f + 1))
            case measure => omega
            case rel =>
              refine ⟨f + 1, rfl, by omega, by omega, fun a h1 h2 => ?_, ?_, HI.out.setNew (by show wo.heap.size ≤ b1; omega) _⟩
              · by_cases e : a = f
                · rw [e]; exact hz
                · exact HZ.out a h1 (by omega)
              · have := box_set (u := .int .i64 ((f + 1 : Nat) : Int)) HX.out
                exact this
          · have hx1 := byte_ne hz
            have hx2 := UInt8.toNat_lt (F' f q)
            obtain ⟨x, hx⟩ : ∃ x, (F' f q).toNat = x := ⟨_, rfl⟩
            rw [hx] at hel hx1 hx2
            have hq2 : ((x : Int) == 0) = false := beq_eq_false_iff_ne.2 (by omega)
            have HXX := Lib.hid hx
            clear hx
            go_upto_region 10 with (fail)
            go_cut [11, 12, 20] from 20 to 78 (fun s11 _ s20 wc => ∃ b, s11 = .pointer (some ⟨b, 0, none⟩) ∧ s20 = .int .i64 (q : Int) ∧ Hid (wo.heap.size ≤ b) ∧ Hid (Box wc b (.int .u8 (iv x : Int)) 5) ∧ Hid (But [] wi wc))
            case first =>
              have hfl : f < n := by omega
              have HFi := Lib.hid (HF.out.but HW.out (by simp; exact HA.out) |>.but HI.out (by simp))
              have hS0 := (⟨hbg, hbm, hbf, hrw, hel⟩ : (fun u => u.cell? ⟨s, 0, none⟩ = some (.pointer (some ⟨g, 0, none⟩)) ∧ u.cell? ⟨s + 1, 0, none⟩ = some (.slice (some ⟨gx, 0, none⟩) n c) ∧ u.cell? ⟨b1, 0, none⟩ = some (.int .i64 (f : Int)) ∧ u.cell? ⟨gx, f, none⟩ = some (.slice (some ⟨gb, 0, none⟩) k db) ∧ u.cell? ⟨gb, q, none⟩ = some (.int .u8 (x : Int))) wi)
              have HS0 := Lib.hid hS0
              clear hS0 hbl hbg hbm hbf hrw hel hbz hmf
              refine wp_region_held_drew (S := fun u => u.cell? ⟨s, 0, none⟩ = some (.pointer (some ⟨g, 0, none⟩)) ∧ u.cell? ⟨s + 1, 0, none⟩ = some (.slice (some ⟨gx, 0, none⟩) n c) ∧ u.cell? ⟨b1, 0, none⟩ = some (.int .i64 (f : Int)) ∧ u.cell? ⟨gx, f, none⟩ = some (.slice (some ⟨gb, 0, none⟩) k db) ∧ u.cell? ⟨gb, q, none⟩ = some (.int .u8 (x : Int))) (by kernel_rfl) (by exact HS0.out) (fun hHeld => ?_)
              refine wpAnyH_take (i := 0) (oi := ⟨some 39, _, _, _, _, _⟩) (v := ?_) rfl (by kernel_rfl) (by kernel_rfl) (by kernel_rfl) (fun _ _ _ h => h) (Or.inl ⟨by rfl, ?_⟩) (by assumption) ?_
              rotate_left
              · intro w hSw
                obtain ⟨s1, s2, s3, s4, s5⟩ := hSw
                go_simp
                all_goals (with_reducible rfl)
              try simp only [Act.put, List.setIfInBounds_toArray, List.set_cons_zero, List.set_cons_succ]
              refine wpAnyH_take (i := 1) (oi := ⟨some 40, _, _, _, _, _⟩) (v := ?_) rfl (by kernel_rfl) (by kernel_rfl) (by kernel_rfl) (fun _ _ _ h => h) (Or.inl ⟨by rfl, ?_⟩) (by assumption) ?_
              rotate_left
              · intro w hSw
                obtain ⟨s1, s2, s3, s4, s5⟩ := hSw
                go_simp
                all_goals (with_reducible rfl)
              try simp only [Act.put, List.setIfInBounds_toArray, List.set_cons_zero, List.set_cons_succ]
              refine wpAnyH_take (i := 2) (oi := ⟨some 41, _, _, _, _, _⟩) (v := ?_) rfl (by kernel_rfl) (by kernel_rfl) (by kernel_rfl) (fun _ _ _ h => h) (Or.inl ⟨by rfl, ?_⟩) (by assumption) ?_
              rotate_left
              · intro w hSw
                obtain ⟨s1, s2, s3, s4, s5⟩ := hSw
                go_simp
                all_goals (with_reducible rfl)
              try simp only [Act.put, List.setIfInBounds_toArray, List.set_cons_zero, List.set_cons_succ]
              refine wpAnyH_take (i := 3) (oi := ⟨some 42, _, _, _, _, _⟩) (v := ?_) rfl (by kernel_rfl) (by kernel_rfl) (by kernel_rfl) (fun _ _ _ h => h) (Or.inl ⟨by rfl, ?_⟩) (by assumption) ?_
              rotate_left
              · intro w hSw
                obtain ⟨s1, s2, s3, s4, s5⟩ := hSw
                go_simp
                all_goals (with_reducible rfl)
              try simp only [Act.put, List.setIfInBounds_toArray, List.set_cons_zero, List.set_cons_succ]
              refine wpAnyH_take (i := 4) (oi := ⟨some 43, _, _, _, _, _⟩) (v := ?_) rfl (by kernel_rfl) (by kernel_rfl) (by kernel_rfl) (fun _ _ _ h => h) (Or.inl ⟨by rfl, ?_⟩) (by assumption) ?_
              rotate_left
              · intro w hSw
                obtain ⟨s1, s2, s3, s4, s5⟩ := hSw
                go_simp
                all_goals (with_reducible rfl)
              try simp only [Act.put, List.setIfInBounds_toArray, List.set_cons_zero, List.set_cons_succ]
              refine wpAnyH_take (i := 5) (oi := ⟨some 44, _, _, _, _, _⟩) (v := ?_) rfl (by kernel_rfl) (by kernel_rfl) (by kernel_rfl) (fun _ _ _ h => h) (Or.inl ⟨by rfl, ?_⟩) (by assumption) ?_
              rotate_left
              · intro w hSw
                obtain ⟨s1, s2, s3, s4, s5⟩ := hSw
                go_simp
                all_goals (with_reducible rfl)
              try simp only [Act.put, List.setIfInBounds_toArray, List.set_cons_zero, List.set_cons_succ]
              refine wpAnyH_take (i := 6) (oi := ⟨some 45, _, _, _, _, _⟩) (v := ?_) rfl (by kernel_rfl) (by kernel_rfl) (by kernel_rfl) (fun _ _ _ h => h) (Or.inl ⟨by rfl, ?_⟩) (by assumption) ?_
              rotate_left
              · intro w hSw
                obtain ⟨s1, s2, s3, s4, s5⟩ := hSw
                go_simp
                all_goals (with_reducible rfl)
              try simp only [Act.put, List.setIfInBounds_toArray, List.set_cons_zero, List.set_cons_succ]
              refine wpAnyH_take (i := 7) (oi := ⟨some 46, _, _, _, _, _⟩) (v := ?_) rfl (by kernel_rfl) (by kernel_rfl) (by kernel_rfl) (fun _ _ _ h => h) (Or.inl ⟨by rfl, ?_⟩) (by assumption) ?_
              rotate_left
              · intro w hSw
                obtain ⟨s1, s2, s3, s4, s5⟩ := hSw
                go_simp
                all_goals (with_reducible rfl)
              try simp only [Act.put, List.setIfInBounds_toArray, List.set_cons_zero, List.set_cons_succ]
              have hH := hHeld
              refine wpAnyH_ready (rs := [8, 12]) (by kernel_rfl) (by simp) (AllReadyH.cons (o := ⟨some 47, _, _, _, _, _⟩) rfl (fun K hK => ?_) (AllReadyH.cons (o := ⟨some 11, _, _, _, _, _⟩) rfl (fun K hK => ?_) AllReadyH.nil))
              · go_simp
                refine (inv_any g x _ (by exact HFi.out.drew) hx2 hx1).mono ?_
                rintro e w3 ⟨rfl, n1, hw3⟩
                have hH : (fun u => u.cell? ⟨s, 0, none⟩ = some (.pointer (some ⟨g, 0, none⟩)) ∧ u.cell? ⟨s + 1, 0, none⟩ = some (.slice (some ⟨gx, 0, none⟩) n c) ∧ u.cell? ⟨b1, 0, none⟩ = some (.int .i64 (f : Int)) ∧ u.cell? ⟨gx, f, none⟩ = some (.slice (some ⟨gb, 0, none⟩) k db) ∧ u.cell? ⟨gb, q, none⟩ = some (.int .u8 (x : Int))) w3 := by rw [hw3]; exact HS0.out
                have HB3 : Hid (But [] wi w3) := by rw [hw3]; exact ((But.refl _ _).drew).drewN _
                have HZ3 : Hid (wi.heap.size ≤ w3.heap.size) := HB3.out.size
                clear hw3
                refine hK.out _ _ hH (fun hHeld => ?_)
                clear hK K
                try simp only [Act.put, List.setIfInBounds_toArray, List.set_cons_zero, List.set_cons_succ]
                refine wpAnyH_take (i := 9) (oi := ⟨some 38, _, _, _, _, _⟩) (v := ?_) rfl (by kernel_rfl) (by kernel_rfl) (by kernel_rfl) (fun _ _ _ h => h) (Or.inl ⟨by rfl, ?_⟩) (by assumption) ?_
                rotate_left
                · intro w hSw
                  obtain ⟨s1, s2, s3, s4, s5⟩ := hSw
                  go_simp
                  all_goals (with_reducible rfl)
                try simp only [Act.put, List.setIfInBounds_toArray, List.set_cons_zero, List.set_cons_succ]
                refine wpAnyH_take (i := 10) (oi := ⟨some 48, _, _, _, _, _⟩) (v := ?_) rfl (by kernel_rfl) (by kernel_rfl) (by kernel_rfl) (fun _ _ _ h => h) (Or.inl ⟨by rfl, ?_⟩) (by assumption) ?_
                rotate_left
                · intro w hSw
                  obtain ⟨s1, s2, s3, s4, s5⟩ := hSw
                  go_simp
                  all_goals (with_reducible rfl)
                try simp only [Act.put, List.setIfInBounds_toArray, List.set_cons_zero, List.set_cons_succ]
                refine wpAnyH_take (i := 11) (oi := ⟨some 49, _, _, _, _, _⟩) (v := ?_) rfl (by kernel_rfl) (by kernel_rfl) (by kernel_rfl) (fun _ _ _ h => h) (Or.inl ⟨by rfl, ?_⟩) (by assumption) ?_
                rotate_left
                · intro w hSw
                  obtain ⟨s1, s2, s3, s4, s5⟩ := hSw
                  go_simp
                  all_goals (with_reducible rfl)
                try simp only [Act.put, List.setIfInBounds_toArray, List.set_cons_zero, List.set_cons_succ]
                refine wpAnyH_ready (rs := [12]) (by kernel_rfl) (by simp) (AllReadyH.cons (o := ⟨some 11, _, _, _, _, _⟩) rfl (fun K hK => ?_) AllReadyH.nil)
                go_simp
                refine hK.out _ _ (⟨(World.cell?_alloc_lt _ _ _ (block_lt_of_cell hH.1)).trans hH.1, (World.cell?_alloc_lt _ _ _ (block_lt_of_cell hH.2.1)).trans hH.2.1, (World.cell?_alloc_lt _ _ _ (block_lt_of_cell hH.2.2.1)).trans hH.2.2.1, (World.cell?_alloc_lt _ _ _ (block_lt_of_cell hH.2.2.2.1)).trans hH.2.2.2.1, (World.cell?_alloc_lt _ _ _ (block_lt_of_cell hH.2.2.2.2)).trans hH.2.2.2.2⟩) (fun hHeld => ?_)
                clear hK K
                try simp only [Act.put, List.setIfInBounds_toArray, List.set_cons_zero, List.set_cons_succ]
                refine wpAnyH_ready (rs := [13]) (by kernel_rfl) (by simp) (AllReadyH.cons (o := ⟨none, _, _, _, _, _⟩) rfl (fun K hK => ?_) AllReadyH.nil)
                go_simp
                refine hK.out _ _ (⟨(World.cell?_alloc_lt _ _ _ (block_lt_of_cell hH.1)).trans hH.1, (World.cell?_alloc_lt _ _ _ (block_lt_of_cell hH.2.1)).trans hH.2.1, (World.cell?_alloc_lt _ _ _ (block_lt_of_cell hH.2.2.1)).trans hH.2.2.1, (World.cell?_alloc_lt _ _ _ (block_lt_of_cell hH.2.2.2.1)).trans hH.2.2.2.1, (World.cell?_alloc_lt _ _ _ (block_lt_of_cell hH.2.2.2.2)).trans hH.2.2.2.2⟩) (fun hHeld => ?_)
                clear hK K
                try simp only [Act.put, List.setIfInBounds_toArray, List.set_cons_zero, List.set_cons_succ]
                refine wpAnyH_take (i := 14) (oi := ⟨some 12, _, _, _, _, _⟩) (v := ?_) rfl (by kernel_rfl) (by kernel_rfl) (by kernel_rfl) (fun _ _ _ h => h) (Or.inl ⟨by rfl, ?_⟩) (by assumption) ?_
                rotate_left
                · intro w hSw
                  obtain ⟨s1, s2, s3, s4, s5⟩ := hSw
                  go_simp
                  all_goals (with_reducible rfl)
                try simp only [Act.put, List.setIfInBounds_toArray, List.set_cons_zero, List.set_cons_succ]
                refine wpAnyH_done (by kernel_rfl) ?_ _
                go_wp2_with fail
                go_meet
                case rel => exact ⟨_, rfl, rfl, Nat.le_trans HI.out.size HZ3.out, box_new _ _ _, HB3.out.alloc _⟩
              · go_simp
                refine hK.out _ _ (⟨(World.cell?_alloc_lt _ _ _ (block_lt_of_cell hH.1)).trans hH.1, (World.cell?_alloc_lt _ _ _ (block_lt_of_cell hH.2.1)).trans hH.2.1, (World.cell?_alloc_lt _ _ _ (block_lt_of_cell hH.2.2.1)).trans hH.2.2.1, (World.cell?_alloc_lt _ _ _ (block_lt_of_cell hH.2.2.2.1)).trans hH.2.2.2.1, (World.cell?_alloc_lt _ _ _ (block_lt_of_cell hH.2.2.2.2)).trans hH.2.2.2.2⟩) (fun hHeld => ?_)
                clear hK K
                try simp only [Act.put, List.setIfInBounds_toArray, List.set_cons_zero, List.set_cons_succ]
                have hHB := hHeld
                refine wpAnyH_ready (rs := [8]) (by kernel_rfl) (by simp) (AllReadyH.cons (o := ⟨some 47, _, _, _, _, _⟩) rfl (fun K hK => ?_) AllReadyH.nil)
                go_simp
                refine (inv_any g x _ (by exact HFi.out.drew.alloc _) hx2 hx1).mono ?_
                rintro e w3 ⟨rfl, n1, hw3⟩
                have hH3 : (fun u => u.cell? ⟨s, 0, none⟩ = some (.pointer (some ⟨g, 0, none⟩)) ∧ u.cell? ⟨s + 1, 0, none⟩ = some (.slice (some ⟨gx, 0, none⟩) n c) ∧ u.cell? ⟨b1, 0, none⟩ = some (.int .i64 (f : Int)) ∧ u.cell? ⟨gx, f, none⟩ = some (.slice (some ⟨gb, 0, none⟩) k db) ∧ u.cell? ⟨gb, q, none⟩ = some (.int .u8 (x : Int))) w3 := by rw [hw3]; exact hHB
                have HB3 : Hid (But [] wi w3) := by rw [hw3]; exact (((But.refl _ _).drew).alloc _).drewN _
                have hbx : Box w3 wi.heap.size (.int .u8 0) 5 := by rw [hw3]; exact box_new wi.drew _ _
                have hnc := hbx.cell
                have hnf := hbx.free
                have HBX3 := Lib.hid hbx
                clear hw3 hbx
                refine hK.out _ _ (hH3) (fun hHeld => ?_)
                clear hK K
                try simp only [Act.put, List.setIfInBounds_toArray, List.set_cons_zero, List.set_cons_succ]
                refine wpAnyH_take (i := 9) (oi := ⟨some 38, _, _, _, _, _⟩) (v := ?_) rfl (by kernel_rfl) (by kernel_rfl) (by kernel_rfl) (fun _ _ _ h => h) (Or.inl ⟨by rfl, ?_⟩) (by assumption) ?_
                rotate_left
                · intro w hSw
                  obtain ⟨s1, s2, s3, s4, s5⟩ := hSw
                  go_simp
                  all_goals (with_reducible rfl)
                try simp only [Act.put, List.setIfInBounds_toArray, List.set_cons_zero, List.set_cons_succ]
                refine wpAnyH_take (i := 10) (oi := ⟨some 48, _, _, _, _, _⟩) (v := ?_) rfl (by kernel_rfl) (by kernel_rfl) (by kernel_rfl) (fun _ _ _ h => h) (Or.inl ⟨by rfl, ?_⟩) (by assumption) ?_
                rotate_left
                · intro w hSw
                  obtain ⟨s1, s2, s3, s4, s5⟩ := hSw
                  go_simp
                  all_goals (with_reducible rfl)
                try simp only [Act.put, List.setIfInBounds_toArray, List.set_cons_zero, List.set_cons_succ]
                refine wpAnyH_take (i := 11) (oi := ⟨some 49, _, _, _, _, _⟩) (v := ?_) rfl (by kernel_rfl) (by kernel_rfl) (by kernel_rfl) (fun _ _ _ h => h) (Or.inl ⟨by rfl, ?_⟩) (by assumption) ?_
                rotate_left
                · intro w hSw
                  obtain ⟨s1, s2, s3, s4, s5⟩ := hSw
                  go_simp
                  all_goals (with_reducible rfl)
                try simp only [Act.put, List.setIfInBounds_toArray, List.set_cons_zero, List.set_cons_succ]
                have hH4 : (fun u => u.cell? ⟨s, 0, none⟩ = some (.pointer (some ⟨g, 0, none⟩)) ∧ u.cell? ⟨s + 1, 0, none⟩ = some (.slice (some ⟨gx, 0, none⟩) n c) ∧ u.cell? ⟨b1, 0, none⟩ = some (.int .i64 (f : Int)) ∧ u.cell? ⟨gx, f, none⟩ = some (.slice (some ⟨gb, 0, none⟩) k db) ∧ u.cell? ⟨gb, q, none⟩ = some (.int .u8 (x : Int))) (w3.setCell ⟨wi.heap.size, 0, none⟩ (.int .u8 (quo 1 x : Int))) := ⟨(World.cell?_of_block (w := w3) (Below.heap_setCell _ _ _ _ (by exact Nat.ne_of_lt (show s < wi.heap.size from HBi.out.f.lt)))).trans hH3.1, (World.cell?_of_block (w := w3) (Below.heap_setCell _ _ _ _ (by exact Nat.ne_of_lt (show s + 1 < wi.heap.size from HBi.out.m.lt)))).trans hH3.2.1, (World.cell?_of_block (w := w3) (Below.heap_setCell _ _ _ _ (by exact Nat.ne_of_lt (show b1 < wi.heap.size from HX.out.lt)))).trans hH3.2.2.1, (World.cell?_of_block (w := w3) (Below.heap_setCell _ _ _ _ (by exact Nat.ne_of_lt (show gx < wi.heap.size from block_lt_of_cell HS0.out.2.2.2.1)))).trans hH3.2.2.2.1, (World.cell?_of_block (w := w3) (Below.heap_setCell _ _ _ _ (by exact Nat.ne_of_lt (show gb < wi.heap.size from block_lt_of_cell HS0.out.2.2.2.2)))).trans hH3.2.2.2.2⟩
                refine wpAnyH_ready (rs := [13]) (by kernel_rfl) (by simp) (AllReadyH.cons (o := ⟨none, _, _, _, _, _⟩) rfl (fun K hK => ?_) AllReadyH.nil)
                go_simp
                refine hK.out _ _ (hH4) (fun hHeld => ?_)
                clear hK K
                try simp only [Act.put, List.setIfInBounds_toArray, List.set_cons_zero, List.set_cons_succ]
                refine wpAnyH_take (i := 14) (oi := ⟨some 12, _, _, _, _, _⟩) (v := ?_) rfl (by kernel_rfl) (by kernel_rfl) (by kernel_rfl) (fun _ _ _ h => h) (Or.inl ⟨by rfl, ?_⟩) (by assumption) ?_
                rotate_left
                · intro w hSw
                  obtain ⟨s1, s2, s3, s4, s5⟩ := hSw
                  go_simp
                  all_goals (with_reducible rfl)
                try simp only [Act.put, List.setIfInBounds_toArray, List.set_cons_zero, List.set_cons_succ]
                refine wpAnyH_done (by kernel_rfl) ?_ _
                go_wp2_with fail
                go_meet
                case rel => exact ⟨_, rfl, rfl, HI.out.size, box_set HBX3.out, HB3.out.setNew (Nat.le_refl _) _⟩
            case rest =>
              obtain ⟨b, rfl, rfl, HbS, HbX, HBC⟩ := hcut
              have HNG : Hid (∀ i, s ≤ i → i ∉ [gx, gy]) := fun i hi => by have := HG.out; simp; omega
              have HF1 := Lib.hid (HF.out.but HW.out (by simp; exact HA.out) |>.but HI.out (by simp) |>.but HBC.out (by simp))
              have HB1 := Lib.hid (HBi.out.but HBC.out (by simp))
              have HM1 := Lib.hid (HMi.out.but HBC.out (by simp))
              have HN1 := Lib.hid ((HN.out.but HI.out (by simp)).but HBC.out (by simp))
              have HX1 := Lib.hid (HX.out.but HBC.out (by simp))
              have HW1 : Hid (But [gx, gy] w wc) := (HW.out.trans (HI.out.mono (by simp))).trans (HBC.out.mono (by simp))
              have hsz1 : s + 4 ≤ wc.heap.size := HB1.out.l.lt
              have hfl : f < n := by omega
              have hll : led < n := by omega
              clear hbl hbg hbm hbf hrw hel hbz HB HM HN HW HBi HMi HX HBC
              go_wp2_with fail
              refine (both_lead g gx gy n c d k kb led f (iv x) b1 (s + 3) s b (s + 1) (s + 2) F' G' wc HF1.out HM1.out HN1.out hxy hll hfl hk hkb (iv_lt x) (by omega) (by omega) HX1.out HB1.out.l HB1.out.f HbX.out HB1.out.m HB1.out.b).mono ?_
              rintro e w1 ⟨rfl, hM2, hN2, hB2⟩
              have HF2 := Lib.hid (HF1.out.but hB2 (by simp; exact HA.out))
              have HB2 := Lib.hid (HB1.out.but hB2 fun i h1 _ => HNG.out i h1)
              have HW2 := Lib.hid (HW1.out.trans hB2)
              have HM2 := Lib.hid hM2
              have HN2 := Lib.hid hN2
              have HZ := HZ
              have hbm := HB2.out.m.cell
              obtain ⟨F1, hF1⟩ : ∃ F1, lead1 F' led f (iv x) = F1 := ⟨_, rfl⟩
              obtain ⟨G1, hG1⟩ : ∃ G1, lead1 G' led f (iv x) = G1 := ⟨_, rfl⟩
              rw [hF1] at HM2
              rw [hG1] at HN2
              have HFG := Lib.hid (And.intro hF1 hG1)
              clear hM2 hN2 hB2 hF1 hG1 HF1 HB1 HM1 HN1 HX1 HW1 HbS HbX
              go_wp2
              clear hbm
              go_loopw [55] (fun v wr => ∃ p : Nat, p ≤ n ∧ v = .int .i64 p ∧ Hid (MO wr bo br (some ⟨gx, 0, none⟩) n c (tabM n k (elimTo q led p (F1, G1)).1)) ∧ Hid (MO wr bo' br' (some ⟨gy, 0, none⟩) n d (tabM n kb (elimTo q led p (F1, G1)).2)) ∧ Hid (But [gx, gy] w1 wr)) (fun v _ => n - (intOf v).toNat)
              case atStart => exact ⟨0, by omega, rfl, HM2.out, HN2.out, But.refl _ _⟩
              case round =>
                obtain ⟨p, hp, rfl, HM3, HN3, HI3⟩ := hrel
                obtain ⟨w3, rfl⟩ : ∃ w3 : World, w3 = wr := ⟨_, rfl⟩
                have HB3 := Lib.hid (HB2.out.but HI3.out fun i h1 _ => HNG.out i h1)
                have hbm := HB3.out.m.cell
                have hbl := HB3.out.l.cell
                have hsz3 : s + 4 ≤ w3.heap.size := HB3.out.l.lt
                have hne1 : w3.heap.size ≠ s + 1 := by omega
                have hne2 : w3.heap.size ≠ s + 3 := by omega
                by_cases hpn : p < n
                · obtain ⟨gb', db', hrw, hel⟩ := HM3.out.elem hpn hqk
                  have hne3 : w3.heap.size ≠ gx := by have := HG.out; omega
                  have hne4 : w3.heap.size ≠ gb' := Nat.ne_of_gt (block_lt_of_cell hel)
                  have hlA : ∀ {a v}, w3.cell? a = some v → (w3.alloc (.cells #[.int .i64 (p : Int)] 3)).cell? a = some v := fun h => (World.cell?_alloc_lt _ _ _ (block_lt_of_cell h)).trans h
                  have hbmA := hlA hbm
                  have hrwA := hlA hrw
                  have helA := hlA hel
                  have hbiA := (box_new w3 (.int .i64 (p : Int)) 3).cell
                  have hblB : ∀ z : Int, ((w3.alloc (.cells #[.int .i64 (p : Int)] 3)).alloc (.cells #[.int .u8 z] 5)).cell? ⟨s + 3, 0, none⟩ = some (.int .i64 (led : Int)) := fun z => (World.cell?_alloc_lt _ _ _ (block_lt_of_cell (hlA hbl))).trans (hlA hbl)
                  have hbiB : ∀ z : Int, ((w3.alloc (.cells #[.int .i64 (p : Int)] 3)).alloc (.cells #[.int .u8 z] 5)).cell? ⟨w3.heap.size, 0, none⟩ = some (.int .i64 (p : Int)) := fun z => (World.cell?_alloc_lt _ _ _ (block_lt_of_cell hbiA)).trans hbiA
                  clear hlA
                  by_cases hpl : p = led
                  · subst hpl
                    have hq1 : ((p : Int) == (p : Int)) = true := beq_self_eq_true _
                    go_wp2
                    go_roundw
                    case rel =>
                      refine ⟨p + 1, by omega, by go_num, ?_, ?_, (HI3.out.alloc _).alloc _⟩
                      · rw [elimTo_skip (.inl rfl)]; exact (HM3.out.alloc _).alloc _
                      · rw [elimTo_skip (.inl rfl)]; exact (HN3.out.alloc _).alloc _
                    case measure => simp [intOf]; omega
                  · have hq1 : ((p : Int) == (led : Int)) = false := beq_eq_false_iff_ne.2 (by omega)
                    by_cases hz2 : (elimTo q led p (F1, G1)).1 p q = 0
                    · have hel0 : (w3.alloc (.cells #[.int .i64 (p : Int)] 3)).cell? ⟨gb', q, none⟩ = some (.int .u8 0) := by rw [helA, hz2]; rfl
                      have HEQ := Lib.hid (elimTo_skip (q := q) (led := led) (i := p) (s := (F1, G1)) (.inr hz2))
                      clear hel helA hz2
                      go_wp2
                      go_roundw
                      case rel =>
                        refine ⟨p + 1, by omega, by go_num, ?_, ?_, (HI3.out.alloc _).alloc _⟩
                        · rw [HEQ.out]; exact (HM3.out.alloc _).alloc _
                        · rw [HEQ.out]; exact (HN3.out.alloc _).alloc _
                      case measure => simp [intOf]; omega
                    · have hx1' := byte_ne hz2
                      have hx2' := UInt8.toNat_lt ((elimTo q led p (F1, G1)).1 p q)
                      have HEQ := Lib.hid (elimTo_go (q := q) (led := led) (i := p) (s := (F1, G1)) hpl hz2)
                      obtain ⟨y, hy⟩ : ∃ y, ((elimTo q led p (F1, G1)).1 p q).toNat = y := ⟨_, rfl⟩
                      rw [hy] at hel helA hx1' hx2'
                      have hq2' : ((y : Int) == 0) = false := beq_eq_false_iff_ne.2 (by omega)
                      have HYY := Lib.hid hy
                      clear hy hz2
                      go_wp2_with fail
                      have hb14 := box_new (w3.alloc (.cells #[.int .i64 (p : Int)] 3)) (.int .u8 (y : Int)) 5
                      rw [size_alloc] at hb14
                      have hgn : ∀ i, s ≤ i → i < s + 4 → i ∉ [gx, gy] := fun i h1 _ => HNG.out i h1
                      have hBN : But [gx, gy] w1 ((w3.alloc (.cells #[.int .i64 (p : Int)] 3)).alloc (.cells #[.int .u8 (y : Int)] 5)) := (HI3.out.alloc _).alloc _
                      have hBB := HB2.out.but hBN hgn
                      refine (both_onto g gx gy n c d k kb p led y s w3.heap.size (w3.heap.size + 1) (s + 3) (s + 1) (s + 2) _ _ ((w3.alloc (.cells #[.int .i64 (p : Int)] 3)).alloc (.cells #[.int .u8 (y : Int)] 5)) (HF2.out.but hBN (by simp; exact HA.out)) ((HM3.out.alloc _).alloc _) ((HN3.out.alloc _).alloc _) hxy hpn hll hpl hk hkb hx2' (by rw [size_alloc, size_alloc]; omega) (by rw [size_alloc, size_alloc]; omega) hBB.f (box_alloc (box_new _ _ _) _) hb14 hBB.l hBB.m hBB.b).mono ?_
                      rintro e w4 ⟨rfl, hM4, hN4, hB4⟩
                      have HM4 := Lib.hid hM4
                      have HN4 := Lib.hid hN4
                      have HI4 := Lib.hid (hBN.trans hB4)
                      clear hM4 hN4 hB4 hBB hBN hb14
                      go_wp2
                      go_roundw
                      case rel =>
                        refine ⟨p + 1, by omega, by go_num, ?_, ?_, HI4.out⟩
                        · rw [HEQ.out, HYY.out]; exact HM4.out
                        · rw [HEQ.out, HYY.out]; exact HN4.out
                      case measure => simp [intOf]; omega
                · obtain rfl : p = n := by omega
                  have hgn : ∀ i, s ≤ i → i < s + 4 → i ∉ [gx, gy] := fun i h1 _ => HNG.out i h1
                  have HGN := Lib.hid hgn
                  have hblz := HB3.out.l.free
                  clear hgn
                  go_wp2
                  go_roundg (k - (q + 1))
                  case measure => omega
                  case rel =>
                    have hg := HG.out
                    have hb := HB2.out.but HI3.out HGN.out
                    have hW : w.heap.size ≤ s + 3 := by omega
                    refine ⟨q + 1, led + 1, (elimTo q led p (F1, G1)).1, (elimTo q led p (F1, G1)).2, rfl, by omega, by go_num, by omega, ?_, ⟨box_far hb.f (by omega) 0, box_far hb.m (by omega) 0, box_far hb.b (by omega) 0, box_set hb.l⟩, ?_, ?_, (HW2.out.trans HI3.out).setNew hW _⟩
                    · show stepCol p q (red p q (F, G, 0)) = _
                      rw [HR.out, step_led HZ.out hlf (by omega) hz, HXX.out, HFG.out.1, HFG.out.2]
                    · exact HM3.out.setOther hb.l (by decide) (by decide)
                    · exact HN3.out.setOther hb.l (by decide) (by decide)
    · obtain rfl : q = k := by omega
      have hbl := HB.out.l.cell
      go_wp2
      (try rw [Exit.noGoto_ret])
      go_ret
      have e : rankF n q F G = led ∧ besF n q F G = G' := by unfold rankF besF; rw [HR.out]; exact ⟨rfl, rfl⟩
      exact ⟨by rw [e.1]; rfl, by rw [e.2]; exact HN.out, HW.out⟩
end Go.Proofs.Ytkkpfehgobanbaa
