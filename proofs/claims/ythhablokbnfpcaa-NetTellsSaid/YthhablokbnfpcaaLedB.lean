/- balanced: does just what is owed lie about? -/
import Derived.Test.YthhablokbnfpcaaLedP
import Derived.Deep.LoopGhost
namespace Go.Proofs.Ythhablokbnfpcaa
open Go.RowKit Go.Coop Go.Maps
set_option maxRecDepth 100000
abbrev OMap (w : World) (b n : Nat) (D : DataW Value) : Prop := w.ownsMap Try.prog 9 (plainElem Try.prog 3) b n D
theorem OMap.below {w w' : World} {b n : Nat} {D : DataW Value} (h : OMap w b n D) (hb : Below w.heap.size w w') : OMap w' b n D :=
  World.ownsMap.kept (row := none) h ⟨hb.os, hb.tape, hb.output, hb.size, fun j hk _ => hb.block j (by omega)⟩ (by simp)
/-- where the first loop of balanced stands -/
structure BRel (w0 w : World) (q n : Nat) (D : DataW Value) (H : List Dt) (j : Nat) : Prop where
  own : OMap w q n D
  owed : OwedIs D fun s => cntL (H.take j) s
  pos : ∀ s, Maps.has D (.string s) = true → 0 < cntL (H.take j) s
  bel : Below w0.heap.size w0 w
theorem BRel.below {w0 w w' : World} {q n : Nat} {D : DataW Value} {H : List Dt} {j : Nat} (h : BRel w0 w q n D H j) (hb : Below w.heap.size w w') : BRel w0 w' q n D H j :=
  ⟨h.own.below hb, h.owed, h.pos, h.bel.trans (hb.mono h.bel.size)⟩
theorem BRel.step {w0 w w' : World} {q n : Nat} {D : DataW Value} {H : List Dt} {j : Nat} (h : BRel w0 w q n D H j) (hq : w0.heap.size ≤ q) {d : Dt} (hd : H[j]? = some d) {s : List UInt8} (hs : tg d = s) {x : Int} (hx : x = (cntL (H.take j) s : Int) + 1)
    (ho : OMap w' q (n + 1) (D.put (.string s) (.lit (.int .i64 x)))) (hg : w.grownBy w' (some q)) : BRel w0 w' q (n + 1) (D.put (.string s) (.lit (.int .i64 x))) H (j + 1) := by
  refine ⟨ho, h.owed.put (World.ownsMap.isMap h.own) ?_ fun r hr => ?_, fun r hr => ?_, h.bel.grown hg h.bel.size fun k hk => ?_⟩
  · rw [cntL_take H hd, if_pos hs, hx]
    omega
  · rw [cntL_take H hd, if_neg (by rw [hs]; exact fun e => hr e.symm)]
    rfl
  · rw [cntL_take H hd]
    by_cases e : r = s
    · rw [if_pos (by rw [hs, e])]
      omega
    · rw [has_put_other (fun h => e (by injection h))] at hr
      have := h.pos r hr
      omega
  · injection hk with hk
    omega
/-- where the later loops stand -/
def BRng (w0 : World) (b r n q nq : Nat) (D E : DataW Value) (wr : World) : Prop :=
  ∃ (left : Lit → Bool) (cnt : Nat), wr.ranges Try.prog 9 (plainElem Try.prog 3) b r n D left cnt ∧ OMap wr q nq E ∧ Below w0.heap.size w0 wr
set_option maxHeartbeats 1000000 in
theorem balanced_is (w : World) {B g c m nn : Nat} {S : NS} {D : DataW Value} (h : Nt w B g c S) (h5 : S.ends ≤ 255) (hm : OMap w m nn D) (hD : OwedIs D fun s => cntL S.heap s) : Calls Try.prog 32 #[.pointer (some ⟨g, 0, none⟩), .map (some m)] w (Awake w) := by
  obtain ⟨n, hn⟩ : ∃ n, S.heap.length = n := ⟨_, rfl⟩
  have hn0 : n ≤ 10000 := by have := h.ok.len; omega
  have HA := Lib.hid (And.intro h (And.intro hm (And.intro hD (And.intro hn (And.intro hn0 h5)))))
  clear h hm hD hn hn0 h5
  have hown : OMap (w.alloc (.map #[] 0)) w.heap.size 0 (.map []) := World.ownsMap_made w Try.prog 9 (plainElem Try.prog 3)
  obtain ⟨q, hq⟩ : ∃ q, w.heap.size = q := ⟨_, rfl⟩
  obtain ⟨w1, hw1⟩ : ∃ v, w.alloc (.map #[] 0) = v := ⟨_, rfl⟩
  have h0 : Hid (BRel w w1 q 0 (.map []) S.heap 0) := Lib.hid ⟨by rw [← hq, ← hw1]; exact hown, by simpa [cntL] using OwedIs.empty, fun s hs => by simp [Maps.has] at hs, hw1 ▸ (Below.refl _ _).alloc (Nat.le_refl _) _⟩
  have HQ := Lib.hid (And.intro hq hw1)
  have hmm := @run_makeMap Try.prog
  clear hown hq hw1
  go_enter Try.func32, Try.ntmps32
  go_wp2
  clear hmm
  rw [HQ.out.1, HQ.out.2]
  go_loopw [6] (fun i wr => ∃ (j nq : Nat) (E : DataW Value), j ≤ n ∧ nq ≤ n ∧ i = .int .i64 j ∧ Hid (BRel w wr q nq E S.heap j) ∧ nq = j) (fun i _ => n - (Go.RowKit.intOf i).toNat)
  case atStart => exact ⟨0, 0, _, by omega, by omega, rfl, h0, rfl⟩
  case round =>
    obtain ⟨j, nq, E, hj, hnq, rfl, HR, hnj⟩ := hrel
    clear h0
    by_cases hlt : j < n
    · obtain ⟨d, hd⟩ : ∃ d, S.heap[j]? = some d := ⟨_, List.getElem?_eq_getElem (by rw [HA.out.2.2.2.1]; exact hlt)⟩
      have hji : (0 : Int) ≤ (j : Int) := by omega
      have hjn : (j : Int) < (n : Int) := by omega
      have hj1 : (j : Int) < 10000 := by have := HA.out.2.2.2.2; omega
      have hw1 : IntKind.i64.wrap ((j : Int) + 1) = (j : Int) + 1 := IntWalk.i64_in _ (by omega)
      have hmax : nq < maxLen := by have := HA.out.2.2.2.2.1; unfold maxLen; omega
      have HX := Lib.hid (And.intro hd (And.intro hlt hnj))
      clear hd hlt hj hnq hnj
      go_wp2_with fail
      refine (nt_flying _ (HA.out.1.below (w' := wr) HR.out.bel) (q := (n : Int)) (by rw [HA.out.2.2.2.1])).mono ?_
      rintro e _ ⟨rfl, rfl⟩
      go_wp2_with fail
      refine (nt_look _ (HA.out.1.below (w' := wr) HR.out.bel) (j : Int) (o := some d) (by rw [NS.look_at]; exact HX.out.1)).mono ?_
      rintro e w2 ⟨X, cx, rfl, hT, hb⟩
      dsimp only [Option.getD, Option.isSome, Told] at hT ⊢
      obtain ⟨t, ht⟩ : ∃ t, d.to = t := ⟨_, rfl⟩
      obtain ⟨f, hf⟩ : ∃ t, d.fr = t := ⟨_, rfl⟩
      obtain ⟨s, hs⟩ : ∃ s, tagL f t d.b = s := ⟨_, rfl⟩
      obtain ⟨k0, hk0⟩ : ∃ k0, cntL (S.heap.take j) s = k0 := ⟨_, rfl⟩
      have hk1 : k0 ≤ 10000 := by have := cntL_le (S.heap.take j) s; have := List.length_take_le j S.heap; have := HX.out.2.1; have := HA.out.2.2.2.2.1; omega
      have hits := HA.out.1.ok.its d (List.mem_of_getElem? HX.out.1)
      have hf2 : f < 256 := by have := HA.out.2.2.2.2.2; rw [← hf]; omega
      have ht2 : t < 256 := by have := HA.out.2.2.2.2.2; rw [← ht]; omega
      have hsl : s.length ≤ 200000 := by rw [← hs]; simp [tagL]; omega
      have hws : IntKind.i64.wrap ((k0 : Int) + 1) = (k0 : Int) + 1 := IntWalk.i64_in _ (by omega)
      have hpl : plainElem (H := Value) Try.prog 3 (.int .i64 ((k0 : Int) + 1)) = some (.lit (.int .i64 ((k0 : Int) + 1)), []) := plainElem_int Try.underlying3 (i64_wf (by omega) (by omega))
      have hkey : keyOf Try.prog 9 (.string ⟨s.toArray⟩) = some (.string s) := keyS (by omega)
      have hdl : d.b.length ≤ 131072 := hits.2.2
      rw [ht, hf]
      obtain ⟨w3, hw3⟩ : ∃ v, w2.alloc (.cells #[.int .i64 (f : Int), .int .i64 (t : Int), .slice X d.b.length cx] 34) = v := ⟨_, rfl⟩
      have hB3 : Below w2.heap.size w2 w3 := hw3 ▸ (Below.refl _ _).alloc (Nat.le_refl _) _
      have hr3 : w3.heap[w2.heap.size]? = some (.cells #[.int .i64 (f : Int), .int .i64 (t : Int), .slice X d.b.length cx] 34 (0, 0)) := hw3 ▸ heap_alloc_new _ _
      have H3 := Lib.hid (And.intro ((HR.out.below hb).below hB3) (And.intro (hT.rd.below hB3 (Nat.le_refl _)) (And.intro hf2 (And.intro ht2 (And.intro hdl (show tg d = s by unfold tg; rw [hf, ht, hs]))))))
      have HK := Lib.hid (And.intro hk0 hs)
      obtain ⟨⟨k0_, k1, k2⟩, _, _, _⟩ := three hr3
      clear hT hb hB3 hr3 HR ht hf hits hf2 ht2 hdl hsl hk1 hk0 hs
      go_wp2_with fail
      refine (tag_is w3 (f := f) (t := t) H3.out.2.2.1 H3.out.2.2.2.1 H3.out.2.1 (by have := H3.out.2.2.2.2.1; omega)).mono ?_
      rintro e w4 ⟨rfl, hb4⟩
      rw [HK.out.2]
      have H4 := Lib.hid (H3.out.1.below hb4)
      clear hb4 k0_ k1 k2 hw3
      go_wp2_with (first
        | (at_lookup; refine wpList_lookup_own_int _ rfl _ _ 62 rfl 9 3 .i64 (Maps.string_keyed Try.underlying9) Try.underlying62 Try.underlying3 (Try.zeroValue3 _) q nq E rfl H4.out.own _ _ rfl hkey ?_; intro c0 hat hwc; obtain rfl : (k0 : Int) = c0 := H4.out.owed.num HK.out.1 hat; clear hat hwc)
        | (at_mapUpdate; refine wpList_mapUpdate_own _ rfl _ _ _ 62 rfl 9 3 (Maps.string_keyed Try.underlying9) Try.underlying62 (plainElem Try.prog 3) q nq E rfl H4.out.own hmax _ _ (.string s) rfl rfl hkey _ [] hpl ?_; intro w5 hown5 hgrow5))
      have HE := Lib.hid (H4.out.step (by rw [HQ.out.1]; exact Nat.le_refl _) HX.out.1 H3.out.2.2.2.2.2 (by rw [HK.out.1]) hown5 hgrow5)
      have HJ := Lib.hid HX.out.2
      clear hown5 hgrow5 H4 H3
      go_wp2
      go_roundw
      case rel => exact ⟨j + 1, nq + 1, _, by have := HJ.out.1; omega, by have := HJ.out; omega, by go_num, HE, by have := HJ.out.2; omega⟩
      case measure => have := HJ.out; simp [Go.RowKit.intOf]; omega
    · obtain rfl : j = n := by omega
      clear hlt hj hnq hnj
      go_wp2_with fail
      refine (nt_flying _ (HA.out.1.below (w' := wr) HR.out.bel) (q := (j : Int)) (by rw [HA.out.2.2.2.1])).mono ?_
      rintro e _ ⟨rfl, rfl⟩
      have hall : S.heap.take j = S.heap := List.take_of_length_le (by rw [HA.out.2.2.2.1]; exact Nat.le_refl _)
      have hjn0 : j ≤ 10000 := HA.out.2.2.2.2.1
      have hownm : OMap wr m nn D := HA.out.2.1.below HR.out.bel
      have HW := Lib.hid (And.intro HR.out.own (And.intro (show OwedIs E fun s => cntL S.heap s by have := HR.out.owed; rwa [hall] at this) (And.intro (show ∀ s, Maps.has E (.string s) = true → 0 < cntL S.heap s by have := HR.out.pos; rwa [hall] at this) HR.out.bel)))
      clear HR hall hjn0
      go_wp2_with (first
        | (at_range; refine wpList_range_own _ rfl _ 62 rfl 9 3 (Maps.string_keyed Try.underlying9) Try.underlying62 (plainElem Try.prog 3) m nn D rfl hownm ?_; intro w3 hrg0 hg0 hs0))
      go_frame
      have hqs : m ≠ q := by
        have h1 := HA.out.2.1.lt
        have h2 := HQ.out.1
        omega
      have hbel : Below w.heap.size w w3 := HW.out.2.2.2.grown hg0 HW.out.2.2.2.size (by simp)
      have h1 : BRng w m wr.heap.size nn q nq D E w3 := ⟨_, _, hrg0, HW.out.1.kept hg0 (by simp), hbel⟩
      obtain ⟨r, hr⟩ : ∃ r, wr.heap.size = r := ⟨_, rfl⟩
      have hwr : w.heap.size ≤ r := by rw [← hr]; exact HW.out.2.2.2.size
      have hqr : q < r := by rw [← hr]; exact HW.out.1.lt
      rw [hr] at h1 ⊢
      have HD := Lib.hid (And.intro HW.out.2.1 (And.intro HW.out.2.2.1 (And.intro hqs (And.intro hwr hqr))))
      clear hrg0 hg0 hs0 hqs hbel hwr hqr hr HW hownm
      go_loopw [9] (fun _ wr => BRng w m r nn q nq D E wr) (fun _ wr => wr.rangeLeft m r)
      case atStart => exact h1
      case round =>
        obtain ⟨left, cnt, hrg, hE, hBel⟩ := hrel
        have HR := Lib.hid (And.intro hE (And.intro hBel hrg.left_eq))
        clear hE hBel h1
        go_wp2_with (first
          | (at_next; refine wpList_next_ranges _ rfl _ rfl 9 (Maps.string_keyed Try.underlying9) (plainElem Try.prog 3) (fun s : List UInt8 => .string ⟨s.toArray⟩) (Value.int .i64) (fun key kl hk => by obtain ⟨s, hs, _⟩ := keyS_inv hk; exact ⟨s, hs⟩) (fun v y hv => by obtain ⟨x, hx, _⟩ := plainElem_int_inv Try.underlying3 hv; exact ⟨x, hx⟩) m r nn _ _ _ rfl hrg ?_ ?_))
        · intro hc0 hl0
          clear hc0 hl0 hrg
          have hownq : OMap wr q nq E := HR.out.1
          go_wp2_with (first
            | (at_range; refine wpList_range_own _ rfl _ 62 rfl 9 3 (Maps.string_keyed Try.underlying9) Try.underlying62 (plainElem Try.prog 3) q nq E rfl hownq ?_; intro w3 hrg0 hg0 hs0))
          go_frame
          have hmm' : OMap w3 m nn D := (HA.out.2.1.below HR.out.2.1).kept hg0 (by simp)
          have hbel : Below w.heap.size w w3 := HR.out.2.1.grown hg0 HR.out.2.1.size (by simp)
          have h1 : BRng w q wr.heap.size nq m nn E D w3 := ⟨_, _, hrg0, hmm', hbel⟩
          obtain ⟨r2, hr2⟩ : ∃ r2, wr.heap.size = r2 := ⟨_, rfl⟩
          have hwr : w.heap.size ≤ r2 := by rw [← hr2]; exact HR.out.2.1.size
          have hqr : m < r2 := by rw [← hr2]; exact (HA.out.2.1.below HR.out.2.1).lt
          rw [hr2] at h1 ⊢
          have HD2 := Lib.hid (And.intro hwr hqr)
          clear hrg0 hg0 hs0 hbel hwr hqr hr2 hmm' hownq HR
          go_loopw [11] (fun _ wr => BRng w q r2 nq m nn E D wr) (fun _ wr => wr.rangeLeft q r2)
          case atStart => exact h1
          case round =>
            obtain ⟨left, cnt, hrg, hE, hBel⟩ := hrel
            have HR := Lib.hid (And.intro hE (And.intro hBel hrg.left_eq))
            clear hE hBel h1
            go_wp2_with (first
              | (at_next; refine wpList_next_ranges _ rfl _ rfl 9 (Maps.string_keyed Try.underlying9) (plainElem Try.prog 3) (fun s : List UInt8 => .string ⟨s.toArray⟩) (Value.int .i64) (fun key kl hk => by obtain ⟨s, hs, _⟩ := keyS_inv hk; exact ⟨s, hs⟩) (fun v y hv => by obtain ⟨x, hx, _⟩ := plainElem_int_inv Try.underlying3 hv; exact ⟨x, hx⟩) q r2 nq _ _ _ rfl hrg ?_ ?_))
            · intro hc0 hl0
              clear hc0 hl0 hrg
              go_wp2
              go_ret
              exact ⟨rfl, HR.out.2.1⟩
            · intro s c kl y1 y2 w4 cnt4 hkey hlk hv hat hrg4 hlt4 hg4 hs4 hen
              obtain ⟨rfl, hat2, hhas⟩ := entryS hkey hv hat
              have hbel4 : Below w.heap.size w w4 := HR.out.2.1.grown hg4 HR.out.2.1.size (by intro k hk; injection hk with hk; have := HD2.out.1; omega)
              have hown4 : OMap w4 m nn D := World.ownsMap.kept HR.out.1 hg4 (by intro e; injection e with e; have := HD2.out.2; omega)
              have hpos := HD.out.2.1 s hhas
              obtain ⟨k0, hk0⟩ : ∃ k0, cntL S.heap s = k0 := ⟨_, rfl⟩
              rw [hk0] at hpos
              have hk0n : ¬ (k0 : Int) = 0 := by omega
              have HE : Hid (BRng w q r2 nq m nn E D w4) := Lib.hid ⟨_, _, hrg4, hown4, hbel4⟩
              have HM := Lib.hid (And.intro hrg4.left_eq (And.intro HR.out.2.2 hlt4))
              have HK := Lib.hid hk0
              clear hv hat hlk hhas hbel4 hrg4 hlt4 hg4 hs4 hat2 hk0 hrg
              go_wp2_with (first
                | (at_lookup; refine wpList_lookup_own_int _ rfl _ _ 62 rfl 9 3 .i64 (Maps.string_keyed Try.underlying9) Try.underlying62 Try.underlying3 (Try.zeroValue3 _) m nn D rfl hown4 _ _ rfl hkey ?_; intro c0 hat hwc; obtain rfl : (k0 : Int) = c0 := HA.out.2.2.1.num HK.out hat; clear hat hwc))
              go_roundw
              case rel => exact HE.out
              case measure => rw [HM.out.1, HM.out.2.1]; exact HM.out.2.2
        · intro s c kl y1 y2 w4 cnt4 hkey hlk hv hat hrg4 hlt4 hg4 hs4 hen
          obtain ⟨rfl, hat2, hhas⟩ := entryS hkey hv hat
          have hbel4 : Below w.heap.size w w4 := HR.out.2.1.grown hg4 HR.out.2.1.size (by intro k hk; injection hk with hk; have := HD.out.2.2.2.1; omega)
          have hown4 : OMap w4 q nq E := World.ownsMap.kept HR.out.1 hg4 (by intro e; injection e with e; have := HD.out.2.2.2.2; omega)
          obtain ⟨k0, hk0⟩ : ∃ k0, cntL S.heap s = k0 := ⟨_, rfl⟩
          obtain rfl : (k0 : Int) = c := HA.out.2.2.1.num hk0 (hat2 _)
          have HE : Hid (BRng w m r nn q nq D E w4) := Lib.hid ⟨_, _, hrg4, hown4, hbel4⟩
          have HM := Lib.hid (And.intro hrg4.left_eq (And.intro HR.out.2.2 hlt4))
          have HK := Lib.hid hk0
          clear hv hat hlk hhas hbel4 hrg4 hlt4 hg4 hs4 hat2 hk0 hrg
          go_wp2_with (first
            | (at_lookup; refine wpList_lookup_own_int _ rfl _ _ 62 rfl 9 3 .i64 (Maps.string_keyed Try.underlying9) Try.underlying62 Try.underlying3 (Try.zeroValue3 _) q nq E rfl hown4 _ _ rfl hkey ?_; intro c0 hat hwc; obtain rfl : (k0 : Int) = c0 := HD.out.1.num HK.out hat; clear hat hwc))
          go_roundw
          case rel => exact HE.out
          case measure => rw [HM.out.1, HM.out.2.1]; exact HM.out.2.2
end Go.Proofs.Ythhablokbnfpcaa
