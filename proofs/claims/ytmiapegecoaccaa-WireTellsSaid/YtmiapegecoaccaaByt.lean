/- Numbers as bytes: the program's Uint and what it calls. -/
import Derived.Test.YtmiapegecoaccaaRows
import Derived.Test.YtmiapegecoaccaaWords
import Derived.Test.YtmiapegecoaccaaPure
import Derived.Test.YtmiapegecoaccaaNums
import Derived.WalkSpells
import Derived.WalkLawsBesides
import Derived.Lib.AppendZeros
namespace Go.Proofs.Ytmiapegecoaccaa
open Go.RowKit Go.Coop
theorem info5 : (Try.prog.info? 5).map (fun i => (i.zero, i.size, i.bytes)) = some (some (.int .u8 0), 1, 1) := by kernel_rfl

/-- What a call hands back that makes a slice of bytes. -/
def Fresh (w : World) (n : Nat) (l : List UInt8) (e : Ending) (w' : World) : Prop :=
  ∃ A c, e = .returned (.slice A n c) ∧ Own w' w.heap.size 5 A n c l ∧ Below w.heap.size w w'

theorem copy_any (A : Option Addr) (n c : Nat) (l : List UInt8) (w : World) (hr : Rd w A n l) (hn : n ≤ 140737488355328) :
    Calls Try.prog 30 #[.slice A n c] w (Fresh w n l) := by
  go_enter Try.func30, Try.ntmps30
  go_wp2_with (at_builtin; refine wpList_app _ rfl (.tmp 4) (.tmp 5) _ rfl w.heap.size 5 Try.underlying23 info5 (A := none) (n := 0) (c := 0) rfl (Own.nil _ _ _) rfl hr (by omega) (Nat.le_refl _) n (by omega) ?_; intro A' c' w' ho hg hat)
  go_ret
  refine ⟨A', c', rfl, by simpa using ho, (Below.refl _ _).grown hg (Nat.le_refl _) (by simp)⟩

set_option maxRecDepth 100000 in
theorem digits_any (x : Int) (w : World) (h0 : 0 ≤ x) (h1 : x ≤ 18446744073709551615) :
    Calls Try.prog 58 #[.int .u64 x] w (Fresh w (dig x.toNat).length (dig x.toNat)) := by
  obtain ⟨n, rfl⟩ := Int.eq_ofNat_of_zero_le h0
  go_enter Try.func58, Try.ntmps58
  go_wp2
  go_loopw [0, 3] (fun v0 v3 wr => ∃ (k m j : Nat) (A : Option Addr) (c : Nat) (d : List UInt8), v0 = .int .u64 (m : Int) ∧ v3 = .slice A j c ∧ j + k ≤ 9 ∧ Own wr w.heap.size 5 A j c d ∧ Below w.heap.size w wr ∧ DRel n k m d)
    (fun v0 _ _ => (intOf v0).toNat)
  case atStart => exact ⟨9, n, 0, none, 0, [], rfl, rfl, by omega, Own.nil _ _ _, Below.refl _ _, DRel.start (by omega)⟩
  case round =>
    obtain ⟨k, m, j, A, c, d, rfl, rfl, hjk, hown, hbel, hrel⟩ := hrel
    have hm := hrel.small
    have hbs := hbel.size
    by_cases hge : 128 ≤ m
    · obtain ⟨k', rfl, hst⟩ := hrel.step hge
      clear hrel
      have hb : Own wr w.heap.size 5 A j c d := hown
      go_wp2_with (at_builtin; refine wpList_app _ rfl (.tmp 6) (.tmp 11) _ rfl w.heap.size 5 Try.underlying23 info5 rfl (hown.alloc _) rfl (Rd.one wr _ (by omega) (by omega) 5 _) (by omega) (by simp; omega) (j + 1) rfl ?_; intro A' c' w' ho hg hat)
      go_roundw
      case rel => 
        refine ⟨k', m / 128, j + 1, A', c', _, by go_num, rfl, by omega, ho, ?_, ?_⟩
        · exact (hbel.alloc hbs _).grown hg (by simp; omega) (fun k hk => (hown.block k hk).1)
        · have e : ((m : Int) % 128 + 128).toNat = m % 128 + 128 := by omega
          rw [e]; exact hst
      case measure => simp [intOf]; omega
    · go_wp2_with (at_builtin; refine wpList_app _ rfl (.tmp 15) (.tmp 18) _ rfl w.heap.size 5 Try.underlying23 info5 rfl (hown.alloc _) rfl (Rd.one wr _ (by omega) (by omega) 5 _) (by omega) (by simp; omega) (j + 1) rfl ?_; intro A' c' w' ho hg hat)
      go_ret
      have e := hrel.done (by omega)
      rw [e]
      have hl := hown.len
      refine ⟨A', c', ?_, ?_, (hbel.alloc hbs _).grown hg (by simp; omega) (fun k hk => (hown.block k hk).1)⟩
      · simp [hl]
      · simpa [hl] using ho
theorem info5b : ∃ i, Try.prog.info? 5 = some i ∧ i.zero = some (.int .u8 0) ∧ i.size = 1 ∧ i.bytes = 1 := info_parts info5

theorem grow_zero (w : World) : Calls Try.prog 63 #[.slice none 0 0, .int .i64 0] w (Fresh w 0 []) := by
  go_enter Try.func63, Try.ntmps63
  go_wp2
  go_ret
  exact ⟨none, 0, rfl, Own.nil _ _ _, Below.refl _ _⟩

theorem grow_some (n : Nat) (w : World) (h0 : 0 < n) (h1 : n ≤ 140737488355328) : Calls Try.prog 63 #[.slice none 0 0, .int .i64 n] w (Fresh w 0 []) := by
  obtain ⟨i, hi, hz, hs, hb⟩ := info5b
  have hrun := Lib.run_append_nil_zeros (P := Try.prog) w 23 3 23 5 i (.int .u8 0) .i64 .i64 Try.underlying23 Try.underlying3 hi hz n h0 (by omega) (by omega) (by rw [hb]; omega)
  have hge := grownCap_ge w n 0 5
  have hle := grownCap_le_maxLen w n 0 5 (by simp only [maxLen]; omega)
  have H := Lib.hid hrun
  have HH := Lib.hid (And.intro hi (And.intro hz (And.intro hs hb)))
  clear hrun hi hz hs hb
  generalize hcap : grownCap w n 0 5 = cap at *
  go_enter Try.func63, Try.ntmps63
  go_wp2_with (at_builtin; refine Lib.wpList_append_run _ rfl _ _ _ _ rfl _ _ rfl rfl _ _ H.out ?_)
  go_ret
  refine ⟨_, _, rfl, ⟨rfl, ?_⟩, ?_⟩
  · have := World.ownsRow_made (base := w.heap.size) (e := 5) (size := 1) w.drew (Builtin.zeroCells (Value.int .u8 0).cells n ++ Builtin.zeroCells (Value.int .u8 0).cells (cap - n)) cap (Nat.le_refl _) hle (by simp [size_zeroCells, Value.cells]; omega)
    exact this
  · exact (Below.refl _ _).drew.alloc (Nat.le_refl _) _

theorem grow_nil (x : Int) (w : World) (h0 : 0 ≤ x) (h1 : x ≤ 140737488355328) : Calls Try.prog 63 #[.slice none 0 0, .int .i64 x] w (Fresh w 0 []) := by
  obtain ⟨n, rfl⟩ := Int.eq_ofNat_of_zero_le h0
  rcases Nat.eq_zero_or_pos n with rfl | hp
  · exact grow_zero w
  · exact grow_some n w hp (by omega)

set_option maxRecDepth 100000 in
theorem concat_any (ad : Addr) (ps : List Part) (K c0 : Nat) (w : World) (hK : ps.length = K) (hps : Parts w ad ps) (hk : K ≤ 1000) (ht : tot ps ≤ 140737488355328) :
    Calls Try.prog 48 #[.slice (some ad) K c0] w (Fresh w (tot ps) (cat ps)) := by
  have HK := Lib.hid hK
  clear hK
  go_enter Try.func48, Try.ntmps48
  go_wp2
  go_loop [3, 11] (fun s i => ∃ k : Nat, k ≤ K ∧ i = .int .i64 k ∧ s = .int .i64 (tot (ps.take k) : Nat)) (fun _ i => K - (intOf i).toNat)
  case atStart => exact ⟨0, Nat.zero_le _, rfl, rfl⟩
  case round =>
    obtain ⟨k, hkk, rfl, rfl⟩ := hrel
    have h1 := tot_take_le ps k
    by_cases hlt : k < K
    · obtain ⟨⟨A, n, c, l⟩, hp⟩ : ∃ p, ps[k]? = some p := ⟨_, List.getElem?_eq_getElem (by rw [HK.out]; exact hlt)⟩
      obtain ⟨hc, _⟩ := hps.at_ k _ hp
      have h2 := tot_snoc hp
      have h3 := tot_take_le ps (k + 1)
      simp only at hc h2
      have h4 : tot (ps.take k) + n ≤ tot ps := by omega
      have H2 := Lib.hid h2
      have HP := Lib.hid hps
      clear h2 hp hps
      go_wp2
      go_round
      case rel => exact ⟨k + 1, by omega, by go_num, by rw [H2.out]; go_num⟩
      case measure => simp [intOf]; omega
    · obtain rfl : k = K := by omega
      have hT : tot (ps.take k) = tot ps := by rw [List.take_of_length_le (by rw [HK.out]; omega)]
      rw [hT]
      clear hT
      have HP := Lib.hid hps
      clear hps
      go_wp2_with (go_at_call 63; refine (grow_nil _ _ (by omega) (by omega)).mono ?_; rintro e w1 ⟨A1, c1, rfl, ho1, hb1⟩)
      go_loopw [6, 27] (fun v i wr => ∃ (j n : Nat) (A : Option Addr) (c : Nat), j ≤ k ∧ i = .int .i64 j ∧ v = .slice A n c ∧ n ≤ tot ps ∧ Own wr w.heap.size 5 A n c (cat (ps.take j)) ∧ Below w.heap.size w wr ∧ Hid (n = tot (ps.take j))) (fun _ i _ => k - (intOf i).toNat)
      case atStart => exact ⟨0, 0, A1, c1, by omega, rfl, rfl, by omega, ho1, hb1, rfl⟩
      case round =>
        obtain ⟨j, n, A, c, hj, rfl, rfl, hn, hown, hbel, HN⟩ := hrel
        by_cases hlt : j < k
        · obtain ⟨⟨B, m, d, l⟩, hp⟩ : ∃ p, ps[j]? = some p := ⟨_, List.getElem?_eq_getElem (by rw [HK.out]; exact hlt)⟩
          obtain ⟨hc, hr⟩ := (HP.out.below hbel (Nat.le_refl _)).at_ j _ hp
          have h2 := tot_snoc hp
          have h2' := cat_snoc hp
          have h3 := tot_take_le ps (j + 1)
          simp only at hc h2 hr h2'
          have hnm : n + m ≤ tot ps := by have := HN.out; omega
          have H2 := Lib.hid h2
          have H2' := Lib.hid h2'
          have hbs := hbel.size
          clear h2 hp h2'
          go_wp2_with (at_builtin; refine wpList_app _ rfl (.tmp 31) (.tmp 32) _ rfl w.heap.size 5 Try.underlying23 info5 rfl hown rfl hr (by omega) hbs (n + m) rfl ?_; intro A' c' w' ho hg hat)
          go_roundw
          case rel =>
            refine ⟨j + 1, n + m, A', c', by omega, by go_num, rfl, by omega, ?_, hbel.grown hg hbs (fun k hk => (hown.block k hk).1), ?_⟩
            · rw [H2'.out]; exact ho
            · show n + m = _
              rw [H2.out, ← HN.out]
          case measure => simp [intOf]; omega
        · go_wp2
          go_ret
          obtain rfl : j = k := by omega
          have e1 : ps.take j = ps := List.take_of_length_le (by rw [HK.out]; omega)
          have e2 := HN.out
          rw [e1] at e2 hown
          subst e2
          exact ⟨A, c, rfl, hown, hbel⟩
theorem parts_new (w : World) (ps : List Part) (cs : Array Value) (E : TypeId) (fr : Nat × Nat) (h : ∀ (i : Nat) (p : Part), ps[i]? = some p → cs[i]? = some (.slice p.1 p.2.1 p.2.2.1) ∧ Rd w p.1 p.2.1 p.2.2.2) :
    Parts (w.alloc (.cells cs E fr)) ⟨w.heap.size, 0, none⟩ ps :=
  ⟨by simp, fun i p hp => by
    have hadd : (⟨w.heap.size, 0, none⟩ : Addr).add i = ⟨w.heap.size, i, none⟩ := by unfold Addr.add; split <;> simp_all
    obtain ⟨h1, h2⟩ := h i p hp
    exact ⟨by rw [hadd, cell_of_row _ w.heap.size i cs E fr (heap_alloc_new w _)]; exact h1, h2.alloc _⟩⟩
theorem parts_two {w : World} {A B : Option Addr} {n c m d : Nat} {l k : List UInt8} (h1 : Rd w A n l) (h2 : Rd w B m k) (E : TypeId) (fr : Nat × Nat) :
    Parts (w.alloc (.cells #[.slice A n c, .slice B m d] E fr)) ⟨w.heap.size, 0, none⟩ [(A, n, c, l), (B, m, d, k)] :=
  parts_new w _ _ E fr fun i p hp => by
    match i, hp with
    | 0, hp => simp at hp; subst hp; exact ⟨rfl, h1⟩
    | 1, hp => simp at hp; subst hp; exact ⟨rfl, h2⟩
theorem parts_three {w : World} {A B C : Option Addr} {n c m d p q : Nat} {l k j : List UInt8} (h1 : Rd w A n l) (h2 : Rd w B m k) (h3 : Rd w C p j) (E : TypeId) (fr : Nat × Nat) :
    Parts (w.alloc (.cells #[.slice A n c, .slice B m d, .slice C p q] E fr)) ⟨w.heap.size, 0, none⟩ [(A, n, c, l), (B, m, d, k), (C, p, q, j)] :=
  parts_new w _ _ E fr fun i p hp => by
    match i, hp with
    | 0, hp => simp at hp; subst hp; exact ⟨rfl, h1⟩
    | 1, hp => simp at hp; subst hp; exact ⟨rfl, h2⟩
    | 2, hp => simp at hp; subst hp; exact ⟨rfl, h3⟩

theorem uint_any (A : Option Addr) (n c : Nat) (l : List UInt8) (x : Int) (w : World) (hr : Rd w A n l) (hn : n ≤ 70368744177664) (h0 : 0 ≤ x) (h1 : x ≤ 18446744073709551615) :
    Calls Try.prog 57 #[.slice A n c, .int .u64 x] w (Fresh w (n + (dig x.toNat).length) (l ++ dig x.toNat)) := by
  have hd := dig_length x.toNat
  go_enter Try.func57, Try.ntmps57
  go_wp2_with fail
  refine (digits_any _ _ h0 h1).mono ?_
  rintro e w1 ⟨A1, c1, rfl, ho1, hb1⟩
  have hbs := hb1.size
  generalize dig x.toNat = D at *
  generalize hDn : D.length = m at *
  have HD := Lib.hid hDn
  clear hDn
  go_wp2_with fail
  refine (concat_any _ [(A, n, c, l), (A1, m, c1, D)] 2 2 _ rfl (parts_two (hr.below hb1 (Nat.le_refl _)) ho1.rd _ _) (by omega) (by simp [tot]; omega)).mono ?_
  rintro e w2 ⟨A2, c2, rfl, ho2, hb2⟩
  go_wp2
  go_ret
  refine ⟨A2, c2, by simp [tot], ?_, ?_⟩
  · simp [tot, cat] at ho2
    exact ho2.lower (by omega)
  · exact (hb1.alloc hbs _).trans (hb2.mono (by simp; omega))

theorem uint_nil (n : Nat) (w : World) (h1 : n ≤ 18446744073709551615) : Calls Try.prog 57 #[.slice none 0 0, .int .u64 (n : Int)] w (Fresh w (dig n).length (dig n)) := by
  have h := uint_any none 0 0 [] n w (Rd.nil _ _) (by omega) (by omega) (by omega)
  simp only [Nat.zero_add, List.nil_append, Int.toNat_natCast] at h
  exact h

/-- a call that hands back a string and turns nothing that was there -/
def Str (w : World) (l : List UInt8) (e : Ending) (w' : World) : Prop := e = .returned (.string ⟨l.toArray⟩) ∧ Below w.heap.size w w'

end Go.Proofs.Ytmiapegecoaccaa
