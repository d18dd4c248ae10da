import Derived.Test.YtkkpfehgobanbaaElems
import Derived.Test.YtkkpfehgobanbaaVals
import Derived.Lib.AppendZeros
namespace Go.Proofs.Ytkkpfehgobanbaa
open Go.RowKit Go.Coop
set_option maxRecDepth 100000

theorem info5 : (Try.prog.info? 5).map (fun i => (i.zero, i.size, i.bytes)) = some (some (.int .u8 0), 1, 1) := by kernel_rfl

/-- What a call hands back that makes a slice of bytes. -/
def Fresh (w : World) (n : Nat) (l : List UInt8) (e : Ending) (w' : World) : Prop :=
  ∃ A c, e = .returned (.slice A n c) ∧ Own w' w.heap.size 5 A n c l ∧ Below w.heap.size w w'

theorem copy_any (A : Option Addr) (n c : Nat) (l : List UInt8) (w : World) (hr : Rd w A n l) (hn : n ≤ 140737488355328) :
    Calls Try.prog 28 #[.slice A n c] w (Fresh w n l) := by
  go_enter Try.func28, Try.ntmps28
  go_wp2_with (at_builtin; refine wpList_app _ rfl (.tmp 4) (.tmp 5) _ rfl w.heap.size 5 Try.underlying35 info5 (A := none) (n := 0) (c := 0) rfl (Own.nil _ _ _) rfl hr (by omega) (Nat.le_refl _) n (by omega) ?_; intro A' c' w' ho hg hat)
  go_ret
  refine ⟨A', c', rfl, by simpa using ho, (Below.refl _ _).grown hg (Nat.le_refl _) (by simp)⟩

theorem info5b : ∃ i, Try.prog.info? 5 = some i ∧ i.zero = some (.int .u8 0) ∧ i.size = 1 ∧ i.bytes = 1 := info_parts info5

theorem grow_zero (w : World) : Calls Try.prog 95 #[.slice none 0 0, .int .i64 0] w (Fresh w 0 []) := by
  go_enter Try.func95, Try.ntmps95
  go_wp2
  go_ret
  exact ⟨none, 0, rfl, Own.nil _ _ _, Below.refl _ _⟩

theorem grow_some (n : Nat) (w : World) (h0 : 0 < n) (h1 : n ≤ 140737488355328) : Calls Try.prog 95 #[.slice none 0 0, .int .i64 n] w (Fresh w 0 []) := by
  obtain ⟨i, hi, hz, hs, hb⟩ := info5b
  have hrun := Lib.run_append_nil_zeros (P := Try.prog) w 35 3 35 5 i (.int .u8 0) .i64 .i64 Try.underlying35 Try.underlying3 hi hz n h0 (by omega) (by omega) (by rw [hb]; omega)
  have hge := grownCap_ge w n 0 5
  have hle := grownCap_le_maxLen w n 0 5 (by simp only [maxLen]; omega)
  have H := Lib.hid hrun
  have HH := Lib.hid (And.intro hi (And.intro hz (And.intro hs hb)))
  clear hrun hi hz hs hb
  generalize hcap : grownCap w n 0 5 = cap at *
  go_enter Try.func95, Try.ntmps95
  go_wp2_with (at_builtin; refine Lib.wpList_append_run _ rfl _ _ _ _ rfl _ _ rfl rfl _ _ H.out ?_)
  go_ret
  refine ⟨_, _, rfl, ⟨rfl, ?_⟩, ?_⟩
  · have := World.ownsRow_made (base := w.heap.size) (e := 5) (size := 1) w.drew (Builtin.zeroCells (Value.int .u8 0).cells n ++ Builtin.zeroCells (Value.int .u8 0).cells (cap - n)) cap (Nat.le_refl _) hle (by simp [size_zeroCells, Value.cells]; omega)
    exact this
  · exact (Below.refl _ _).drew.alloc (Nat.le_refl _) _

theorem grow_nil (x : Int) (w : World) (h0 : 0 ≤ x) (h1 : x ≤ 140737488355328) : Calls Try.prog 95 #[.slice none 0 0, .int .i64 x] w (Fresh w 0 []) := by
  obtain ⟨n, rfl⟩ := Int.eq_ofNat_of_zero_le h0
  rcases Nat.eq_zero_or_pos n with rfl | hp
  · exact grow_zero w
  · exact grow_some n w hp (by omega)

set_option maxRecDepth 100000 in
theorem concat_any (ad : Addr) (ps : List Part) (K c0 : Nat) (w : World) (hK : ps.length = K) (hps : Parts w ad ps) (hk : K ≤ 1000) (ht : tot ps ≤ 140737488355328) :
    Calls Try.prog 85 #[.slice (some ad) K c0] w (Fresh w (tot ps) (cat ps)) := by
  have HK := Lib.hid hK
  clear hK
  go_enter Try.func85, Try.ntmps85
  go_wp2
  go_loop [3, 11] (fun s i => ∃ k : Nat, k ≤ K ∧ i = .int .i64 k ∧ s = .int .i64 (tot (ps.take k) : Nat)) (fun _ i => K - (intOf i).toNat)
  case atStart => exact ⟨0, Nat.zero_le _, rfl, rfl⟩
  case round =>
    obtain ⟨k, hkk, rfl, rfl⟩ := hrel
    have h1 := tot_take_le ps k
    by_cases hlt : k < K
    · obtain ⟨⟨A, n, c, l⟩, hp⟩ : ∃ p, ps[k]? = some p := ⟨_, List.getElem?_eq_getElem (by rw [HK.out]; exact hlt)⟩
      obtain ⟨hc, _⟩ := hps.at_ k _ hp
      have h2 := tot_snoc hp
      have h3 := tot_take_le ps (k + 1)
      simp only at hc h2
      have h4 : tot (ps.take k) + n ≤ tot ps := by omega
      have H2 := Lib.hid h2
      have HP := Lib.hid hps
      clear h2 hp hps
      go_wp2
      go_round
      case rel => exact ⟨k + 1, by omega, by go_num, by rw [H2.out]; go_num⟩
      case measure => simp [intOf]; omega
    · obtain rfl : k = K := by omega
      have hT : tot (ps.take k) = tot ps := by rw [List.take_of_length_le (by rw [HK.out]; omega)]
      rw [hT]
      clear hT
      have HP := Lib.hid hps
      clear hps
      go_wp2_with (go_at_call 95; refine (grow_nil _ _ (by omega) (by omega)).mono ?_; rintro e w1 ⟨A1, c1, rfl, ho1, hb1⟩)
      go_loopw [6, 27] (fun v i wr => ∃ (j n : Nat) (A : Option Addr) (c : Nat), j ≤ k ∧ i = .int .i64 j ∧ v = .slice A n c ∧ n ≤ tot ps ∧ Own wr w.heap.size 5 A n c (cat (ps.take j)) ∧ Below w.heap.size w wr ∧ Hid (n = tot (ps.take j))) (fun _ i _ => k - (intOf i).toNat)
      case atStart => exact ⟨0, 0, A1, c1, by omega, rfl, rfl, by omega, ho1, hb1, rfl⟩
      case round =>
        obtain ⟨j, n, A, c, hj, rfl, rfl, hn, hown, hbel, HN⟩ := hrel
        by_cases hlt : j < k
        · obtain ⟨⟨B, m, d, l⟩, hp⟩ : ∃ p, ps[j]? = some p := ⟨_, List.getElem?_eq_getElem (by rw [HK.out]; exact hlt)⟩
          obtain ⟨hc, hr⟩ := (HP.out.below hbel (Nat.le_refl _)).at_ j _ hp
          have h2 := tot_snoc hp
          have h2' := cat_snoc hp
          have h3 := tot_take_le ps (j + 1)
          simp only at hc h2 hr h2'
          have hnm : n + m ≤ tot ps := by have := HN.out; omega
          have H2 := Lib.hid h2
          have H2' := Lib.hid h2'
          have hbs := hbel.size
          clear h2 hp h2'
          go_wp2_with (at_builtin; refine wpList_app _ rfl (.tmp 31) (.tmp 32) _ rfl w.heap.size 5 Try.underlying35 info5 rfl hown rfl hr (by omega) hbs (n + m) rfl ?_; intro A' c' w' ho hg hat)
          go_roundw
          case rel =>
            refine ⟨j + 1, n + m, A', c', by omega, by go_num, rfl, by omega, ?_, hbel.grown hg hbs (fun k hk => (hown.block k hk).1), ?_⟩
            · rw [H2'.out]; exact ho
            · show n + m = _
              rw [H2.out, ← HN.out]
          case measure => simp [intOf]; omega
        · go_wp2
          go_ret
          obtain rfl : j = k := by omega
          have e1 : ps.take j = ps := List.take_of_length_le (by rw [HK.out]; omega)
          have e2 := HN.out
          rw [e1] at e2 hown
          subst e2
          exact ⟨A, c, rfl, hown, hbel⟩

theorem same_any (A : Option Addr) (n c : Nat) (l : List UInt8) (B : Option Addr) (m d : Nat) (k : List UInt8) (w : World) (ha : Rd w A n l) (hb : Rd w B m k) :
    Calls Try.prog 29 #[.slice A n c, .slice B m d] w fun e w' => e = .returned (.bool (l == k)) ∧ w = w' := by
  have ka := conv_str (P := Try.prog) Try.underlying35 Try.underlying5 Try.underlying9 ha c
  have kb := conv_str (P := Try.prog) Try.underlying35 Try.underlying5 Try.underlying9 hb d
  go_enter Try.func29, Try.ntmps29
  go_wp2
  go_ret
  exact ⟨rfl, rfl⟩
theorem same_yes (A : Option Addr) (n c : Nat) (l : List UInt8) (B : Option Addr) (m d : Nat) (w : World) (ha : Rd w A n l) (hb : Rd w B m l) :
    Calls Try.prog 29 #[.slice A n c, .slice B m d] w fun e w' => e = .returned (.bool true) ∧ w = w' := by
  have := same_any A n c l B m d l w ha hb
  rwa [show (l == l) = true from beq_self_eq_true l] at this
end Go.Proofs.Ytkkpfehgobanbaa
