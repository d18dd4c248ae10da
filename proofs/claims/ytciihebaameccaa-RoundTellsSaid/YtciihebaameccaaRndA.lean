/- The small ones of a round: fits, may, want, asked, published, given, answered. -/
import Derived.Test.YtciihebaameccaaRows
import Derived.Test.YtciihebaameccaaRwK
import Derived.Test.YtciihebaameccaaRndP
import Derived.Shelf.RegionOpenPlain
import Derived.Deep.LoopGhost
import Derived.Lib.SliceRun
import Derived.Deep.QuietTactic
import Derived.BigQuiet
import Derived.LaidEqlPtr
import Derived.Laws.ResultCell
import Derived.Deep.Upon
import Derived.WalkSpells
import Derived.WalkLawsBesides
namespace Go.Proofs.Ytciihebaameccaa
open Go.RowKit Go.Coop
set_option maxRecDepth 100000
theorem info3 : (Try.prog.info? 3).map (fun i => (i.zero, i.size, i.bytes)) = some (some (.int .i64 0), 1, 8) := by kernel_rfl
section
variable (w : World)
theorem fits_q (n least most : Int) {q : Bool} (hq : decide (least ≤ n ∧ n ≤ most) = q) : Calls Try.prog 46 #[.int .i64 n, .int .i64 least, .int .i64 most] w fun e w' => e = .returned (.bool q) ∧ w = w' := by
  by_cases h1 : least ≤ n
  · by_cases h2 : n ≤ most
    · obtain rfl : q = true := by rw [← hq]; simp; omega
      clear hq
      go_enter Try.func46, Try.ntmps46
      go_wp2
      go_ret
      exact ⟨rfl, rfl⟩
    · obtain rfl : q = false := by rw [← hq]; simp; omega
      clear hq
      go_enter Try.func46, Try.ntmps46
      go_wp2
      go_ret
      exact ⟨rfl, rfl⟩
  · obtain rfl : q = false := by rw [← hq]; simp; omega
    clear hq
    go_enter Try.func46, Try.ntmps46
    go_wp2
    go_ret
    exact ⟨rfl, rfl⟩
theorem may_q (s v n need : Int) {q : Bool} (hq : decide (MayR s v n need) = q) : Calls Try.prog 36 #[.int .i64 s, .int .i64 v, .int .i64 n, .int .i64 need] w fun e w' => e = .returned (.bool q) ∧ w = w' := by
  by_cases h0 : 0 ≤ s ∧ s ≤ 1099511627776
  · have k0 := Lib.hid (decide_eq_true h0)
    by_cases h1 : 1 ≤ v ∧ v ≤ 1099511627776
    · have k1 := Lib.hid (decide_eq_true h1)
      by_cases h2 : 1 ≤ n ∧ n ≤ 255
      · have k2 := Lib.hid (decide_eq_true h2)
        by_cases h3 : 1 ≤ need ∧ need ≤ n
        · have k3 := Lib.hid (decide_eq_true h3)
          obtain rfl : q = true := by rw [← hq]; exact decide_eq_true ⟨h0, h1, h2, h3⟩
          clear hq h0 h1 h2 h3
          go_enter Try.func36, Try.ntmps36
          go_wp2_with fail
          refine (fits_q _ s 0 1099511627776 k0.out).mono ?_
          rintro e w' ⟨rfl, rfl⟩
          go_wp2_with fail
          refine (fits_q _ v 1 1099511627776 k1.out).mono ?_
          rintro e w' ⟨rfl, rfl⟩
          go_wp2_with fail
          refine (fits_q _ n 1 255 k2.out).mono ?_
          rintro e w' ⟨rfl, rfl⟩
          go_wp2_with fail
          refine (fits_q _ need 1 n k3.out).mono ?_
          rintro e w' ⟨rfl, rfl⟩
          go_wp2
          go_ret
          exact ⟨rfl, rfl⟩
        · have k3 := Lib.hid (decide_eq_false h3)
          obtain rfl : q = false := by rw [← hq]; exact decide_eq_false (fun h => h3 h.2.2.2)
          clear hq h0 h1 h2 h3
          go_enter Try.func36, Try.ntmps36
          go_wp2_with fail
          refine (fits_q _ s 0 1099511627776 k0.out).mono ?_
          rintro e w' ⟨rfl, rfl⟩
          go_wp2_with fail
          refine (fits_q _ v 1 1099511627776 k1.out).mono ?_
          rintro e w' ⟨rfl, rfl⟩
          go_wp2_with fail
          refine (fits_q _ n 1 255 k2.out).mono ?_
          rintro e w' ⟨rfl, rfl⟩
          go_wp2_with fail
          refine (fits_q _ need 1 n k3.out).mono ?_
          rintro e w' ⟨rfl, rfl⟩
          go_wp2
          go_ret
          exact ⟨rfl, rfl⟩
      · have k2 := Lib.hid (decide_eq_false h2)
        obtain rfl : q = false := by rw [← hq]; exact decide_eq_false (fun h => h2 h.2.2.1)
        clear hq h0 h1 h2
        go_enter Try.func36, Try.ntmps36
        go_wp2_with fail
        refine (fits_q _ s 0 1099511627776 k0.out).mono ?_
        rintro e w' ⟨rfl, rfl⟩
        go_wp2_with fail
        refine (fits_q _ v 1 1099511627776 k1.out).mono ?_
        rintro e w' ⟨rfl, rfl⟩
        go_wp2_with fail
        refine (fits_q _ n 1 255 k2.out).mono ?_
        rintro e w' ⟨rfl, rfl⟩
        go_wp2
        go_ret
        exact ⟨rfl, rfl⟩
    · have k1 := Lib.hid (decide_eq_false h1)
      obtain rfl : q = false := by rw [← hq]; exact decide_eq_false (fun h => h1 h.2.1)
      clear hq h0 h1
      go_enter Try.func36, Try.ntmps36
      go_wp2_with fail
      refine (fits_q _ s 0 1099511627776 k0.out).mono ?_
      rintro e w' ⟨rfl, rfl⟩
      go_wp2_with fail
      refine (fits_q _ v 1 1099511627776 k1.out).mono ?_
      rintro e w' ⟨rfl, rfl⟩
      go_wp2
      go_ret
      exact ⟨rfl, rfl⟩
  · have k0 := Lib.hid (decide_eq_false h0)
    obtain rfl : q = false := by rw [← hq]; exact decide_eq_false (fun h => h0 h.1)
    clear hq h0
    go_enter Try.func36, Try.ntmps36
    go_wp2_with fail
    refine (fits_q _ s 0 1099511627776 k0.out).mono ?_
    rintro e w' ⟨rfl, rfl⟩
    go_wp2
    go_ret
    exact ⟨rfl, rfl⟩
theorem asked_is (m op e : Int) {q : Int} (hq : askedR m op e = q) : Calls Try.prog 50 #[.int .i64 m, .int .u8 op, .int .i64 e] w fun e w' => e = .returned (.int .i64 q) ∧ w = w' := by
  by_cases c0 : op = 1
  · subst c0
    by_cases c1 : e = 0
    · subst c1
      obtain rfl : 1 = q := by rw [← hq]; simp [askedR]
      clear hq
      go_enter Try.func50, Try.ntmps50
      go_wp2
      go_ret
      exact ⟨rfl, rfl⟩
    · have d1 : (e == 0) = false := by simpa using c1
      by_cases c2 : m = 0
      · subst c2
        obtain rfl : 3 = q := by rw [← hq]; simp [askedR, c1]
        clear hq c1
        go_enter Try.func50, Try.ntmps50
        go_wp2
        go_ret
        exact ⟨rfl, rfl⟩
      · have d2 : (m == 0) = false := by simpa using c2
        obtain rfl : m = q := by rw [← hq]; simp [askedR, c1, c2]
        clear hq c1 c2
        go_enter Try.func50, Try.ntmps50
        go_wp2
        go_ret
        exact ⟨rfl, rfl⟩
  · have d0 : (op == 1) = false := by simpa using c0
    obtain rfl : m = q := by rw [← hq]; simp [askedR, c0]
    clear hq c0
    go_enter Try.func50, Try.ntmps50
    go_wp2
    go_ret
    exact ⟨rfl, rfl⟩
theorem pub_is (m op e : Int) {q : Int} (hq : pubR m op e = q) : Calls Try.prog 51 #[.int .i64 m, .int .u8 op, .int .i64 e] w fun e w' => e = .returned (.int .i64 q) ∧ w = w' := by
  by_cases c0 : op = 1
  · subst c0
    by_cases c1 : e = 61
    · subst c1
      obtain rfl : 2 = q := by rw [← hq]; simp [pubR]
      clear hq
      go_enter Try.func51, Try.ntmps51
      go_wp2
      go_ret
      exact ⟨rfl, rfl⟩
    · have d1 : (e == 61) = false := by simpa using c1
      by_cases c2 : m = 2
      · subst c2
        obtain rfl : 2 = q := by rw [← hq]; simp [pubR, c1]
        clear hq c1
        go_enter Try.func51, Try.ntmps51
        go_wp2
        go_ret
        exact ⟨rfl, rfl⟩
      · have d2 : (m == 2) = false := by simpa using c2
        obtain rfl : askedR m 1 e = q := by rw [← hq]; simp [pubR, c1, c2]
        clear hq c1 c2
        go_enter Try.func51, Try.ntmps51
        go_wp2_with fail
        refine (asked_is _ m 1 e rfl).mono ?_
        rintro e w' ⟨rfl, rfl⟩
        go_wp2
        go_ret
        exact ⟨rfl, rfl⟩
  · have d0 : (op == 1) = false := by simpa using c0
    by_cases c1 : op = 2
    · subst c1
      by_cases c2 : e = 0
      · subst c2
        obtain rfl : 2 = q := by rw [← hq]; simp [pubR, c0]
        clear hq c0
        go_enter Try.func51, Try.ntmps51
        go_wp2
        go_ret
        exact ⟨rfl, rfl⟩
      · have d2 : (e == 0) = false := by simpa using c2
        by_cases c3 : e = 61
        · subst c3
          obtain rfl : 2 = q := by rw [← hq]; simp [pubR, c0, c2]
          clear hq c0 c2
          go_enter Try.func51, Try.ntmps51
          go_wp2
          go_ret
          exact ⟨rfl, rfl⟩
        · have d3 : (e == 61) = false := by simpa using c3
          by_cases c4 : e = 60
          · subst c4
            by_cases c5 : m = 1
            · subst c5
              obtain rfl : 0 = q := by rw [← hq]; simp [pubR, c0, c2, c3]
              clear hq c0 c2 c3
              go_enter Try.func51, Try.ntmps51
              go_wp2
              go_ret
              exact ⟨rfl, rfl⟩
            · have d5 : (m == 1) = false := by simpa using c5
              obtain rfl : m = q := by rw [← hq]; simp [pubR, c0, c2, c3, c5]
              clear hq c0 c2 c3 c5
              go_enter Try.func51, Try.ntmps51
              go_wp2
              go_ret
              exact ⟨rfl, rfl⟩
          · have d4 : (e == 60) = false := by simpa using c4
            obtain rfl : m = q := by rw [← hq]; simp [pubR, c0, c2, c3, c4]
            clear hq c0 c2 c3 c4
            go_enter Try.func51, Try.ntmps51
            go_wp2
            go_ret
            exact ⟨rfl, rfl⟩
    · have d1 : (op == 2) = false := by simpa using c1
      obtain rfl : m = q := by rw [← hq]; simp [pubR, c0, c1]
      clear hq c0 c1
      go_enter Try.func51, Try.ntmps51
      go_wp2
      go_ret
      exact ⟨rfl, rfl⟩
theorem giv_is (m op e : Int) {q : Int} (hq : givR m op e = q) : Calls Try.prog 52 #[.int .i64 m, .int .u8 op, .int .i64 e] w fun e w' => e = .returned (.int .i64 q) ∧ w = w' := by
  by_cases c0 : op = 1
  · subst c0
    by_cases c1 : e = 0
    · subst c1
      obtain rfl : 1 = q := by rw [← hq]; simp [givR]
      clear hq
      go_enter Try.func52, Try.ntmps52
      go_wp2
      go_ret
      exact ⟨rfl, rfl⟩
    · have d1 : (e == 0) = false := by simpa using c1
      obtain rfl : m = q := by rw [← hq]; simp [givR, c1]
      clear hq c1
      go_enter Try.func52, Try.ntmps52
      go_wp2
      go_ret
      exact ⟨rfl, rfl⟩
  · have d0 : (op == 1) = false := by simpa using c0
    by_cases c1 : op = 3
    · subst c1
      by_cases c2 : e = 0
      · subst c2
        obtain rfl : 4 = q := by rw [← hq]; simp [givR, c0]
        clear hq c0
        go_enter Try.func52, Try.ntmps52
        go_wp2
        go_ret
        exact ⟨rfl, rfl⟩
      · have d2 : (e == 0) = false := by simpa using c2
        by_cases c3 : e = 61
        · subst c3
          obtain rfl : 4 = q := by rw [← hq]; simp [givR, c0, c2]
          clear hq c0 c2
          go_enter Try.func52, Try.ntmps52
          go_wp2
          go_ret
          exact ⟨rfl, rfl⟩
        · have d3 : (e == 61) = false := by simpa using c3
          obtain rfl : m = q := by rw [← hq]; simp [givR, c0, c2, c3]
          clear hq c0 c2 c3
          go_enter Try.func52, Try.ntmps52
          go_wp2
          go_ret
          exact ⟨rfl, rfl⟩
    · have d1 : (op == 3) = false := by simpa using c1
      obtain rfl : m = q := by rw [← hq]; simp [givR, c0, c1]
      clear hq c0 c1
      go_enter Try.func52, Try.ntmps52
      go_wp2
      go_ret
      exact ⟨rfl, rfl⟩
theorem ans_is (ph m op e : Int) {q : Int} (hq : ansR ph m op e = q) : Calls Try.prog 42 #[.int .i64 ph, .int .i64 m, .int .u8 op, .int .i64 e] w fun e w' => e = .returned (.int .i64 q) ∧ w = w' := by
  by_cases c0 : ph = 1
  · subst c0
    obtain rfl : askedR m op e = q := by rw [← hq]; simp [ansR]
    clear hq
    go_enter Try.func42, Try.ntmps42
    go_wp2_with fail
    refine (asked_is _ m op e rfl).mono ?_
    rintro e w' ⟨rfl, rfl⟩
    go_wp2
    go_ret
    exact ⟨rfl, rfl⟩
  · have d0 : (ph == 1) = false := by simpa using c0
    by_cases c1 : ph = 2
    · subst c1
      obtain rfl : askedR m op e = q := by rw [← hq]; simp [ansR, c0]
      clear hq c0
      go_enter Try.func42, Try.ntmps42
      go_wp2_with fail
      refine (asked_is _ m op e rfl).mono ?_
      rintro e w' ⟨rfl, rfl⟩
      go_wp2
      go_ret
      exact ⟨rfl, rfl⟩
    · have d1 : (ph == 2) = false := by simpa using c1
      by_cases c2 : ph = 3
      · subst c2
        obtain rfl : pubR m op e = q := by rw [← hq]; simp [ansR, c0, c1]
        clear hq c0 c1
        go_enter Try.func42, Try.ntmps42
        go_wp2_with fail
        refine (pub_is _ m op e rfl).mono ?_
        rintro e w' ⟨rfl, rfl⟩
        go_wp2
        go_ret
        exact ⟨rfl, rfl⟩
      · have d2 : (ph == 3) = false := by simpa using c2
        by_cases c3 : ph = 5
        · subst c3
          obtain rfl : givR m op e = q := by rw [← hq]; simp [ansR, c0, c1, c2]
          clear hq c0 c1 c2
          go_enter Try.func42, Try.ntmps42
          go_wp2_with fail
          refine (giv_is _ m op e rfl).mono ?_
          rintro e w' ⟨rfl, rfl⟩
          go_wp2
          go_ret
          exact ⟨rfl, rfl⟩
        · have d3 : (ph == 5) = false := by simpa using c3
          obtain rfl : m = q := by rw [← hq]; simp [ansR, c0, c1, c2, c3]
          clear hq c0 c1 c2 c3
          go_enter Try.func42, Try.ntmps42
          go_wp2
          go_ret
          exact ⟨rfl, rfl⟩
/-- what want tells: an op, and whether it is one -/
def WantIs (ph m : Int) (e : Ending) : Prop := ∃ (o : Int) (b : Bool), e = .returned (.tuple #[.int .u8 o, .bool b]) ∧ (b = true → wantR ph m = o ∧ o ≠ 0) ∧ (b = false → wantR ph m = 0)
theorem want_is (ph m : Int) : Calls Try.prog 43 #[.int .i64 ph, .int .i64 m] w fun e w' => WantIs ph m e ∧ w = w' := by
  by_cases c0 : ph = 1
  · subst c0
    by_cases c1 : m = 0
    · subst c1
      have hw : Hid (wantR 1 0 = 1) := by show _ = _; simp [wantR]
      go_enter Try.func43, Try.ntmps43
      go_wp2
      go_ret2
      exact ⟨⟨1, true, by first | rfl | (show Ending.returned (Value.tuple #[.int .u8 1, .bool (m != 0)]) = _; rw [nn.out]), fun _ => ⟨hw.out, by decide⟩, by simp⟩, rfl⟩
    · have d1 : (m == 0) = false := by simpa using c1
      have hw : Hid (wantR 1 m = 0) := by show _ = _; simp [wantR, c1]
      have nn : Hid ((m != 0) = true) := by show _ = _; simp [c1]
      clear c1
      go_enter Try.func43, Try.ntmps43
      go_wp2
      go_ret2
      exact ⟨⟨1, false, by first | rfl | (show Ending.returned (Value.tuple #[.int .u8 1, .bool (m != 0)]) = _; rw [nn.out]), by simp, fun _ => hw.out⟩, rfl⟩
  · have d0 : (ph == 1) = false := by simpa using c0
    by_cases c1 : ph = 2
    · subst c1
      by_cases c2 : m = 0
      · subst c2
        have hw : Hid (wantR 2 0 = 1) := by show _ = _; simp [wantR, c0]
        skip
        clear c0
        go_enter Try.func43, Try.ntmps43
        go_wp2
        go_ret2
        exact ⟨⟨1, true, by first | rfl | (show Ending.returned (Value.tuple #[.int .u8 1, .bool (m != 0)]) = _; rw [nn.out]), fun _ => ⟨hw.out, by decide⟩, by simp⟩, rfl⟩
      · have d2 : (m == 0) = false := by simpa using c2
        have hw : Hid (wantR 2 m = 0) := by show _ = _; simp [wantR, c0, c2]
        have nn : Hid ((m != 0) = true) := by show _ = _; simp [c2]
        clear c0 c2
        go_enter Try.func43, Try.ntmps43
        go_wp2
        go_ret2
        exact ⟨⟨1, false, by first | rfl | (show Ending.returned (Value.tuple #[.int .u8 1, .bool (m != 0)]) = _; rw [nn.out]), by simp, fun _ => hw.out⟩, rfl⟩
    · have d1 : (ph == 2) = false := by simpa using c1
      by_cases c2 : ph = 3
      · subst c2
        by_cases c3 : m = 1
        · subst c3
          have hw : Hid (wantR 3 1 = 2) := by show _ = _; simp [wantR, c0, c1]
          skip
          clear c0 c1
          go_enter Try.func43, Try.ntmps43
          go_wp2
          go_ret2
          exact ⟨⟨2, true, by first | rfl | (show Ending.returned (Value.tuple #[.int .u8 2, .bool (m != 0)]) = _; rw [nn.out]), fun _ => ⟨hw.out, by decide⟩, by simp⟩, rfl⟩
        · have d3 : (m == 1) = false := by simpa using c3
          by_cases c4 : m = 2
          · subst c4
            have hw : Hid (wantR 3 2 = 0) := by show _ = _; simp [wantR, c0, c1, c3]
            skip
            clear c0 c1 c3
            go_enter Try.func43, Try.ntmps43
            go_wp2
            go_ret2
            exact ⟨⟨1, false, by first | rfl | (show Ending.returned (Value.tuple #[.int .u8 1, .bool (m != 0)]) = _; rw [nn.out]), by simp, fun _ => hw.out⟩, rfl⟩
          · have d4 : (m == 2) = false := by simpa using c4
            have hw : Hid (wantR 3 m = 1) := by show _ = _; simp [wantR, c0, c1, c3, c4]
            have nn : Hid ((m != 2) = true) := by show _ = _; simp [c4]
            clear c0 c1 c3 c4
            go_enter Try.func43, Try.ntmps43
            go_wp2
            go_ret2
            exact ⟨⟨1, true, by first | rfl | (show Ending.returned (Value.tuple #[.int .u8 1, .bool (m != 2)]) = _; rw [nn.out]), fun _ => ⟨hw.out, by decide⟩, by simp⟩, rfl⟩
      · have d2 : (ph == 3) = false := by simpa using c2
        by_cases c3 : ph = 5
        · subst c3
          by_cases c4 : m = 4
          · subst c4
            have hw : Hid (wantR 5 4 = 0) := by show _ = _; simp [wantR, c0, c1, c2]
            skip
            clear c0 c1 c2
            go_enter Try.func43, Try.ntmps43
            go_wp2
            go_ret2
            exact ⟨⟨3, false, by first | rfl | (show Ending.returned (Value.tuple #[.int .u8 3, .bool (m != 0)]) = _; rw [nn.out]), by simp, fun _ => hw.out⟩, rfl⟩
          · have d4 : (m == 4) = false := by simpa using c4
            have hw : Hid (wantR 5 m = 3) := by show _ = _; simp [wantR, c0, c1, c2, c4]
            have nn : Hid ((m != 4) = true) := by show _ = _; simp [c4]
            clear c0 c1 c2 c4
            go_enter Try.func43, Try.ntmps43
            go_wp2
            go_ret2
            exact ⟨⟨3, true, by first | rfl | (show Ending.returned (Value.tuple #[.int .u8 3, .bool (m != 4)]) = _; rw [nn.out]), fun _ => ⟨hw.out, by decide⟩, by simp⟩, rfl⟩
        · have d3 : (ph == 5) = false := by simpa using c3
          have hw : Hid (wantR ph m = 0) := by show _ = _; simp [wantR, c0, c1, c2, c3]
          skip
          clear c0 c1 c2 c3
          go_enter Try.func43, Try.ntmps43
          go_wp2
          go_ret2
          exact ⟨⟨0, false, by first | rfl | (show Ending.returned (Value.tuple #[.int .u8 0, .bool (m != 0)]) = _; rw [nn.out]), by simp, fun _ => hw.out⟩, rfl⟩
end
end Go.Proofs.Ytciihebaameccaa
