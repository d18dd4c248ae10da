/- deed: one upon a net; what it told. -/
import Derived.Test.YthhablokbnfpcaaOthA
import Derived.Lib.SlBytesConst
namespace Go.Proofs.Ythhablokbnfpcaa
open Go.RowKit Go.Coop Go.Maps
set_option maxRecDepth 100000
def deedS (S : NS) (y fr to at_ : Int) (l : List UInt8) : NS :=
  if y < 4 then S.send fr to l else if y = 4 then S.copy at_ else if y = 5 then S.drop at_ else if y = 6 then S.drop at_ else if y = 7 then S.forget to else S
def deedR (S : NS) (y fr to at_ : Int) (l : List UInt8) : List UInt8 :=
  if y < 4 then [u8 (S.sendE fr to l)] else if y = 4 then [u8 (S.copyE at_)] else if y = 5 then (let d := (S.look at_).getD nod; tagL d.fr d.to d.b) else if y = 6 then [] else if y = 7 then [u8 (S.wait to)] else []
theorem layE_in (S : NS) (d : Dt) : 0 ≤ S.layE d ∧ S.layE d < 256 := by unfold NS.layE; split <;> omega
theorem sendE_in (S : NS) (fr to : Int) (l : List UInt8) : 0 ≤ S.sendE fr to l ∧ S.sendE fr to l < 256 := by
  unfold NS.sendE
  split
  · split
    · exact layE_in _ _
    · omega
  · omega
theorem copyE_in (S : NS) (i : Int) : 0 ≤ S.copyE i ∧ S.copyE i < 256 := by
  unfold NS.copyE
  split
  · omega
  · exact layE_in _ _
/-- 'string([]byte{x})' -/
theorem one_str (w : World) {q : Int} (h0 : 0 ≤ q) (h1 : q < 256) : (convert 29 9 (.slice (some ⟨w.heap.size, 0, none⟩) 1 1)).run Try.prog (w.alloc (.cells #[.int .u8 q] 5)) = .ok (.string ⟨#[u8 q]⟩) (w.alloc (.cells #[.int .u8 q] 5)) :=
  conv_str (P := Try.prog) Try.underlying29 Try.underlying5 Try.underlying9 (Rd.one w q h0 h1 5 (0, 0)) 1
def DeedP (w : World) (B ga ca : Nat) (S' : NS) (gb cb : Nat) (Sb : NS) (r : List UInt8) (e : Ending) (w' : World) : Prop := e = .returned (.string ⟨r.toArray⟩) ∧ Two w' B ga ca S' gb cb Sb ∧ Below B w w' ∧ Kp ca w w'
theorem Two.size {w : World} {B ga ca gb cb : Nat} {Sa Sb : NS} (h : Two w B ga ca Sa gb cb Sb) : B ≤ w.heap.size := h.1
theorem deed_is (w : World) {B ga ca gb cb : Nat} {Sa Sb : NS} (h : Two w B ga ca Sa gb cb Sb) (h5 : Sa.ends ≤ 255) (hw : ∀ k, Sa.wait k < 256) (y fr to at_ : Int) (hy : 0 ≤ y ∧ y ≤ 255) (hto : 0 ≤ to ∧ to < 5) {X : Option Addr} {n : Nat} {l : List UInt8} (hr : Rd w X n l) (cx : Nat) :
    Calls Try.prog 34 #[.pointer (some ⟨ga, 0, none⟩), .int .u8 y, .int .i64 fr, .int .i64 to, .int .i64 at_, .slice X n cx] w (DeedP w B ga ca (deedS Sa y fr to at_ l) gb cb Sb (deedR Sa y fr to at_ l)) := by
  by_cases h0 : y = 0
  · subst h0
    show Calls _ _ _ _ (DeedP w B ga ca (Sa.send fr to l) gb cb Sb [u8 (Sa.sendE fr to l)])
    obtain ⟨qq, hqq⟩ : ∃ v, Sa.sendE fr to l = v := ⟨_, rfl⟩
    have hq1 : 0 ≤ qq := hqq ▸ (sendE_in Sa fr to l).1
    have hq2 : qq < 256 := hqq ▸ (sendE_in Sa fr to l).2
    have H := Lib.hid (And.intro h hr)
    clear h hr h5 hw hto hy
    have HQ0 := Lib.hid hqq
    clear hqq
    go_enter Try.func34, Try.ntmps34
    go_wp2_with fail
    refine (tw_send _ H.out.1 fr to H.out.2 cx HQ0.out).mono ?_
    rintro e w2 ⟨rfl, ht, hb, hk⟩
    have H2 := Lib.hid (And.intro ht (And.intro hb hk))
    clear ht hb hk
    have hqq := HQ0.out
    have hc := one_str w2 hq1 hq2
    have HQ := Lib.hid hqq
    clear hqq
    go_wp2
    go_ret
    have hB : Below w2.heap.size w2 (w2.alloc (.cells #[.int .u8 qq] 5)) := (Below.refl _ _).alloc (Nat.le_refl _) _
    refine ⟨?_, H2.out.1.below hB, H2.out.2.1.trans (hB.mono H2.out.1.size), H2.out.2.2.trans (Kp.of_below hB)⟩
    rw [HQ.out]
    rfl
  by_cases h1 : y = 1
  · subst h1
    show Calls _ _ _ _ (DeedP w B ga ca (Sa.send fr to l) gb cb Sb [u8 (Sa.sendE fr to l)])
    obtain ⟨qq, hqq⟩ : ∃ v, Sa.sendE fr to l = v := ⟨_, rfl⟩
    have hq1 : 0 ≤ qq := hqq ▸ (sendE_in Sa fr to l).1
    have hq2 : qq < 256 := hqq ▸ (sendE_in Sa fr to l).2
    have H := Lib.hid (And.intro h hr)
    clear h hr h5 hw hto hy
    have HQ0 := Lib.hid hqq
    clear hqq
    go_enter Try.func34, Try.ntmps34
    go_wp2_with fail
    refine (tw_send _ H.out.1 fr to H.out.2 cx HQ0.out).mono ?_
    rintro e w2 ⟨rfl, ht, hb, hk⟩
    have H2 := Lib.hid (And.intro ht (And.intro hb hk))
    clear ht hb hk
    have hqq := HQ0.out
    have hc := one_str w2 hq1 hq2
    have HQ := Lib.hid hqq
    clear hqq
    go_wp2
    go_ret
    have hB : Below w2.heap.size w2 (w2.alloc (.cells #[.int .u8 qq] 5)) := (Below.refl _ _).alloc (Nat.le_refl _) _
    refine ⟨?_, H2.out.1.below hB, H2.out.2.1.trans (hB.mono H2.out.1.size), H2.out.2.2.trans (Kp.of_below hB)⟩
    rw [HQ.out]
    rfl
  by_cases h2 : y = 2
  · subst h2
    show Calls _ _ _ _ (DeedP w B ga ca (Sa.send fr to l) gb cb Sb [u8 (Sa.sendE fr to l)])
    obtain ⟨qq, hqq⟩ : ∃ v, Sa.sendE fr to l = v := ⟨_, rfl⟩
    have hq1 : 0 ≤ qq := hqq ▸ (sendE_in Sa fr to l).1
    have hq2 : qq < 256 := hqq ▸ (sendE_in Sa fr to l).2
    have H := Lib.hid (And.intro h hr)
    clear h hr h5 hw hto hy
    have HQ0 := Lib.hid hqq
    clear hqq
    go_enter Try.func34, Try.ntmps34
    go_wp2_with fail
    refine (tw_send _ H.out.1 fr to H.out.2 cx HQ0.out).mono ?_
    rintro e w2 ⟨rfl, ht, hb, hk⟩
    have H2 := Lib.hid (And.intro ht (And.intro hb hk))
    clear ht hb hk
    have hqq := HQ0.out
    have hc := one_str w2 hq1 hq2
    have HQ := Lib.hid hqq
    clear hqq
    go_wp2
    go_ret
    have hB : Below w2.heap.size w2 (w2.alloc (.cells #[.int .u8 qq] 5)) := (Below.refl _ _).alloc (Nat.le_refl _) _
    refine ⟨?_, H2.out.1.below hB, H2.out.2.1.trans (hB.mono H2.out.1.size), H2.out.2.2.trans (Kp.of_below hB)⟩
    rw [HQ.out]
    rfl
  by_cases h3 : y = 3
  · subst h3
    show Calls _ _ _ _ (DeedP w B ga ca (Sa.send fr to l) gb cb Sb [u8 (Sa.sendE fr to l)])
    obtain ⟨qq, hqq⟩ : ∃ v, Sa.sendE fr to l = v := ⟨_, rfl⟩
    have hq1 : 0 ≤ qq := hqq ▸ (sendE_in Sa fr to l).1
    have hq2 : qq < 256 := hqq ▸ (sendE_in Sa fr to l).2
    have H := Lib.hid (And.intro h hr)
    clear h hr h5 hw hto hy
    have HQ0 := Lib.hid hqq
    clear hqq
    go_enter Try.func34, Try.ntmps34
    go_wp2_with fail
    refine (tw_send _ H.out.1 fr to H.out.2 cx HQ0.out).mono ?_
    rintro e w2 ⟨rfl, ht, hb, hk⟩
    have H2 := Lib.hid (And.intro ht (And.intro hb hk))
    clear ht hb hk
    have hqq := HQ0.out
    have hc := one_str w2 hq1 hq2
    have HQ := Lib.hid hqq
    clear hqq
    go_wp2
    go_ret
    have hB : Below w2.heap.size w2 (w2.alloc (.cells #[.int .u8 qq] 5)) := (Below.refl _ _).alloc (Nat.le_refl _) _
    refine ⟨?_, H2.out.1.below hB, H2.out.2.1.trans (hB.mono H2.out.1.size), H2.out.2.2.trans (Kp.of_below hB)⟩
    rw [HQ.out]
    rfl
  by_cases h4 : y = 4
  · subst h4
    show Calls _ _ _ _ (DeedP w B ga ca (Sa.copy at_) gb cb Sb [u8 (Sa.copyE at_)])
    obtain ⟨qq, hqq⟩ : ∃ v, Sa.copyE at_ = v := ⟨_, rfl⟩
    have hq1 : 0 ≤ qq := hqq ▸ (copyE_in Sa at_).1
    have hq2 : qq < 256 := hqq ▸ (copyE_in Sa at_).2
    have H := Lib.hid (And.intro h hr)
    clear h hr h5 hw hto hy
    have HQ0 := Lib.hid hqq
    clear hqq
    go_enter Try.func34, Try.ntmps34
    go_wp2_with fail
    refine (tw_copy _ H.out.1 at_ HQ0.out).mono ?_
    rintro e w2 ⟨rfl, ht, hb, hk⟩
    have H2 := Lib.hid (And.intro ht (And.intro hb hk))
    clear ht hb hk
    have hqq := HQ0.out
    have hc := one_str w2 hq1 hq2
    have HQ := Lib.hid hqq
    clear hqq
    go_wp2
    go_ret
    have hB : Below w2.heap.size w2 (w2.alloc (.cells #[.int .u8 qq] 5)) := (Below.refl _ _).alloc (Nat.le_refl _) _
    refine ⟨?_, H2.out.1.below hB, H2.out.2.1.trans (hB.mono H2.out.1.size), H2.out.2.2.trans (Kp.of_below hB)⟩
    rw [HQ.out]
    rfl
  by_cases h5' : y = 5
  · subst h5'
    show Calls _ _ _ _ (DeedP w B ga ca (Sa.drop at_) gb cb Sb (tagL ((Sa.look at_).getD nod).fr ((Sa.look at_).getD nod).to ((Sa.look at_).getD nod).b))
    have hin : ((Sa.look at_).getD nod).fr < 256 ∧ ((Sa.look at_).getD nod).to < 256 ∧ ((Sa.look at_).getD nod).b.length ≤ 131072 := by
      have hok := h.left.ok
      cases hl : Sa.look at_ with
      | none => exact ⟨by decide, by decide, by decide⟩
      | some d =>
        have := hok.its d (NS.look_mem hl)
        exact ⟨by show d.fr < 256; omega, by show d.to < 256; omega, this.2.2⟩
    obtain ⟨o, ho⟩ : ∃ v, Sa.look at_ = v := ⟨_, rfl⟩
    rw [ho] at hin ⊢
    have H := Lib.hid (And.intro h (And.intro ho hin))
    clear h hr h5 hw hto hy ho hin
    go_enter Try.func34, Try.ntmps34
    go_wp2_with fail
    refine (tw_take _ H.out.1 at_ H.out.2.1).mono ?_
    rintro e w2 ⟨X2, cx2, rfl, hT, ht, hb, hk⟩
    obtain ⟨d, hd⟩ : ∃ d, o.getD nod = d := ⟨_, rfl⟩
    have hrd := hT.rd
    rw [hd] at hrd ⊢
    obtain ⟨f, hf⟩ : ∃ f, d.fr = f := ⟨_, rfl⟩
    obtain ⟨t, htt⟩ : ∃ f, d.to = f := ⟨_, rfl⟩
    rw [hf, htt]
    have H2 := Lib.hid (And.intro ht (And.intro hb hk))
    obtain ⟨w3, hw3⟩ : ∃ v, w2.alloc (.cells #[.int .i64 (f : Int), .int .i64 (t : Int), .slice X2 d.b.length cx2] 34) = v := ⟨_, rfl⟩
    have hB3 : Below w2.heap.size w2 w3 := hw3 ▸ (Below.refl _ _).alloc (Nat.le_refl _) _
    have hr3 : w3.heap[w2.heap.size]? = some (.cells #[.int .i64 (f : Int), .int .i64 (t : Int), .slice X2 d.b.length cx2] 34 (0, 0)) := hw3 ▸ heap_alloc_new _ _
    have H3 := Lib.hid (And.intro (ht.below hB3) (And.intro (hb.trans (hB3.mono ht.size)) (And.intro (hk.trans (Kp.of_below hB3)) (And.intro hr3 (hrd.below hB3 (Nat.le_refl _))))))
    have HD := Lib.hid (And.intro hd (And.intro hf htt))
    have HW := Lib.hid hw3
    clear hT ht hb hk hrd hB3 hr3 hw3 hd hf htt H2
    go_wp2_with fail
    rw [HW.out]
    refine (tag_is w3 (f := f) (t := t) (by have := H.out.2.2.1; rw [HD.out.1, HD.out.2.1] at this; exact this) (by have := H.out.2.2.2.1; rw [HD.out.1, HD.out.2.2] at this; exact this) H3.out.2.2.2.2 (by have := H.out.2.2.2.2; rw [HD.out.1] at this; omega)).mono ?_
    rintro e w4 ⟨rfl, hb⟩
    have H4 := Lib.hid hb
    clear hb
    go_wp2
    go_ret
    refine ⟨?_, H3.out.1.below H4.out, H3.out.2.1.trans (H4.out.mono H3.out.1.size), H3.out.2.2.1.trans (Kp.of_below H4.out)⟩
    rw [HD.out.1, HD.out.2.1, HD.out.2.2]
    rfl
  by_cases h6 : y = 6
  · subst h6
    show Calls _ _ _ _ (DeedP w B ga ca (Sa.drop at_) gb cb Sb [])
    have H := Lib.hid h
    clear h hr h5 hw hto hy
    go_enter Try.func34, Try.ntmps34
    go_wp2_with fail
    refine (tw_drop _ H.out at_).mono ?_
    rintro e w2 ⟨rfl, ht, hb, hk⟩
    have H2 := Lib.hid (And.intro ht (And.intro hb hk))
    clear ht hb hk
    go_wp2
    go_ret
    exact ⟨rfl, H2.out⟩
  by_cases h7 : y = 7
  · subst h7
    show Calls _ _ _ _ (DeedP w B ga ca (Sa.forget to) gb cb Sb [u8 (Sa.wait to : Int)])
    obtain ⟨qq, hqq⟩ : ∃ v : Int, (Sa.wait to : Int) = v := ⟨_, rfl⟩
    have hq1 : 0 ≤ qq := by omega
    have hq2 : qq < 256 := by have := hw to; omega
    have H := Lib.hid (And.intro h hto)
    clear h hr h5 hw hto hy
    have HQ0 := Lib.hid hqq
    clear hqq
    go_enter Try.func34, Try.ntmps34
    go_wp2_with fail
    refine (tw_forget _ H.out.1 (by have := H.out.2; omega) (by have := H.out.2; omega) HQ0.out).mono ?_
    rintro e w2 ⟨rfl, ht, hb, hk⟩
    have H2 := Lib.hid (And.intro ht (And.intro hb hk))
    clear ht hb hk
    have hqq := HQ0.out
    have hc := one_str w2 hq1 hq2
    have HQ := Lib.hid hqq
    clear hqq
    go_wp2
    go_ret
    have hB : Below w2.heap.size w2 (w2.alloc (.cells #[.int .u8 qq] 5)) := (Below.refl _ _).alloc (Nat.le_refl _) _
    refine ⟨?_, H2.out.1.below hB, H2.out.2.1.trans (hB.mono H2.out.1.size), H2.out.2.2.trans (Kp.of_below hB)⟩
    rw [HQ.out]
    rfl
  have e1 : deedS Sa y fr to at_ l = Sa := by unfold deedS; rw [if_neg (by omega), if_neg h4, if_neg h5', if_neg h6, if_neg h7]
  have e2 : deedR Sa y fr to at_ l = [] := by unfold deedR; rw [if_neg (by omega), if_neg h4, if_neg h5', if_neg h6, if_neg h7]
  rw [e1, e2]
  have H := Lib.hid h
  clear h hr h5 hw hto hy e1 e2
  go_enter Try.func34, Try.ntmps34
  go_wp2
  go_ret
  exact ⟨rfl, H.out, Below.refl _ _, Kp.of_below (Below.refl _ _)⟩
end Go.Proofs.Ythhablokbnfpcaa
