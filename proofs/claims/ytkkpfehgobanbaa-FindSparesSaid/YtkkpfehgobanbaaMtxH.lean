/- A step upon both matrices. -/
import Derived.Test.YtkkpfehgobanbaaMtxG
import Derived.Deep.LoopGhost
namespace Go.Proofs.Ytkkpfehgobanbaa
open Go.RowKit Go.Coop
set_option maxRecDepth 100000

/-- a step was done upon both -/
def Both (bo br bo' br' gx gy n c d k kb : Nat) (F G : Fn2) (w : World) (e : Ending) (w' : World) : Prop :=
  e = .returned (.tuple #[]) ∧ MO w' bo br (some ⟨gx, 0, none⟩) n c (tabM n k F) ∧ MO w' bo' br' (some ⟨gy, 0, none⟩) n d (tabM n kb G) ∧ But [gx, gy] w w'

theorem mo_ne {w : World} {p bo br gx n c : Nat} {v : Value} {E : TypeId} {M : List (List UInt8)} (h : Box w p v E) (hm : MO w bo br (some ⟨gx, 0, none⟩) n c M) (hE : E ≠ 35) : p ≠ gx := by
  obtain ⟨cur, hcur⟩ := hm.cells
  exact ne_of_type h hcur hE
theorem But.one {g h : Nat} {a b : World} (hb : But [g] a b) : But [g, h] a b := hb.mono fun k hk => by simp at hk; simp [hk]
theorem But.two {g h : Nat} {a b : World} (hb : But [h] a b) : But [g, h] a b := hb.mono fun k hk => by simp at hk; simp [hk]
theorem MO.but1 {w w' : World} {bo br bo' br' gx gy n c m d : Nat} {M N : List (List UInt8)} (h : MO w bo br (some ⟨gy, 0, none⟩) n c M) (hx : MO w bo' br' (some ⟨gx, 0, none⟩) m d N) (hb : But [gx] w w') (hne : gx ≠ gy) : MO w' bo br (some ⟨gy, 0, none⟩) n c M :=
  h.but hb fun g hg => by
    simp at hg
    subst hg
    exact ⟨fun e => by injection e with e; injection e with e _ _; omega, hx.cells⟩

set_option maxRecDepth 100000 in
theorem both_lead {bo br bo' br' : Nat} (g gx gy n c d k kb led first iv p1 p2 p3 p4 pm pb : Nat) (F G : Fn2) (w : World) (hf : FldAt w g) (h : MO w bo br (some ⟨gx, 0, none⟩) n c (tabM n k F)) (h' : MO w bo' br' (some ⟨gy, 0, none⟩) n d (tabM n kb G)) (hxy : gx ≠ gy)
    (hl : led < n) (hfi : first < n) (hk : k ≤ 255) (hkb : kb ≤ 255) (ht : iv < 256) (hbr : br ≤ w.heap.size) (hbr' : br' ≤ w.heap.size)
    (h1 : Box w p1 (.int .i64 (first : Int)) 3) (h2 : Box w p2 (.int .i64 (led : Int)) 3) (h3 : Box w p3 (.pointer (some ⟨g, 0, none⟩)) 41) (h4 : Box w p4 (.int .u8 (iv : Int)) 5)
    (hm : Box w pm (.slice (some ⟨gx, 0, none⟩) n c) 86) (hb : Box w pb (.slice (some ⟨gy, 0, none⟩) n d) 86) :
    Calls Try.prog 96 #[.func (.func 97) #[] #[.pointer (some ⟨p1, 0, none⟩), .pointer (some ⟨p2, 0, none⟩), .pointer (some ⟨p3, 0, none⟩), .pointer (some ⟨p4, 0, none⟩)], .pointer (some ⟨pm, 0, none⟩), .pointer (some ⟨pb, 0, none⟩)] w
      (Both bo br bo' br' gx gy n c d k kb (lead1 F led first iv) (lead1 G led first iv) w) := by
  have HX := Lib.hid (And.intro h1 (And.intro h2 (And.intro h3 (And.intro h4 hb))))
  have HNX := Lib.hid (And.intro (mo_ne h1 h (by decide)) (And.intro (mo_ne h2 h (by decide)) (And.intro (mo_ne h3 h (by decide)) (And.intro (mo_ne h4 h (by decide)) (mo_ne hb h (by decide))))))
  have HF := Lib.hid hf
  have HA := Lib.hid (fld_apart hf h (by omega))
  have HM := Lib.hid h
  have HN := Lib.hid h'
  have hmc := hm.cell
  clear h1 h2 h3 h4 hm hb hf h h'
  go_enter Try.func96, Try.ntmps96
  go_wp2_with fail
  refine (lead_any g gx n c k led first iv p1 p2 p3 p4 F w HF.out HM.out hl hfi hk ht hbr HX.out.1 HX.out.2.1 HX.out.2.2.1 HX.out.2.2.2.1).mono ?_
  rintro e w1 ⟨rfl, hM1, hB1⟩
  have hbc := (HX.out.2.2.2.2.but hB1 (by simp; exact HNX.out.2.2.2.2)).cell
  have HM1 := Lib.hid hM1
  have HB1 := Lib.hid hB1
  have HN1 := Lib.hid (HN.out.but1 HM.out hB1 hxy)
  clear hM1 hB1 hmc
  go_wp2_with fail
  refine (lead_any g gy n d kb led first iv p1 p2 p3 p4 G w1 (HF.out.but HB1.out (by simp; exact HA.out)) HN1.out hl hfi hkb ht (Nat.le_trans hbr' HB1.out.size) (HX.out.1.but HB1.out (by simp; exact HNX.out.1)) (HX.out.2.1.but HB1.out (by simp; exact HNX.out.2.1)) (HX.out.2.2.1.but HB1.out (by simp; exact HNX.out.2.2.1)) (HX.out.2.2.2.1.but HB1.out (by simp; exact HNX.out.2.2.2.1))).mono ?_
  rintro e w2 ⟨rfl, hM2, hB2⟩
  clear hbc
  go_wp2
  go_end0
  exact ⟨rfl, HM1.out.but1 HN1.out hB2 hxy.symm, hM2, HB1.out.one.trans hB2.two⟩

set_option maxRecDepth 100000 in
theorem both_onto {bo br bo' br' : Nat} (g gx gy n c d k kb i led t p1 p2 p3 p4 pm pb : Nat) (F G : Fn2) (w : World) (hf : FldAt w g) (h : MO w bo br (some ⟨gx, 0, none⟩) n c (tabM n k F)) (h' : MO w bo' br' (some ⟨gy, 0, none⟩) n d (tabM n kb G)) (hxy : gx ≠ gy)
    (hi : i < n) (hl : led < n) (hne : i ≠ led) (hk : k ≤ 255) (hkb : kb ≤ 255) (ht : t < 256) (hbr : br ≤ w.heap.size) (hbr' : br' ≤ w.heap.size)
    (h1 : Box w p1 (.pointer (some ⟨g, 0, none⟩)) 41) (h2 : Box w p2 (.int .i64 (i : Int)) 3) (h3 : Box w p3 (.int .u8 (t : Int)) 5) (h4 : Box w p4 (.int .i64 (led : Int)) 3)
    (hm : Box w pm (.slice (some ⟨gx, 0, none⟩) n c) 86) (hb : Box w pb (.slice (some ⟨gy, 0, none⟩) n d) 86) :
    Calls Try.prog 96 #[.func (.func 98) #[] #[.pointer (some ⟨p1, 0, none⟩), .pointer (some ⟨p2, 0, none⟩), .pointer (some ⟨p3, 0, none⟩), .pointer (some ⟨p4, 0, none⟩)], .pointer (some ⟨pm, 0, none⟩), .pointer (some ⟨pb, 0, none⟩)] w
      (Both bo br bo' br' gx gy n c d k kb (onto F i led t) (onto G i led t) w) := by
  have HX := Lib.hid (And.intro h1 (And.intro h2 (And.intro h3 (And.intro h4 hb))))
  have HNX := Lib.hid (And.intro (mo_ne h1 h (by decide)) (And.intro (mo_ne h2 h (by decide)) (And.intro (mo_ne h3 h (by decide)) (And.intro (mo_ne h4 h (by decide)) (mo_ne hb h (by decide))))))
  have HF := Lib.hid hf
  have HA := Lib.hid (fld_apart hf h (by omega))
  have HM := Lib.hid h
  have HN := Lib.hid h'
  have hmc := hm.cell
  clear h1 h2 h3 h4 hm hb hf h h'
  go_enter Try.func96, Try.ntmps96
  go_wp2_with fail
  refine (onto_any g gx n c k i led t p1 p2 p3 p4 F w HF.out HM.out hi hl hne hk ht hbr HX.out.1 HX.out.2.1 HX.out.2.2.1 HX.out.2.2.2.1).mono ?_
  rintro e w1 ⟨rfl, hM1, hB1⟩
  have hbc := (HX.out.2.2.2.2.but hB1 (by simp; exact HNX.out.2.2.2.2)).cell
  have HM1 := Lib.hid hM1
  have HB1 := Lib.hid hB1
  have HN1 := Lib.hid (HN.out.but1 HM.out hB1 hxy)
  clear hM1 hB1 hmc
  go_wp2_with fail
  refine (onto_any g gy n d kb i led t p1 p2 p3 p4 G w1 (HF.out.but HB1.out (by simp; exact HA.out)) HN1.out hi hl hne hkb ht (Nat.le_trans hbr' HB1.out.size) (HX.out.1.but HB1.out (by simp; exact HNX.out.1)) (HX.out.2.1.but HB1.out (by simp; exact HNX.out.2.1)) (HX.out.2.2.1.but HB1.out (by simp; exact HNX.out.2.2.1)) (HX.out.2.2.2.1.but HB1.out (by simp; exact HNX.out.2.2.2.1))).mono ?_
  rintro e w2 ⟨rfl, hM2, hB2⟩
  clear hbc
  go_wp2
  go_end0
  exact ⟨rfl, HM1.out.but1 HN1.out hB2 hxy.symm, hM2, HB1.out.one.trans hB2.two⟩
end Go.Proofs.Ytkkpfehgobanbaa
