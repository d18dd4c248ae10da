/- get with GetAsk's closure; GetAsk. -/
import Derived.Test.YtmiapegecoaccaaWirE
namespace Go.Proofs.Ytmiapegecoaccaa
open Go.RowKit Go.Coop
set_option maxRecDepth 100000
def unsl (t : Nat → Nat) (l : List UInt8) : List UInt8 × Nat := unsealed (crc t (l.take (l.length - 4))) l
def orZ {α : Type} (z : α) : Option α → α × Int
  | some a => (a, 0)
  | none => (z, 110)
def getA (t : Nat → Nat) (l : List UInt8) : AskP × Int := if (unsl t l).2 = 0 then orZ zeroA (parseA (unsl t l).1) else (zeroA, ((unsl t l).2 : Int))
def getT (t : Nat → Nat) (l : List UInt8) : TelP × Int := if (unsl t l).2 = 0 then orZ zeroT (parseT (unsl t l).1) else (zeroT, ((unsl t l).2 : Int))
theorem unsealed_len (S : Nat) (l : List UInt8) : (unsealed S l).1.length ≤ l.length := by
  unfold unsealed
  split
  · simp
  · split
    · simp
    · simp
theorem unsealed_err (S : Nat) (l : List UInt8) : (unsealed S l).2 = 0 ∨ (unsealed S l).2 = 11 ∨ (unsealed S l).2 = 12 := by
  unfold unsealed
  split
  · simp
  · split <;> simp
/-- what GetAsk's closure has laid -/
def AskPC (gk ga : Nat) (x6 : Value) (b : List UInt8) (W : World) : Prop := ∃ v0 v1 v2 v3 v4 v5 v6 : Nat, (askR b).1 = [(v0 : Int), v1, v2, v3, v4, v5, v6] ∧ v3 ≤ 6 ∧ Box W gk (.int .i64 (v0 : Int)) 3 ∧ W.heap[ga]? = some (.cells #[.int .i64 (v1 : Int), .int .i64 (v2 : Int), .int .u8 (v3 : Int), .int .i64 (v4 : Int), .int .i64 (v5 : Int), .int .i64 (v6 : Int), x6] 25 (0, 0))
theorem AskPC.below {gk ga : Nat} {x6 : Value} {b : List UInt8} {W W' : World} (h : AskPC gk ga x6 b W) (hb : Below W.heap.size W W') : AskPC gk ga x6 b W' := by
  obtain ⟨v0, v1, v2, v3, v4, v5, v6, h1, h2, h3, h4⟩ := h
  exact ⟨v0, v1, v2, v3, v4, v5, v6, h1, h2, h3.below hb (Nat.le_refl _), (hb.block _ (lt_of_block h4)).trans h4⟩
/-- what get answers behind a closure that has laid this -/
def GetC (w : World) (gk ga : Nat) (PC : World → Prop) (u : List UInt8 × Nat) (sF : Nat × Bool) (e : Ending) (w' : World) : Prop :=
  But [gk, ga] w w' ∧ ((u.2 ≠ 0 ∧ e = .returned (.tuple #[.slice none 0 0, .int .i64 (u.2 : Int)])) ∨ (u.2 = 0 ∧ PC w' ∧ ((EndsB u.1 sF ∧ ∃ S m c, e = .returned (.tuple #[.slice S m c, .int .i64 0]) ∧ Own w' w.heap.size 5 S m c (blobR u.1 sF.1).1) ∨ (¬ EndsB u.1 sF ∧ e = .returned (.tuple #[.slice none 0 0, .int .i64 110])))))
section
variable (w : World)
theorem askC_pc {bb ba bw gk ga n c : Nat} {A : Option Addr} {b : List UInt8} {k0 : Value} {x0 x1 x2 x3 x4 x5 x6 : Value} (h : NSt w bb ba bw A n c b (0, true)) (hk : Box w gk k0 3) (hg : w.heap[ga]? = some (.cells #[x0, x1, x2, x3, x4, x5, x6] 25 (0, 0))) (hkb : gk ≠ ba) (hA : ∀ j, A.map (·.block) = some j → j ≠ gk ∧ j ≠ ga) :
    Calls Try.prog 37 #[nextV bb ba bw, .pointer (some ⟨gk, 0, none⟩), .pointer (some ⟨ga, 0, none⟩)] w fun e w' => e = .returned (.tuple #[]) ∧ AskPC gk ga x6 b w' ∧ NSt w' bb ba bw A n c b (askR b).2 ∧ But [gk, ga, ba, bw] w w' :=
  (askC_is w h hk hg hkb hA).mono fun _ _ ⟨h0, v0, v1, v2, v3, v4, v5, v6, h1, h2, h3, h4, h5, h6⟩ => ⟨h0, ⟨v0, v1, v2, v3, v4, v5, v6, h1, h2, h3, h4⟩, h5, h6⟩
set_option maxHeartbeats 2000000 in
theorem getC_ask {ad : Addr} {t : Nat → Nat} (hT : TabAt w ad t) (had : ad.block < w.heap.size) {X : Option Addr} {xn xc : Nat} {bs : List UInt8} (hr : Rd w X xn bs) (hxn : xn ≤ 1000000) (hxc : xn ≤ xc) {gk ga : Nat} {k0 : Value} {x0 x1 x2 x3 x4 x5 x6 : Value} (hk : Box w gk k0 3) (hg : w.heap[ga]? = some (.cells #[x0, x1, x2, x3, x4, x5, x6] 25 (0, 0))) :
    Calls Try.prog 36 #[.pointer (some ad), .slice X xn xc, .func (.func 37) #[] #[.pointer (some ⟨gk, 0, none⟩), .pointer (some ⟨ga, 0, none⟩)]] w (GetC w gk ga (AskPC gk ga x6 (unsl t bs).1) (unsl t bs) (askR (unsl t bs).1).2) := by
  have hlen := hr.len
  obtain ⟨w1, hw1⟩ : ∃ x, w.alloc (.cells #[.slice X xn xc] 23) = x := ⟨_, rfl⟩
  obtain ⟨hb1, hx1⟩ := box_new hw1
  obtain ⟨bb, hbb⟩ : ∃ b, w.heap.size = b := ⟨_, rfl⟩
  rw [hbb] at hx1
  have hU := unseal_any ad t X xn xc bs w1 (hT.below had hb1) (hr.below hb1 (Nat.le_refl _)) (by omega) hxc
  have hu : unsealed (crc t (bs.take (xn - 4))) bs = unsl t bs := by unfold unsl; rw [hlen]
  rw [hu] at hU
  have hul : (unsl t bs).1.length ≤ xn := by rw [← hlen]; exact unsealed_len _ _
  obtain ⟨u, hue⟩ : ∃ u, unsl t bs = u := ⟨_, rfl⟩
  rw [hue] at hU hul ⊢
  obtain ⟨body, er⟩ := u
  simp only at hU hul ⊢
  obtain ⟨sF, hsF⟩ : ∃ s, (askR body).2 = s := ⟨_, rfl⟩
  rw [hsF]
  obtain ⟨pos, ok⟩ := sF
  have hEnd : EndsB body (pos, ok) ↔ ok = true ∧ (blobR body pos).2.2 = 0 ∧ (blobR body pos).2.1 = body.length := Iff.rfl
  have hbr : getB body (getU body (pos : Int)) 65536 = blobR body pos := rfl
  obtain ⟨r, hbr2⟩ : ∃ r, blobR body pos = r := ⟨_, rfl⟩
  rw [hbr2] at hEnd hbr
  obtain ⟨S, en, eb⟩ := r
  simp only at hEnd
  have HS := Lib.hid (And.intro hsF (And.intro hEnd (And.intro hbr hbr2)))
  clear hsF hEnd hbr hbr2
  have hBox1 : Box w1 bb (.slice X xn xc) 23 := hx1
  have hgk : gk < bb := by rw [← hbb]; exact hk.lt
  have hga : ga < bb := by rw [← hbb]; exact lt_of_block hg
  have H := Lib.hid (And.intro hb1 (And.intro hBox1 (And.intro hU (And.intro hk (And.intro hg (And.intro hgk hga))))))
  have HW := Lib.hid hbb
  have d0 := hBox1.cell
  clear hb1 hx1 hU hu hue hk hg hgk hga hT hr hlen hBox1
  go_enter Try.func36, Try.ntmps36
  go_wp2_with fail
  (try rw [hw1])
  refine H.out.2.2.1.mono ?_
  rintro e w2 ⟨A2, n2, c2, rfl, hr2, hc2, hbl2, hb2⟩
  simp only at hr2 ⊢
  have k2 : Box w2 bb (.slice X xn xc) 23 := H.out.2.1.below hb2 (Nat.le_refl _)
  have d2 := k2.cell
  have f2 := k2.free
  obtain ⟨w3, hw3⟩ : ∃ x, w2.setCell ⟨bb, 0, none⟩ (.slice A2 n2 c2) = x := ⟨_, rfl⟩
  have k3 : Box w3 bb (.slice A2 n2 c2) 23 := by rw [← hw3]; exact heap_setCell_same w2 bb 0 _ 23 _ k2
  have b3 : But [bb] w2 w3 := by rw [← hw3]; exact (But.refl _ _).setCell (by simp) _
  have hw1s : w1.heap.size = bb + 1 := by rw [← hw1, size_alloc, HW.out]
  have hr3 : Rd w3 A2 n2 body := rd_but hr2 b3 (fun j hj => by have := hbl2 j hj; simp; omega)
  have B2 : Below w.heap.size w w2 := H.out.1.trans (hb2.mono H.out.1.size)
  have B3 : Below w.heap.size w w3 := B2.trans (b3.below B2.size (by simp; have := HW.out; omega))
  have hn2 : n2 ≤ 1000000 := by have := hr2.len; omega
  have HR := Lib.hid (And.intro hr3 (And.intro k3 (And.intro B3 (And.intro hbl2 (And.intro hc2 (show w2.heap.size = w3.heap.size by rw [← hw3]; simp))))))
  clear hr2 hb2 hbl2 k2 b3 hr3 B2 B3 k3 d0
  by_cases he : er = 0
  · subst he
    have e3 := HR.out.2.1.cell
    obtain ⟨w4, hw4⟩ : ∃ x, w3.alloc (.cells #[.int .i64 0] 3) = x := ⟨_, rfl⟩
    obtain ⟨hb4, hx4⟩ := box_new hw4
    obtain ⟨w5, hw5⟩ : ∃ x, w4.alloc (.cells #[.bool false] 4) = x := ⟨_, rfl⟩
    obtain ⟨hb5, hx5⟩ := box_new hw5
    obtain ⟨ba, hba⟩ : ∃ b, w3.heap.size = b := ⟨_, rfl⟩
    have h4s : w4.heap.size = ba + 1 := by rw [← hw4, size_alloc, hba]
    have hba2 : w2.heap.size = ba := HR.out.2.2.2.2.2.trans hba
    rw [hba] at hx4
    rw [h4s] at hx5
    have b35 : Below w3.heap.size w3 w5 := hb4.trans (hb5.mono hb4.size)
    have B5 : Below w.heap.size w w5 := HR.out.2.2.1.trans (b35.mono HR.out.2.2.1.size)
    have hbaw : bb < ba := by have := HR.out.2.1.lt; omega
    have kst : NSt w5 bb ba (ba + 1) A2 n2 c2 body (0, true) :=
      ⟨HR.out.2.1.below b35 (Nat.le_refl _), (hb5.block _ (by omega)).trans hx4, hx5, HR.out.1.below b35 (Nat.le_refl _), fun j hj => by have := HR.out.2.2.2.1 j hj; omega, by omega, HR.out.2.2.2.2.1, Nat.zero_le _, fun j hj => by have := HR.out.2.2.2.1 j hj; have := b35.size; omega⟩
    have hk5 : Box w5 gk k0 3 := H.out.2.2.2.1.below B5 (Nat.le_refl _)
    have hg5 : w5.heap[ga]? = _ := (B5.block _ (lt_of_block H.out.2.2.2.2.1)).trans H.out.2.2.2.2.1
    have hC := askC_pc w5 kst hk5 hg5 (by have := H.out.2.2.2.2.2.1; omega) (fun j hj => by have h1 := HR.out.2.2.2.1 j hj; have h2 := H.out.2.2.2.2.2; omega)
    rw [HS.out.1] at hC
    have HC := Lib.hid (And.intro hC (And.intro B5 hbaw))
    have HW4 := Lib.hid (And.intro hw4 hw5)
    clear hb4 hx4 hb5 hx5 b35 B5 hbaw kst hk5 hg5 hC hw4 hw5 h4s
    go_wp2_with fail
    rw [HW4.out.1, HW4.out.2]
    refine HC.out.1.mono ?_
    rintro e w6 ⟨rfl, hpc, hst, hbt⟩
    have hB := getBlob_any A2 n2 c2 body (pos : Int) 65536 w6 hst.rd hst.cap (by omega) (by omega)
    rw [HS.out.2.2.1] at hB
    have g1 := hst.kb.cell
    have g2 := hst.ka.cell
    have g3 := hst.kw.cell
    have hEnd := HS.out.2.1
    have hbl := (hst.rd).len
    simp only at g2 g3
    have hbut : But [gk, ga] w w6 := (But.of_below HC.out.2.1).trans' hbt (by
      have h1 := HR.out.2.2.1.size
      intro i hi
      simp at hi
      simp
      omega)
    have HD := Lib.hid (And.intro hpc (And.intro hst (And.intro hbut (And.intro hB (And.intro hEnd hbl)))))
    clear hpc hst hbt hbut hB hEnd HW4 hbl e3 d2 f2
    go_wp2_with fail
    refine HD.out.2.2.2.1.mono ?_
    rintro e w7 ⟨A7, m7, c7, rfl, ho7, hb7⟩
    simp only at ho7 ⊢
    have g5 := (HD.out.2.1.kb.below hb7 (Nat.le_refl _)).cell
    have g6 := (HD.out.2.1.kw.below hb7 (Nat.le_refl _)).cell
    simp only at g6
    have hbut7 : But [gk, ga] w w7 := HD.out.2.2.1.trans (But.of_below hb7)
    have HE := Lib.hid (And.intro (HD.out.1.below hb7) (And.intro hbut7 (ho7.lower HD.out.2.2.1.size)))
    clear ho7 hb7 hbut7 g1 g2 g3
    cases ok with
    | false =>
      simp only [Bool.not_false] at g6
      go_wp2
      go_ret2
      unfold GetC
      exact ⟨HE.out.2.1, .inr ⟨rfl, HE.out.1, .inr ⟨fun h => Bool.noConfusion (HD.out.2.2.2.2.1.1 h).1, rfl⟩⟩⟩
    | true =>
      simp only [Bool.not_true] at g6
      by_cases hb0 : eb = 0
      · subst hb0
        by_cases hen : en = n2
        · subst hen
          have hq : ((en : Int) != (en : Int)) = false := by simp
          go_wp2
          go_ret2
          unfold GetC
          exact ⟨HE.out.2.1, .inr ⟨rfl, HE.out.1, .inl ⟨HD.out.2.2.2.2.1.2 ⟨by trivial, by trivial, HD.out.2.2.2.2.2.symm⟩, A7, m7, c7, rfl, by simp only [HS.out.2.2.2]; exact HE.out.2.2⟩⟩⟩
        · have hq : ((en : Int) != (n2 : Int)) = true := by simp; omega
          have HN := Lib.hid hen
          clear hen
          go_wp2
          go_ret2
          unfold GetC
          exact ⟨HE.out.2.1, .inr ⟨rfl, HE.out.1, .inr ⟨fun h => HN.out ((HD.out.2.2.2.2.1.1 h).2.2.trans HD.out.2.2.2.2.2), rfl⟩⟩⟩
      · have hq : ((eb : Int) != 0) = true := by simp; omega
        have HN := Lib.hid hb0
        clear hb0
        go_wp2
        go_ret2
        unfold GetC
        exact ⟨HE.out.2.1, .inr ⟨rfl, HE.out.1, .inr ⟨fun h => HN.out (HD.out.2.2.2.2.1.1 h).2.1, rfl⟩⟩⟩
  · have hq : ((er : Int) != 0) = true := by simp; omega
    have HN := Lib.hid he
    have hbut : But [gk, ga] w w3 := But.of_below HR.out.2.2.1
    have HB := Lib.hid hbut
    clear he hbut
    go_wp2
    go_ret2
    unfold GetC
    exact ⟨HB.out, .inl ⟨HN.out, rfl⟩⟩
end
end Go.Proofs.Ytmiapegecoaccaa
