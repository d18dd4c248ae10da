/- is: what the i-th says. -/
import Derived.Test.YthhablokbnfpcaaNetK
namespace Go.Proofs.Ythhablokbnfpcaa
open Go.RowKit Go.Coop Go.Maps
set_option maxRecDepth 100000
def isB (S : NS) (i fr to : Int) (b : List UInt8) : Bool := match S.look i with
  | none => false
  | some d => decide ((d.fr : Int) = fr) && decide ((d.to : Int) = to) && decide (d.b = b)
section
variable (w : World) {B g c : Nat} {S : NS}
theorem is_k (h : Nt w B g c S) (i fr to : Int) (b : List UInt8) {q : Bool} (hq : isB S i fr to b = q) : Calls Try.prog 45 #[.pointer (some ⟨g, 0, none⟩), .int .i64 i, .int .i64 fr, .int .i64 to, .string ⟨b.toArray⟩] w fun e w' => e = .returned (.bool q) ∧ Below w.heap.size w w' := by
  cases hl : S.look i with
  | none =>
    obtain rfl : false = q := by rw [← hq]; simp [isB, hl]
    have H := Lib.hid (And.intro h hl)
    clear h hl hq
    go_enter Try.func45, Try.ntmps45
    go_wp2_with fail
    refine (nt_look w H.out.1 i H.out.2).mono ?_
    rintro e w2 ⟨X, cx, rfl, ⟨rfl, rfl⟩, hB2⟩
    have HB := Lib.hid hB2
    clear hB2
    dsimp only [nod, Option.getD, Option.isSome, List.length]
    go_wp2
    go_ret
    exact ⟨rfl, HB.out.alloc HB.out.size _⟩
  | some d =>
    have hq : (decide ((d.fr : Int) = fr) && decide ((d.to : Int) = to) && decide (d.b = b)) = q := by rw [← hq]; simp [isB, hl]
    have H := Lib.hid (And.intro h (And.intro hl hq))
    clear h hl hq
    go_enter Try.func45, Try.ntmps45
    go_wp2_with fail
    refine (nt_look w H.out.1 i H.out.2.1).mono ?_
    rintro e w2 ⟨X, cx, rfl, hT, hB2⟩
    dsimp only [Option.getD, Option.isSome, Told] at hT ⊢
    have hB3 := hB2.alloc hB2.size (.cells #[.int .i64 (d.fr : Int), .int .i64 (d.to : Int), .slice X d.b.length cx] 34)
    have hR := (hT.below ((Below.refl w2.heap.size w2).alloc (Nat.le_refl _) (.cells #[.int .i64 (d.fr : Int), .int .i64 (d.to : Int), .slice X d.b.length cx] 34))).rd
    have hy : (w2.alloc (.cells #[.int .i64 (d.fr : Int), .int .i64 (d.to : Int), .slice X d.b.length cx] 34)).heap[w2.heap.size]? = some (.cells #[.int .i64 (d.fr : Int), .int .i64 (d.to : Int), .slice X d.b.length cx] 34 (0, 0)) := heap_alloc_new w2 _
    obtain ⟨w3, hw3⟩ : ∃ w3, w2.alloc (.cells #[.int .i64 (d.fr : Int), .int .i64 (d.to : Int), .slice X d.b.length cx] 34) = w3 := ⟨_, rfl⟩
    rw [hw3] at hB3 hR hy
    obtain ⟨⟨k0, k1, k2⟩, _, _, _⟩ := three hy
    have hcv := Lib.run_convert_string_bytes (P := Try.prog) w3 9 29 5 ⟨b.toArray⟩ Try.underlying9 Try.underlying29 Try.underlying5
    have hs : (⟨b.toArray⟩ : ByteArray).size = b.length := by simp [ByteArray.size]
    rw [hs] at hcv
    obtain ⟨gc, hgc⟩ : ∃ gc, grownCap w3 b.length 0 5 = gc := ⟨_, rfl⟩
    rw [hgc] at hcv
    have hb4 := below_bytes w3 5 ⟨b.toArray⟩
    have hn4 := nw_bytes w3 b
    obtain ⟨w4, hw4⟩ : ∃ w4, Lib.bytesWorld w3 5 ⟨b.toArray⟩ = w4 := ⟨_, rfl⟩
    rw [hw4] at hcv hb4 hn4
    have HQ := Lib.hid (And.intro (hR.below hb4 (Nat.le_refl _)) (And.intro hn4.rd (hB3.trans (hb4.mono hB3.size))))
    clear hs hgc hy hT hB2 hB3 hR hb4 hn4 hw4
    go_wp2_with fail
    refine (like_is w4 HQ.out.1 HQ.out.2.1 H.out.2.2).mono ?_
    rintro e w5 ⟨rfl, hB5⟩
    have HB5 := Lib.hid hB5
    clear hB5
    go_wp2
    go_ret
    exact ⟨rfl, HQ.out.2.2.trans (HB5.out.mono HQ.out.2.2.size)⟩
end
end Go.Proofs.Ythhablokbnfpcaa
