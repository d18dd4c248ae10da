/- What any rows tell: plain. -/
import Derived.Test.YtobbjeephmfdeaaFitA
namespace Go.Proofs.Ytobbjeephmfdeaa
open Go.Coop
set_option maxRecDepth 100000

/-- all shards of a stripe -/
def encF (k : Nat) (D : Fn2) : Fn2 := mulF k (codF k) D
theorem fn_eq {F G : Fn2} {i j : Nat} (h : nf F i j = nf G i j) : F i j = G i j := UInt8.toNat_inj.1 h
theorem nf_encF (k : Nat) (D : Fn2) (i j : Nat) : nf (encF k D) i j = mm k (nf (codF k)) (nf D) i j := nf_mulF _ _ _ _ _
/-- the first shards are the data -/
theorem enc_data {k i : Nat} (D : Fn2) (j : Nat) (hi : i < k) : encF k D i j = D i j := by
  apply fn_eq
  rw [nf_encF, mm_congr (A' := unitM) (B' := nf D) (fun r _ => by rw [nf_codF, if_pos hi]) (fun _ _ => rfl), mm_unit_l k _ i j hi (nf_lt _ _ _)]
theorem enc_head {k n s : Nat} (D : Fn2) (hkn : k ≤ n) : (tabM n s (encF k D)).take k = tabM k s D := by
  rw [tabM_take hkn]
  exact tabM_congr fun i j hi _ => enc_data D j hi
theorem headD_tab {m s : Nat} {D : Fn2} (h : 0 < m) : ((tabM m s D).headD []).length = s := by
  rw [headD_at (tabM_at s D h), rowL_len]
theorem matF_tab {m s : Nat} {D : Fn2} {i j : Nat} (hi : i < m) (hj : j < s) : matF (tabM m s D) i j = D i j := by
  have e : (tabM m s D).getD i [] = rowL s (D i) := by rw [List.getD_eq_getElem?_getD, tabM_at s D hi]; rfl
  unfold matF
  rw [e, List.getD_eq_getElem?_getD, rowL_at _ hj]
  rfl
theorem encF_congr {k : Nat} {D D' : Fn2} {i j : Nat} (h : ∀ r, r < k → D r j = D' r j) : encF k D i j = encF k D' i j := by
  apply fn_eq
  rw [nf_encF, nf_encF]
  exact mm_congr (fun _ _ => rfl) fun r hr => by unfold nf; rw [h r hr]
theorem encL_tab {n k s : Nat} {D : Fn2} (hk : 0 < k) : encL n k (tabM k s D) = tabM n s (encF k D) := by
  unfold encL
  rw [headD_tab hk]
  exact tabM_congr fun i j _ hj => encF_congr fun r hr => matF_tab hr hj
/-- all shards fit -/
theorem fits_enc {n k s : Nat} {D : Fn2} (hk : 0 < k) (hkn : k ≤ n) (hs : s ≤ 65536) : fitsB n k (tabM n s (encF k D)) = true := by
  unfold fitsB
  rw [enc_head D hkn, tabM_len, tab_stripe hs, encL_tab hk]
  simp
theorem pick_take {la : List Nat} {k i : Nat} {F : Fn2} (h : i < k) : pickF (la.take k) F i = pickF la F i := by
  funext j
  unfold pickF
  rw [List.getD_eq_getElem?_getD, List.getD_eq_getElem?_getD, List.getElem?_take, if_pos h]
theorem invC_any {k n : Nat} {la : List Nat} (hn : n ≤ 256) (hkn : k ≤ n) (hp : Places n la) (hl : k ≤ la.length) : Inv2 k (nf (invC k (la.take k))) (nf (pickF (la.take k) (codF k))) := by
  have h := any_full hn hkn (hp.take k) (by rw [List.length_take]; omega) unitF
  exact invF_spec h
/-- what any rows tell: the data -/
theorem dec_back {k n : Nat} {la : List Nat} {D S : Fn2} (hn : n ≤ 256) (hkn : k ≤ n) (hp : Places n la) (hl : k ≤ la.length) {i p : Nat} (hi : i < k) (hS : ∀ r, r < k → S r p = pickF la (encF k D) r p) : mulF k (invC k (la.take k)) S i p = D i p := by
  have hI := invC_any hn hkn hp hl
  apply fn_eq
  rw [nf_mulF]
  have h1 : mm k (nf (invC k (la.take k))) (nf S) i p = mm k (nf (invC k (la.take k))) (mm k (nf (pickF (la.take k) (codF k))) (nf D)) i p :=
    mm_congr (fun _ _ => rfl) fun r hr => by
      have e : nf S r p = nf (encF k D) (la.getD r 0) p := by unfold nf; rw [hS r hr]; rfl
      rw [e, nf_encF]
      unfold mm
      refine xs_congr fun q _ => ?_
      have e2 : nf (pickF (la.take k) (codF k)) r q = nf (codF k) (la.getD r 0) q := by unfold nf; rw [pick_take hr]; rfl
      rw [e2]
  rw [h1, ← mm_assoc, mm_congr (A' := unitM) (B' := nf D) (fun q hq => hI.bc i q hi hq) (fun _ _ => rfl), mm_unit_l k _ i p hi (nf_lt _ _ _)]
/-- what any rows tell: each other shard -/
theorem reb_back {k n : Nat} {la : List Nat} {D S : Fn2} (hn : n ≤ 256) (hkn : k ≤ n) (hp : Places n la) (hl : k ≤ la.length) {i p : Nat} (hS : ∀ r, r < k → S r p = pickF la (encF k D) r p) : mulF k (mulF k (fun _ => codF k i) (invC k (la.take k))) S 0 p = encF k D i p := by
  refine UInt8.toNat_inj.1 ?_
  show nf (mulF k (mulF k (fun _ => codF k i) (invC k (la.take k))) S) 0 p = nf (encF k D) i p
  rw [nf_mulF, nf_encF]
  have h1 : mm k (nf (mulF k (fun _ => codF k i) (invC k (la.take k)))) (nf S) 0 p = mm k (mm k (nf (fun _ => codF k i)) (nf (invC k (la.take k)))) (nf S) 0 p :=
    mm_congr (fun q _ => nf_mulF _ _ _ _ _) fun _ _ => rfl
  rw [h1, mm_assoc]
  unfold mm
  refine xs_congr fun q hq => ?_
  have e : mm k (nf (invC k (la.take k))) (nf S) q p = nf D q p := by
    rw [← nf_mulF]
    show (mulF k (invC k (la.take k)) S q p).toNat = (D q p).toNat
    rw [dec_back hn hkn hp hl hq hS]
  unfold mm at e
  rw [e]
  rfl
end Go.Proofs.Ytobbjeephmfdeaa
