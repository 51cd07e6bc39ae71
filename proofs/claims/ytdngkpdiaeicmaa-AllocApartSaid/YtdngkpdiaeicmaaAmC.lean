/- Layer 8: the generator over the blocks of extents, as a range over it takes it. -/
import Derived.RangeFuncNested
import Derived.RangeFuncBound
import Derived.RangeFuncCalls
import Derived.RangeFuncLeaves
import Derived.RangeFuncFrom
import Derived.Shelf.Abstract
import Derived.OwnWalkIn
import Derived.TacticsInMore
import Derived.LoopNIn
import Derived.LoopIn
import Derived.Test.YtdngkpdiaeicmaaAmB
namespace Go.Proofs.Ytdngkpdiaeicmaa
open Go.RowKit Go.Shelf
attribute [local go_sem] Oper.semAt_some

/-- The numbers that a range is handed. -/
abbrev NumP (P : Int → Prop) := { x : Int // P x }
def valsP {P : Int → Prop} (p : List (NumP P)) : List Int := p.map (·.1)
theorem valsP_snoc {P : Int → Prop} (p : List (NumP P)) (x : NumP P) : valsP (p ++ [x]) = valsP p ++ [x.1] := by simp [valsP]
/-- An extent's blocks, from one on; those of extents. -/
def blkX (x : Int × Int) (i : Nat) : List Int := (List.range' i (x.2.toNat - i)).map fun (j : Nat) => wrap64 (x.1 + (j : Int))
def blkL (l : List (Int × Int)) : List Int := l.flatMap (blkX · 0)
theorem blkX_end {x : Int × Int} {i : Nat} (h : x.2.toNat ≤ i) : blkX x i = [] := by unfold blkX; rw [Nat.sub_eq_zero_of_le h]; rfl
theorem blkX_next {x : Int × Int} {i : Nat} (h : i < x.2.toNat) : blkX x i = wrap64 (x.1 + (i : Int)) :: blkX x (i + 1) := by
  unfold blkX
  rw [show x.2.toNat - i = (x.2.toNat - (i + 1)) + 1 by omega, List.range'_succ]
  rfl
theorem blkL_next {l : List (Int × Int)} {k : Nat} (h : k < l.length) : blkL (l.drop k) = blkX (l.getD k (0, 0)) 0 ++ blkL (l.drop (k + 1)) := by
  rw [List.drop_eq_getElem_cons h, List.getD_eq_getElem?_getD, List.getElem?_eq_getElem h]
  rfl
theorem blkL_end {l : List (Int × Int)} {k : Nat} (h : l.length ≤ k) : blkL (l.drop k) = [] := by rw [List.drop_eq_nil_of_le h]; rfl
/-- What a round leaves: all, but cells of some blocks. -/
structure KeepsBut (s : Nat → Prop) (W W' : World) : Prop where
  size : W.heap.size ≤ W'.heap.size
  cell : ∀ p : Addr, ¬ s p.block → ∀ v, W.cell? p = some v → W'.cell? p = some v
theorem KeepsBut.refl (s : Nat → Prop) (W : World) : KeepsBut s W W := ⟨Nat.le_refl _, fun _ _ _ h => h⟩
theorem KeepsBut.trans {s : Nat → Prop} {W W' W'' : World} (h : KeepsBut s W W') (h' : KeepsBut s W' W'') : KeepsBut s W W'' := ⟨Nat.le_trans h.size h'.size, fun p hp v hv => h'.cell p hp v (h.cell p hp v hv)⟩
theorem KeepsBut.put (s : Nat → Prop) (W : World) (l : Nat) (o o' : Obj) (h : W.heap[l]? = some o) (hc : o.isCells = false) : KeepsBut s W (W.putObj l o') :=
  ⟨(grownBy_putObj' W l o').size, fun _ _ _ hv => cell_kept hv (grownBy_putObj' _ l o') (fun r e => by cases e; exact ⟨_, h, hc⟩)⟩
theorem KeepsBut.chg {s : Nat → Prop} {W W' : World} (h : Chg s W W') : KeepsBut s W W' := ⟨h.size, fun p hp _ hv => (World.cell?_of_block (h.block p.block (World.block_lt_of_cell? W p hv) hp)).trans hv⟩
theorem KeepsBut.ext {s : Nat → Prop} {W W' : World} (h : KeepsBut s W W') {v : Value} {l : List (Int × Int)} (hx : ExtAt W v l) (hs : ∀ ad n cap, v = .slice (some ad) n cap → 0 < n → ¬ s ad.block) : ExtAt W' v l := by
  rcases hx with hx | ⟨ad, cap, hv, hm, hcell⟩
  · exact .inl hx
  · refine .inr ⟨ad, cap, hv, hm, fun j hj => ?_⟩
    obtain ⟨h1, h2⟩ := hcell j hj
    have hn : ¬ s (ad.add (j * 2)).block := by rw [addr_block]; exact hs ad _ cap hv (by omega)
    exact ⟨h.cell _ hn _ h1, h.cell ⟨(ad.add (j * 2)).block, (ad.add (j * 2)).off + 1, none⟩ hn _ h2⟩
set_option maxRecDepth 100000 in
set_option maxHeartbeats 4000000 in
theorem blocks_in {P : Int → Prop} (F : Fence) (n : Nat) (h23 : F.fn 47) (hw : F = Fence.wide) (hro : F.round = none) (hn : 1 ≤ n) (l Bs N cap : Nat) (a : Option Addr) (L : List (Int × Int)) (s : Nat → Prop) (hN : N = L.length) (hNm : N ≤ maxLen)
    (hP : ∀ y ∈ blkL L, P y) (hok : extOk L)
    (J Jx : List (NumP P) → World → Prop)
    (hA : ∀ pre W1 W2, J pre W1 → W1.grownBy W2 none → J pre W2)
    (hY : ∀ pre x W, J pre W → pre.length < (blkL L).length → YieldAt F (n - 1) Try.prog l #[.int .i64 x.1] W fun e W' =>
      (e = .returned (.bool true) ∧ J (pre ++ [x]) W' ∧ KeepsBut s W W') ∨ (e = .returned (.bool false) ∧ Jx (pre ++ [x]) W'))
    (W : World) (hs : ∀ k, s k → k < W.heap.size) (hcs : W.cell? ⟨Bs, 0, none⟩ = some (.slice a N cap)) (hL : ExtAt W (.slice a N cap) L) (hns : ∀ ad, a = some ad → 0 < N → ¬ s ad.block) (h0 : J [] W) :
    CallsIn F n Try.prog 47 #[.func (.yield l) #[] #[], .pointer (some ⟨Bs, 0, none⟩)] W fun e W' => (∃ v, e = .returned v) ∧
      ((∃ ys, valsP ys = blkL L ∧ J ys W') ∨ (∃ pre, valsP pre <+: blkL L ∧ Jx pre W')) := by
  have HX := Lib.hid hL
  have HP := Lib.hid hP
  have HOK := Lib.hid hok
  have HS := Lib.hid hs
  have HNS := Lib.hid (show ∀ ad n cap', (Value.slice a N cap) = .slice (some ad) n cap' → 0 < n → ¬ s ad.block from fun ad n cap' hv hn => by
    simp only [Value.slice.injEq] at hv
    exact hns ad hv.1 (by omega))
  unfold maxLen at hNm
  have HN := Lib.hid hN
  clear hL hP hok hs hns hN
  refine callsIn_of_wp Try.func47 rfl h23 ?_ hro
  simp only [Try.ntmps47, List.size_toArray, List.length_cons, List.length_nil, Nat.reduceAdd, Nat.reduceSub, Array.replicate_succ, Array.replicate_zero, List.push_toArray, List.append_toArray, List.nil_append, List.cons_append]
  subst hw
  gi_wp2
  gi_loopw [8] (fun i wr => ∃ (pre : List (NumP P)) (k : Nat), k ≤ N ∧ i = .int .i64 (k : Int) ∧ Hid (blkL L = valsP pre ++ blkL (L.drop k)) ∧ KeepsBut s W wr ∧ J pre wr) (fun i _ => N - (intOf i).toNat)
  case atStart => exact ⟨[], 0, Nat.zero_le _, rfl, Lib.hid rfl, KeepsBut.refl _ _, h0⟩
  case round =>
    obtain ⟨pre, k, hk, rfl, hpl, hkp, hJ⟩ := hrel
    by_cases hlt : k < N
    · have hlt2 : k < L.length := by have := HN.out; omega
      have hpl2 : Hid (blkL L = valsP pre ++ (blkX (L.getD k (0, 0)) 0 ++ blkL (L.drop (k + 1)))) := Lib.hid (by rw [← blkL_next hlt2]; exact hpl.out)
      have HX2 := Lib.hid (hkp.ext HX.out HNS.out)
      obtain ⟨ad, rfl, hadb, e1, e2⟩ := HX2.out.at (k := k) hlt2
      obtain ⟨⟨b1, b2⟩, ⟨b3, b4⟩⟩ := HOK.out k hlt2
      have i1 : (k : Int) < (N : Int) := by omega
      have i0 : (0 : Int) ≤ (k : Int) := by omega
      obtain ⟨y, hy⟩ : ∃ y, y = L.getD k (0, 0) := ⟨_, rfl⟩
      rw [← hy] at e1 e2 b1 b2 b3 b4 hpl2
      obtain ⟨f, c⟩ := y
      replace e1 : wr.cell? (ad.add (k * 2)) = some (.int .i64 f) := e1
      replace e2 : wr.cell? ⟨(ad.add (k * 2)).block, (ad.add (k * 2)).off + 1, none⟩ = some (.int .i64 c) := e2
      replace b1 : -9223372036854775808 ≤ f := b1
      replace b2 : f ≤ 9223372036854775807 := b2
      replace b3 : -9223372036854775808 ≤ c := b3
      replace b4 : c ≤ 9223372036854775807 := b4
      clear hy hlt2 hpl HX2
      gi_wp2
      have r1 := rowC_new wr #[.int .i64 f, .int .i64 c] 41
      have hJ2 := hA pre wr _ hJ (World.grownBy_alloc wr (.cells #[.int .i64 f, .int .i64 c] 41) none)
      have hkp2 : KeepsBut s W (wr.alloc (.cells #[.int .i64 f, .int .i64 c] 41)) := hkp.trans (KeepsBut.chg (Chg.of_below ((Below.refl _ _).alloc (Nat.le_refl _) _)))
      have HsB := Lib.hid (show ¬ s wr.heap.size from fun h => by have := HS.out _ h; have := hkp.size; omega)
      clear hJ hkp e1 e2 hadb
      generalize wr.heap.size = B at *
      generalize wr.alloc (.cells #[.int .i64 f, .int .i64 c] 41) = w1 at *
      have x0 := rowC_cell r1 0
      clear r1
      gi_loopw [14] (fun i w2 => ∃ (pre : List (NumP P)) (j : Nat), (j : Int) ≤ max c 0 ∧ i = .int .i64 (j : Int) ∧ Hid (blkL L = valsP pre ++ (blkX (f, c) j ++ blkL (L.drop (k + 1)))) ∧ KeepsBut s w1 w2 ∧ J pre w2) (fun i _ => c.toNat - (intOf i).toNat)
      case atStart => exact ⟨pre, 0, by omega, rfl, hpl2, KeepsBut.refl _ _, hJ2⟩
      case round =>
        clear hpl2 hJ2
        obtain ⟨pre, j, hj, rfl, hpl, hkp3, hJ⟩ := hrel
        by_cases hjc : (j : Int) < c
        · have hn2 := hpl.out
          rw [blkX_next (x := (f, c)) (i := j) (by show j < c.toNat; omega)] at hn2
          have hPx : P (wrap64 (f + (j : Int))) := HP.out _ (by rw [hn2]; simp)
          obtain ⟨x, hx⟩ : ∃ x : NumP P, x.1 = wrap64 (f + (j : Int)) := ⟨⟨_, hPx⟩, rfl⟩
          have hpl3 : Hid (blkL L = valsP (pre ++ [x]) ++ (blkX (f, c) (j + 1) ++ blkL (L.drop (k + 1)))) := Lib.hid (by rw [valsP_snoc, List.append_assoc, hx]; exact hn2)
          have hlen : pre.length < (blkL L).length := by
            rw [hn2]; simp [valsP]
          have Hpre := Lib.hid (show valsP (pre ++ [x]) <+: blkL L from ⟨_, hpl3.out.symm⟩)
          have hY' := hY pre x wr hJ hlen
          rw [hx] at hY'
          have x1 := hkp3.cell ⟨B, 0, none⟩ HsB.out _ x0
          clear hx hPx hn2 hpl hlen hJ
          obtain ⟨fn, tmps, assign, body, hy, hR⟩ := hY'
          gi_wp2
          refine hR.mono ?_
          rintro e W3 (⟨rfl, hJ3, hk3⟩ | ⟨rfl, hJx3⟩)
          · have hkp4 := hkp3.trans hk3
            clear hR hy x1 hkp3 hk3
            gi_wp2
            go_roundw
            case rel => exact ⟨pre ++ [x], j + 1, by omega, by go_num, hpl3, hkp4, hJ3⟩
            case measure => simp [intOf]; omega
          · clear hR hy x1
            gi_wp2
            refine bodyPost_ret (results_none rfl _ _ _) rfl ?_
            exact ⟨⟨_, rfl⟩, .inr ⟨pre ++ [x], Hpre.out, hJx3⟩⟩
        · have hpl4 : Hid (blkL L = valsP pre ++ blkL (L.drop (k + 1))) := Lib.hid (by
            have := hpl.out
            rwa [blkX_end (x := (f, c)) (i := j) (by show c.toNat ≤ j; omega), List.nil_append] at this)
          have hkp5 := hkp2.trans hkp3
          clear hpl hkp3
          gi_wp2
          go_roundw
          case rel => exact ⟨pre, k + 1, by omega, by go_num, hpl4, hkp5, hJ⟩
          case measure => simp [intOf]; omega
    · have hend : Hid (valsP pre = blkL L) := by
        have e := hpl.out
        rw [blkL_end (by have := HN.out; omega), List.append_nil] at e
        exact Lib.hid e.symm
      clear hpl
      gi_wp2
      go_end0
      exact ⟨⟨_, rfl⟩, .inl ⟨pre, hend.out, hJ⟩⟩
end Go.Proofs.Ytdngkpdiaeicmaa
