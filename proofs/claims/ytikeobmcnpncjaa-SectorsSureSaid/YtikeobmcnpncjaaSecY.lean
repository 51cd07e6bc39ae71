/- Layer 6: the library's iterator over a slice from behind, at loose writes. -/
import Derived.RangeFuncNested
import Derived.RangeFuncBound
import Derived.RangeFuncCalls
import Derived.RangeFuncLeaves
import Derived.RangeFuncFrom
import Derived.RangeFuncBox
import Derived.Shelf.Abstract
import Derived.OwnWalkIn
import Derived.TacticsInMore
import Derived.LoopNIn
import Derived.LoopIn
import Derived.Test.YtikeobmcnpncjaaSecX
namespace Go.Proofs.Ytikeobmcnpncjaa
open Go.RowKit Go.Shelf
attribute [local go_sem] Oper.semAt_some

/-- What a range over loose writes from behind is handed: a place, and the write there. -/
abbrev Back := Nat × Nat × ByteArray
/-- The first k writes, from behind. -/
def backL (l : List (Nat × ByteArray)) : Nat → List Back
  | 0 => []
  | k + 1 => (k, l.getD k (0, ByteArray.empty)) :: backL l k
theorem backL_length (l : List (Nat × ByteArray)) (k : Nat) : (backL l k).length = k := by
  induction k with
  | zero => rfl
  | succ k ih => rw [backL, List.length_cons, ih]
def backV (x : Back) : Array Value := #[.int .i64 (x.1 : Int), .agg #[.int .i64 (x.2.1 : Int), .string x.2.2]]
/-- What a round leaves of the iterator's box and of the row that it goes through. -/
def KeepsTwo (Bs : Nat) (a : Option Addr) (W W' : World) : Prop := ∀ p : Addr, p.block = Bs ∨ (∃ b, a = some b ∧ p.block = b.block) → ∀ v, W.cell? p = some v → W'.cell? p = some v
theorem KeepsTwo.trans {Bs : Nat} {a : Option Addr} {W W' W'' : World} (h : KeepsTwo Bs a W W') (h' : KeepsTwo Bs a W' W'') : KeepsTwo Bs a W W'' := fun p hp v hv => h' p hp v (h p hp v hv)
theorem KeepsTwo.put (Bs : Nat) (a : Option Addr) (W : World) (l : Nat) (o o' : Obj) (h : W.heap[l]? = some o) (hc : o.isCells = false) : KeepsTwo Bs a W (W.putObj l o') := fun _ _ _ hv =>
  cell_kept hv (grownBy_putObj' _ l o') (fun r e => by cases e; exact ⟨_, h, hc⟩)
theorem KeepsTwo.below {Bs : Nat} {a : Option Addr} {B : Nat} {W W' : World} (h : Below B W W') (h1 : Bs < B) (h2 : ∀ b, a = some b → b.block < B) : KeepsTwo Bs a W W' := fun p hp v hv => by
  refine (h.cell (p := p) ?_).trans hv
  rcases hp with hp | ⟨b, hb, hp⟩
  · omega
  · have := h2 b hb
    omega
set_option maxRecDepth 100000 in
set_option maxHeartbeats 2000000 in
theorem back_in (F : Fence) (n : Nat) (h23 : F.fn 49) (hw : F = Fence.wide) (hro : F.round = none) (hn : 1 ≤ n) (l Bs N cap : Nat) (a : Option Addr) (L : List (Nat × ByteArray)) (hN : N = L.length) (hs : N ≤ 1000000)
    (J Jx : List Back → World → Prop)
    (hY : ∀ pre x W, J pre W → pre.length < N → YieldAt F (n - 1) Try.prog l (backV x) W fun e W' =>
      (e = .returned (.bool true) ∧ J (pre ++ [x]) W' ∧ KeepsTwo Bs a W W') ∨ (e = .returned (.bool false) ∧ Jx (pre ++ [x]) W'))
    (W : World) (hcs : W.cell? ⟨Bs, 0, none⟩ = some (.slice a N cap)) (hL : W.ownsRow 0 72 2 (.slice a N cap) N (looseV L)) (h0 : J [] W) :
    CallsIn F n Try.prog 49 #[.func (.yield l) #[] #[], .pointer (some ⟨Bs, 0, none⟩)] W fun e W' => (∃ v, e = .returned v) ∧
      ((∃ ys, ys = backL L N ∧ J ys W') ∨ (∃ pre, pre <+: backL L N ∧ Jx pre W')) := by
  have hcell : ∀ k, k < N → ∃ g, a = some ⟨g, 0, none⟩ ∧ W.cell? ⟨g, k * 2, none⟩ = some (.int .i64 ((L.getD k (0, ByteArray.empty)).1 : Int)) ∧ W.cell? ⟨g, k * 2 + 1, none⟩ = some (.string (L.getD k (0, ByteArray.empty)).2) := fun k hk => by
    obtain ⟨g, cap', hv⟩ := owns_some hL (by omega)
    simp only [Value.slice.injEq] at hv
    obtain ⟨rfl, -, rfl⟩ := hv
    obtain ⟨e1, e2⟩ := owns_loose hL hN (k := k) (by omega)
    exact ⟨g, rfl, e1, e2⟩
  have HC := Lib.hid hcell
  clear hcell hL hN
  refine callsIn_of_wp Try.func49 rfl h23 ?_ hro
  simp only [Try.ntmps49, List.size_toArray, List.length_cons, List.length_nil, Nat.reduceAdd, Nat.reduceSub, Array.replicate_succ, Array.replicate_zero, List.push_toArray, List.append_toArray, List.nil_append, List.cons_append]
  subst hw
  gi_wp2
  gi_loopw [3] (fun i wr => ∃ (pre : List Back) (k : Nat), k ≤ N ∧ i = .int .i64 ((k : Int) - 1) ∧ Hid (backL L N = pre ++ backL L k) ∧ KeepsTwo Bs a W wr ∧ J pre wr) (fun i _ => (intOf i + 1).toNat)
  case atStart => exact ⟨[], N, Nat.le_refl _, rfl, Lib.hid (by simp), fun _ _ _ h => h, h0⟩
  case round =>
    obtain ⟨pre, k, hk, rfl, hpl, hkp, hJ⟩ := hrel
    have hc1 := hkp ⟨Bs, 0, none⟩ (.inl rfl) _ hcs
    by_cases hz : k = 0
    · subst hz
      have hend : Hid (pre = backL L N) := Lib.hid (by have := hpl.out; rw [show backL L 0 = [] from rfl, List.append_nil] at this; exact this.symm)
      clear hpl
      gi_wp2
      go_end0
      exact ⟨⟨_, rfl⟩, .inl ⟨pre, hend.out, hJ⟩⟩
    · obtain ⟨j, rfl⟩ : ∃ j, k = j + 1 := ⟨k - 1, by omega⟩
      obtain ⟨g, rfl, e1, e2⟩ := HC.out j (by omega)
      have e1' := hkp ⟨g, j * 2, none⟩ (.inr ⟨_, rfl, rfl⟩) _ e1
      have e2' := hkp ⟨g, j * 2 + 1, none⟩ (.inr ⟨_, rfl, rfl⟩) _ e2
      obtain ⟨x, hx⟩ : ∃ x, x = L.getD j (0, ByteArray.empty) := ⟨_, rfl⟩
      have hpl2 : Hid (backL L N = (pre ++ [(j, x)]) ++ backL L j) := Lib.hid (by rw [hpl.out, backL, ← hx]; simp)
      have hlen : pre.length < N := by
        have := congrArg List.length hpl.out
        rw [backL_length, List.length_append, backL_length] at this
        omega
      rw [← hx] at e1' e2'
      have hY' := hY pre (j, x) wr hJ hlen
      clear hpl e1 e2 hx hlen hz
      obtain ⟨y, t⟩ := x
      unfold backV at hY'
      dsimp only at hY' e1' e2'
      rw [show (((j + 1 : Nat) : Int) - 1) = (j : Int) by omega]
      have hj : (j : Int) < (N : Int) := by omega
      have hj0 : (0 : Int) ≤ (j : Int) := by omega
      obtain ⟨fn, tmps, assign, body, hy, hR⟩ := hY'
      gi_wp2
      refine hR.mono ?_
      rintro e W3 (⟨rfl, hJ3, hk3⟩ | ⟨rfl, hJx3⟩)
      · clear hR hy e1' e2' hc1
        gi_wp2
        go_roundw
        case rel => exact ⟨pre ++ [(j, y, t)], j, by omega, rfl, hpl2, hkp.trans hk3, hJ3⟩
        case measure => simp [intOf]
      · clear hR hy e1' e2' hc1
        gi_wp2
        refine bodyPost_ret (results_none rfl _ _ _) rfl ?_
        exact ⟨⟨_, rfl⟩, .inr ⟨pre ++ [(j, y, t)], ⟨_, hpl2.out.symm⟩, hJx3⟩⟩
set_option maxHeartbeats 1000000 in
theorem backward_in (n : Nat) (a : Option Addr) (N cap : Nat) (w : World) :
    CallsIn Fence.wide n Try.prog 34 #[.slice a N cap] w fun e w' => e = .returned (.func (.func 49) #[] #[.pointer (some ⟨w.heap.size, 0, none⟩)]) ∧ w' = w.alloc (.cells #[.slice a N cap] 60) := by
  refine callsIn_of_wp Try.func34 rfl trivial ?_ rfl
  simp only [Try.ntmps34, List.size_toArray, List.length_cons, List.length_nil, Nat.reduceAdd, Nat.reduceSub, Array.replicate_succ, Array.replicate_zero, List.push_toArray, List.append_toArray, List.nil_append, List.cons_append]
  gi_wp2
  go_ret
  exact ⟨rfl, rfl⟩
theorem back_stops (n : Nat) (hn : 1 ≤ n) (Bs N cap : Nat) (a : Option Addr) (L : List (Nat × ByteArray)) (hN : N = L.length) (hs : N ≤ 1000000) (w : World) (hBs : Bs < w.heap.size)
    (hcs : w.cell? ⟨Bs, 0, none⟩ = some (.slice a N cap)) (hL : w.ownsRow 0 72 2 (.slice a N cap) N (looseV L)) :
    SeqStopsK Fence.wide n Try.prog 49 #[.pointer (some ⟨Bs, 0, none⟩)] backV (KeepsTwo Bs a) (fun ys => ys = backL L N) (fun pre => pre <+: backL L N) N w := fun l J Jx W hW _ _ hY h0 =>
  back_in Fence.wide n trivial rfl rfl hn l Bs N cap a L hN hs J Jx hY W ((hW.cell (p := ⟨Bs, 0, none⟩) hBs).trans hcs) ((Chg.of_below (s := fun _ => False) hW).owns hL (fun _ _ => id)) h0
end Go.Proofs.Ytikeobmcnpncjaa
