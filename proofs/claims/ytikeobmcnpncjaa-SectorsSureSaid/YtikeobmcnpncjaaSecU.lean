/- Layer 6: the program's disk: it goes down, a change, Crash, Flush. -/
import Derived.Test.YtikeobmcnpncjaaSecT
namespace Go.Proofs.Ytikeobmcnpncjaa
open Go.RowKit

theorem settleG_all (sure : List ByteArray) (l : List (Nat × ByteArray)) (k : Nat) : settleG sure l (fun _ => true) k = flushN sure l k := by
  induction k with
  | zero => rfl
  | succ k ih => rw [settleG, flushN, ih, if_pos rfl]
/-- Does the loose write at a place stay? -/
def stays (ks : List Bool) (i : Nat) : Bool := decide (i < ks.length) && ks.getD i false
theorem settleG_stays (sure : List ByteArray) (l : List (Nat × ByteArray)) (ks : List Bool) : ∀ N k, k = min N ks.length → settleG sure l (stays ks) N = settleN sure l ks k := by
  intro N
  induction N with
  | zero => intro k hk; obtain rfl : k = 0 := by omega
            rfl
  | succ N ih =>
    intro k hk
    rw [settleG]
    by_cases h : N < ks.length
    · obtain rfl : k = N + 1 := by omega
      rw [ih N (by omega), settleN]
      unfold stays
      rw [decide_eq_true h, Bool.true_and]
    · rw [ih k (by omega), if_neg]
      unfold stays
      rw [decide_eq_false h, Bool.false_and]
      decide
set_option maxHeartbeats 400000 in
theorem flush1_any (i : Nat) (w : World) : Calls Try.prog 38 #[.int .i64 (i : Int)] w fun e w' => e = .returned (.bool true) ∧ w = w' := by
  go_enter Try.func38, Try.ntmps38
  go_wp2
  go_ret
  exact ⟨rfl, rfl⟩
/-- What the function that goDown hands on reads. -/
structure StaysM (B : Nat) (v : Value) (ks : List Bool) (w : World) : Prop where
  box : w.cell? ⟨B, 0, none⟩ = some v
  k : KeepAt w v ks
set_option maxHeartbeats 1000000 in
theorem stays_any {w : World} {B : Nat} {v : Value} {ks : List Bool} (h : StaysM B v ks w) (i : Nat) (hi : i ≤ 1000000) :
    Calls Try.prog 51 (#[.int .i64 (i : Int)] ++ #[.pointer (some ⟨B, 0, none⟩)]) w fun e w' => e = .returned (.bool (stays ks i)) ∧ w = w' := by
  obtain ⟨hb, hk⟩ := h
  obtain ⟨aK, capK, rfl⟩ := keep_form hk
  show Calls _ _ #[.int .i64 (i : Int), .pointer (some ⟨B, 0, none⟩)] _ _
  by_cases hlt : i < ks.length
  · obtain ⟨ad, rfl, cK⟩ := keep_at hk hlt
    have HR := Lib.hid (show stays ks i = ks.getD i false by unfold stays; rw [decide_eq_true hlt, Bool.true_and])
    have d1 : decide ((i : Int) < (ks.length : Int)) = true := decide_eq_true (by omega)
    have g1 : (i : Int) < (ks.length : Int) := by omega
    have g0 : (0 : Int) ≤ (i : Int) := by omega
    rw [HR.out]
    generalize ks.getD i false = b at *
    clear hk
    go_enter Try.func51, Try.ntmps51
    go_wp2
    go_ret
    exact ⟨rfl, rfl⟩
  · have HR := Lib.hid (show stays ks i = false by unfold stays; rw [decide_eq_false hlt, Bool.false_and])
    have d1 : decide ((i : Int) < (ks.length : Int)) = false := decide_eq_false (by omega)
    rw [HR.out]
    clear hk
    go_enter Try.func51, Try.ntmps51
    go_wp2
    go_ret
    exact ⟨rfl, rfl⟩
theorem setP4 {r : Nat} {w : World} (a b c e : Value) : Chg (· = r) w ((((w.setCell ⟨r, 4, none⟩ a).setCell ⟨r, 5, none⟩ b).setCell ⟨r, 6, none⟩ c).setCell ⟨r, 2, none⟩ e) := ((((Chg.refl _ _).setP _ _).setP _ _).setP _ _).setP _ _
set_option maxRecDepth 100000 in
set_option maxHeartbeats 1000000 in
theorem goDown_any {w : World} {q r : Nat} {vS vL vK : Value} {d : RD} (h : ImpV w q r vS vL vK d) (hok : d.ok) (hf : d.loose.length ≤ 1000000) {v : Value} {ks : List Bool} (hk : KeepAt w v ks)
    (hv : ∀ ad n cap, v = .slice (some ad) n cap → 0 < n → ¬ vS.ownBlock = some ad.block) :
    Calls Try.prog 39 #[.pointer (some ⟨r, 0, none⟩), v] w fun e w' => e = .returned (.tuple #[]) ∧ ImpV w' q r vS (.slice none 0 0) (.slice none 0 0) (d.fall ks) ∧ Chg (fun j => j = r ∨ vS.ownBlock = some j) w w' := by
  have hmf : ∀ (fn : Fn) (first cap : Array Value) (w : World), (Instr.makeFunc fn first cap).run Try.prog w = .ok (.func fn first cap) w := fun _ _ _ _ => rfl
  obtain ⟨aK, capK, hva⟩ := keep_form hk
  have al : Below w.heap.size w (w.alloc (.cells #[v] 32)) := (Below.refl _ _).alloc (Nat.le_refl _) _
  have hnS : ¬ vS.ownBlock = some w.heap.size := fun e => by have := (h.s.lt _ e).2; omega
  have HC := Lib.hid (settle_any (h.below al) hok hf (stays ks) (StaysM w.heap.size v ks)
    (fun w1 w2 m c => ⟨(World.cell?_of_block (w := w1) (w' := w2) (a := ⟨w.heap.size, 0, none⟩) (c.block _ (World.block_lt_of_cell? w1 _ m.box) hnS)).trans m.box, m.k.chg c (fun ad n cap e hn => hv ad n cap e hn)⟩)
    ⟨rowC_cell (rowC_new w #[v] 32) 0, hk.keep al⟩ 51 #[.pointer (some ⟨w.heap.size, 0, none⟩)] (fun _ _ => rfl) (fun w1 i m hi => stays_any m i (by omega)))
  have HE := Lib.hid (settleG_stays d.sure d.loose ks d.loose.length (min d.loose.length ks.length) rfl)
  have HA := Lib.hid al
  clear h hok hf hk hv al hnS
  subst hva
  go_enter Try.func39, Try.ntmps39
  go_wp2_with (go_at_call 37; ((with_reducible refine (HC.out).mono ?_); rintro e w1 ⟨rfl, V1, C1⟩); have e4 := V1.cell.2.2.2.2.2.1; have e5 := V1.cell.2.2.2.2.2.2.1; have e6 := V1.cell.2.2.2.2.2.2.2; have e2 := V1.cell.2.2.2.1; have f2 := V1.free 2; have f4 := V1.free 4; have f5 := V1.free 5; have f6 := V1.free 6; have HV := Lib.hid V1; have HD := Lib.hid C1; clear V1 C1)
  go_end0
  have hc := setP4 (r := r) (w := w1) (.bool false) (.int .i64 0) (.slice none 0 0) (.bool false)
  obtain ⟨t0, t1, t2, t3⟩ := HV.out.rows hc
  refine ⟨rfl, ⟨t0, rowC_set (rowC_set (rowC_set (rowC_set HV.out.r 4 (.bool false)) 5 (.int .i64 0)) 6 (.slice none 0 0)) 2 (.bool false), ?_, t2, World.ownsRow_nil _ _ _ _⟩, ((Chg.of_below HA.out).trans HD.out (fun _ _ h => h)).trans hc (fun _ _ h => .inl h)⟩
  have t1' := t1
  rw [show ((d.put (settleG d.sure d.loose (stays ks) d.loose.length)).sure) = (d.fall ks).sure from HE.out] at t1'
  exact t1'
end Go.Proofs.Ytikeobmcnpncjaa
