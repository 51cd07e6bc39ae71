/- Layer 6: the program's disk in memory; what it is asked without change. -/
import Derived.Test.YtikeobmcnpncjaaSecI
namespace Go.Proofs.Ytikeobmcnpncjaa
open Go.RowKit

/-- The list of the failure that is set. -/
def RD.kept (d : RD) : List Bool := if 0 ≤ d.left then d.keep else []
def impC (vS vL vK : Value) (d : RD) : Array Value := #[vS, vL, .bool (!d.down), .int .i64 (d.starts : Int), .bool (decide (0 ≤ d.left)), .int .i64 (if 0 ≤ d.left then d.left else 0), vK]
/-- The program's disk d: block q has the pointer to its state, block r; its three slices are these. -/
structure ImpV (w : World) (q r : Nat) (vS vL vK : Value) (d : RD) : Prop where
  q : rowC w q #[.pointer (some ⟨r, 0, none⟩)] 46
  r : rowC w r (impC vS vL vK d) 64
  s : w.ownsRow 0 9 1 vS d.sure.length (d.sure.map Value.string)
  l : w.ownsRow 0 72 2 vL d.loose.length (looseV d.loose)
  k : w.ownsRow 0 4 1 vK d.kept.length (d.kept.map Value.bool)
/-- The blocks that are its own. -/
def impOwn (q r : Nat) (vS vL vK : Value) (k : Nat) : Prop := k = q ∨ k = r ∨ vS.ownBlock = some k ∨ vL.ownBlock = some k ∨ vK.ownBlock = some k
theorem ImpV.lt {w : World} {q r : Nat} {vS vL vK : Value} {d : RD} (h : ImpV w q r vS vL vK d) : ∀ k, impOwn q r vS vL vK k → k < w.heap.size := by
  intro k hk
  rcases hk with rfl | rfl | hk | hk | hk
  · exact rowC_lt h.q
  · exact rowC_lt h.r
  · exact (h.s.lt k hk).2
  · exact (h.l.lt k hk).2
  · exact (h.k.lt k hk).2
theorem ImpV.chg {w w' : World} {q r : Nat} {vS vL vK : Value} {d : RD} (h : ImpV w q r vS vL vK d) {s : Nat → Prop} (hc : Chg s w w') (hs : ∀ k, impOwn q r vS vL vK k → ¬ s k) : ImpV w' q r vS vL vK d :=
  ⟨hc.rowC h.q (hs q (.inl rfl)), hc.rowC h.r (hs r (.inr (.inl rfl))), hc.owns h.s (fun g hg => hs g (.inr (.inr (.inl hg)))), hc.owns h.l (fun g hg => hs g (.inr (.inr (.inr (.inl hg))))), hc.owns h.k (fun g hg => hs g (.inr (.inr (.inr (.inr hg)))))⟩
theorem ImpV.below {w w' : World} {q r : Nat} {vS vL vK : Value} {d : RD} (h : ImpV w q r vS vL vK d) (hb : Below w.heap.size w w') : ImpV w' q r vS vL vK d := h.chg (s := fun _ => False) (Chg.of_below hb) (fun _ _ => id)
theorem ImpV.cell {w : World} {q r : Nat} {vS vL vK : Value} {d : RD} (h : ImpV w q r vS vL vK d) :
    w.cell? ⟨q, 0, none⟩ = some (.pointer (some ⟨r, 0, none⟩)) ∧ w.cell? ⟨r, 0, none⟩ = some vS ∧ w.cell? ⟨r, 1, none⟩ = some vL ∧ w.cell? ⟨r, 2, none⟩ = some (.bool (!d.down)) ∧ w.cell? ⟨r, 3, none⟩ = some (.int .i64 (d.starts : Int)) ∧ w.cell? ⟨r, 4, none⟩ = some (.bool (decide (0 ≤ d.left))) ∧ w.cell? ⟨r, 5, none⟩ = some (.int .i64 (if 0 ≤ d.left then d.left else 0)) ∧ w.cell? ⟨r, 6, none⟩ = some vK :=
  ⟨rowC_cell h.q 0, rowC_cell h.r 0, rowC_cell h.r 1, rowC_cell h.r 2, rowC_cell h.r 3, rowC_cell h.r 4, rowC_cell h.r 5, rowC_cell h.r 6⟩
theorem ImpV.free {w : World} {q r : Nat} {vS vL vK : Value} {d : RD} (h : ImpV w q r vS vL vK d) (i : Nat) : w.frozen? ⟨r, i, none⟩ = false := rowC_free h.r i
theorem ImpV.ne {w : World} {q r : Nat} {vS vL vK : Value} {d : RD} (h : ImpV w q r vS vL vK d) : q ≠ r := by
  intro e
  have h1 := h.q
  have h2 := h.r
  rw [e] at h1
  unfold rowC at h1 h2
  rw [h1] at h2
  have := Option.some.inj h2
  injection this with _ h3 _
  exact absurd h3 (by decide)
/-- A store into its state's block leaves its rows. -/
theorem ImpV.rows {w : World} {q r : Nat} {vS vL vK : Value} {d : RD} (h : ImpV w q r vS vL vK d) {w' : World} (hc : Chg (· = r) w w') :
    rowC w' q #[.pointer (some ⟨r, 0, none⟩)] 46 ∧ w'.ownsRow 0 9 1 vS d.sure.length (d.sure.map Value.string) ∧ w'.ownsRow 0 72 2 vL d.loose.length (looseV d.loose) ∧ w'.ownsRow 0 4 1 vK d.kept.length (d.kept.map Value.bool) :=
  ⟨hc.rowC h.q h.ne, hc.owns h.s (owns_ne h.s h.r (by decide)), hc.owns h.l (owns_ne h.l h.r (by decide)), hc.owns h.k (owns_ne h.k h.r (by decide))⟩
/-- What a call leaves of it: d' in the same blocks, in rows that were its own, or are new. -/
def ImpInv (w : World) (q : Nat) (d : RD) (o : Nat → Prop) : Prop := ∃ r vS vL vK, ImpV w q r vS vL vK d ∧ o = impOwn q r vS vL vK
theorem imp_post {w w' : World} {q r : Nat} {vS vL vK vS' vL' vK' : Value} {d' : RD} (h' : ImpV w' q r vS' vL' vK' d') (hc : Chg (impOwn q r vS vL vK) w w') (ho : ∀ k, impOwn q r vS' vL' vK' k → impOwn q r vS vL vK k ∨ w.heap.size ≤ k) :
    InvPost ImpInv w q (impOwn q r vS vL vK) d' w' := ⟨_, ⟨r, vS', vL', vK', h', rfl⟩, hc, ho⟩
theorem imp_same {w w' : World} {q r : Nat} {vS vL vK : Value} {d' : RD} (h' : ImpV w' q r vS vL vK d') (hc : Chg (impOwn q r vS vL vK) w w') : InvPost ImpInv w q (impOwn q r vS vL vK) d' w' := imp_post h' hc (fun _ => .inl)

set_option maxHeartbeats 400000 in
theorem none_any {w : World} {q r : Nat} (h : w.cell? ⟨q, 0, none⟩ = some (.pointer (some ⟨r, 0, none⟩))) :
    Calls Try.prog 40 #[.pointer (some ⟨q, 0, none⟩)] w fun e w' => e = .returned (.bool false) ∧ w = w' := by
  go_enter Try.func40, Try.ntmps40
  go_wp2
  go_ret
  exact ⟨rfl, rfl⟩
/-- The error of a disk that is down. -/
def RD.refusal (d : RD) : Int := if d.down = true then 61 else 0
set_option maxHeartbeats 400000 in
theorem refusal_any {w : World} {q r : Nat} {b : Bool} (h : w.cell? ⟨q, 0, none⟩ = some (.pointer (some ⟨r, 0, none⟩))) (h2 : w.cell? ⟨r, 2, none⟩ = some (.bool (!b))) :
    Calls Try.prog 32 #[.pointer (some ⟨q, 0, none⟩)] w fun e w' => e = .returned (.int .i64 (if b = true then 61 else 0)) ∧ w = w' := by
  have CN := none_any h
  cases b
  all_goals
    go_enter Try.func32, Try.ntmps32
    go_wp2_with (go_at_call 40; ((with_reducible refine (CN).mono ?_); rintro e w1 ⟨rfl, rfl⟩))
    go_ret
    exact ⟨rfl, rfl⟩
set_option maxHeartbeats 400000 in
theorem has_any {w : World} {r : Nat} {a : Option Addr} {S cap : Nat} (h0 : w.cell? ⟨r, 0, none⟩ = some (.slice a S cap)) (n : Int) :
    Calls Try.prog 33 #[.pointer (some ⟨r, 0, none⟩), .int .i64 n] w fun e w' => e = .returned (.bool (decide (0 ≤ n ∧ n < (S : Int)))) ∧ w = w' := by
  by_cases hn : 0 ≤ n
  · by_cases hs : n < (S : Int)
    · have HR := Lib.hid (show decide (0 ≤ n ∧ n < (S : Int)) = true by rw [decide_eq_true_eq]; exact ⟨hn, hs⟩)
      have d1 : decide (0 ≤ n) = true := decide_eq_true hn
      have d2 : decide (n < (S : Int)) = true := decide_eq_true hs
      go_enter Try.func33, Try.ntmps33
      go_wp2
      go_ret
      exact ⟨retBool HR.out.symm, rfl⟩
    · have HR := Lib.hid (show decide (0 ≤ n ∧ n < (S : Int)) = false by rw [decide_eq_false_iff_not]; omega)
      have d1 : decide (0 ≤ n) = true := decide_eq_true hn
      have d2 : decide (n < (S : Int)) = false := decide_eq_false hs
      go_enter Try.func33, Try.ntmps33
      go_wp2
      go_ret
      exact ⟨rfl, rfl⟩
  · have HR := Lib.hid (show decide (0 ≤ n ∧ n < (S : Int)) = false by rw [decide_eq_false_iff_not]; omega)
    have d1 : decide (0 ≤ n) = false := decide_eq_false hn
    go_enter Try.func33, Try.ntmps33
    go_wp2
    go_ret
    exact ⟨rfl, rfl⟩
section
variable {w : World} {q : Nat} {d : RD} {o : Nat → Prop}
set_option maxHeartbeats 400000 in
theorem size_any (h : ImpInv w q d o) : Calls Try.prog 19 #[.pointer (some ⟨q, 0, none⟩)] w fun e w' => e = .returned (.int .i64 (d.sure.length : Int)) ∧ Below w.heap.size w w' := by
  obtain ⟨r, vS, vL, vK, h, -⟩ := h
  obtain ⟨c, c0, c1, c2, c3, c4, c5, c6⟩ := h.cell
  obtain ⟨aS, capS, rfl⟩ := owns_form h.s
  have CN := none_any c
  clear h
  go_enter Try.func19, Try.ntmps19
  go_wp2_with (go_at_call 40; ((with_reducible refine (CN).mono ?_); rintro e w1 ⟨rfl, rfl⟩))
  go_ret
  exact ⟨rfl, Below.refl _ _⟩
set_option maxHeartbeats 400000 in
theorem loose_any (h : ImpInv w q d o) : Calls Try.prog 20 #[.pointer (some ⟨q, 0, none⟩)] w fun e w' => e = .returned (.int .i64 (d.loose.length : Int)) ∧ Below w.heap.size w w' := by
  obtain ⟨r, vS, vL, vK, h, -⟩ := h
  obtain ⟨c, c0, c1, c2, c3, c4, c5, c6⟩ := h.cell
  obtain ⟨aL, capL, rfl⟩ := owns_form h.l
  have CN := none_any c
  clear h
  go_enter Try.func20, Try.ntmps20
  go_wp2_with (go_at_call 40; ((with_reducible refine (CN).mono ?_); rintro e w1 ⟨rfl, rfl⟩))
  go_ret
  exact ⟨rfl, Below.refl _ _⟩
set_option maxHeartbeats 400000 in
theorem up_any (h : ImpInv w q d o) : Calls Try.prog 21 #[.pointer (some ⟨q, 0, none⟩)] w fun e w' => e = .returned (.bool !d.down) ∧ Below w.heap.size w w' := by
  obtain ⟨r, vS, vL, vK, h, -⟩ := h
  obtain ⟨c, c0, c1, c2, c3, c4, c5, c6⟩ := h.cell
  have CN := none_any c
  clear h
  generalize (!d.down) = b at *
  go_enter Try.func21, Try.ntmps21
  go_wp2_with (go_at_call 40; ((with_reducible refine (CN).mono ?_); rintro e w1 ⟨rfl, rfl⟩))
  go_ret
  exact ⟨rfl, Below.refl _ _⟩
set_option maxHeartbeats 400000 in
theorem starts_any (h : ImpInv w q d o) : Calls Try.prog 22 #[.pointer (some ⟨q, 0, none⟩)] w fun e w' => e = .returned (.int .i64 (d.starts : Int)) ∧ Below w.heap.size w w' := by
  obtain ⟨r, vS, vL, vK, h, -⟩ := h
  obtain ⟨c, c0, c1, c2, c3, c4, c5, c6⟩ := h.cell
  have CN := none_any c
  clear h
  go_enter Try.func22, Try.ntmps22
  go_wp2_with (go_at_call 40; ((with_reducible refine (CN).mono ?_); rintro e w1 ⟨rfl, rfl⟩))
  go_ret
  exact ⟨rfl, Below.refl _ _⟩
end
set_option maxHeartbeats 400000 in
theorem start_any {w : World} {q : Nat} {d : RD} {o : Nat → Prop} (h : ImpInv w q d o) (hf : d.few) :
    Calls Try.prog 17 #[.pointer (some ⟨q, 0, none⟩)] w fun e w' => e = .returned (.int .i64 d.start.2) ∧ InvPost ImpInv w q o d.start.1 w' := by
  obtain ⟨r, vS, vL, vK, h, rfl⟩ := h
  obtain ⟨c, c0, c1, c2, c3, c4, c5, c6⟩ := h.cell
  have CN := none_any c
  have H := Lib.hid h
  have f2 := h.free 2
  have f3 := h.free 3
  have hst := hf.starts
  clear h hf
  cases hd : d.down
  · have HR := Lib.hid (show d.start = (d, 2) by unfold RD.start; rw [hd]; rfl)
    rw [hd] at c2
    clear hd
    go_enter Try.func17, Try.ntmps17
    go_wp2_with (go_at_call 40; ((with_reducible refine (CN).mono ?_); rintro e w1 ⟨rfl, rfl⟩))
    go_ret
    exact ⟨retInt (by rw [HR.out]), by rw [HR.out]; exact imp_same H.out (Chg.refl _ _)⟩
  · have HR := Lib.hid (show d.start = ({ d with down := false, starts := d.starts + 1 }, 0) by unfold RD.start; rw [hd]; rfl)
    rw [hd] at c2
    have hc : Chg (· = r) w ((w.setCell ⟨r, 2, none⟩ (.bool true)).setCell ⟨r, 3, none⟩ (.int .i64 ((d.starts : Int) + 1))) := ((Chg.refl _ _).setP _ _).setP _ _
    obtain ⟨t0, t1, t2, t3⟩ := H.out.rows hc
    have HS := Lib.hid (show ImpV ((w.setCell ⟨r, 2, none⟩ (.bool true)).setCell ⟨r, 3, none⟩ (.int .i64 ((d.starts : Int) + 1))) q r vS vL vK { d with down := false, starts := d.starts + 1 } from
      ⟨t0, rowC_set (rowC_set H.out.r 2 (.bool true)) 3 (.int .i64 ((d.starts : Int) + 1)), t1, t2, t3⟩)
    have HC := Lib.hid (hc.mono (t := impOwn q r vS vL vK) (fun k _ hk => .inr (.inl hk)))
    clear hd hc t0 t1 t2 t3
    go_enter Try.func17, Try.ntmps17
    go_wp2_with (go_at_call 40; ((with_reducible refine (CN).mono ?_); rintro e w1 ⟨rfl, rfl⟩))
    go_ret
    exact ⟨retInt (by rw [HR.out]), by rw [HR.out]; exact imp_same HS.out HC.out⟩
end Go.Proofs.Ytikeobmcnpncjaa
