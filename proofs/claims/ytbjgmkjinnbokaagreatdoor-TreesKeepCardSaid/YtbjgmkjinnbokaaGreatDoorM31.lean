/- Merged: UvG, UvM. -/
import Derived.Test.YtbjgmkjinnbokaaGreatDoorM28
import Derived.Test.YtbjgmkjinnbokaaGreatDoorM30
/- Layer 16: the library's slices.Equal over nodes; the program's Same. -/
namespace Go.Proofs.YtbjgmkjinnbokaaGreatDoor
open Go.RowKit
attribute [local go_sem] wide_fn round_fn

theorem fields_tn : (Tryz.prog.fieldsOf 41).toList = [⟨"Path", 9, 0, false, "", "", 0⟩, ⟨"Kind", 3, 1, false, "", "", 16⟩, ⟨"Mode", 3, 2, false, "", "", 24⟩, ⟨"Data", 9, 3, false, "", "", 32⟩] := by kernel_rfl
theorem eq_tn (w : World) (d : Nat) (a b : Nd) : (Op.equalIn (d + 2) 41 (.agg (ndA a)) (.agg (ndA b))).run Tryz.prog w = .ok (eqNB a b) w := by
  rw [run_equalIn_struct w (d + 1) _ _ _ (by kernel_rfl) (by kernel_rfl), fields_tn]
  have e1 (x y : List UInt8) (w : World) : (Op.equalIn (d + 1) 9 (.string (str x)) (.string (str y))).run Tryz.prog w = .ok (decide (x = y)) w := by
    rw [run_equalIn_string w d _ _ _ Tryz.underlying9, eq_strs]
  have e2 (x y : Int) (w : World) : (Op.equalIn (d + 1) 3 (.int .i64 x) (.int .i64 y)).run Tryz.prog w = .ok (x == y) w := run_equalIn_int w d _ _ _ _ _ Tryz.underlying3
  have p0 (q : Nd) (w : World) : (part 9 (ndA q) 0).run Tryz.prog w = .ok (.string (str q.path)) w := run_part_plain w (by kernel_rfl) rfl
  have p1 (q : Nd) (w : World) : (part 3 (ndA q) 1).run Tryz.prog w = .ok (.int .i64 q.kind) w := run_part_plain w (by kernel_rfl) rfl
  have p2 (q : Nd) (w : World) : (part 3 (ndA q) 2).run Tryz.prog w = .ok (.int .i64 q.mode) w := run_part_plain w (by kernel_rfl) rfl
  have p3 (q : Nd) (w : World) : (part 9 (ndA q) 3).run Tryz.prog w = .ok (.string (str q.data)) w := run_part_plain w (by kernel_rfl) rfl
  simp only [Op.eqFields, show ("Path" : String) ≠ "_" by decide, show ("Kind" : String) ≠ "_" by decide, show ("Mode" : String) ≠ "_" by decide, show ("Data" : String) ≠ "_" by decide, ne_eq, not_false_eq_true, if_true, Sem.run_bind, Sem.run_ite, Sem.run_pure, p0, p1, p2, p3, Result.andThen_ok, e1, e2]
  unfold eqNB
  by_cases h1 : a.path = b.path <;> by_cases h2 : a.kind = b.kind <;> by_cases h3 : a.mode = b.mode <;> by_cases h4 : a.data = b.data <;> simp [h1, h2, h3, h4]
theorem guard_tn : Tryz.prog.eqGuardType Tryz.prog.depth 41 = false := by kernel_rfl
set_option maxRecDepth 100000 in
set_option maxHeartbeats 4000000 in
theorem sameEq_any (A B : List Nd) (x y : Option Addr) (cx cy : Nat) (w : World) (hA : NodesAt w x A) (hB : NodesAt w y B) (hlA : A.length < 2 ^ 48) :
    Calls Tryz.prog 25 #[.slice x A.length cx, .slice y B.length cy] w fun e w' => (∃ b, e = .returned (.bool b) ∧ (b = true ↔ A = B)) ∧ Below w.heap.size w w' := by
  have HA := Lib.hid hA
  have HB := Lib.hid hB
  obtain ⟨N, hN⟩ : ∃ N, N = A.length := ⟨_, rfl⟩
  obtain ⟨M, hM⟩ : ∃ M, M = B.length := ⟨_, rfl⟩
  have HN := Lib.hid hN
  have HM := Lib.hid hM
  have HI := Lib.hid info_nd4
  rw [← hN] at hlA ⊢
  rw [← hM]
  clear hN hM hA hB
  go_enter Tryz.func25, Tryz.ntmps25
  by_cases hne : N = M
  rotate_left
  · have g1 : ((N : Int) == (M : Int)) = false := by rw [beq_eq_false_iff_ne]; omega
    have e0 : Hid (A ≠ B) := Lib.hid (fun e => hne (by rw [HN.out, HM.out, e]))
    clear hne
    go_wp2
    go_ret
    exact ⟨⟨_, rfl, ⟨(fun h => by cases h), fun h => absurd h e0.out⟩⟩, Below.refl _ _⟩
  subst hne
  have HMM := HM
  clear HM
  go_wp2
  go_loopw [5, 13] (fun _ v wr => ∃ j : Nat, j ≤ N ∧ v = .int .i64 j ∧ Hid (A.take j = B.take j) ∧ Hid (Below w.heap.size w wr)) (fun _ v _ => N - (intOf v).toNat)
  case atStart => exact ⟨0, Nat.zero_le _, rfl, Lib.hid rfl, Lib.hid (Below.refl _ _)⟩
  case round =>
    obtain ⟨j, hjN, rfl, hT, hBl⟩ := hrel
    by_cases hj : j < N
    · have g1 : (j : Int) < (N : Int) := by omega
      obtain ⟨a, ha⟩ : ∃ a, A[j]? = some a := ⟨_, List.getElem?_eq_getElem (by have := HN.out; omega)⟩
      obtain ⟨b, hb⟩ : ∃ b, B[j]? = some b := ⟨_, List.getElem?_eq_getElem (by have := HMM.out; omega)⟩
      obtain ⟨adx, rfl, hax, hcx⟩ := HA.out j a ha
      obtain ⟨ady, rfl, hay, hcy⟩ := HB.out j b hb
      have HCX := Lib.hid (show ∀ v : AftW wr, ∀ i u, (ndV a)[i]? = some u → v.v.cell? ((adx.add (j * 4)).add i) = some u from fun v i u hu => by
        rw [cell_far (hBl.out.trans (v.h.mono hBl.out.size)) (by rw [add_blk, add_blk]; exact hax)]
        exact hcx i u hu)
      have HCY := Lib.hid (show ∀ v : AftW wr, ∀ i u, (ndV b)[i]? = some u → v.v.cell? ((ady.add (j * 4)).add i) = some u from fun v i u hu => by
        rw [cell_far (hBl.out.trans (v.h.mono hBl.out.size)) (by rw [add_blk, add_blk]; exact hay)]
        exact hcy i u hu)
      have eq1 : ∀ w, (Op.equalIn 10000 41 (.agg (ndV a).toArray) (.agg (ndV b).toArray)).run Tryz.prog w = .ok (eqNB a b) w := fun w => eq_tn w 9998 a b
      have gd := guard_tn
      have hud := Tryz.underlying41
      have HST := Lib.hid (fun (e : a = b) => take_snoc_eq ha (by rw [hb, e]) hT.out)
      have HNE := Lib.hid (fun (e : a ≠ b) => ne_atN ha hb e)
      have HQ := Lib.hid (eqNB_iff a b)
      obtain ⟨eb, heb⟩ : ∃ eb, eb = eqNB a b := ⟨_, rfl⟩
      rw [← heb] at eq1 HQ
      clear ha hb hax hay hcx hcy heb hj hT
      go_upto_region 6 with (fail)
      refine (wpIn_wide (n := 4)).1 ?_
      refine region_quiet (C := fun w' => ∃ y : AftW wr, w' = y.v) (by kernel_rfl) (by kernel_rfl) (by kernel_rfl) ⟨⟨wr.drew, (Below.refl _ _).drew⟩, rfl⟩ ?_
      iterate 3 (gi_big_quiet_step (fail))
      refine wpQuietIn_load_atN (fun _ => trivial) rfl 41 _ rfl (adx.add (j * 4)) rfl (ndV a) _ (by rintro _ ⟨y, rfl⟩; exact HCX.out y) hud rfl HI.out ?_
      simp only [Act.put, List.setIfInBounds_toArray, List.set_cons_zero, List.set_cons_succ]
      iterate 3 (gi_big_quiet_step (fail))
      refine wpQuietIn_load_atN (fun _ => trivial) rfl 41 _ rfl (ady.add (j * 4)) rfl (ndV b) _ (by rintro _ ⟨y, rfl⟩; exact HCY.out y) hud rfl HI.out ?_
      simp only [Act.put, List.setIfInBounds_toArray, List.set_cons_zero, List.set_cons_succ]
      gi_big_quiet_step (fail)
      refine wpQuietIn_nil ?_
      rintro _ ⟨v, rfl⟩
      have HBV := Lib.hid (hBl.out.trans (v.h.mono hBl.out.size))
      clear HCX HCY eq1
      cases eb
      · gi_wp2
        go_wp2
        go_ret
        exact ⟨⟨_, rfl, ⟨(fun h => by cases h), fun h => absurd h (HNE.out (fun e => by have h5 := HQ.out.2 e; cases h5))⟩⟩, HBV.out⟩
      · gi_wp2
        go_wp2
        go_roundw
        case rel => exact ⟨j + 1, by omega, by go_num, Lib.hid (HST.out (HQ.out.1 (by trivial))), HBV⟩
        case measure => simp [intOf] <;> omega
    · go_wp2
      go_ret
      exact ⟨⟨_, rfl, ⟨fun _ => by have h := hT.out; rw [List.take_of_length_le (by have := HN.out; omega), List.take_of_length_le (by have := HMM.out; omega)] at h; exact h, fun _ => rfl⟩⟩, hBl.out⟩
theorem sameN_any (A B : List Nd) (x y : Option Addr) (cx cy : Nat) (w : World) (hA : NodesAt w x A) (hB : NodesAt w y B) (hlA : A.length < 2 ^ 48) :
    Calls Tryz.prog 10 #[.slice x A.length cx, .slice y B.length cy] w fun e w' => (∃ b, e = .returned (.bool b) ∧ (b = true ↔ A = B)) ∧ Below w.heap.size w w' := by
  have C := sameEq_any A B x y cx cy w hA hB hlA
  go_enter Tryz.func10, Tryz.ntmps10
  go_wp2_with (go_at_call 25; (refine C.mono ?_; rintro e w1 ⟨⟨b, rfl, hb⟩, hB1⟩))
  go_ret
  exact ⟨⟨_, rfl, hb⟩, hB1⟩
end Go.Proofs.YtbjgmkjinnbokaaGreatDoor

/- Layer 16: TreesTell. -/
namespace Go.Proofs.YtbjgmkjinnbokaaGreatDoor
open Go.RowKit
attribute [local go_sem] wide_fn round_fn

theorem laidT (w0 : World) : ∀ W, Below w0.heap.size w0 W → Calls Tryz.prog 4 #[] W fun e w' => e = .returned (.bool true) ∧ Below w0.heap.size w0 w' := fun W hb =>
  (laid_any W).mono fun _ _ ⟨he, h⟩ => ⟨he, hb.trans (h.mono hb.size)⟩
theorem on_below {P : Program} {f : FuncId} {args : Array Value} {X : Ending} {w0 : World} (h : ∀ W, Below w0.heap.size w0 W → Calls P f args W fun e w' => e = X ∧ Below W.heap.size W w') :
    ∀ W, Below w0.heap.size w0 W → Calls P f args W fun e w' => e = X ∧ Below w0.heap.size w0 w' := fun W hb =>
  (h W hb).mono fun _ _ ⟨he, h2⟩ => ⟨he, hb.trans (h2.mono hb.size)⟩
theorem sameT {l m : List Nd} {P : Program} {f : FuncId} {args : Array Value} {W : World} (h : Calls P f args W fun e w' => (∃ b, e = .returned (.bool b) ∧ (b = true ↔ l = m)) ∧ Below W.heap.size W w') {b : Bool} (hb : b = true ↔ l = m) :
    Calls P f args W fun e w' => e = .returned (.bool b) ∧ Below W.heap.size W w' :=
  h.mono fun _ _ ⟨⟨b2, he, h2⟩, h3⟩ => ⟨by rw [he, (Bool.eq_iff_iff.2 (h2.trans hb.symm))], h3⟩
theorem row_cells {w : World} {b : Nat} {x : Nd} {t : TypeId} (h : rowC w b (ndA x) t) : ∀ j v, (ndV x)[j]? = some v → w.cell? ((⟨b, 0, none⟩ : Addr).add j) = some v := fun j v hv => by
  rw [show (⟨b, 0, none⟩ : Addr) = (⟨b, 0, none⟩ : Addr).add 0 from (addr_zero _).symm, add_add, Nat.zero_add, rowC_cell h j, ← ndV_arr, List.getElem?_toArray]
  exact hv
end Go.Proofs.YtbjgmkjinnbokaaGreatDoor

