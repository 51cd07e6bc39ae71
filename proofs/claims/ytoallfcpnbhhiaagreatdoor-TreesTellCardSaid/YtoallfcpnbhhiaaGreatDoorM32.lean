/- Merged: UvG, UvM. -/
import Derived.Test.YtoallfcpnbhhiaaGreatDoorM27
import Derived.Test.YtoallfcpnbhhiaaGreatDoorM31
/- Layer 16: the library's slices.Equal over nodes; the program's Same. -/
namespace Go.Proofs.YtoallfcpnbhhiaaGreatDoor
open Go.RowKit
attribute [local go_sem] wide_fn round_fn

theorem fields_tn : (Tryz.prog.fieldsOf 32).toList = [⟨"Path", 9, 0, false, "", "", 0⟩, ⟨"Kind", 3, 1, false, "", "", 16⟩, ⟨"Mode", 3, 2, false, "", "", 24⟩, ⟨"Data", 9, 3, false, "", "", 32⟩] := by kernel_rfl
theorem eq_tn (w : World) (d : Nat) (a b : Nd) : (Op.equalIn (d + 2) 32 (.agg (ndA a)) (.agg (ndA b))).run Tryz.prog w = .ok (eqNB a b) w := by
  rw [run_equalIn_struct w (d + 1) _ _ _ (by kernel_rfl) (by kernel_rfl), fields_tn]
  have e1 (x y : List UInt8) (w : World) : (Op.equalIn (d + 1) 9 (.string (str x)) (.string (str y))).run Tryz.prog w = .ok (decide (x = y)) w := by
    rw [run_equalIn_string w d _ _ _ Tryz.underlying9, eq_strs]
  have e2 (x y : Int) (w : World) : (Op.equalIn (d + 1) 3 (.int .i64 x) (.int .i64 y)).run Tryz.prog w = .ok (x == y) w := run_equalIn_int w d _ _ _ _ _ Tryz.underlying3
  have p0 (q : Nd) (w : World) : (part 9 (ndA q) 0).run Tryz.prog w = .ok (.string (str q.path)) w := run_part_plain w (by kernel_rfl) rfl
  have p1 (q : Nd) (w : World) : (part 3 (ndA q) 1).run Tryz.prog w = .ok (.int .i64 q.kind) w := run_part_plain w (by kernel_rfl) rfl
  have p2 (q : Nd) (w : World) : (part 3 (ndA q) 2).run Tryz.prog w = .ok (.int .i64 q.mode) w := run_part_plain w (by kernel_rfl) rfl
  have p3 (q : Nd) (w : World) : (part 9 (ndA q) 3).run Tryz.prog w = .ok (.string (str q.data)) w := run_part_plain w (by kernel_rfl) rfl
  simp only [Op.eqFields, show ("Path" : String) ≠ "_" by decide, show ("Kind" : String) ≠ "_" by decide, show ("Mode" : String) ≠ "_" by decide, show ("Data" : String) ≠ "_" by decide, ne_eq, not_false_eq_true, if_true, Sem.run_bind, Sem.run_ite, Sem.run_pure, p0, p1, p2, p3, Result.andThen_ok, e1, e2]
  unfold eqNB
  by_cases h1 : a.path = b.path <;> by_cases h2 : a.kind = b.kind <;> by_cases h3 : a.mode = b.mode <;> by_cases h4 : a.data = b.data <;> simp [h1, h2, h3, h4]
theorem guard_tn : Tryz.prog.eqGuardType Tryz.prog.depth 32 = false := by kernel_rfl
set_option maxRecDepth 100000 in
set_option maxHeartbeats 4000000 in
theorem sameEq_any (A B : List Nd) (x y : Option Addr) (cx cy : Nat) (w : World) (hA : NodesAt w x A) (hB : NodesAt w y B) (hlA : A.length < 2 ^ 48) :
    Calls Tryz.prog 33 #[.slice x A.length cx, .slice y B.length cy] w fun e w' => (∃ b, e = .returned (.bool b) ∧ (b = true ↔ A = B)) ∧ Below w.heap.size w w' := by
  have HA := Lib.hid hA
  have HB := Lib.hid hB
  obtain ⟨N, hN⟩ : ∃ N, N = A.length := ⟨_, rfl⟩
  obtain ⟨M, hM⟩ : ∃ M, M = B.length := ⟨_, rfl⟩
  have HN := Lib.hid hN
  have HM := Lib.hid hM
  have HI := Lib.hid info_nd4
  rw [← hN] at hlA ⊢
  rw [← hM]
  clear hN hM hA hB
  go_enter Tryz.func33, Tryz.ntmps33
  by_cases hne : N = M
  rotate_left
  · have g1 : ((N : Int) == (M : Int)) = false := by rw [beq_eq_false_iff_ne]; omega
    have e0 : Hid (A ≠ B) := Lib.hid (fun e => hne (by rw [HN.out, HM.out, e]))
    clear hne
    go_wp2
    go_ret
    exact ⟨⟨_, rfl, ⟨(fun h => by cases h), fun h => absurd h e0.out⟩⟩, Below.refl _ _⟩
  subst hne
  have HMM := HM
  clear HM
  go_wp2
  go_loopw [5, 13] (fun _ v wr => ∃ j : Nat, j ≤ N ∧ v = .int .i64 j ∧ Hid (A.take j = B.take j) ∧ Hid (Below w.heap.size w wr)) (fun _ v _ => N - (intOf v).toNat)
  case atStart => exact ⟨0, Nat.zero_le _, rfl, Lib.hid rfl, Lib.hid (Below.refl _ _)⟩
  case round =>
    obtain ⟨j, hjN, rfl, hT, hBl⟩ := hrel
    by_cases hj : j < N
    · have g1 : (j : Int) < (N : Int) := by omega
      obtain ⟨a, ha⟩ : ∃ a, A[j]? = some a := ⟨_, List.getElem?_eq_getElem (by have := HN.out; omega)⟩
      obtain ⟨b, hb⟩ : ∃ b, B[j]? = some b := ⟨_, List.getElem?_eq_getElem (by have := HMM.out; omega)⟩
      obtain ⟨adx, rfl, hax, hcx⟩ := HA.out j a ha
      obtain ⟨ady, rfl, hay, hcy⟩ := HB.out j b hb
      have HCX := Lib.hid (show ∀ v : AftW wr, ∀ i u, (ndV a)[i]? = some u → v.v.cell? ((adx.add (j * 4)).add i) = some u from fun v i u hu => by
        rw [cell_far (hBl.out.trans (v.h.mono hBl.out.size)) (by rw [add_blk, add_blk]; exact hax)]
        exact hcx i u hu)
      have HCY := Lib.hid (show ∀ v : AftW wr, ∀ i u, (ndV b)[i]? = some u → v.v.cell? ((ady.add (j * 4)).add i) = some u from fun v i u hu => by
        rw [cell_far (hBl.out.trans (v.h.mono hBl.out.size)) (by rw [add_blk, add_blk]; exact hay)]
        exact hcy i u hu)
      have eq1 : ∀ w, (Op.equalIn 10000 32 (.agg (ndV a).toArray) (.agg (ndV b).toArray)).run Tryz.prog w = .ok (eqNB a b) w := fun w => eq_tn w 9998 a b
      have gd := guard_tn
      have hud := Tryz.underlying32
      have HST := Lib.hid (fun (e : a = b) => take_snoc_eq ha (by rw [hb, e]) hT.out)
      have HNE := Lib.hid (fun (e : a ≠ b) => ne_atN ha hb e)
      have HQ := Lib.hid (eqNB_iff a b)
      obtain ⟨eb, heb⟩ : ∃ eb, eb = eqNB a b := ⟨_, rfl⟩
      rw [← heb] at eq1 HQ
      clear ha hb hax hay hcx hcy heb hj hT
      go_upto_region 6 with (fail)
      refine (wpIn_wide (n := 4)).1 ?_
      refine region_quiet (C := fun w' => ∃ y : AftW wr, w' = y.v) (by kernel_rfl) (by kernel_rfl) (by kernel_rfl) ⟨⟨wr.drew, (Below.refl _ _).drew⟩, rfl⟩ ?_
      iterate 3 (gi_big_quiet_step (fail))
      refine wpQuietIn_load_atN (fun _ => trivial) rfl 32 _ rfl (adx.add (j * 4)) rfl (ndV a) _ (by rintro _ ⟨y, rfl⟩; exact HCX.out y) hud rfl HI.out ?_
      simp only [Act.put, List.setIfInBounds_toArray, List.set_cons_zero, List.set_cons_succ]
      iterate 3 (gi_big_quiet_step (fail))
      refine wpQuietIn_load_atN (fun _ => trivial) rfl 32 _ rfl (ady.add (j * 4)) rfl (ndV b) _ (by rintro _ ⟨y, rfl⟩; exact HCY.out y) hud rfl HI.out ?_
      simp only [Act.put, List.setIfInBounds_toArray, List.set_cons_zero, List.set_cons_succ]
      gi_big_quiet_step (fail)
      refine wpQuietIn_nil ?_
      rintro _ ⟨v, rfl⟩
      have HBV := Lib.hid (hBl.out.trans (v.h.mono hBl.out.size))
      clear HCX HCY eq1
      cases eb
      · gi_wp2
        go_wp2
        go_ret
        exact ⟨⟨_, rfl, ⟨(fun h => by cases h), fun h => absurd h (HNE.out (fun e => by have h5 := HQ.out.2 e; cases h5))⟩⟩, HBV.out⟩
      · gi_wp2
        go_wp2
        go_roundw
        case rel => exact ⟨j + 1, by omega, by go_num, Lib.hid (HST.out (HQ.out.1 (by trivial))), HBV⟩
        case measure => simp [intOf] <;> omega
    · go_wp2
      go_ret
      exact ⟨⟨_, rfl, ⟨fun _ => by have h := hT.out; rw [List.take_of_length_le (by have := HN.out; omega), List.take_of_length_le (by have := HMM.out; omega)] at h; exact h, fun _ => rfl⟩⟩, hBl.out⟩
theorem sameN_any (A B : List Nd) (x y : Option Addr) (cx cy : Nat) (w : World) (hA : NodesAt w x A) (hB : NodesAt w y B) (hlA : A.length < 2 ^ 48) :
    Calls Tryz.prog 16 #[.slice x A.length cx, .slice y B.length cy] w fun e w' => (∃ b, e = .returned (.bool b) ∧ (b = true ↔ A = B)) ∧ Below w.heap.size w w' := by
  have C := sameEq_any A B x y cx cy w hA hB hlA
  go_enter Tryz.func16, Tryz.ntmps16
  go_wp2_with (go_at_call 33; (refine C.mono ?_; rintro e w1 ⟨⟨b, rfl, hb⟩, hB1⟩))
  go_ret
  exact ⟨⟨_, rfl, hb⟩, hB1⟩
end Go.Proofs.YtoallfcpnbhhiaaGreatDoor

/- Layer 16: TreesTell. -/
namespace Go.Proofs.YtoallfcpnbhhiaaGreatDoor
open Go.RowKit
attribute [local go_sem] wide_fn round_fn

theorem laidT (w0 : World) : ∀ W, Below w0.heap.size w0 W → Calls Tryz.prog 6 #[] W fun e w' => e = .returned (.bool true) ∧ Below w0.heap.size w0 w' := fun W hb =>
  (laid_any W).mono fun _ _ ⟨he, h⟩ => ⟨he, hb.trans (h.mono hb.size)⟩
theorem on_below {P : Program} {f : FuncId} {args : Array Value} {X : Ending} {w0 : World} (h : ∀ W, Below w0.heap.size w0 W → Calls P f args W fun e w' => e = X ∧ Below W.heap.size W w') :
    ∀ W, Below w0.heap.size w0 W → Calls P f args W fun e w' => e = X ∧ Below w0.heap.size w0 w' := fun W hb =>
  (h W hb).mono fun _ _ ⟨he, h2⟩ => ⟨he, hb.trans (h2.mono hb.size)⟩
theorem sameT {l m : List Nd} {P : Program} {f : FuncId} {args : Array Value} {W : World} (h : Calls P f args W fun e w' => (∃ b, e = .returned (.bool b) ∧ (b = true ↔ l = m)) ∧ Below W.heap.size W w') {b : Bool} (hb : b = true ↔ l = m) :
    Calls P f args W fun e w' => e = .returned (.bool b) ∧ Below W.heap.size W w' :=
  h.mono fun _ _ ⟨⟨b2, he, h2⟩, h3⟩ => ⟨by rw [he, (Bool.eq_iff_iff.2 (h2.trans hb.symm))], h3⟩
theorem row_cells {w : World} {b : Nat} {x : Nd} {t : TypeId} (h : rowC w b (ndA x) t) : ∀ j v, (ndV x)[j]? = some v → w.cell? ((⟨b, 0, none⟩ : Addr).add j) = some v := fun j v hv => by
  rw [show (⟨b, 0, none⟩ : Addr) = (⟨b, 0, none⟩ : Addr).add 0 from (addr_zero _).symm, add_add, Nat.zero_add, rowC_cell h j, ← ndV_arr, List.getElem?_toArray]
  exact hv
set_option maxRecDepth 100000 in
set_option maxHeartbeats 8000000 in
/-- The nodes are more than is gone through, or the path is. -/
theorem tell_great (l m : List Nd) (p : List UInt8) (ad am : Option Addr) (c cm : Nat) (hl : l.length ≤ maxLen) (hm : m.length ≤ maxLen) (w : World) (h1 : NodesAt w ad l) (h2 : NodesAt w am m) (hg : greatN l = true ∨ greatN m = true ∨ 300 < p.length) :
    Calls Tryz.prog 3 #[.slice ad l.length c, .slice am m.length cm, .string (str p)] w fun e w' => e = .returned (.bool true) ∧ Below w.heap.size w w' := by
  have G1 := greatN_any l ad c hl w h1
  have G2 := greatN_any m am cm hm w h2
  have CL := fun W => laid_any W
  have zp := str_size p
  generalize hA : greatN l = A at *
  generalize hB : greatN m = B at *
  generalize l.length = N at *
  generalize m.length = M at *
  obtain ⟨Q, hQ⟩ : ∃ Q, Q = p.length := ⟨_, rfl⟩
  rw [← hQ] at zp hg
  clear h1 h2 hA hB hQ hl hm
  go_enter Tryz.func3, Tryz.ntmps3
  cases A
  · cases B
    · have g : (300 : Int) < (Q : Int) := by
        rcases hg with h | h | h
        · cases h
        · cases h
        · omega
      clear hg
      go_wp2_with (first
        | (go_at_call 5; first
          | ((with_reducible refine G1.mono ?_); rintro e w1 ⟨rfl, rfl⟩)
          | ((with_reducible refine G2.mono ?_); rintro e w1 ⟨rfl, rfl⟩))
        | (go_at_call 6; ((with_reducible refine (CL _).mono ?_); rintro e w2 ⟨rfl, hb2⟩)))
      go_ret
      exact ⟨rfl, hb2⟩
    · clear hg
      go_wp2_with (first
        | (go_at_call 5; first
          | ((with_reducible refine G1.mono ?_); rintro e w1 ⟨rfl, rfl⟩)
          | ((with_reducible refine G2.mono ?_); rintro e w1 ⟨rfl, rfl⟩))
        | (go_at_call 6; ((with_reducible refine (CL _).mono ?_); rintro e w2 ⟨rfl, hb2⟩)))
      go_ret
      exact ⟨rfl, hb2⟩
  · clear hg
    go_wp2_with (first
      | (go_at_call 5; ((with_reducible refine G1.mono ?_); rintro e w1 ⟨rfl, rfl⟩))
      | (go_at_call 6; ((with_reducible refine (CL _).mono ?_); rintro e w2 ⟨rfl, hb2⟩)))
    go_ret
    exact ⟨rfl, hb2⟩
set_option maxRecDepth 100000 in
set_option maxHeartbeats 16000000 in
theorem tell_any (l m : List Nd) (p : List UInt8) (ad am : Option Addr) (c cm : Nat) (hl : l.length ≤ maxLen) (hlc : l.length ≤ c) (hm : m.length ≤ maxLen) (w : World) (h1 : NodesAt w ad l) (h2 : NodesAt w am m) :
    Calls Tryz.prog 3 #[.slice ad l.length c, .slice am m.length cm, .string (str p)] w fun e w' => e = .returned (.bool true) ∧ Below w.heap.size w w' := by
  by_cases hg : greatN l = true ∨ greatN m = true ∨ 300 < p.length
  · exact tell_great l m p ad am c cm hl hm w h1 h2 hg
  have hgl : greatN l = false := by cases h : greatN l <;> simp_all
  have hgm : greatN m = false := by cases h : greatN m <;> simp_all
  have hgp : p.length ≤ 300 := by omega
  clear hg
  obtain ⟨nl, sl⟩ := greatN_no hgl
  obtain ⟨nm, sm⟩ := greatN_no hgm
  have HI := Lib.hid info_nd4
  have HIR := Lib.hid info_rn4
  have G1 := greatN_any l ad c hl w h1
  have G2 := greatN_any m am cm hm w h2
  rw [hgl] at G1
  rw [hgm] at G2
  have D1 := fun (W : World) (hb : Below w.heap.size w W) => doc_any l ad c (by omega) W (h1.below hb)
  have D2 := fun (W : World) (hb : Below w.heap.size w W) => doc_any m am cm (by omega) W (h2.below hb)
  have sl9 : ∀ x ∈ l, x.path.length ≤ 900000 ∧ x.data.length ≤ 900000 := fun x hx => by have := sl x hx; omega
  have HFAM : Hid (∀ (a2 a3 : Option Addr) (c2 c3 : Nat) (W0 : World), Below w.heap.size w W0 → NodesAt W0 a2 l → NodesAt W0 a3 m →
      (∀ W, Below W0.heap.size W0 W → Calls Tryz.prog 8 #[.slice ad l.length c] W fun e w' => e = .returned (.tuple #[.string (str (put16 l).1), .int .i64 (put16 l).2]) ∧ Below W0.heap.size W0 w') ∧
      (∀ W, Below W0.heap.size W0 W → Calls Tryz.prog 9 #[.slice a2 l.length c2] W fun e w' => e = .returned (.tuple #[.string (str (put16 l).1), .int .i64 (put16 l).2]) ∧ Below W0.heap.size W0 w') ∧
      (∀ W, Below W0.heap.size W0 W → Calls Tryz.prog 10 #[.slice ad l.length c, .string (str p)] W fun e w' => e = .returned (.tuple #[.agg (ndA ((findN l p).getD nd0)), .bool (findN l p).isSome]) ∧ Below W0.heap.size W0 w') ∧
      (∀ W, Below W0.heap.size W0 W → Calls Tryz.prog 11 #[.slice a2 l.length c2, .string (str p)] W fun e w' => e = .returned (.tuple #[.agg (ndA ((findN l p).getD nd0)), .bool (findN l p).isSome]) ∧ Below W0.heap.size W0 w') ∧
      (∀ W, Below W0.heap.size W0 W → Calls Tryz.prog 12 #[.slice ad l.length c] W fun e w' => e = .returned (.int .i64 (checkT l)) ∧ Below W0.heap.size W0 w') ∧
      (∀ W, Below W0.heap.size W0 W → Calls Tryz.prog 13 #[.slice a2 l.length c2] W fun e w' => e = .returned (.int .i64 (checkT l)) ∧ Below W0.heap.size W0 w') ∧
      (∀ W, Below W0.heap.size W0 W → Calls Tryz.prog 14 #[.slice ad l.length c] W fun e w' => e = .returned (.int .i64 (bytesN l : Int)) ∧ Below W0.heap.size W0 w') ∧
      (∀ W, Below W0.heap.size W0 W → Calls Tryz.prog 15 #[.slice a2 l.length c2] W fun e w' => e = .returned (.int .i64 (bytesN l : Int)) ∧ Below W0.heap.size W0 w') ∧
      (∀ W, Below W0.heap.size W0 W → Calls Tryz.prog 16 #[.slice ad l.length c, .slice am m.length cm] W fun e w' => e = .returned (.bool (decide (l = m))) ∧ Below W0.heap.size W0 w') ∧
      (∀ W, Below W0.heap.size W0 W → Calls Tryz.prog 17 #[.slice a2 l.length c2, .slice a3 m.length c3] W fun e w' => e = .returned (.bool (decide (l = m))) ∧ Below W0.heap.size W0 w') ∧
      (∀ W, Below W0.heap.size W0 W → Calls Tryz.prog 16 #[.slice ad l.length c, .slice ad l.length c] W fun e w' => e = .returned (.bool true) ∧ Below W0.heap.size W0 w')) := Lib.hid fun a2 a3 c2 c3 W0 hb0 n2 n3 =>
    have q1 : NodesAt W0 ad l := h1.below hb0
    have q2 : NodesAt W0 am m := h2.below hb0
    ⟨on_below fun W hb => put16_any l ad c hl hlc sl9 W (q1.below hb),
     on_below fun W hb => rput16_any l a2 c2 (by omega) sl9 W (n2.below hb),
     on_below fun W hb => find_any l p ad c hl sl9 W (q1.below hb),
     on_below fun W hb => rfind_any l p a2 c2 hl W (n2.below hb),
     on_below fun W hb => check_any l ad c hl hlc (fun x hx => (sl9 x hx).1) W (q1.below hb),
     on_below fun W hb => check16 l a2 c2 (by omega) (fun x hx => (sl9 x hx).1) W (n2.below hb),
     on_below fun W hb => bytesN_any l ad c (by omega) (fun x hx => by have := sl x hx; omega) W (q1.below hb),
     on_below fun W hb => rbytesN_any l a2 c2 (by omega) (fun x hx => by have := sl x hx; omega) W (n2.below hb),
     on_below fun W hb => sameT (sameN_any l m ad am c cm W (q1.below hb) (q2.below hb) (by omega)) decide_eq_true_iff,
     on_below fun W hb => sameT (rsameN_any l m a2 a3 c2 c3 W (n2.below hb) (n3.below hb) (by omega)) decide_eq_true_iff,
     on_below fun W hb => sameT (sameN_any l l ad ad c c W (q1.below hb) (q1.below hb) (by omega)) (by simp)⟩
  have eF : ∀ w, (Op.equalIn 10000 35 (.agg (ndV ((findN l p).getD nd0)).toArray) (.agg (ndV ((findN l p).getD nd0)).toArray)).run Tryz.prog w = .ok true w := fun w => by
    rw [ndV_arr, eq_rn w 9998, (eqNB_iff _ _).2 rfl]
  have zp := str_size p
  have hone := Lib.hid (ndA_one ((findN l p).getD nd0))
  generalize decide (l = m) = DD at *
  generalize checkT l = CT at *
  generalize bytesN l = BT at *
  generalize (put16 l).2 = PE at *
  generalize str (put16 l).1 = PS at *
  generalize (findN l p).isSome = FO at *
  generalize (findN l p).getD nd0 = FN at *
  generalize str p = SP at *
  generalize l.length = N at *
  generalize m.length = M at *
  generalize p.length = Q at *
  have gq : ¬ (300 : Int) < (Q : Int) := by omega
  clear h1 h2 hgl hgm hgp sl sm sl9 hl hm hlc nl nm
  go_enter Tryz.func3, Tryz.ntmps3
  go_upto_region 3 with (go_at_call 5; first
    | ((with_reducible refine G1.mono ?_); rintro e w1 ⟨rfl, rfl⟩)
    | ((with_reducible refine G2.mono ?_); rintro e w1 ⟨rfl, rfl⟩))
  go_upto_region 4 with (go_at_call 7; first
    | ((with_reducible refine (D1 _ (Below.refl _ _)).mono ?_); rintro e w1 ⟨⟨a2, c2, rfl, n2⟩, hb1⟩)
    | ((with_reducible refine (D2 _ hb1).mono ?_); rintro e w2 ⟨⟨a3, c3, rfl, n3⟩, hb2⟩))
  have HB2 := Lib.hid (hb1.trans (hb2.mono hb1.size))
  have HF2 := Lib.hid (HFAM.out a2 a3 c2 c3 w2 HB2.out (n2.below hb2) n3)
  have HN2 := Lib.hid (n2.below hb2)
  have HN3 := Lib.hid n3
  clear G1 G2 D1 D2 hb1 hb2 n2 n3
  obtain ⟨P1, P2, F1, -⟩ := HF2.out
  go_upto_region 5 with (go_at_call 8; ((with_reducible refine (P1 _ (Below.refl _ _)).mono ?_); rintro e w3 ⟨rfl, hb3⟩))
  go_upto_region 6 with (go_at_call 9; ((with_reducible refine (P2 _ hb3).mono ?_); rintro e w4 ⟨rfl, hb4⟩))
  go_upto_region 7 with (first
    | (go_at_call 10; ((with_reducible refine (F1 _ hb4).mono ?_); rintro e w5 ⟨rfl, hb5⟩))
    | ((with_reducible show wpList _ _ _ (⟨none, .store _ (.tmp 13) _, _, _, _, _⟩ :: _) _ _); refine wpList_store_last rfl 32 _ _ rfl w5.heap.size (ndA FN) rfl rfl 32 _ rfl HI.out rfl hone.out ?_; obtain ⟨W5, hW5⟩ : ∃ W5, W5 = w5.alloc (.cells (ndA FN) 32) := ⟨_, rfl⟩; have HW5 := Lib.hid hW5; clear hW5; rw [← HW5.out])
    | go_in)
  have HB5 : Hid (Below w2.heap.size w2 W5) := Lib.hid (by rw [HW5.out]; exact hb5.alloc hb5.size _)
  have HZ5 : Hid (rowC W5 w5.heap.size (ndA FN) 32) := Lib.hid (by rw [HW5.out]; exact rowC_new w5 _ _)
  have HBW5 := Lib.hid (HB2.out.trans (HB5.out.mono HB2.out.size))
  obtain ⟨-, -, -, F2, -⟩ := HFAM.out a2 a3 c2 c3 W5 HBW5.out (HN2.out.below HB5.out) (HN3.out.below HB5.out)
  generalize w5.heap.size = B5 at *
  clear P1 P2 F1 hb3 hb4 hb5 HW5 HF2
  go_upto_region 8 with (first
    | (go_at_call 11; ((with_reducible refine (F2 _ (Below.refl _ _)).mono ?_); rintro e w6 ⟨rfl, hb6⟩))
    | ((with_reducible show wpList _ _ _ (⟨none, .store _ (.tmp 15) _, _, _, _, _⟩ :: _) _ _); refine wpList_store_last rfl 35 _ _ rfl w6.heap.size (ndA FN) rfl rfl 35 _ rfl HIR.out rfl hone.out ?_; obtain ⟨W6, hW6⟩ : ∃ W6, W6 = w6.alloc (.cells (ndA FN) 35) := ⟨_, rfl⟩; have HW6 := Lib.hid hW6; clear hW6; rw [← HW6.out])
    | go_in)
  have HB6 : Hid (Below W5.heap.size W5 W6) := Lib.hid (by rw [HW6.out]; exact hb6.alloc hb6.size _)
  have HZ6 : Hid (rowC W6 w6.heap.size (ndA FN) 35) := Lib.hid (by rw [HW6.out]; exact rowC_new w6 _ _)
  have HZ5b := Lib.hid (rowC_below HZ5.out HB6.out (rowC_lt HZ5.out))
  have HBW6 := Lib.hid (HBW5.out.trans (HB6.out.mono HBW5.out.size))
  have HQ := Lib.hid (HFAM.out a2 a3 c2 c3 W6 HBW6.out ((HN2.out.below HB5.out).below HB6.out) ((HN3.out.below HB5.out).below HB6.out))
  obtain ⟨-, -, -, -, C5, C6, C7, C8, C9, C10, C11⟩ := HQ.out
  have C12 := laidT W6
  generalize w6.heap.size = B6 at *
  have gd := guard_rn
  have hud := Tryz.underlying35
  clear F2 hb6 HW6 HQ HFAM HN2 HN3 HZ5 HB5 HB6
  go_wp2_with (first
    | (go_at_call 12; ((with_reducible refine (C5 _ (Below.refl _ _)).mono ?_); rintro e v1 ⟨rfl, b1⟩))
    | (go_at_call 13; ((with_reducible refine (C6 _ b1).mono ?_); rintro e v2 ⟨rfl, b2⟩))
    | ((with_reducible show wpList _ _ _ (⟨some 71, .load _ _, _, _, _, _⟩ :: _) _ _); refine wpList_load_at rfl 32 _ rfl ⟨B5, 0, none⟩ rfl (ndV FN) _ (row_cells (rowC_below HZ5b.out b2 (rowC_lt HZ5b.out))) Tryz.underlying32 rfl HI.out ?_)
    | ((with_reducible show wpList _ _ _ (⟨some 72, .load _ _, _, _, _, _⟩ :: _) _ _); refine wpList_load_at rfl 35 _ rfl ⟨B6, 0, none⟩ rfl (ndV FN) _ (row_cells (rowC_below HZ6.out b2 (rowC_lt HZ6.out))) Tryz.underlying35 rfl HIR.out ?_)
    | (go_at_call 14; ((with_reducible refine (C7 _ b2).mono ?_); rintro e v3 ⟨rfl, b3⟩))
    | (go_at_call 15; ((with_reducible refine (C8 _ b3).mono ?_); rintro e v4 ⟨rfl, b4⟩))
    | (go_at_call 16; first
      | ((with_reducible refine (C9 _ b4).mono ?_); rintro e v5 ⟨rfl, b5⟩)
      | ((with_reducible refine (C11 _ b6).mono ?_); rintro e v7 ⟨rfl, b7⟩))
    | (go_at_call 17; ((with_reducible refine (C10 _ b5).mono ?_); rintro e v6 ⟨rfl, b6⟩))
    | (go_at_call 6; ((with_reducible refine (C12 _ b7).mono ?_); rintro e v8 ⟨rfl, b8⟩)))
  go_ret
  exact ⟨rfl, HBW6.out.trans (b8.mono HBW6.out.size)⟩
end Go.Proofs.YtoallfcpnbhhiaaGreatDoor

