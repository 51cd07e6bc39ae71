/- Layer 15: the law's own Great, Same. -/
import Derived.Test.YtmgpofdmoaafoaaGreatDoorTrS
import Derived.Test.YtmgpofdmoaafoaaGreatDoorByt
import Derived.ChangeKeysEq
namespace Go.Proofs.YtmgpofdmoaafoaaGreatDoor
open Go.RowKit
attribute [local go_sem] wide_fn round_fn

theorem wpQuietIn_load_at {F : Fence} {n : Nat} {ops : Array Oper} {C : World → Prop} {Q : Act → Prop} {o : Oper} {rest : List Oper} {a : Act} (hF : ∀ f, F.fn f) (hw : Region.wanted o (yielded ops a.tmps) = true) (ty : TypeId) (x : Operand) (ho : o.op = .load ty x)
    (p : Addr) (hx : a.eval x = .pointer (some p)) (cs : List Value) (d : TypeDesc) (hc : ∀ w, C w → ∀ j v, cs[j]? = some v → w.cell? (p.add j) = some v)
    (hu : Tryz.prog.underlying ty = some d) (hd : d.isRow = true) (hi : (Tryz.prog.info? ty).map (·.size) = some cs.length)
    (h : wpQuietIn F n Tryz.prog ops C Q rest (a.put o.dst (.agg cs.toArray))) : wpQuietIn F n Tryz.prog ops C Q (o :: rest) a :=
  wpQuietIn_step (fun _ _ f _ => hF f) (fun K hK => by
    rw [if_pos hw]
    exact ⟨.agg cs.toArray, fun w hC => by
    unfold Oper.quietAtIn execOp
    simp only [ho, hx, Instr.loadAt, Instr.sureAddr, Sem.run_bind, Sem.run_pure, Result.andThen_ok, run_loadVar_at w p ty cs d (hc w hC) hu hd hi]
    exact ⟨rfl, rfl⟩, hK _ h⟩)
theorem take_succ_eq {α : Type} {A B : List α} {j : Nat} {a : α} (ha : A[j]? = some a) (hb : B[j]? = some a) (h : A.take j = B.take j) : A.take (j + 1) = B.take (j + 1) := by
  rw [List.take_add_one, List.take_add_one, ha, hb, h]
theorem ne_at {α : Type} {A B : List α} {j : Nat} {a b : α} (ha : A[j]? = some a) (hb : B[j]? = some b) (h : a ≠ b) : A ≠ B := fun e => by
  rw [e, hb] at ha
  exact h (Option.some.inj ha).symm

theorem OwnsE.ents {w : World} {base : Nat} {a : Option Addr} {n c : Nat} {l : List Ent} (h : OwnsE w base (.slice a n c) l) : EntsAt w a l := fun i x hx => by
  have hp : 0 < l.length := by have := (List.getElem?_eq_some_iff.1 hx).1; omega
  obtain ⟨g, c', hv⟩ := owns_some h hp
  simp only [Value.slice.injEq] at hv
  obtain ⟨rfl, rfl, _⟩ := hv
  refine ⟨⟨g, 0, none⟩, rfl, (World.ownsRow.lt h g rfl).2, fun j u hu => ?_⟩
  have hi : i < l.length := (List.getElem?_eq_some_iff.1 hx).1
  have hj : j < 5 := (List.getElem?_eq_some_iff.1 hu).1
  have e : ((⟨g, 0, none⟩ : Addr).add (i * 5)).add j = ⟨g, i * 5 + j, none⟩ := by
    unfold Addr.add
    by_cases h1 : i * 5 = 0 <;> by_cases h2 : j = 0 <;> simp [h1, h2]
  have hrow : (rowE l)[i * 5 + j]? = some u := by
    have : rowE l = rowE (l.take i) ++ (entV x ++ rowE (l.drop (i + 1))) := by
      conv => lhs; rw [← List.take_append_drop i l, List.drop_eq_getElem_cons hi]
      rw [rowE_app]
      have hxe : l[i] = x := by rw [List.getElem?_eq_getElem hi] at hx; exact Option.some.inj hx
      rw [hxe]
      simp [rowE]
    have hl : (rowE (l.take i)).length = i * 5 := by rw [rowE_len, List.length_take]; omega
    rw [this, List.getElem?_append_right (by omega), hl, Nat.add_sub_cancel_left, List.getElem?_append_left (by exact hj)]
    exact hu
  have h2 : w.ownsRow base 39 5 (.slice (some ⟨g, 0, none⟩) l.length c) l.length (rowE l) := h
  rw [e]
  exact (World.ownsRow.cellAt h2 _ (by omega)).trans hrow
/-! ### Two entries -/
theorem fields_ent : (Tryz.prog.fieldsOf 39).toList = [⟨"Kind", 3, 0, false, "", "", 0⟩, ⟨"Name", 9, 1, false, "", "", 8⟩, ⟨"To", 9, 2, false, "", "", 24⟩, ⟨"Mode", 3, 3, false, "", "", 40⟩, ⟨"Data", 9, 4, false, "", "", 48⟩] := by kernel_rfl
theorem eq_ent (w : World) (d : Nat) (a b : Ent) : (Op.equalIn (d + 2) 39 (.agg (entV a).toArray) (.agg (entV b).toArray)).run Tryz.prog w = .ok (decide (a = b)) w := by
  rw [run_equalIn_struct w (d + 1) _ _ _ (by kernel_rfl) (by kernel_rfl), fields_ent]
  have e1 (x y : List UInt8) (w : World) : (Op.equalIn (d + 1) 9 (.string (str x)) (.string (str y))).run Tryz.prog w = .ok (decide (x = y)) w := by
    rw [run_equalIn_string w d _ _ _ Tryz.underlying9, eq_texts]
  have e2 (x y : Int) (w : World) : (Op.equalIn (d + 1) 3 (.int .i64 x) (.int .i64 y)).run Tryz.prog w = .ok (x == y) w := run_equalIn_int w d _ _ _ _ _ Tryz.underlying3
  have p0 (q : Ent) (w : World) : (part 3 (entV q).toArray 0).run Tryz.prog w = .ok (.int .i64 q.kind) w := run_part_plain w (by kernel_rfl) rfl
  have p1 (q : Ent) (w : World) : (part 9 (entV q).toArray 1).run Tryz.prog w = .ok (.string (str q.name)) w := run_part_plain w (by kernel_rfl) rfl
  have p2 (q : Ent) (w : World) : (part 9 (entV q).toArray 2).run Tryz.prog w = .ok (.string (str q.to)) w := run_part_plain w (by kernel_rfl) rfl
  have p3 (q : Ent) (w : World) : (part 3 (entV q).toArray 3).run Tryz.prog w = .ok (.int .i64 q.mode) w := run_part_plain w (by kernel_rfl) rfl
  have p4 (q : Ent) (w : World) : (part 9 (entV q).toArray 4).run Tryz.prog w = .ok (.string (str q.data)) w := run_part_plain w (by kernel_rfl) rfl
  simp only [Op.eqFields, show ("Kind" : String) ≠ "_" by decide, show ("Name" : String) ≠ "_" by decide, show ("To" : String) ≠ "_" by decide, show ("Mode" : String) ≠ "_" by decide, show ("Data" : String) ≠ "_" by decide, ne_eq, not_false_eq_true, if_true, Sem.run_bind, Sem.run_ite, Sem.run_pure, p0, p1, p2, p3, p4, Result.andThen_ok, e1, e2]
  obtain ⟨a1, a2, a3, a4, a5⟩ := a
  obtain ⟨b1, b2, b3, b4, b5⟩ := b
  simp only [Ent.mk.injEq]
  by_cases h1 : a1 = b1 <;> by_cases h2 : a2 = b2 <;> by_cases h3 : a3 = b3 <;> by_cases h4 : a4 = b4 <;> by_cases h5 : a5 = b5 <;> simp [h1, h2, h3, h4, h5]
theorem guard_ent : Tryz.prog.eqGuardType Tryz.prog.depth 39 = false := by kernel_rfl
set_option maxRecDepth 100000 in
set_option maxHeartbeats 16000000 in
theorem same_any (A B : List Ent) (x y : Option Addr) (cx cy : Nat) (w : World) (hA : EntsAt w x A) (hB : EntsAt w y B) (hlA : A.length ≤ maxLen) :
    Calls Tryz.prog 10 #[.slice x A.length cx, .slice y B.length cy] w fun e w' => e = .returned (.bool (decide (A = B))) ∧ Below w.heap.size w w' := by
  have HA := Lib.hid hA
  have HB := Lib.hid hB
  unfold maxLen at hlA
  obtain ⟨N, hN⟩ : ∃ N, N = A.length := ⟨_, rfl⟩
  obtain ⟨M, hM⟩ : ∃ M, M = B.length := ⟨_, rfl⟩
  have HN := Lib.hid hN
  have HM := Lib.hid hM
  rw [← hN] at hlA ⊢
  rw [← hM]
  obtain ⟨R, hR⟩ : ∃ R, R = decide (A = B) := ⟨_, rfl⟩
  have HR := Lib.hid hR
  rw [← hR]
  clear hN hM hA hB hR
  go_enter Tryz.func10, Tryz.ntmps10
  by_cases hne : N = M
  rotate_left
  · have g1 : ((N : Int) == (M : Int)) = false := by rw [beq_eq_false_iff_ne]; omega
    have e0 : Hid (R = false) := Lib.hid (by rw [HR.out]; exact decide_eq_false (fun e => hne (by rw [HN.out, HM.out, e])))
    have hn2 : ¬ N = M := hne
    go_wp2
    go_ret
    exact ⟨by rw [e0.out]; rfl, Below.refl _ _⟩
  subst hne
  have HMM := HM
  clear HM
  go_wp2
  go_loopw [5] (fun v wr => ∃ j : Nat, j ≤ N ∧ v = .int .i64 j ∧ Hid (A.take j = B.take j) ∧ Hid (Below w.heap.size w wr)) (fun v _ => N - (intOf v).toNat)
  case atStart => exact ⟨0, Nat.zero_le _, rfl, Lib.hid rfl, Lib.hid (Below.refl _ _)⟩
  case round =>
    obtain ⟨j, hjN, rfl, hT, hBl⟩ := hrel
    by_cases hj : j < N
    · have g1 : (j : Int) < (N : Int) := by omega
      obtain ⟨a, ha⟩ : ∃ a, A[j]? = some a := ⟨_, List.getElem?_eq_getElem (by have := HN.out; omega)⟩
      obtain ⟨b, hb⟩ : ∃ b, B[j]? = some b := ⟨_, List.getElem?_eq_getElem (by have := HMM.out; omega)⟩
      obtain ⟨adx, rfl, hax, hcx⟩ := HA.out j a ha
      obtain ⟨ady, rfl, hay, hcy⟩ := HB.out j b hb
      have HCX := Lib.hid (show ∀ v : After wr, ∀ i u, (entV a)[i]? = some u → v.v.cell? ((adx.add (j * 5)).add i) = some u from fun v i u hu => by
        rw [cell_far (hBl.out.trans (v.h.mono hBl.out.size)) (by rw [add_blk, add_blk]; exact hax)]
        exact hcx i u hu)
      have HCY := Lib.hid (show ∀ v : After wr, ∀ i u, (entV b)[i]? = some u → v.v.cell? ((ady.add (j * 5)).add i) = some u from fun v i u hu => by
        rw [cell_far (hBl.out.trans (v.h.mono hBl.out.size)) (by rw [add_blk, add_blk]; exact hay)]
        exact hcy i u hu)
      have HIA := Lib.hid info_ent5
      have eq1 : ∀ w, (Op.equalIn 10000 39 (.agg (entV a).toArray) (.agg (entV b).toArray)).run Tryz.prog w = .ok (decide (a = b)) w := fun w => eq_ent w 9998 a b
      have gd := guard_ent
      have hud := Tryz.underlying39
      have HST := Lib.hid (fun (e : a = b) => take_succ_eq ha (by rw [hb, e]) hT.out)
      have HNE := Lib.hid (fun (e : a ≠ b) => ne_at ha hb e)
      obtain ⟨eb, heb⟩ : ∃ eb, eb = decide (a = b) := ⟨_, rfl⟩
      rw [← heb] at eq1
      have HQ : Hid (eb = true ↔ a = b) := Lib.hid (by rw [heb, decide_eq_true_eq])
      clear ha hb hax hay hcx hcy heb hj hT
      go_upto_region 6 with (fail)
      refine (wpIn_wide (n := 4)).1 ?_
      refine region_quiet (C := fun w' => ∃ y : After wr, w' = y.v) (by kernel_rfl) (by kernel_rfl) (by kernel_rfl) ⟨⟨wr.drew, (Below.refl _ _).drew⟩, rfl⟩ ?_
      iterate 3 (gi_big_quiet_step (fail))
      refine wpQuietIn_load_at (fun _ => trivial) rfl 39 _ rfl (adx.add (j * 5)) rfl (entV a) _ (by rintro _ ⟨y, rfl⟩; exact HCX.out y) hud rfl HIA.out ?_
      simp only [Act.put, List.setIfInBounds_toArray, List.set_cons_zero, List.set_cons_succ]
      iterate 3 (gi_big_quiet_step (fail))
      refine wpQuietIn_load_at (fun _ => trivial) rfl 39 _ rfl (ady.add (j * 5)) rfl (entV b) _ (by rintro _ ⟨y, rfl⟩; exact HCY.out y) hud rfl HIA.out ?_
      simp only [Act.put, List.setIfInBounds_toArray, List.set_cons_zero, List.set_cons_succ]
      gi_big_quiet_step (fail)
      refine wpQuietIn_nil ?_
      rintro _ ⟨v, rfl⟩
      have HBV := Lib.hid (hBl.out.trans (v.h.mono hBl.out.size))
      clear HCX HCY eq1
      cases eb
      · gi_wp2
        go_wp2
        go_ret
        have e0 : R = false := by rw [HR.out]; exact decide_eq_false (HNE.out (fun e => by have h5 := HQ.out.2 e; cases h5))
        exact ⟨by rw [e0]; rfl, HBV.out⟩
      · gi_wp2
        go_wp2
        go_roundw
        case rel => exact ⟨j + 1, by omega, by go_num, Lib.hid (HST.out (HQ.out.1 (by trivial))), HBV⟩
        case measure => simp [intOf] <;> omega
    · have e1 : Hid (R = true) := Lib.hid (by
        rw [HR.out]
        refine decide_eq_true ?_
        have h := hT.out
        rwa [List.take_of_length_le (by have := HN.out; omega), List.take_of_length_le (by have := HMM.out; omega)] at h)
      go_wp2
      go_ret
      exact ⟨by rw [e1.out]; rfl, hBl.out⟩
/-! ### More than is gone through -/
def bigE (x : Ent) : Bool := decide (300 < x.name.length) || decide (300 < x.to.length) || decide (1500 < x.data.length)
def greatB (l : List Ent) (most : Nat) : Bool := l.any bigE || decide (most < l.length)
set_option maxRecDepth 100000 in
set_option maxHeartbeats 8000000 in
theorem great_any (l : List Ent) (ad : Option Addr) (c most : Nat) (hlen : l.length ≤ maxLen) (w : World) (h : EntsAt w ad l) :
    Calls Tryz.prog 4 #[.slice ad l.length c, .int .i64 (most : Int)] w fun e w' => e = .returned (.bool (greatB l most)) ∧ w = w' := by
  unfold maxLen at hlen
  obtain ⟨N, hN⟩ : ∃ N, N = l.length := ⟨_, rfl⟩
  have HG : Hid (greatB l most = (l.any bigE || decide (most < N))) := Lib.hid (by rw [hN]; rfl)
  rw [← hN] at hlen ⊢
  have HN := Lib.hid hN
  have HENT := Lib.hid h
  clear hN h
  go_enter Tryz.func4, Tryz.ntmps4
  go_wp2
  go_loop [5] (fun i => ∃ k : Nat, k ≤ N ∧ i = .int .i64 k ∧ Hid ((l.take k).any bigE = false)) (fun i => N - (intOf i).toNat)
  case atStart => exact ⟨0, Nat.zero_le _, rfl, Lib.hid rfl⟩
  case round =>
    obtain ⟨k, hk, rfl, hF⟩ := hrel
    by_cases hlt : k < N
    · have hkl : k < l.length := by rw [← HN.out]; exact hlt
      obtain ⟨a, rfl, hab, hcell⟩ := HENT.out k l[k] (List.getElem?_eq_getElem hkl)
      have HTK : Hid (l.take (k + 1) = l.take k ++ [l[k]]) := Lib.hid (List.take_succ_eq_append_getElem hkl)
      have HMEM : Hid (l[k] ∈ l) := Lib.hid (List.getElem_mem hkl)
      generalize l[k] = x at *
      have c1 : w.cell? ⟨(a.add (k * 5)).block, (a.add (k * 5)).off + 1, none⟩ = some (.string (str x.name)) := hcell 1 _ rfl
      have c2 : w.cell? ⟨(a.add (k * 5)).block, (a.add (k * 5)).off + 2, none⟩ = some (.string (str x.to)) := hcell 2 _ rfl
      have c4 : w.cell? ⟨(a.add (k * 5)).block, (a.add (k * 5)).off + 4, none⟩ = some (.string (str x.data)) := hcell 4 _ rfl
      have z1 := str_size x.name
      have z2 := str_size x.to
      have z4 := str_size x.data
      have g1 : (k : Int) < (N : Int) := by omega
      have HBE : Hid (bigE x = (decide (300 < x.name.length) || decide (300 < x.to.length) || decide (1500 < x.data.length))) := Lib.hid rfl
      generalize str x.name = S1 at *
      generalize str x.to = S2 at *
      generalize str x.data = S4 at *
      have HNX : Hid (bigE x = false → (l.take (k + 1)).any bigE = false) := Lib.hid fun hb => by rw [HTK.out, List.any_append, hF.out]; simp [hb]
      have HYES : Hid (bigE x = true → greatB l most = true) := Lib.hid fun hb => by
        rw [HG.out, List.any_eq_true.2 ⟨x, HMEM.out, hb⟩]; rfl
      clear hcell hab
      by_cases h1 : 300 < x.name.length
      · have HR := Lib.hid (HYES.out (by rw [HBE.out, decide_eq_true h1]; rfl))
        have i1 : (300 : Int) < (S1.size : Int) := by omega
        clear HBE h1 HNX HYES z1 z2 z4
        go_wp2
        go_ret
        exact ⟨by rw [HR.out]; rfl, rfl⟩
      · have i1 : ¬ (300 : Int) < (S1.size : Int) := by omega
        by_cases h2 : 300 < x.to.length
        · have HR := Lib.hid (HYES.out (by rw [HBE.out, decide_eq_true h2]; simp))
          have i2 : (300 : Int) < (S2.size : Int) := by omega
          clear HBE h1 h2 HNX HYES z1 z2 z4
          go_wp2
          go_ret
          exact ⟨by rw [HR.out]; rfl, rfl⟩
        · have i2 : ¬ (300 : Int) < (S2.size : Int) := by omega
          by_cases h4 : 1500 < x.data.length
          · have HR := Lib.hid (HYES.out (by rw [HBE.out, decide_eq_true h4]; simp))
            have i4 : (1500 : Int) < (S4.size : Int) := by omega
            clear HBE h1 h2 h4 HNX HYES z1 z2 z4
            go_wp2
            go_ret
            exact ⟨by rw [HR.out]; rfl, rfl⟩
          · have i4 : ¬ (1500 : Int) < (S4.size : Int) := by omega
            have HR := Lib.hid (HNX.out (by rw [HBE.out, decide_eq_false h1, decide_eq_false h2, decide_eq_false h4]; rfl))
            clear HBE h1 h2 h4 HNX HYES z1 z2 z4
            go_wp2
            go_round
            case rel => exact ⟨k + 1, by omega, by go_num, HR⟩
            case measure => simp [intOf]; omega
    · obtain rfl : k = N := by omega
      have HR : Hid (greatB l most = decide (most < k)) := Lib.hid (by
        have := hF.out
        rw [HN.out, List.take_length] at this
        rw [HG.out, this, Bool.false_or])
      by_cases hmk : most < k
      · have i1 : (most : Int) < (k : Int) := by omega
        rw [decide_eq_true hmk] at HR
        clear hmk
        go_wp2
        go_ret
        exact ⟨by rw [HR.out]; rfl, rfl⟩
      · have i1 : ¬ (most : Int) < (k : Int) := by omega
        rw [decide_eq_false hmk] at HR
        clear hmk
        go_wp2
        go_ret
        exact ⟨by rw [HR.out]; rfl, rfl⟩
end Go.Proofs.YtmgpofdmoaafoaaGreatDoor
