/- Merged: Rnd, OfH, OfJ. -/
import Derived.Sort.QuietThIn
import Derived.Sort.BigQuietIn
import Derived.StillTail
import Derived.TacticsIn
import Derived.Test.YtnkencdibniagaaGreatDoorM40
import Derived.Sort.QuietLawsIn
/- Generic: a region that draws its order, in a fence, in a round too: all of it quiet, or all but a forced end, under any class of worlds. (It names nothing of the cut.) -/
namespace Go.Proofs.YtnkencdibniagaaGreatDoor
open Go

/-- A wide fence lets every call through, in a round too. -/
theorem wide_fn (f : FuncId) : Fence.wide.fn f = True := eq_true trivial
theorem round_fn (l : Nat) (f : FuncId) : (Fence.wide.inRound l).fn f = True := eq_true trivial
/-- No operation puts a call off. -/
def noDef (l : List Oper) : Bool := l.all fun o => match o.op with | .defer _ => false | _ => true
theorem noDef_at {l : List Oper} (h : noDef l = true) {i : Nat} {o : Oper} (ho : l.toArray[i]? = some o) : ∀ c, o.op ≠ .defer c := by
  intro c hc
  have hm : o ∈ l := List.mem_of_getElem? (by simpa using ho)
  have := List.all_eq_true.1 h o hm
  rw [hc] at this
  cases this
section
variable {F : Fence} {n : Nat} {P : Program} {l : List Oper} {md : Region.Mode} {C : World → Prop}

theorem op_quiet {o : Oper} {a : Act} {K : Act → Prop} {K' : Act → World → Prop} {Q' : Exit → Act → World → Prop} {w : World} (hd : ∀ c, o.op ≠ .defer c) (hw : C w) (h : ∀ a w', C w' → K a → K' a w')
    (ha : o.askedIn F P a C) (hq : o.quietIn F n P a C K) : o.wpIn F n P a w K' Q' := by
  obtain ⟨v, hv, hk⟩ := hq
  have hv := hv w hw
  unfold Oper.quietAtIn at hv
  refine ⟨ha w hw, ?_⟩
  rw [Oper.semAt_eq _ _ _ hd]
  cases hr : (execOp a.eval o).run P w with
  | halt x w' => rw [hr] at hv; exact hv.elim
  | ok x w' =>
    rw [hr] at hv
    cases x with
    | value u => obtain ⟨rfl, rfl⟩ := hv; exact h _ _ hw hk
    | skip => obtain ⟨rfl, rfl⟩ := hv; exact h _ _ hw hk
    | enter f args =>
      obtain ⟨rfl, hdep, hc⟩ := hv
      exact ⟨hdep, hc.mono fun e w'' hh => by obtain ⟨rfl, hC⟩ := hh; exact h _ _ hC hk⟩
    | _ => exact hv.elim
theorem wpOp_quiet {i : Nat} {a : Act} {K : Act → Prop} {K' : Act → World → Prop} {Q' : Exit → Act → World → Prop} {w : World} (hd : noDef l = true) (hw : C w) (h : ∀ a w', C w' → K a → K' a w')
    (hq : qOpIn F n P l.toArray C i K a) : wpOpIn F n P l.toArray Q' i K' a w := by
  unfold qOpIn at hq
  unfold wpOpIn
  cases ho : l.toArray[i]? with
  | none => rw [ho] at hq; exact h _ _ hw hq
  | some o =>
    rw [ho] at hq
    obtain ⟨ha, hq⟩ := hq
    by_cases hg : Region.wanted o (yielded l.toArray a.tmps) = true
    · simp only [hg, if_true] at hq ⊢; exact op_quiet (noDef_at hd ho) hw h ha hq
    · simp only [hg, Bool.false_eq_true, if_false] at hq ⊢; exact ⟨ha w hw, h _ _ hw hq⟩
theorem wpAny_quietR {Q : Act → Prop} {Q' : Exit → Act → World → Prop} (hd : noDef l = true) (hQ : ∀ a w, C w → Q a → Q' .normal a w) : ∀ (f : Nat) (listed : Array Bool) (a : Act) (w : World), C w →
    wpAnyQIn F n P md l.toArray C Q f listed a → wpAnyIn F n P md l.toArray Q' f listed a w
  | 0, _, _, _, hw, h => ⟨h.1, hQ _ _ hw h.2⟩
  | f + 1, _, _, _, hw, h => ⟨fun h0 => hQ _ _ hw (h.1 h0), fun i hi => wpOp_quiet hd hw (fun a' w' hw' hk => wpAny_quietR hd hQ f _ a' w' hw' hk) (h.2 i hi)⟩
/-- All of it is quiet. -/
theorem region_quiet {id : Nat} {Q : Exit → Act → World → Prop} {a : Act} {w : World} (hm : P.follows .mixedOrders = true) (hd : noDef l = true) (hB : Region.lexB .any l.toArray = true) (hC : C w.drew)
    (h : wpQuietIn F n P l.toArray C (fun a' => ∀ w', C w' → Q .normal a' w') l a) : (Code.region id l.toArray true).wpIn F n P Q a w := by
  simp only [Region.lexB, Bool.and_eq_true] at hB
  refine wpIn_region_any hm (wpAny_quietR (Q := fun a' => ∀ w', C w' → Q .normal a' w') hd (fun _ w' hw' h => h w' hw') _ _ _ w.drew hC ?_)
  have := wpAnyQIn_lex (F := F) (n := n) (P := P) (C := C) (md := .any) hB.1 l 0 (Array.replicate l.toArray.size false) a (by simp) (by simpa using hB.2) h
  simpa using this
/-! ### All but a forced end -/
end
end Go.Proofs.YtnkencdibniagaaGreatDoor

/- Layer 13: what OciKind keeps; quiet loads of rows. -/
namespace Go.Proofs.YtnkencdibniagaaGreatDoor
open Go.RowKit

/-- Worlds that have no more than new blocks. -/
structure After (w : World) where
  v : World
  h : Below w.heap.size w v
instance (w : World) : Nonempty (After w) := ⟨⟨w, Below.refl _ _⟩⟩
theorem own_des {w : World} {B : Nat} {a : Option Addr} {n c : Nat} {Y : List DV} (h : w.ownsRow B 28 36 (.slice a n c) Y.length (flatD Y)) (hY : ∀ d ∈ Y, goodD d) : eDess.at_ w (fun k => k < w.heap.size) Y (.slice a n c) := by
  have h1 := rows_own (enc := encD) (good := goodD) (acc := Y) h (fun d hd => ⟨hY d hd, encD_size d (hY d hd)⟩)
  exact eDess.mono h1 (fun k _ hk => hk)
end Go.Proofs.YtnkencdibniagaaGreatDoor

/- Layer 13: two lists of descriptors, two of digests: are they the same? -/
namespace Go.Proofs.YtnkencdibniagaaGreatDoor
open Go.RowKit
attribute [local go_sem] wide_fn round_fn

theorem wpQuietIn_load_at {F : Fence} {n : Nat} {ops : Array Oper} {C : World → Prop} {Q : Act → Prop} {o : Oper} {rest : List Oper} {a : Act} (hF : ∀ f, F.fn f) (hw : Region.wanted o (yielded ops a.tmps) = true) (ty : TypeId) (x : Operand) (ho : o.op = .load ty x)
    (p : Addr) (hx : a.eval x = .pointer (some p)) (cs : List Value) (d : TypeDesc) (hc : ∀ w, C w → ∀ j v, cs[j]? = some v → w.cell? (p.add j) = some v)
    (hu : Tryz.prog.underlying ty = some d) (hd : d.isRow = true) (hi : (Tryz.prog.info? ty).map (·.size) = some cs.length)
    (h : wpQuietIn F n Tryz.prog ops C Q rest (a.put o.dst (.agg cs.toArray))) : wpQuietIn F n Tryz.prog ops C Q (o :: rest) a :=
  wpQuietIn_step (fun _ _ f _ => hF f) (fun K hK => by
    rw [if_pos hw]
    exact ⟨.agg cs.toArray, fun w hC => by
    unfold Oper.quietAtIn execOp
    simp only [ho, hx, Instr.loadAt, Instr.sureAddr, Sem.run_bind, Sem.run_pure, Result.andThen_ok, run_loadVar_at w p ty cs d (hc w hC) hu hd hi]
    exact ⟨rfl, rfl⟩, hK _ h⟩)
theorem take_succ_eq {α : Type} {A B : List α} {j : Nat} {a : α} (ha : A[j]? = some a) (hb : B[j]? = some a) (h : A.take j = B.take j) : A.take (j + 1) = B.take (j + 1) := by
  rw [List.take_add_one, List.take_add_one, ha, hb, h]
theorem ne_at {α : Type} {A B : List α} {j : Nat} {a b : α} (ha : A[j]? = some a) (hb : B[j]? = some b) (h : a ≠ b) : A ≠ B := fun e => by
  rw [e, hb] at ha
  exact h (Option.some.inj ha).symm
theorem guard_dig : Tryz.prog.eqGuardType Tryz.prog.depth 24 = false := by kernel_rfl
set_option maxRecDepth 100000 in
set_option maxHeartbeats 16000000 in
theorem same_any (A B : List DV) (x y : Option Addr) (cx cy : Nat) (w : World) (hA : eDess.at_ w (fun k => k < w.heap.size) A (.slice x A.length cx)) (hB : eDess.at_ w (fun k => k < w.heap.size) B (.slice y B.length cy)) (hlA : A.length < 2 ^ 48) :
    Calls Tryz.prog 15 #[.slice x A.length cx, .slice y B.length cy] w fun e w' => ∃ b, e = .returned (.bool b) ∧ (b = true ↔ A = B) ∧ Below w.heap.size w w' := by
  have HA := Lib.hid hA
  have HB := Lib.hid hB
  obtain ⟨N, hN⟩ : ∃ N, N = A.length := ⟨_, rfl⟩
  obtain ⟨M, hM⟩ : ∃ M, M = B.length := ⟨_, rfl⟩
  have HN := Lib.hid hN
  have HM := Lib.hid hM
  rw [← hN] at hlA ⊢
  rw [← hM]
  clear hN hM hA hB
  go_enter Tryz.func15, Tryz.ntmps15
  by_cases hne : N = M
  rotate_left
  · have g1 : ((N : Int) == (M : Int)) = false := by rw [beq_eq_false_iff_ne]; omega
    have e0 : Hid (A ≠ B) := Lib.hid (fun e => hne (by rw [HN.out, HM.out, e]))
    clear hne
    go_wp2
    go_ret
    exact ⟨_, rfl, ⟨(fun h => by cases h), fun h => absurd h e0.out⟩, Below.refl _ _⟩
  subst hne
  have HMM := HM
  clear HM
  go_wp2
  go_loopw [5] (fun v wr => ∃ j : Nat, j ≤ N ∧ v = .int .i64 j ∧ Hid (A.take j = B.take j) ∧ Hid (Below w.heap.size w wr)) (fun v _ => N - (intOf v).toNat)
  case atStart => exact ⟨0, Nat.zero_le _, rfl, Lib.hid rfl, Lib.hid (Below.refl _ _)⟩
  case round =>
    obtain ⟨j, hjN, rfl, hT, hBl⟩ := hrel
    by_cases hj : j < N
    · have g1 : (j : Int) < (N : Int) := by omega
      obtain ⟨a, ha⟩ : ∃ a, A[j]? = some a := ⟨_, List.getElem?_eq_getElem (by have := HN.out; omega)⟩
      obtain ⟨b, hb⟩ : ∃ b, B[j]? = some b := ⟨_, List.getElem?_eq_getElem (by have := HMM.out; omega)⟩
      obtain ⟨hga, adx, rfl, hax, hcx⟩ := dess_at HA.out ha
      obtain ⟨hgb, ady, rfl, hay, hcy⟩ := dess_at HB.out hb
      have HCX := Lib.hid (show ∀ v : After wr, ∀ i u, (encL a)[i]? = some u → v.v.cell? ((adx.add (j * 36)).add i) = some u from fun v i u hu => by
        rw [World.cell?_of_block (w := w) (w' := v.v) ((hBl.out.trans (v.h.mono hBl.out.size)).block _ (by rw [add_block, add_block]; exact hax))]
        exact hcx i u hu)
      have HCY := Lib.hid (show ∀ v : After wr, ∀ i u, (encL b)[i]? = some u → v.v.cell? ((ady.add (j * 36)).add i) = some u from fun v i u hu => by
        rw [World.cell?_of_block (w := w) (w' := v.v) ((hBl.out.trans (v.h.mono hBl.out.size)).block _ (by rw [add_block, add_block]; exact hay))]
        exact hcy i u hu)
      have HIA := Lib.hid (show (Tryz.prog.info? 28).map (·.size) = some (encL a).length by rw [encL_len hga.1]; exact info_D)
      have HIB := Lib.hid (show (Tryz.prog.info? 28).map (·.size) = some (encL b).length by rw [encL_len hgb.1]; exact info_D)
      have eq1 : ∀ w, (Op.equalIn 10000 28 (.agg (encL a).toArray) (.agg (encL b).toArray)).run Tryz.prog w = .ok (eqDB a b) w := fun w => by
        rw [← encD_list, ← encD_list]
        exact eq_desc w 9997 hga.1 hgb.1
      have gd := guard_desc
      have hud := Tryz.underlying28
      have HST := Lib.hid (fun (e : a = b) => take_succ_eq ha (by rw [hb, e]) hT.out)
      have HNE := Lib.hid (fun (e : a ≠ b) => ne_at ha hb e)
      have HQ := Lib.hid (eqDB_iff a b)
      obtain ⟨eb, heb⟩ : ∃ eb, eb = eqDB a b := ⟨_, rfl⟩
      rw [← heb] at eq1 HQ
      clear ha hb hga hgb hax hay hcx hcy heb hj hT
      go_upto_region 6 with (fail)
      refine (wpIn_wide (n := 4)).1 ?_
      refine region_quiet (C := fun w' => ∃ y : After wr, w' = y.v) (by kernel_rfl) (by kernel_rfl) (by kernel_rfl) ⟨⟨wr.drew, (Below.refl _ _).drew⟩, rfl⟩ ?_
      iterate 3 (gi_big_quiet_step (fail))
      refine wpQuietIn_load_at (fun _ => trivial) rfl 28 _ rfl (adx.add (j * 36)) rfl (encL a) _ (by rintro _ ⟨y, rfl⟩; exact HCX.out y) hud rfl HIA.out ?_
      simp only [Act.put, List.setIfInBounds_toArray, List.set_cons_zero, List.set_cons_succ]
      iterate 3 (gi_big_quiet_step (fail))
      refine wpQuietIn_load_at (fun _ => trivial) rfl 28 _ rfl (ady.add (j * 36)) rfl (encL b) _ (by rintro _ ⟨y, rfl⟩; exact HCY.out y) hud rfl HIB.out ?_
      simp only [Act.put, List.setIfInBounds_toArray, List.set_cons_zero, List.set_cons_succ]
      gi_big_quiet_step (fail)
      refine wpQuietIn_nil ?_
      rintro _ ⟨v, rfl⟩
      have HBV := Lib.hid (hBl.out.trans (v.h.mono hBl.out.size))
      clear HCX HCY eq1
      cases eb
      · gi_wp2
        go_wp2
        go_ret
        exact ⟨_, rfl, ⟨(fun h => by cases h), fun h => absurd h (HNE.out (fun e => by have h5 := HQ.out.2 e; cases h5))⟩, HBV.out⟩
      · gi_wp2
        go_wp2
        go_roundw
        case rel => exact ⟨j + 1, by omega, by go_num, Lib.hid (HST.out (HQ.out.1 (by trivial))), HBV⟩
        case measure => simp [intOf] <;> omega
    · go_wp2
      go_ret
      exact ⟨_, rfl, ⟨fun _ => by have h := hT.out; rw [List.take_of_length_le (by have := HN.out; omega), List.take_of_length_le (by have := HMM.out; omega)] at h; exact h, fun _ => rfl⟩, hBl.out⟩
set_option maxRecDepth 100000 in
set_option maxHeartbeats 16000000 in
theorem samedig_any (A B : List Bs) (x y : Option Addr) (cx cy : Nat) (w : World) (hA : eDigs.at_ w (fun k => k < w.heap.size) A (.slice x A.length cx)) (hB : eDigs.at_ w (fun k => k < w.heap.size) B (.slice y B.length cy)) (hlA : A.length < 2 ^ 48) :
    Calls Tryz.prog 16 #[.slice x A.length cx, .slice y B.length cy] w fun e w' => ∃ b, e = .returned (.bool b) ∧ (b = true ↔ A = B) ∧ Below w.heap.size w w' := by
  have HA := Lib.hid hA
  have HB := Lib.hid hB
  obtain ⟨N, hN⟩ : ∃ N, N = A.length := ⟨_, rfl⟩
  obtain ⟨M, hM⟩ : ∃ M, M = B.length := ⟨_, rfl⟩
  have HN := Lib.hid hN
  have HM := Lib.hid hM
  rw [← hN] at hlA ⊢
  rw [← hM]
  clear hN hM hA hB
  go_enter Tryz.func16, Tryz.ntmps16
  by_cases hne : N = M
  rotate_left
  · have g1 : ((N : Int) == (M : Int)) = false := by rw [beq_eq_false_iff_ne]; omega
    have e0 : Hid (A ≠ B) := Lib.hid (fun e => hne (by rw [HN.out, HM.out, e]))
    clear hne
    go_wp2
    go_ret
    exact ⟨_, rfl, ⟨(fun h => by cases h), fun h => absurd h e0.out⟩, Below.refl _ _⟩
  subst hne
  have HMM := HM
  clear HM
  go_wp2
  go_loopw [5] (fun v wr => ∃ j : Nat, j ≤ N ∧ v = .int .i64 j ∧ Hid (A.take j = B.take j) ∧ Hid (Below w.heap.size w wr)) (fun v _ => N - (intOf v).toNat)
  case atStart => exact ⟨0, Nat.zero_le _, rfl, Lib.hid rfl, Lib.hid (Below.refl _ _)⟩
  case round =>
    obtain ⟨j, hjN, rfl, hT, hBl⟩ := hrel
    by_cases hj : j < N
    · have g1 : (j : Int) < (N : Int) := by omega
      obtain ⟨a, ha⟩ : ∃ a, A[j]? = some a := ⟨_, List.getElem?_eq_getElem (by have := HN.out; omega)⟩
      obtain ⟨b, hb⟩ : ∃ b, B[j]? = some b := ⟨_, List.getElem?_eq_getElem (by have := HMM.out; omega)⟩
      obtain ⟨hga, adx, rfl, hax, hcx⟩ := digs_at HA.out ha
      obtain ⟨hgb, ady, rfl, hay, hcy⟩ := digs_at HB.out hb
      have HCX := Lib.hid (show ∀ v : After wr, ∀ i u, (cells8 a).toList[i]? = some u → v.v.cell? ((adx.add (j * 32)).add i) = some u from fun v i u hu => by
        rw [World.cell?_of_block (w := w) (w' := v.v) ((hBl.out.trans (v.h.mono hBl.out.size)).block _ (by rw [add_block, add_block]; exact hax))]
        exact hcx i u hu)
      have HCY := Lib.hid (show ∀ v : After wr, ∀ i u, (cells8 b).toList[i]? = some u → v.v.cell? ((ady.add (j * 32)).add i) = some u from fun v i u hu => by
        rw [World.cell?_of_block (w := w) (w' := v.v) ((hBl.out.trans (v.h.mono hBl.out.size)).block _ (by rw [add_block, add_block]; exact hay))]
        exact hcy i u hu)
      have HIA := Lib.hid (show (Tryz.prog.info? 24).map (·.size) = some (cells8 a).toList.length by rw [Array.length_toList, cells8_size, hga]; exact info_G)
      have HIB := Lib.hid (show (Tryz.prog.info? 24).map (·.size) = some (cells8 b).toList.length by rw [Array.length_toList, cells8_size, hgb]; exact info_G)
      have eq1 : ∀ w, (Op.equalIn 10000 24 (.agg (cells8 a).toList.toArray) (.agg (cells8 b).toList.toArray)).run Tryz.prog w = .ok (decide (a = b)) w := fun w => by
        exact eq_digest w 9998 hga hgb
      have gd := guard_dig
      have hud := Tryz.underlying24
      have HST := Lib.hid (fun (e : a = b) => take_succ_eq ha (by rw [hb, e]) hT.out)
      have HNE := Lib.hid (fun (e : a ≠ b) => ne_at ha hb e)
      have HQ := Lib.hid (decide_eq_true_iff (p := a = b))
      obtain ⟨eb, heb⟩ : ∃ eb, eb = decide (a = b) := ⟨_, rfl⟩
      rw [← heb] at eq1 HQ
      clear ha hb hga hgb hax hay hcx hcy heb hj hT
      go_upto_region 6 with (fail)
      refine (wpIn_wide (n := 4)).1 ?_
      refine region_quiet (C := fun w' => ∃ y : After wr, w' = y.v) (by kernel_rfl) (by kernel_rfl) (by kernel_rfl) ⟨⟨wr.drew, (Below.refl _ _).drew⟩, rfl⟩ ?_
      iterate 3 (gi_big_quiet_step (fail))
      refine wpQuietIn_load_at (fun _ => trivial) rfl 24 _ rfl (adx.add (j * 32)) rfl (cells8 a).toList _ (by rintro _ ⟨y, rfl⟩; exact HCX.out y) hud rfl HIA.out ?_
      simp only [Act.put, List.setIfInBounds_toArray, List.set_cons_zero, List.set_cons_succ]
      iterate 3 (gi_big_quiet_step (fail))
      refine wpQuietIn_load_at (fun _ => trivial) rfl 24 _ rfl (ady.add (j * 32)) rfl (cells8 b).toList _ (by rintro _ ⟨y, rfl⟩; exact HCY.out y) hud rfl HIB.out ?_
      simp only [Act.put, List.setIfInBounds_toArray, List.set_cons_zero, List.set_cons_succ]
      gi_big_quiet_step (fail)
      refine wpQuietIn_nil ?_
      rintro _ ⟨v, rfl⟩
      have HBV := Lib.hid (hBl.out.trans (v.h.mono hBl.out.size))
      clear HCX HCY eq1
      cases eb
      · gi_wp2
        go_wp2
        go_ret
        exact ⟨_, rfl, ⟨(fun h => by cases h), fun h => absurd h (HNE.out (fun e => by have h5 := HQ.out.2 e; cases h5))⟩, HBV.out⟩
      · gi_wp2
        go_wp2
        go_roundw
        case rel => exact ⟨j + 1, by omega, by go_num, Lib.hid (HST.out (HQ.out.1 (by trivial))), HBV⟩
        case measure => simp [intOf] <;> omega
    · go_wp2
      go_ret
      exact ⟨_, rfl, ⟨fun _ => by have h := hT.out; rw [List.take_of_length_le (by have := HN.out; omega), List.take_of_length_le (by have := HMM.out; omega)] at h; exact h, fun _ => rfl⟩, hBl.out⟩
end Go.Proofs.YtnkencdibniagaaGreatDoor

