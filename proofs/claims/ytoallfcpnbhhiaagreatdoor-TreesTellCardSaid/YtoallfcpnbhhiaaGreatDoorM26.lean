/- Merged: UvD, UvE. -/
import Derived.Test.YtoallfcpnbhhiaaGreatDoorM25
import Derived.Test.YtoallfcpnbhhiaaGreatDoorM14
import Derived.Test.YtoallfcpnbhhiaaGreatDoorM03
import Derived.ChangeKeysEq
/- Layer 16, the document's own side: Check. -/
namespace Go.Proofs.YtoallfcpnbhhiaaGreatDoor
open Go.RowKit
attribute [local go_sem] wide_fn round_fn

/-- A world behind another. -/
structure AftW (w : World) where
  v : World
  h : Below w.heap.size w v
instance (w : World) : Nonempty (AftW w) := ⟨⟨w, Below.refl _ _⟩⟩
theorem wpQuietIn_load_atN {F : Fence} {n : Nat} {ops : Array Oper} {C : World → Prop} {Q : Act → Prop} {o : Oper} {rest : List Oper} {a : Act} (hF : ∀ f, F.fn f) (hw : Region.wanted o (yielded ops a.tmps) = true) (ty : TypeId) (x : Operand) (ho : o.op = .load ty x)
    (p : Addr) (hx : a.eval x = .pointer (some p)) (cs : List Value) (d : TypeDesc) (hc : ∀ w, C w → ∀ j v, cs[j]? = some v → w.cell? (p.add j) = some v)
    (hu : Tryz.prog.underlying ty = some d) (hd : d.isRow = true) (hi : (Tryz.prog.info? ty).map (·.size) = some cs.length)
    (h : wpQuietIn F n Tryz.prog ops C Q rest (a.put o.dst (.agg cs.toArray))) : wpQuietIn F n Tryz.prog ops C Q (o :: rest) a :=
  wpQuietIn_step (fun _ _ f _ => hF f) (fun K hK => by
    rw [if_pos hw]
    exact ⟨.agg cs.toArray, fun w hC => by
    unfold Oper.quietAtIn execOp
    simp only [ho, hx, Instr.loadAt, Instr.sureAddr, Sem.run_bind, Sem.run_pure, Result.andThen_ok, run_loadVar_at w p ty cs d (hc w hC) hu hd hi]
    exact ⟨rfl, rfl⟩, hK _ h⟩)
/-- What the document's Check says. -/
def DocC (l : List Nd) (c : Int) : Prop := c = 63 ∧ 400 < l.length ∨ l.length ≤ 400 ∧ (c = 0 ∧ (∀ k x, l[k]? = some x → goodAt l k x = true) ∨ c = 2 ∧ ∃ k x, l[k]? = some x ∧ goodAt l k x = false)
set_option maxRecDepth 100000 in
set_option maxHeartbeats 4000000 in
theorem rcheckT_any (l : List Nd) (ad : Option Addr) (c : Nat) (hl : l.length ≤ 1000000) (hp : ∀ x ∈ l, x.path.length ≤ 900000) (w : World) (h : NodesAt w ad l) :
    Calls Tryz.prog 13 #[.slice ad l.length c] w fun e w' => (∃ r, e = .returned (.int .i64 r) ∧ DocC l r) ∧ Below w.heap.size w w' := by
  have HI := Lib.hid info_rn4
  have HN := Lib.hid h
  have HP := Lib.hid hp
  have HX : Hid (∀ i, i < l.length → ∃ x, l[i]? = some x) := Lib.hid fun i hi => ⟨_, List.getElem?_eq_getElem hi⟩
  have HD : Hid (∀ c, DocC l c ↔ (c = 63 ∧ 400 < l.length ∨ l.length ≤ 400 ∧ (c = 0 ∧ (∀ k x, l[k]? = some x → goodAt l k x = true) ∨ c = 2 ∧ ∃ k x, l[k]? = some x ∧ goodAt l k x = false))) := Lib.hid fun c => Iff.rfl
  have HLT : Hid (∀ (k : Nat) (x : Nd), l[k]? = some x → k < l.length) := Lib.hid fun k x hx => (List.getElem?_eq_some_iff.1 hx).1
  have HLM := Lib.hid hl
  obtain ⟨N, hN⟩ : ∃ N, N = l.length := ⟨_, rfl⟩
  have HNL := Lib.hid hN
  rw [← hN] at hl HX HD HLT ⊢
  clear h hp hN
  go_enter Tryz.func13, Tryz.ntmps13
  by_cases h4 : 400 < N
  · have g4 : (400 : Int) < (N : Int) := by omega
    go_wp2
    go_ret
    exact ⟨⟨_, rfl, (HD.out _).2 (.inl ⟨rfl, h4⟩)⟩, Below.refl _ _⟩
  have g4 : ¬ (400 : Int) < (N : Int) := by omega
  go_wp2
  go_loopw [3] (fun i wr => ∃ k : Nat, k ≤ N ∧ i = .int .i64 k ∧ Hid (∀ j y, j < k → l[j]? = some y → goodAt l j y = true) ∧ Hid (Below w.heap.size w wr)) (fun i _ => N - (intOf i).toNat)
  case atStart => exact ⟨0, Nat.zero_le _, rfl, Lib.hid (fun j y hj => by omega), Lib.hid (Below.refl _ _)⟩
  case round =>
    obtain ⟨k, hk, rfl, hok, hB⟩ := hrel
    by_cases hlt : k < N
    · obtain ⟨x, hx⟩ := HX.out k hlt
      have HXX := Lib.hid hx
      obtain ⟨ax, rfl, hax, hcx⟩ := HN.out k x hx
      have HCX : Hid (∀ y : AftW wr, ∀ j u, (ndV x)[j]? = some u → y.v.cell? ((ax.add (k * 4)).add j) = some u) := Lib.hid fun y j u hu => by
        rw [cell_far (hB.out.trans (y.h.mono hB.out.size)) (by rw [add_blk, add_blk]; exact hax)]
        exact hcx j u hu
      have g1 : (k : Int) < (N : Int) := by omega
      have hxl := HP.out x (List.mem_of_getElem? hx)
      have CM : ∀ y : AftW wr, CallsIn Fence.wide 3 Tryz.prog 31 #[.agg (ndV x).toArray] y.v fun e w'' => e = .returned (.bool (mayN x)) ∧ ∃ z : AftW wr, w'' = z.v := fun y =>
        (callsIn_wide.2 (rmay_any x hxl y.v)).mono fun e w'' ⟨he, hb⟩ => ⟨he, ⟨w'', y.h.trans (hb.mono y.h.size)⟩, rfl⟩
      have CP := fun w => rparent_any x.path hxl w
      have CF := Lib.hid (fun W (hb : Below w.heap.size w W) => rfind_any l (parentL x.path) (some ax) c (by unfold maxLen; have := HLM.out; omega) W (HN.out.below hb))
      have qx := fun (y : AftW wr) => show y.v.cell? (ax.add (k * 4)) = some (.string (str x.path)) from by
        have := HCX.out y 0 (.string (str x.path)) rfl
        rwa [addr_zeroR] at this
      have HBAD : Hid (goodAt l k x = false → DocC l 2) := Lib.hid (fun hg => (HD.out _).2 (.inr ⟨by omega, .inr ⟨rfl, k, x, hx, hg⟩⟩))
      have HNXT : Hid (goodAt l k x = true → ∀ j y, j < k + 1 → l[j]? = some y → goodAt l j y = true) := Lib.hid (fun hg j y hj hy => by
        by_cases hjk : j = k
        · subst hjk
          rw [hx] at hy
          cases hy
          exact hg
        · exact hok.out j y (by omega) hy)
      have HG : Hid (goodAt l k x = (mayN x && (riseAt l k x && upAt l x))) := Lib.hid rfl
      cases hMx : mayN x
      · have HGF : Hid (goodAt l k x = false) := Lib.hid (by rw [HG.out, hMx]; rfl)
        rw [hMx] at CM
        clear hx hcx hMx CP CF
        go_upto_region 6 with (fail)
        refine (wpIn_wide (n := 4)).1 ?_
        refine region_quiet (C := fun w' => ∃ y : AftW wr, w' = y.v) (by kernel_rfl) (by kernel_rfl) (by kernel_rfl) ⟨⟨wr.drew, (Below.refl _ _).drew⟩, rfl⟩ ?_
        iterate 3 (gi_big_quiet_step (fail))
        refine wpQuietIn_load_atN (fun _ => trivial) rfl 35 _ rfl (ax.add (k * 4)) rfl (ndV x) _ (by rintro _ ⟨y, rfl⟩; exact HCX.out y) Tryz.underlying35 rfl HI.out ?_
        simp only [Act.put, List.setIfInBounds_toArray, List.set_cons_zero, List.set_cons_succ]
        gi_big_quiet_step ((gi_at_call 31; exact CM _))
        iterate 19 (gi_big_quiet_step (fail))
        refine wpQuietIn_nil ?_
        rintro _ ⟨y, rfl⟩
        have HBY := Lib.hid (hB.out.trans (y.h.mono hB.out.size))
        clear CM qx HCX
        generalize y.v = w2 at *
        gi_wp2
        go_wp2
        go_ret
        exact ⟨⟨_, rfl, HBAD.out HGF.out⟩, HBY.out⟩
      have HMX := Lib.hid hMx
      rw [hMx] at CM
      clear hMx
      by_cases hk0 : k = 0
      · have HRX : Hid (riseAt l k x = true) := Lib.hid (by unfold riseAt; rw [decide_eq_true hk0]; rfl)
        have g5 : ¬ (0 : Int) < (k : Int) := by omega
        have g5n : ¬ 0 < k := by omega
        have g5d : decide (0 < k) = false := decide_eq_false g5n
        have g5e : decide ((0 : Int) < (k : Int)) = false := decide_eq_false g5
        clear hx hcx hk0
        go_upto_region 6 with (fail)
        refine (wpIn_wide (n := 4)).1 ?_
        refine region_quiet (C := fun w' => ∃ y : AftW wr, w' = y.v) (by kernel_rfl) (by kernel_rfl) (by kernel_rfl) ⟨⟨wr.drew, (Below.refl _ _).drew⟩, rfl⟩ ?_
        iterate 3 (gi_big_quiet_step (fail))
        refine wpQuietIn_load_atN (fun _ => trivial) rfl 35 _ rfl (ax.add (k * 4)) rfl (ndV x) _ (by rintro _ ⟨y, rfl⟩; exact HCX.out y) Tryz.underlying35 rfl HI.out ?_
        simp only [Act.put, List.setIfInBounds_toArray, List.set_cons_zero, List.set_cons_succ]
        gi_big_quiet_step ((gi_at_call 31; exact CM _))
        iterate 19 (gi_big_quiet_step (fail))
        refine wpQuietIn_nil ?_
        rintro _ ⟨y, rfl⟩
        have HBY := Lib.hid (hB.out.trans (y.h.mono hB.out.size))
        have qw := qx y
        clear CM qx HCX
        generalize y.v = w2 at *
        gi_wp2
        go_upto_region 9 with (go_at_call 32; (with_reducible refine (CP _).mono ?_); rintro e w3 ⟨rfl, b3⟩; have HB3 := Lib.hid (HBY.out.trans (b3.mono HBY.out.size)); clear b3)
        have CF2 := CF.out _ HB3.out
        have q0 := eq_lit (parentL x.path) []
        have q0b := empty_lit (parentL x.path)
        obtain ⟨fo, hfo⟩ : ∃ f, f = findR l (parentL x.path) := ⟨_, rfl⟩
        rw [← hfo] at CF2
        have HGU : Hid (goodAt l k x = upAt l x) := Lib.hid (by rw [HG.out, HMX.out, HRX.out]; rfl)
        have HUP : Hid (upAt l x = (decide (parentL x.path = []) || kdOk fo)) := Lib.hid (by unfold upAt; rw [hfo])
        have hone := Lib.hid (ndA_one (fo.getD rnd0))
        have HNN := Lib.hid HNL.out
        rw [← HNL.out] at CF2
        clear hfo CF CP qw HG HMX HRX
        go_upto_region 10 with (first
          | (go_at_call 11; (with_reducible refine CF2.mono ?_); rintro e w4 ⟨rfl, b4⟩; have HB4 := Lib.hid (HB3.out.trans (b4.mono HB3.out.size)); clear b4)
          | ((with_reducible show wpList _ _ _ (⟨none, .store _ (.tmp 5) _, _, _, _, _⟩ :: _) _ _); refine wpList_store_last rfl 35 _ _ rfl w4.heap.size (ndA (fo.getD rnd0)) rfl rfl 35 (ndA rnd0) rfl HI.out rfl hone.out ?_))
        obtain ⟨W5, hW5⟩ : ∃ W, W = w4.alloc (.cells (ndA (fo.getD rnd0)) 35) := ⟨_, rfl⟩
        rw [← hW5]
        have qk : W5.cell? ⟨w4.heap.size, 1, none⟩ = some (.int .i64 (fo.getD rnd0).kind) := by rw [hW5]; exact rowC_cell (rowC_new _ _ _) 1
        have HB5 : Hid (Below w.heap.size w W5) := Lib.hid (by rw [hW5]; exact HB4.out.alloc HB4.out.size _)
        clear hW5 CF2
        generalize hbp : decide (parentL x.path = []) = bp at *
        generalize str (parentL x.path) = PS at *
        clear hbp
        cases bp
        rotate_left
        · have HGT : Hid (goodAt l k x = true) := Lib.hid (by rw [HGU.out, HUP.out]; rfl)
          go_wp2
          go_roundw
          case rel => exact ⟨k + 1, by omega, by go_num, Lib.hid (HNXT.out HGT.out), HB5⟩
          case measure => simp [intOf] <;> omega
        cases fo with
        | none =>
          have HGT : Hid (goodAt l k x = false) := Lib.hid (by rw [HGU.out, HUP.out]; rfl)
          go_wp2
          go_ret
          exact ⟨⟨_, rfl, HBAD.out HGT.out⟩, HB5.out⟩
        | some m =>
          have qk2 : W5.cell? ⟨w4.heap.size, 1, none⟩ = some (.int .i64 m.kind) := qk
          clear qk
          by_cases hm2 : m.kind = 2
          · have HGT : Hid (goodAt l k x = true) := Lib.hid (by rw [HGU.out, HUP.out]; simp [kdOk, hm2])
            rw [hm2] at qk2
            clear hm2
            go_wp2
            go_roundw
            case rel => exact ⟨k + 1, by omega, by go_num, Lib.hid (HNXT.out HGT.out), HB5⟩
            case measure => simp [intOf] <;> omega
          · have HGT : Hid (goodAt l k x = false) := Lib.hid (by rw [HGU.out, HUP.out]; simp [kdOk, hm2])
            have f2 : (m.kind == 2) = false := by rw [beq_eq_false_iff_ne]; exact hm2
            generalize m.kind = mk at *
            clear hm2
            go_wp2
            go_ret
            exact ⟨⟨_, rfl, HBAD.out HGT.out⟩, HB5.out⟩
      · obtain ⟨k', hk'⟩ : ∃ k', k' = k - 1 := ⟨_, rfl⟩
        obtain ⟨x0, hx0⟩ := HX.out k' (by omega)
        obtain ⟨ax2, hax2, hab2, hcx2⟩ := HN.out k' x0 hx0
        obtain rfl : ax = ax2 := Option.some.inj hax2
        have q00 := fun (y : AftW wr) => show y.v.cell? (ax.add (k' * 4)) = some (.string (str x0.path)) from by
          have h1 := hcx2 0 (.string (str x0.path)) rfl
          rw [addr_zeroR] at h1
          rw [cell_far (hB.out.trans (y.h.mono hB.out.size)) (by rw [add_blk]; exact hab2)]
          exact h1
        have hr : riseAt l k x = bytesBefore x0.path x.path := by
          unfold riseAt
          rw [decide_eq_false hk0, ← hk', hx0]
          rfl
        have g5 : (0 : Int) < (k : Int) := by omega
        have g5n : 0 < k := by omega
        have g5d : decide (0 < k) = true := decide_eq_true g5n
        have g5e : decide ((0 : Int) < (k : Int)) = true := decide_eq_true g5
        have g6 : (k : Int) - 1 = (k' : Int) := by omega
        have g7 : (k' : Int) < (N : Int) := by omega
        have ql := less_str x0.path x.path
        cases hbb : bytesBefore x0.path x.path
        · have HGF : Hid (goodAt l k x = false) := Lib.hid (by rw [HG.out, HMX.out, hr, hbb]; rfl)
          rw [hbb] at ql
          clear hx hcx hk0 hk' hx0 hax2 hab2 hcx2 hr hbb CP CF
          go_upto_region 6 with (fail)
          refine (wpIn_wide (n := 4)).1 ?_
          refine region_quiet (C := fun w' => ∃ y : AftW wr, w' = y.v) (by kernel_rfl) (by kernel_rfl) (by kernel_rfl) ⟨⟨wr.drew, (Below.refl _ _).drew⟩, rfl⟩ ?_
          iterate 3 (gi_big_quiet_step (fail))
          refine wpQuietIn_load_atN (fun _ => trivial) rfl 35 _ rfl (ax.add (k * 4)) rfl (ndV x) _ (by rintro _ ⟨y, rfl⟩; exact HCX.out y) Tryz.underlying35 rfl HI.out ?_
          simp only [Act.put, List.setIfInBounds_toArray, List.set_cons_zero, List.set_cons_succ]
          gi_big_quiet_step ((gi_at_call 31; exact CM _))
          iterate 19 (gi_big_quiet_step (fail))
          refine wpQuietIn_nil ?_
          rintro _ ⟨y, rfl⟩
          have HBY := Lib.hid (hB.out.trans (y.h.mono hB.out.size))
          clear CM qx HCX q00
          generalize y.v = w2 at *
          gi_wp2
          go_wp2
          go_ret
          exact ⟨⟨_, rfl, HBAD.out HGF.out⟩, HBY.out⟩
        · have HRX : Hid (riseAt l k x = true) := Lib.hid (by rw [hr, hbb])
          rw [hbb] at ql
          clear hx hcx hk0 hk' hx0 hax2 hab2 hcx2 hr hbb
          go_upto_region 6 with (fail)
          refine (wpIn_wide (n := 4)).1 ?_
          refine region_quiet (C := fun w' => ∃ y : AftW wr, w' = y.v) (by kernel_rfl) (by kernel_rfl) (by kernel_rfl) ⟨⟨wr.drew, (Below.refl _ _).drew⟩, rfl⟩ ?_
          iterate 3 (gi_big_quiet_step (fail))
          refine wpQuietIn_load_atN (fun _ => trivial) rfl 35 _ rfl (ax.add (k * 4)) rfl (ndV x) _ (by rintro _ ⟨y, rfl⟩; exact HCX.out y) Tryz.underlying35 rfl HI.out ?_
          simp only [Act.put, List.setIfInBounds_toArray, List.set_cons_zero, List.set_cons_succ]
          gi_big_quiet_step ((gi_at_call 31; exact CM _))
          iterate 19 (gi_big_quiet_step (fail))
          refine wpQuietIn_nil ?_
          rintro _ ⟨y, rfl⟩
          have HBY := Lib.hid (hB.out.trans (y.h.mono hB.out.size))
          clear q00 ql
          have qw := qx y
          clear CM qx HCX
          generalize y.v = w2 at *
          gi_wp2
          go_upto_region 9 with (go_at_call 32; (with_reducible refine (CP _).mono ?_); rintro e w3 ⟨rfl, b3⟩; have HB3 := Lib.hid (HBY.out.trans (b3.mono HBY.out.size)); clear b3)
          have CF2 := CF.out _ HB3.out
          have q0 := eq_lit (parentL x.path) []
          have q0b := empty_lit (parentL x.path)
          obtain ⟨fo, hfo⟩ : ∃ f, f = findR l (parentL x.path) := ⟨_, rfl⟩
          rw [← hfo] at CF2
          have HGU : Hid (goodAt l k x = upAt l x) := Lib.hid (by rw [HG.out, HMX.out, HRX.out]; rfl)
          have HUP : Hid (upAt l x = (decide (parentL x.path = []) || kdOk fo)) := Lib.hid (by unfold upAt; rw [hfo])
          have hone := Lib.hid (ndA_one (fo.getD rnd0))
          have HNN := Lib.hid HNL.out
          rw [← HNL.out] at CF2
          clear hfo CF CP qw HG HMX HRX
          go_upto_region 10 with (first
            | (go_at_call 11; (with_reducible refine CF2.mono ?_); rintro e w4 ⟨rfl, b4⟩; have HB4 := Lib.hid (HB3.out.trans (b4.mono HB3.out.size)); clear b4)
            | ((with_reducible show wpList _ _ _ (⟨none, .store _ (.tmp 5) _, _, _, _, _⟩ :: _) _ _); refine wpList_store_last rfl 35 _ _ rfl w4.heap.size (ndA (fo.getD rnd0)) rfl rfl 35 (ndA rnd0) rfl HI.out rfl hone.out ?_))
          obtain ⟨W5, hW5⟩ : ∃ W, W = w4.alloc (.cells (ndA (fo.getD rnd0)) 35) := ⟨_, rfl⟩
          rw [← hW5]
          have qk : W5.cell? ⟨w4.heap.size, 1, none⟩ = some (.int .i64 (fo.getD rnd0).kind) := by rw [hW5]; exact rowC_cell (rowC_new _ _ _) 1
          have HB5 : Hid (Below w.heap.size w W5) := Lib.hid (by rw [hW5]; exact HB4.out.alloc HB4.out.size _)
          clear hW5 CF2
          generalize hbp : decide (parentL x.path = []) = bp at *
          generalize str (parentL x.path) = PS at *
          clear hbp
          cases bp
          rotate_left
          · have HGT : Hid (goodAt l k x = true) := Lib.hid (by rw [HGU.out, HUP.out]; rfl)
            go_wp2
            go_roundw
            case rel => exact ⟨k + 1, by omega, by go_num, Lib.hid (HNXT.out HGT.out), HB5⟩
            case measure => simp [intOf] <;> omega
          cases fo with
          | none =>
            have HGT : Hid (goodAt l k x = false) := Lib.hid (by rw [HGU.out, HUP.out]; rfl)
            go_wp2
            go_ret
            exact ⟨⟨_, rfl, HBAD.out HGT.out⟩, HB5.out⟩
          | some m =>
            have qk2 : W5.cell? ⟨w4.heap.size, 1, none⟩ = some (.int .i64 m.kind) := qk
            clear qk
            by_cases hm2 : m.kind = 2
            · have HGT : Hid (goodAt l k x = true) := Lib.hid (by rw [HGU.out, HUP.out]; simp [kdOk, hm2])
              rw [hm2] at qk2
              clear hm2
              go_wp2
              go_roundw
              case rel => exact ⟨k + 1, by omega, by go_num, Lib.hid (HNXT.out HGT.out), HB5⟩
              case measure => simp [intOf] <;> omega
            · have HGT : Hid (goodAt l k x = false) := Lib.hid (by rw [HGU.out, HUP.out]; simp [kdOk, hm2])
              have f2 : (m.kind == 2) = false := by rw [beq_eq_false_iff_ne]; exact hm2
              generalize m.kind = mk at *
              clear hm2
              go_wp2
              go_ret
              exact ⟨⟨_, rfl, HBAD.out HGT.out⟩, HB5.out⟩
    · obtain rfl : k = N := by omega
      go_wp2
      go_ret
      exact ⟨⟨_, rfl, (HD.out _).2 (.inr ⟨by omega, .inl ⟨rfl, fun j y hy => hok.out j y (HLT.out j y hy) hy⟩⟩)⟩, hB.out⟩
end Go.Proofs.YtoallfcpnbhhiaaGreatDoor

/- Layer 16: the document's Same and Bytes, the program's Bytes; the law's Doc and great. -/
namespace Go.Proofs.YtoallfcpnbhhiaaGreatDoor
open Go.RowKit
attribute [local go_sem] wide_fn round_fn

def eqNB (a b : Nd) : Bool := decide (a.path = b.path) && (decide (a.kind = b.kind) && (decide (a.mode = b.mode) && decide (a.data = b.data)))
theorem eqNB_iff (a b : Nd) : eqNB a b = true ↔ a = b := by
  unfold eqNB
  rw [Bool.and_eq_true, Bool.and_eq_true, Bool.and_eq_true, decide_eq_true_eq, decide_eq_true_eq, decide_eq_true_eq, decide_eq_true_eq]
  obtain ⟨a1, a2, a3, a4⟩ := a
  obtain ⟨b1, b2, b3, b4⟩ := b
  simp only [Nd.mk.injEq]
theorem fields_rn : (Tryz.prog.fieldsOf 35).toList = [⟨"Path", 9, 0, false, "", "", 0⟩, ⟨"Kind", 3, 1, false, "", "", 16⟩, ⟨"Mode", 3, 2, false, "", "", 24⟩, ⟨"Data", 9, 3, false, "", "", 32⟩] := by kernel_rfl
theorem eq_rn (w : World) (d : Nat) (a b : Nd) : (Op.equalIn (d + 2) 35 (.agg (ndA a)) (.agg (ndA b))).run Tryz.prog w = .ok (eqNB a b) w := by
  rw [run_equalIn_struct w (d + 1) _ _ _ (by kernel_rfl) (by kernel_rfl), fields_rn]
  have e1 (x y : List UInt8) (w : World) : (Op.equalIn (d + 1) 9 (.string (str x)) (.string (str y))).run Tryz.prog w = .ok (decide (x = y)) w := by
    rw [run_equalIn_string w d _ _ _ Tryz.underlying9, eq_strs]
  have e2 (x y : Int) (w : World) : (Op.equalIn (d + 1) 3 (.int .i64 x) (.int .i64 y)).run Tryz.prog w = .ok (x == y) w := run_equalIn_int w d _ _ _ _ _ Tryz.underlying3
  have p0 (q : Nd) (w : World) : (part 9 (ndA q) 0).run Tryz.prog w = .ok (.string (str q.path)) w := run_part_plain w (by kernel_rfl) rfl
  have p1 (q : Nd) (w : World) : (part 3 (ndA q) 1).run Tryz.prog w = .ok (.int .i64 q.kind) w := run_part_plain w (by kernel_rfl) rfl
  have p2 (q : Nd) (w : World) : (part 3 (ndA q) 2).run Tryz.prog w = .ok (.int .i64 q.mode) w := run_part_plain w (by kernel_rfl) rfl
  have p3 (q : Nd) (w : World) : (part 9 (ndA q) 3).run Tryz.prog w = .ok (.string (str q.data)) w := run_part_plain w (by kernel_rfl) rfl
  simp only [Op.eqFields, show ("Path" : String) ≠ "_" by decide, show ("Kind" : String) ≠ "_" by decide, show ("Mode" : String) ≠ "_" by decide, show ("Data" : String) ≠ "_" by decide, ne_eq, not_false_eq_true, if_true, Sem.run_bind, Sem.run_ite, Sem.run_pure, p0, p1, p2, p3, Result.andThen_ok, e1, e2]
  unfold eqNB
  by_cases h1 : a.path = b.path <;> by_cases h2 : a.kind = b.kind <;> by_cases h3 : a.mode = b.mode <;> by_cases h4 : a.data = b.data <;> simp [h1, h2, h3, h4]
theorem guard_rn : Tryz.prog.eqGuardType Tryz.prog.depth 35 = false := by kernel_rfl
theorem take_snoc_eq {α : Type} {A B : List α} {j : Nat} {a : α} (ha : A[j]? = some a) (hb : B[j]? = some a) (h : A.take j = B.take j) : A.take (j + 1) = B.take (j + 1) := by
  rw [List.take_add_one, List.take_add_one, ha, hb, h]
theorem ne_atN {α : Type} {A B : List α} {j : Nat} {a b : α} (ha : A[j]? = some a) (hb : B[j]? = some b) (h : a ≠ b) : A ≠ B := fun e => by
  rw [e, hb] at ha
  exact h (Option.some.inj ha).symm
set_option maxRecDepth 100000 in
set_option maxHeartbeats 4000000 in
theorem rsameN_any (A B : List Nd) (x y : Option Addr) (cx cy : Nat) (w : World) (hA : NodesAt w x A) (hB : NodesAt w y B) (hlA : A.length < 2 ^ 48) :
    Calls Tryz.prog 17 #[.slice x A.length cx, .slice y B.length cy] w fun e w' => (∃ b, e = .returned (.bool b) ∧ (b = true ↔ A = B)) ∧ Below w.heap.size w w' := by
  have HA := Lib.hid hA
  have HB := Lib.hid hB
  obtain ⟨N, hN⟩ : ∃ N, N = A.length := ⟨_, rfl⟩
  obtain ⟨M, hM⟩ : ∃ M, M = B.length := ⟨_, rfl⟩
  have HN := Lib.hid hN
  have HM := Lib.hid hM
  have HI := Lib.hid info_rn4
  rw [← hN] at hlA ⊢
  rw [← hM]
  clear hN hM hA hB
  go_enter Tryz.func17, Tryz.ntmps17
  by_cases hne : N = M
  rotate_left
  · have g1 : ((N : Int) == (M : Int)) = false := by rw [beq_eq_false_iff_ne]; omega
    have e0 : Hid (A ≠ B) := Lib.hid (fun e => hne (by rw [HN.out, HM.out, e]))
    clear hne
    go_wp2
    go_ret
    exact ⟨⟨_, rfl, ⟨(fun h => by cases h), fun h => absurd h e0.out⟩⟩, Below.refl _ _⟩
  subst hne
  have HMM := HM
  clear HM
  go_wp2
  go_loopw [5] (fun v wr => ∃ j : Nat, j ≤ N ∧ v = .int .i64 j ∧ Hid (A.take j = B.take j) ∧ Hid (Below w.heap.size w wr)) (fun v _ => N - (intOf v).toNat)
  case atStart => exact ⟨0, Nat.zero_le _, rfl, Lib.hid rfl, Lib.hid (Below.refl _ _)⟩
  case round =>
    obtain ⟨j, hjN, rfl, hT, hBl⟩ := hrel
    by_cases hj : j < N
    · have g1 : (j : Int) < (N : Int) := by omega
      obtain ⟨a, ha⟩ : ∃ a, A[j]? = some a := ⟨_, List.getElem?_eq_getElem (by have := HN.out; omega)⟩
      obtain ⟨b, hb⟩ : ∃ b, B[j]? = some b := ⟨_, List.getElem?_eq_getElem (by have := HMM.out; omega)⟩
      obtain ⟨adx, rfl, hax, hcx⟩ := HA.out j a ha
      obtain ⟨ady, rfl, hay, hcy⟩ := HB.out j b hb
      have HCX := Lib.hid (show ∀ v : AftW wr, ∀ i u, (ndV a)[i]? = some u → v.v.cell? ((adx.add (j * 4)).add i) = some u from fun v i u hu => by
        rw [cell_far (hBl.out.trans (v.h.mono hBl.out.size)) (by rw [add_blk, add_blk]; exact hax)]
        exact hcx i u hu)
      have HCY := Lib.hid (show ∀ v : AftW wr, ∀ i u, (ndV b)[i]? = some u → v.v.cell? ((ady.add (j * 4)).add i) = some u from fun v i u hu => by
        rw [cell_far (hBl.out.trans (v.h.mono hBl.out.size)) (by rw [add_blk, add_blk]; exact hay)]
        exact hcy i u hu)
      have eq1 : ∀ w, (Op.equalIn 10000 35 (.agg (ndV a).toArray) (.agg (ndV b).toArray)).run Tryz.prog w = .ok (eqNB a b) w := fun w => eq_rn w 9998 a b
      have gd := guard_rn
      have hud := Tryz.underlying35
      have HST := Lib.hid (fun (e : a = b) => take_snoc_eq ha (by rw [hb, e]) hT.out)
      have HNE := Lib.hid (fun (e : a ≠ b) => ne_atN ha hb e)
      have HQ := Lib.hid (eqNB_iff a b)
      obtain ⟨eb, heb⟩ : ∃ eb, eb = eqNB a b := ⟨_, rfl⟩
      rw [← heb] at eq1 HQ
      clear ha hb hax hay hcx hcy heb hj hT
      go_upto_region 6 with (fail)
      refine (wpIn_wide (n := 4)).1 ?_
      refine region_quiet (C := fun w' => ∃ y : AftW wr, w' = y.v) (by kernel_rfl) (by kernel_rfl) (by kernel_rfl) ⟨⟨wr.drew, (Below.refl _ _).drew⟩, rfl⟩ ?_
      iterate 3 (gi_big_quiet_step (fail))
      refine wpQuietIn_load_atN (fun _ => trivial) rfl 35 _ rfl (adx.add (j * 4)) rfl (ndV a) _ (by rintro _ ⟨y, rfl⟩; exact HCX.out y) hud rfl HI.out ?_
      simp only [Act.put, List.setIfInBounds_toArray, List.set_cons_zero, List.set_cons_succ]
      iterate 3 (gi_big_quiet_step (fail))
      refine wpQuietIn_load_atN (fun _ => trivial) rfl 35 _ rfl (ady.add (j * 4)) rfl (ndV b) _ (by rintro _ ⟨y, rfl⟩; exact HCY.out y) hud rfl HI.out ?_
      simp only [Act.put, List.setIfInBounds_toArray, List.set_cons_zero, List.set_cons_succ]
      gi_big_quiet_step (fail)
      refine wpQuietIn_nil ?_
      rintro _ ⟨v, rfl⟩
      have HBV := Lib.hid (hBl.out.trans (v.h.mono hBl.out.size))
      clear HCX HCY eq1
      cases eb
      · gi_wp2
        go_wp2
        go_ret
        exact ⟨⟨_, rfl, ⟨(fun h => by cases h), fun h => absurd h (HNE.out (fun e => by have h5 := HQ.out.2 e; cases h5))⟩⟩, HBV.out⟩
      · gi_wp2
        go_wp2
        go_roundw
        case rel => exact ⟨j + 1, by omega, by go_num, Lib.hid (HST.out (HQ.out.1 (by trivial))), HBV⟩
        case measure => simp [intOf] <;> omega
    · go_wp2
      go_ret
      exact ⟨⟨_, rfl, ⟨fun _ => by have h := hT.out; rw [List.take_of_length_le (by have := HN.out; omega), List.take_of_length_le (by have := HMM.out; omega)] at h; exact h, fun _ => rfl⟩⟩, hBl.out⟩
/-- How many bytes all files have. -/
def bytesN (l : List Nd) : Nat := l.foldl (fun n x => if x.kind = 1 then n + x.data.length else n) 0
theorem bytesN_step {l : List Nd} {k : Nat} {x : Nd} (h : l[k]? = some x) : bytesN (l.take (k + 1)) = if x.kind = 1 then bytesN (l.take k) + x.data.length else bytesN (l.take k) := by
  unfold bytesN
  rw [List.take_add_one, h, Option.toList_some, List.foldl_append]
  rfl
theorem bytesN_le {l : List Nd} {m : Nat} (h : ∀ x ∈ l, x.data.length ≤ m) (k : Nat) : bytesN (l.take k) ≤ k * m := by
  induction k with
  | zero => simp [bytesN]
  | succ k ih =>
    rw [Nat.succ_mul]
    cases hx : l[k]? with
    | none =>
      rw [List.take_add_one, hx]
      simp only [Option.toList_none, List.append_nil]
      omega
    | some x =>
      rw [bytesN_step hx]
      have := h x (List.mem_of_getElem? hx)
      split <;> omega
set_option maxRecDepth 100000 in
set_option maxHeartbeats 4000000 in
theorem rbytesN_any (l : List Nd) (ad : Option Addr) (c : Nat) (hl : l.length ≤ 1000000) (hd : ∀ x ∈ l, x.data.length ≤ 1000000) (w : World) (h : NodesAt w ad l) :
    Calls Tryz.prog 15 #[.slice ad l.length c] w fun e w' => e = .returned (.int .i64 (bytesN l : Int)) ∧ Below w.heap.size w w' := by
  have HN := Lib.hid h
  have HX : Hid (∀ i, i < l.length → ∃ x, l[i]? = some x) := Lib.hid fun i hi => ⟨_, List.getElem?_eq_getElem hi⟩
  have HBL := Lib.hid (fun k => bytesN_le hd k)
  have HDL := Lib.hid hd
  obtain ⟨V, hV⟩ : ∃ V, V = bytesN l := ⟨_, rfl⟩
  rw [← hV]
  have HV := Lib.hid hV
  obtain ⟨N, hN⟩ : ∃ N, N = l.length := ⟨_, rfl⟩
  have HNL := Lib.hid hN
  rw [← hN] at hl HX ⊢
  clear h hN hV hd
  go_enter Tryz.func15, Tryz.ntmps15
  go_wp2
  go_loopw [4, 3] (fun i s wr => ∃ (k n : Nat), k ≤ N ∧ i = .int .i64 (k : Int) ∧ s = .int .i64 (n : Int) ∧ Hid (n = bytesN (l.take k)) ∧ Hid (Below w.heap.size w wr)) (fun i _ _ => N - (intOf i).toNat)
  case atStart => exact ⟨0, 0, Nat.zero_le _, rfl, rfl, Lib.hid rfl, Lib.hid (Below.refl _ _)⟩
  case round =>
    obtain ⟨k, n, hk, rfl, rfl, hs, hB⟩ := hrel
    have hnl : n ≤ k * 1000000 := by rw [hs.out]; exact HBL.out k
    by_cases hlt : k < N
    · obtain ⟨x, hx⟩ := HX.out k hlt
      obtain ⟨ax, rfl, hax, hcx⟩ := HN.out k x hx
      have hdl := HDL.out x (List.mem_of_getElem? hx)
      have g1 : (k : Int) < (N : Int) := by omega
      have HCX : Hid (∀ j u, (ndV x)[j]? = some u → wr.cell? ((ax.add (k * 4)).add j) = some u) := Lib.hid fun j u hu => by
        rw [cell_far hB.out (by rw [add_blk, add_blk]; exact hax)]
        exact hcx j u hu
      have q1 : wr.cell? ⟨(ax.add (k * 4)).block, (ax.add (k * 4)).off + 1, none⟩ = some (.int .i64 x.kind) := by have := HCX.out 1 _ rfl; rwa [addr_pos _ (by decide)] at this
      have q3 : wr.cell? ⟨(ax.add (k * 4)).block, (ax.add (k * 4)).off + 3, none⟩ = some (.string (str x.data)) := by have := HCX.out 3 _ rfl; rwa [addr_pos _ (by decide)] at this
      have zd : (str x.data).size = x.data.length := str_size _
      have HST := Lib.hid (bytesN_step hx)
      clear hx hcx
      by_cases hk1 : x.kind = 1
      · rw [if_pos hk1] at HST
        have g2 : (x.kind == (1 : Int)) = true := by rw [hk1]; rfl
        go_wp2
        go_roundw
        case rel => exact ⟨k + 1, n + x.data.length, by omega, by go_num, by go_num, Lib.hid (by rw [HST.out, ← hs.out]), hB⟩
        case measure => simp [intOf] <;> omega
      · rw [if_neg hk1] at HST
        have g2 : (x.kind == (1 : Int)) = false := by simp only [beq_eq_false_iff_ne]; exact hk1
        go_wp2
        go_roundw
        case rel => exact ⟨k + 1, n, by omega, by go_num, rfl, Lib.hid (by rw [HST.out, ← hs.out]), hB⟩
        case measure => simp [intOf] <;> omega
    · obtain rfl : k = N := by omega
      have HE : Hid (n = V) := Lib.hid (by rw [hs.out, HV.out, List.take_of_length_le (by rw [← HNL.out]; omega)])
      clear hs
      go_wp2
      go_ret
      exact ⟨by rw [HE.out]; rfl, hB.out⟩
end Go.Proofs.YtoallfcpnbhhiaaGreatDoor

