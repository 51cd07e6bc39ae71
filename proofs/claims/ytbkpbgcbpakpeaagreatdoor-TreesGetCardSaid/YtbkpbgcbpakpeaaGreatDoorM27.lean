/- Merged: UvC, UvD. -/
import Derived.Test.YtbkpbgcbpakpeaaGreatDoorM26
import Derived.Test.YtbkpbgcbpakpeaaGreatDoorM15
import Derived.Test.YtbkpbgcbpakpeaaGreatDoorM05
/- Layer 16, the document's own side: may. -/
namespace Go.Proofs.YtbkpbgcbpakpeaaGreatDoor
open Go.RowKit

set_option maxRecDepth 100000 in
set_option maxHeartbeats 4000000 in
theorem rmay_any (x : Nd) (hp : x.path.length ≤ 900000) (w : World) :
    Calls Tryz.prog 31 #[.agg (ndA x)] w fun e w' => e = .returned (.bool (mayN x)) ∧ Below w.heap.size w w' := by
  have CC := fun w => rclean_any x.path hp w
  obtain ⟨W0, hW0⟩ : ∃ W0, W0 = w.alloc (.cells (ndA x) 35) := ⟨_, rfl⟩
  have R0 : rowC W0 w.heap.size (ndA x) 35 := by rw [hW0]; exact rowC_new _ _ _
  have HB0 : Hid (Below w.heap.size w W0) := Lib.hid (by rw [hW0]; exact (Below.refl _ _).alloc (Nat.le_refl _) _)
  have HR := Lib.hid (fun (w' : World) (hb : Below W0.heap.size W0 w') => show w'.cell? ⟨w.heap.size, 0, none⟩ = some (.string (str x.path)) ∧ w'.cell? ⟨w.heap.size, 1, none⟩ = some (.int .i64 x.kind) ∧ w'.cell? ⟨w.heap.size, 2, none⟩ = some (.int .i64 x.mode) ∧ w'.cell? ⟨w.heap.size, 3, none⟩ = some (.string (str x.data)) from by
    have h := rowC_below R0 hb (rowC_lt R0)
    exact ⟨rowC_cell h 0, rowC_cell h 1, rowC_cell h 2, rowC_cell h 3⟩)
  have HW := Lib.hid (show w.alloc (.cells #[.string (str x.path), .int .i64 x.kind, .int .i64 x.mode, .string (str x.data)] 35) = W0 from hW0.symm)
  obtain ⟨k0, _, _, _⟩ := HR.out W0 (Below.refl _ _)
  obtain ⟨ok, hok⟩ : ∃ b, b = (!decide (x.path = []) && (decide (0 ≤ x.mode) && (decide (x.mode ≤ 4095) && decide (cleanL x.path = (x.path, 0))))) := ⟨_, rfl⟩
  have hm : mayN x = (ok && kindN x) := by rw [hok]; unfold mayN; simp only [Bool.and_assoc]
  rw [hm]
  obtain ⟨K, hKK⟩ : ∃ K, K = kindN x := ⟨_, rfl⟩
  rw [← hKK]
  have HOK := Lib.hid hok
  have HK : Hid (K = if x.kind = 1 then decide (x.data.length ≤ 65536) else if x.kind = 2 then decide (x.data = []) else if x.kind = 4 then !decide (x.data = []) && decide (x.data.length ≤ 200) else false) := Lib.hid hKK
  have q2 := eq_strs (cleanL x.path).1 x.path
  have zc : (str (cleanL x.path).1).size = (cleanL x.path).1.length := str_size _
  have hc200 := clean_len x.path
  have zd : (str x.data).size = x.data.length := str_size _
  have HC : Hid (decide (cleanL x.path = (x.path, 0)) = (decide ((cleanL x.path).1 = x.path) && decide ((cleanL x.path).2 = 0))) := Lib.hid (by
    rw [Bool.eq_iff_iff, decide_eq_true_eq, Bool.and_eq_true, decide_eq_true_eq, decide_eq_true_eq]
    exact ⟨fun h => by rw [h]; exact ⟨rfl, rfl⟩, fun ⟨h1, h2⟩ => Prod.ext h1 h2⟩)
  clear hW0 R0 hok hm hKK
  show Calls _ _ #[.agg #[.string (str x.path), .int .i64 x.kind, .int .i64 x.mode, .string (str x.data)]] _ _
  go_enter Tryz.func31, Tryz.ntmps31
  go_upto_region 1 with (fail)
  rw [HW.out]
  clear HW
  go_upto_region 2 with (go_at_call 49; (with_reducible refine (CC _).mono ?_); rintro e w2 ⟨rfl, b2⟩; obtain ⟨p0, p1, p2, p3⟩ := HR.out _ b2; have HB2 := Lib.hid (HB0.out.trans (b2.mono HB0.out.size)); clear b2)
  clear CC HR k0
  obtain ⟨CP, hCP⟩ : ∃ a, a = (cleanL x.path).1 := ⟨_, rfl⟩
  obtain ⟨CE, hCE⟩ : ∃ a, a = (cleanL x.path).2 := ⟨_, rfl⟩
  rw [← hCP] at q2 zc hc200
  rw [← hCP, ← hCE] at HC
  rw [← hCP, ← hCE]
  clear hCP hCE
  have HCX : Hid (CP = x.path → ((CP.length : Int) = 0 ↔ x.path = [])) := Lib.hid (fun h => by
    rw [h]
    exact ⟨fun h1 => List.eq_nil_of_length_eq_zero (by omega), fun h1 => by rw [h1]; rfl⟩)
  go_cut [5] from 12 to 39 (fun a wx => a = .bool ok ∧ wx = w2)
  case first =>
    by_cases e1 : CE = 0
    rotate_left
    · have f1 : (CE == 0) = false := by rw [beq_eq_false_iff_ne]; exact e1
      have HO : Hid (ok = false) := Lib.hid (by rw [HOK.out, HC.out, decide_eq_false e1]; simp)
      clear HC HCX q2 e1
      go_wp2
      go_meet
      exact ⟨by rw [HO.out], rfl⟩
    have f1 : (CE == 0) = true := by rw [beq_iff_eq]; exact e1
    by_cases e2 : CP = x.path
    rotate_left
    · have HO : Hid (ok = false) := Lib.hid (by rw [HOK.out, HC.out, decide_eq_false e2]; simp)
      rw [decide_eq_false e2] at q2
      subst e1
      clear HC HCX e2
      go_wp2
      go_meet
      exact ⟨by rw [HO.out], rfl⟩
    rw [decide_eq_true e2] at q2
    have hnil := HCX.out e2
    have HO1 : Hid (ok = (!decide (x.path = []) && (decide (0 ≤ x.mode) && decide (x.mode ≤ 4095)))) := Lib.hid (by rw [HOK.out, HC.out, decide_eq_true e2, decide_eq_true e1]; simp)
    subst e1
    clear HC HCX e2
    by_cases e3 : x.path = []
    · have z0 : CP.length = 0 := by have := hnil.2 e3; omega
      have z1 : ¬ (0 : Int) < (CP.length : Int) := by omega
      have HO : Hid (ok = false) := Lib.hid (by rw [HO1.out, decide_eq_true e3]; rfl)
      clear hnil HO1 z0
      clear e3
      go_wp2
      go_meet
      exact ⟨by rw [HO.out], rfl⟩
    have z1 : (0 : Int) < (CP.length : Int) := by
      by_cases h : (CP.length : Int) = 0
      · exact absurd (hnil.1 h) e3
      · omega
    have z2 : (CP.length : Int) ≤ 200 := by omega
    have HO2 : Hid (ok = (decide (0 ≤ x.mode) && decide (x.mode ≤ 4095))) := Lib.hid (by rw [HO1.out, decide_eq_false e3]; rfl)
    clear hnil HO1
    clear e3
    generalize x.mode = m at *
    by_cases e4 : 0 ≤ m
    rotate_left
    · have HO : Hid (ok = false) := Lib.hid (by rw [HO2.out, decide_eq_false e4]; rfl)
      clear HO2
      go_wp2
      go_meet
      exact ⟨by rw [HO.out], rfl⟩
    by_cases e5 : m ≤ 4095
    rotate_left
    · have HO : Hid (ok = false) := Lib.hid (by rw [HO2.out, decide_eq_false e5]; simp)
      clear HO2
      go_wp2
      go_meet
      exact ⟨by rw [HO.out], rfl⟩
    have HO : Hid (ok = true) := Lib.hid (by rw [HO2.out, decide_eq_true e4, decide_eq_true e5]; rfl)
    clear HO2
    go_wp2
    go_meet
    exact ⟨by rw [HO.out], rfl⟩
  case rest =>
    obtain ⟨rfl, rfl⟩ := hcut
    clear HC HCX q2 zc hc200 HOK p0 p2
    have hdn : (x.data = [] ↔ (x.data.length : Int) = 0) := ⟨fun h => by rw [h]; rfl, fun h => List.eq_nil_of_length_eq_zero (by omega)⟩
    have HDN := Lib.hid hdn
    have hbn : decide (x.data = []) = decide ((x.data.length : Int) = 0) := by simp only [hdn]
    rw [hbn] at HK
    clear hbn hdn HDN
    have hle : decide (x.data.length ≤ 65536) = decide ((x.data.length : Int) ≤ 65536) := by
      by_cases h : x.data.length ≤ 65536
      · rw [decide_eq_true h, decide_eq_true (by omega)]
      · rw [decide_eq_false h, decide_eq_false (by omega)]
    have hle2 : decide (x.data.length ≤ 200) = decide ((x.data.length : Int) ≤ 200) := by
      by_cases h : x.data.length ≤ 200
      · rw [decide_eq_true h, decide_eq_true (by omega)]
      · rw [decide_eq_false h, decide_eq_false (by omega)]
    rw [hle, hle2] at HK
    clear hle hle2
    generalize x.kind = kd at *
    generalize x.data.length = dl at *
    generalize str x.data = DT at *
    by_cases k1 : kd = 1
    · subst k1
      have HK1 : Hid (K = decide ((dl : Int) ≤ 65536)) := Lib.hid (by rw [HK.out, if_pos rfl])
      clear HK
      cases ok
      · go_wp2
        go_ret
        exact ⟨rfl, HB2.out⟩
      · go_wp2
        go_ret
        exact ⟨by rw [HK1.out]; rfl, HB2.out⟩
    have f1 : (kd == 1) = false := by rw [beq_eq_false_iff_ne]; exact k1
    by_cases k2 : kd = 2
    · subst k2
      have HK1 : Hid (K = ((dl : Int) == 0)) := Lib.hid (by rw [HK.out, if_neg (by decide), if_pos rfl]; rfl)
      clear HK
      cases ok
      · go_wp2
        go_ret
        exact ⟨rfl, HB2.out⟩
      · go_wp2
        go_ret
        exact ⟨by rw [HK1.out]; rfl, HB2.out⟩
    have f2 : (kd == 2) = false := by rw [beq_eq_false_iff_ne]; exact k2
    by_cases k4 : kd = 4
    · subst k4
      have HK1 : Hid (K = (!decide ((dl : Int) = 0) && decide ((dl : Int) ≤ 200))) := Lib.hid (by rw [HK.out, if_neg (by decide), if_neg (by decide), if_pos rfl])
      clear HK
      cases ok
      · go_wp2
        go_ret
        exact ⟨rfl, HB2.out⟩
      · by_cases d0 : (dl : Int) = 0
        · have g0 : ¬ (0 : Int) < (dl : Int) := by omega
          have HE : Hid (K = false) := Lib.hid (by rw [HK1.out, decide_eq_true d0]; rfl)
          clear HK1 d0
          go_wp2
          go_ret
          exact ⟨by rw [HE.out]; rfl, HB2.out⟩
        · have g0 : (0 : Int) < (dl : Int) := by omega
          have HE : Hid (K = decide ((dl : Int) ≤ 200)) := Lib.hid (by rw [HK1.out, decide_eq_false d0]; rfl)
          clear HK1 d0
          go_wp2
          go_ret
          exact ⟨by rw [HE.out]; rfl, HB2.out⟩
    have f4 : (kd == 4) = false := by rw [beq_eq_false_iff_ne]; exact k4
    have HE : Hid (K = false) := Lib.hid (by rw [HK.out, if_neg k1, if_neg k2, if_neg k4])
    clear HK k1 k2 k4
    go_wp2
    go_ret
    exact ⟨by rw [HE.out, Bool.and_false]; rfl, HB2.out⟩
end Go.Proofs.YtbkpbgcbpakpeaaGreatDoor

/- Layer 16, the document's own side: Check. -/
namespace Go.Proofs.YtbkpbgcbpakpeaaGreatDoor
open Go.RowKit
attribute [local go_sem] wide_fn round_fn

/-- A world behind another. -/
structure AftW (w : World) where
  v : World
  h : Below w.heap.size w v
instance (w : World) : Nonempty (AftW w) := ⟨⟨w, Below.refl _ _⟩⟩
theorem wpQuietIn_load_atN {F : Fence} {n : Nat} {ops : Array Oper} {C : World → Prop} {Q : Act → Prop} {o : Oper} {rest : List Oper} {a : Act} (hF : ∀ f, F.fn f) (hw : Region.wanted o (yielded ops a.tmps) = true) (ty : TypeId) (x : Operand) (ho : o.op = .load ty x)
    (p : Addr) (hx : a.eval x = .pointer (some p)) (cs : List Value) (d : TypeDesc) (hc : ∀ w, C w → ∀ j v, cs[j]? = some v → w.cell? (p.add j) = some v)
    (hu : Tryz.prog.underlying ty = some d) (hd : d.isRow = true) (hi : (Tryz.prog.info? ty).map (·.size) = some cs.length)
    (h : wpQuietIn F n Tryz.prog ops C Q rest (a.put o.dst (.agg cs.toArray))) : wpQuietIn F n Tryz.prog ops C Q (o :: rest) a :=
  wpQuietIn_step (fun _ _ f _ => hF f) (fun K hK => by
    rw [if_pos hw]
    exact ⟨.agg cs.toArray, fun w hC => by
    unfold Oper.quietAtIn execOp
    simp only [ho, hx, Instr.loadAt, Instr.sureAddr, Sem.run_bind, Sem.run_pure, Result.andThen_ok, run_loadVar_at w p ty cs d (hc w hC) hu hd hi]
    exact ⟨rfl, rfl⟩, hK _ h⟩)
/-- What the document's Check says. -/
def DocC (l : List Nd) (c : Int) : Prop := c = 63 ∧ 400 < l.length ∨ l.length ≤ 400 ∧ (c = 0 ∧ (∀ k x, l[k]? = some x → goodAt l k x = true) ∨ c = 2 ∧ ∃ k x, l[k]? = some x ∧ goodAt l k x = false)
set_option maxRecDepth 100000 in
set_option maxHeartbeats 4000000 in
theorem rcheckT_any (l : List Nd) (ad : Option Addr) (c : Nat) (hl : l.length ≤ 1000000) (hp : ∀ x ∈ l, x.path.length ≤ 900000) (w : World) (h : NodesAt w ad l) :
    Calls Tryz.prog 13 #[.slice ad l.length c] w fun e w' => (∃ r, e = .returned (.int .i64 r) ∧ DocC l r) ∧ Below w.heap.size w w' := by
  have HI := Lib.hid info_rn4
  have HN := Lib.hid h
  have HP := Lib.hid hp
  have HX : Hid (∀ i, i < l.length → ∃ x, l[i]? = some x) := Lib.hid fun i hi => ⟨_, List.getElem?_eq_getElem hi⟩
  have HD : Hid (∀ c, DocC l c ↔ (c = 63 ∧ 400 < l.length ∨ l.length ≤ 400 ∧ (c = 0 ∧ (∀ k x, l[k]? = some x → goodAt l k x = true) ∨ c = 2 ∧ ∃ k x, l[k]? = some x ∧ goodAt l k x = false))) := Lib.hid fun c => Iff.rfl
  have HLT : Hid (∀ (k : Nat) (x : Nd), l[k]? = some x → k < l.length) := Lib.hid fun k x hx => (List.getElem?_eq_some_iff.1 hx).1
  have HLM := Lib.hid hl
  obtain ⟨N, hN⟩ : ∃ N, N = l.length := ⟨_, rfl⟩
  have HNL := Lib.hid hN
  rw [← hN] at hl HX HD HLT ⊢
  clear h hp hN
  go_enter Tryz.func13, Tryz.ntmps13
  by_cases h4 : 400 < N
  · have g4 : (400 : Int) < (N : Int) := by omega
    go_wp2
    go_ret
    exact ⟨⟨_, rfl, (HD.out _).2 (.inl ⟨rfl, h4⟩)⟩, Below.refl _ _⟩
  have g4 : ¬ (400 : Int) < (N : Int) := by omega
  go_wp2
  go_loopw [3] (fun i wr => ∃ k : Nat, k ≤ N ∧ i = .int .i64 k ∧ Hid (∀ j y, j < k → l[j]? = some y → goodAt l j y = true) ∧ Hid (Below w.heap.size w wr)) (fun i _ => N - (intOf i).toNat)
  case atStart => exact ⟨0, Nat.zero_le _, rfl, Lib.hid (fun j y hj => by omega), Lib.hid (Below.refl _ _)⟩
  case round =>
    obtain ⟨k, hk, rfl, hok, hB⟩ := hrel
    by_cases hlt : k < N
    · obtain ⟨x, hx⟩ := HX.out k hlt
      have HXX := Lib.hid hx
      obtain ⟨ax, rfl, hax, hcx⟩ := HN.out k x hx
      have HCX : Hid (∀ y : AftW wr, ∀ j u, (ndV x)[j]? = some u → y.v.cell? ((ax.add (k * 4)).add j) = some u) := Lib.hid fun y j u hu => by
        rw [cell_far (hB.out.trans (y.h.mono hB.out.size)) (by rw [add_blk, add_blk]; exact hax)]
        exact hcx j u hu
      have g1 : (k : Int) < (N : Int) := by omega
      have hxl := HP.out x (List.mem_of_getElem? hx)
      have CM : ∀ y : AftW wr, CallsIn Fence.wide 3 Tryz.prog 31 #[.agg (ndV x).toArray] y.v fun e w'' => e = .returned (.bool (mayN x)) ∧ ∃ z : AftW wr, w'' = z.v := fun y =>
        (callsIn_wide.2 (rmay_any x hxl y.v)).mono fun e w'' ⟨he, hb⟩ => ⟨he, ⟨w'', y.h.trans (hb.mono y.h.size)⟩, rfl⟩
      have CP := fun w => rparent_any x.path hxl w
      have CF := Lib.hid (fun W (hb : Below w.heap.size w W) => rfind_any l (parentL x.path) (some ax) c (by unfold maxLen; have := HLM.out; omega) W (HN.out.below hb))
      have qx := fun (y : AftW wr) => show y.v.cell? (ax.add (k * 4)) = some (.string (str x.path)) from by
        have := HCX.out y 0 (.string (str x.path)) rfl
        rwa [addr_zeroR] at this
      have HBAD : Hid (goodAt l k x = false → DocC l 2) := Lib.hid (fun hg => (HD.out _).2 (.inr ⟨by omega, .inr ⟨rfl, k, x, hx, hg⟩⟩))
      have HNXT : Hid (goodAt l k x = true → ∀ j y, j < k + 1 → l[j]? = some y → goodAt l j y = true) := Lib.hid (fun hg j y hj hy => by
        by_cases hjk : j = k
        · subst hjk
          rw [hx] at hy
          cases hy
          exact hg
        · exact hok.out j y (by omega) hy)
      have HG : Hid (goodAt l k x = (mayN x && (riseAt l k x && upAt l x))) := Lib.hid rfl
      cases hMx : mayN x
      · have HGF : Hid (goodAt l k x = false) := Lib.hid (by rw [HG.out, hMx]; rfl)
        rw [hMx] at CM
        clear hx hcx hMx CP CF
        go_upto_region 6 with (fail)
        refine (wpIn_wide (n := 4)).1 ?_
        refine region_quiet (C := fun w' => ∃ y : AftW wr, w' = y.v) (by kernel_rfl) (by kernel_rfl) (by kernel_rfl) ⟨⟨wr.drew, (Below.refl _ _).drew⟩, rfl⟩ ?_
        iterate 3 (gi_big_quiet_step (fail))
        refine wpQuietIn_load_atN (fun _ => trivial) rfl 35 _ rfl (ax.add (k * 4)) rfl (ndV x) _ (by rintro _ ⟨y, rfl⟩; exact HCX.out y) Tryz.underlying35 rfl HI.out ?_
        simp only [Act.put, List.setIfInBounds_toArray, List.set_cons_zero, List.set_cons_succ]
        gi_big_quiet_step ((gi_at_call 31; exact CM _))
        iterate 19 (gi_big_quiet_step (fail))
        refine wpQuietIn_nil ?_
        rintro _ ⟨y, rfl⟩
        have HBY := Lib.hid (hB.out.trans (y.h.mono hB.out.size))
        clear CM qx HCX
        generalize y.v = w2 at *
        gi_wp2
        go_wp2
        go_ret
        exact ⟨⟨_, rfl, HBAD.out HGF.out⟩, HBY.out⟩
      have HMX := Lib.hid hMx
      rw [hMx] at CM
      clear hMx
      by_cases hk0 : k = 0
      · have HRX : Hid (riseAt l k x = true) := Lib.hid (by unfold riseAt; rw [decide_eq_true hk0]; rfl)
        have g5 : ¬ (0 : Int) < (k : Int) := by omega
        have g5n : ¬ 0 < k := by omega
        have g5d : decide (0 < k) = false := decide_eq_false g5n
        have g5e : decide ((0 : Int) < (k : Int)) = false := decide_eq_false g5
        clear hx hcx hk0
        go_upto_region 6 with (fail)
        refine (wpIn_wide (n := 4)).1 ?_
        refine region_quiet (C := fun w' => ∃ y : AftW wr, w' = y.v) (by kernel_rfl) (by kernel_rfl) (by kernel_rfl) ⟨⟨wr.drew, (Below.refl _ _).drew⟩, rfl⟩ ?_
        iterate 3 (gi_big_quiet_step (fail))
        refine wpQuietIn_load_atN (fun _ => trivial) rfl 35 _ rfl (ax.add (k * 4)) rfl (ndV x) _ (by rintro _ ⟨y, rfl⟩; exact HCX.out y) Tryz.underlying35 rfl HI.out ?_
        simp only [Act.put, List.setIfInBounds_toArray, List.set_cons_zero, List.set_cons_succ]
        gi_big_quiet_step ((gi_at_call 31; exact CM _))
        iterate 19 (gi_big_quiet_step (fail))
        refine wpQuietIn_nil ?_
        rintro _ ⟨y, rfl⟩
        have HBY := Lib.hid (hB.out.trans (y.h.mono hB.out.size))
        have qw := qx y
        clear CM qx HCX
        generalize y.v = w2 at *
        gi_wp2
        go_upto_region 9 with (go_at_call 32; (with_reducible refine (CP _).mono ?_); rintro e w3 ⟨rfl, b3⟩; have HB3 := Lib.hid (HBY.out.trans (b3.mono HBY.out.size)); clear b3)
        have CF2 := CF.out _ HB3.out
        have q0 := eq_lit (parentL x.path) []
        have q0b := empty_lit (parentL x.path)
        obtain ⟨fo, hfo⟩ : ∃ f, f = findR l (parentL x.path) := ⟨_, rfl⟩
        rw [← hfo] at CF2
        have HGU : Hid (goodAt l k x = upAt l x) := Lib.hid (by rw [HG.out, HMX.out, HRX.out]; rfl)
        have HUP : Hid (upAt l x = (decide (parentL x.path = []) || kdOk fo)) := Lib.hid (by unfold upAt; rw [hfo])
        have hone := Lib.hid (ndA_one (fo.getD rnd0))
        have HNN := Lib.hid HNL.out
        rw [← HNL.out] at CF2
        clear hfo CF CP qw HG HMX HRX
        go_upto_region 10 with (first
          | (go_at_call 11; (with_reducible refine CF2.mono ?_); rintro e w4 ⟨rfl, b4⟩; have HB4 := Lib.hid (HB3.out.trans (b4.mono HB3.out.size)); clear b4)
          | ((with_reducible show wpList _ _ _ (⟨none, .store _ (.tmp 5) _, _, _, _, _⟩ :: _) _ _); refine wpList_store_last rfl 35 _ _ rfl w4.heap.size (ndA (fo.getD rnd0)) rfl rfl 35 (ndA rnd0) rfl HI.out rfl hone.out ?_))
        obtain ⟨W5, hW5⟩ : ∃ W, W = w4.alloc (.cells (ndA (fo.getD rnd0)) 35) := ⟨_, rfl⟩
        rw [← hW5]
        have qk : W5.cell? ⟨w4.heap.size, 1, none⟩ = some (.int .i64 (fo.getD rnd0).kind) := by rw [hW5]; exact rowC_cell (rowC_new _ _ _) 1
        have HB5 : Hid (Below w.heap.size w W5) := Lib.hid (by rw [hW5]; exact HB4.out.alloc HB4.out.size _)
        clear hW5 CF2
        generalize hbp : decide (parentL x.path = []) = bp at *
        generalize str (parentL x.path) = PS at *
        clear hbp
        cases bp
        rotate_left
        · have HGT : Hid (goodAt l k x = true) := Lib.hid (by rw [HGU.out, HUP.out]; rfl)
          go_wp2
          go_roundw
          case rel => exact ⟨k + 1, by omega, by go_num, Lib.hid (HNXT.out HGT.out), HB5⟩
          case measure => simp [intOf] <;> omega
        cases fo with
        | none =>
          have HGT : Hid (goodAt l k x = false) := Lib.hid (by rw [HGU.out, HUP.out]; rfl)
          go_wp2
          go_ret
          exact ⟨⟨_, rfl, HBAD.out HGT.out⟩, HB5.out⟩
        | some m =>
          have qk2 : W5.cell? ⟨w4.heap.size, 1, none⟩ = some (.int .i64 m.kind) := qk
          clear qk
          by_cases hm2 : m.kind = 2
          · have HGT : Hid (goodAt l k x = true) := Lib.hid (by rw [HGU.out, HUP.out]; simp [kdOk, hm2])
            rw [hm2] at qk2
            clear hm2
            go_wp2
            go_roundw
            case rel => exact ⟨k + 1, by omega, by go_num, Lib.hid (HNXT.out HGT.out), HB5⟩
            case measure => simp [intOf] <;> omega
          · have HGT : Hid (goodAt l k x = false) := Lib.hid (by rw [HGU.out, HUP.out]; simp [kdOk, hm2])
            have f2 : (m.kind == 2) = false := by rw [beq_eq_false_iff_ne]; exact hm2
            generalize m.kind = mk at *
            clear hm2
            go_wp2
            go_ret
            exact ⟨⟨_, rfl, HBAD.out HGT.out⟩, HB5.out⟩
      · obtain ⟨k', hk'⟩ : ∃ k', k' = k - 1 := ⟨_, rfl⟩
        obtain ⟨x0, hx0⟩ := HX.out k' (by omega)
        obtain ⟨ax2, hax2, hab2, hcx2⟩ := HN.out k' x0 hx0
        obtain rfl : ax = ax2 := Option.some.inj hax2
        have q00 := fun (y : AftW wr) => show y.v.cell? (ax.add (k' * 4)) = some (.string (str x0.path)) from by
          have h1 := hcx2 0 (.string (str x0.path)) rfl
          rw [addr_zeroR] at h1
          rw [cell_far (hB.out.trans (y.h.mono hB.out.size)) (by rw [add_blk]; exact hab2)]
          exact h1
        have hr : riseAt l k x = bytesBefore x0.path x.path := by
          unfold riseAt
          rw [decide_eq_false hk0, ← hk', hx0]
          rfl
        have g5 : (0 : Int) < (k : Int) := by omega
        have g5n : 0 < k := by omega
        have g5d : decide (0 < k) = true := decide_eq_true g5n
        have g5e : decide ((0 : Int) < (k : Int)) = true := decide_eq_true g5
        have g6 : (k : Int) - 1 = (k' : Int) := by omega
        have g7 : (k' : Int) < (N : Int) := by omega
        have ql := less_str x0.path x.path
        cases hbb : bytesBefore x0.path x.path
        · have HGF : Hid (goodAt l k x = false) := Lib.hid (by rw [HG.out, HMX.out, hr, hbb]; rfl)
          rw [hbb] at ql
          clear hx hcx hk0 hk' hx0 hax2 hab2 hcx2 hr hbb CP CF
          go_upto_region 6 with (fail)
          refine (wpIn_wide (n := 4)).1 ?_
          refine region_quiet (C := fun w' => ∃ y : AftW wr, w' = y.v) (by kernel_rfl) (by kernel_rfl) (by kernel_rfl) ⟨⟨wr.drew, (Below.refl _ _).drew⟩, rfl⟩ ?_
          iterate 3 (gi_big_quiet_step (fail))
          refine wpQuietIn_load_atN (fun _ => trivial) rfl 35 _ rfl (ax.add (k * 4)) rfl (ndV x) _ (by rintro _ ⟨y, rfl⟩; exact HCX.out y) Tryz.underlying35 rfl HI.out ?_
          simp only [Act.put, List.setIfInBounds_toArray, List.set_cons_zero, List.set_cons_succ]
          gi_big_quiet_step ((gi_at_call 31; exact CM _))
          iterate 19 (gi_big_quiet_step (fail))
          refine wpQuietIn_nil ?_
          rintro _ ⟨y, rfl⟩
          have HBY := Lib.hid (hB.out.trans (y.h.mono hB.out.size))
          clear CM qx HCX q00
          generalize y.v = w2 at *
          gi_wp2
          go_wp2
          go_ret
          exact ⟨⟨_, rfl, HBAD.out HGF.out⟩, HBY.out⟩
        · have HRX : Hid (riseAt l k x = true) := Lib.hid (by rw [hr, hbb])
          rw [hbb] at ql
          clear hx hcx hk0 hk' hx0 hax2 hab2 hcx2 hr hbb
          go_upto_region 6 with (fail)
          refine (wpIn_wide (n := 4)).1 ?_
          refine region_quiet (C := fun w' => ∃ y : AftW wr, w' = y.v) (by kernel_rfl) (by kernel_rfl) (by kernel_rfl) ⟨⟨wr.drew, (Below.refl _ _).drew⟩, rfl⟩ ?_
          iterate 3 (gi_big_quiet_step (fail))
          refine wpQuietIn_load_atN (fun _ => trivial) rfl 35 _ rfl (ax.add (k * 4)) rfl (ndV x) _ (by rintro _ ⟨y, rfl⟩; exact HCX.out y) Tryz.underlying35 rfl HI.out ?_
          simp only [Act.put, List.setIfInBounds_toArray, List.set_cons_zero, List.set_cons_succ]
          gi_big_quiet_step ((gi_at_call 31; exact CM _))
          iterate 19 (gi_big_quiet_step (fail))
          refine wpQuietIn_nil ?_
          rintro _ ⟨y, rfl⟩
          have HBY := Lib.hid (hB.out.trans (y.h.mono hB.out.size))
          clear q00 ql
          have qw := qx y
          clear CM qx HCX
          generalize y.v = w2 at *
          gi_wp2
          go_upto_region 9 with (go_at_call 32; (with_reducible refine (CP _).mono ?_); rintro e w3 ⟨rfl, b3⟩; have HB3 := Lib.hid (HBY.out.trans (b3.mono HBY.out.size)); clear b3)
          have CF2 := CF.out _ HB3.out
          have q0 := eq_lit (parentL x.path) []
          have q0b := empty_lit (parentL x.path)
          obtain ⟨fo, hfo⟩ : ∃ f, f = findR l (parentL x.path) := ⟨_, rfl⟩
          rw [← hfo] at CF2
          have HGU : Hid (goodAt l k x = upAt l x) := Lib.hid (by rw [HG.out, HMX.out, HRX.out]; rfl)
          have HUP : Hid (upAt l x = (decide (parentL x.path = []) || kdOk fo)) := Lib.hid (by unfold upAt; rw [hfo])
          have hone := Lib.hid (ndA_one (fo.getD rnd0))
          have HNN := Lib.hid HNL.out
          rw [← HNL.out] at CF2
          clear hfo CF CP qw HG HMX HRX
          go_upto_region 10 with (first
            | (go_at_call 11; (with_reducible refine CF2.mono ?_); rintro e w4 ⟨rfl, b4⟩; have HB4 := Lib.hid (HB3.out.trans (b4.mono HB3.out.size)); clear b4)
            | ((with_reducible show wpList _ _ _ (⟨none, .store _ (.tmp 5) _, _, _, _, _⟩ :: _) _ _); refine wpList_store_last rfl 35 _ _ rfl w4.heap.size (ndA (fo.getD rnd0)) rfl rfl 35 (ndA rnd0) rfl HI.out rfl hone.out ?_))
          obtain ⟨W5, hW5⟩ : ∃ W, W = w4.alloc (.cells (ndA (fo.getD rnd0)) 35) := ⟨_, rfl⟩
          rw [← hW5]
          have qk : W5.cell? ⟨w4.heap.size, 1, none⟩ = some (.int .i64 (fo.getD rnd0).kind) := by rw [hW5]; exact rowC_cell (rowC_new _ _ _) 1
          have HB5 : Hid (Below w.heap.size w W5) := Lib.hid (by rw [hW5]; exact HB4.out.alloc HB4.out.size _)
          clear hW5 CF2
          generalize hbp : decide (parentL x.path = []) = bp at *
          generalize str (parentL x.path) = PS at *
          clear hbp
          cases bp
          rotate_left
          · have HGT : Hid (goodAt l k x = true) := Lib.hid (by rw [HGU.out, HUP.out]; rfl)
            go_wp2
            go_roundw
            case rel => exact ⟨k + 1, by omega, by go_num, Lib.hid (HNXT.out HGT.out), HB5⟩
            case measure => simp [intOf] <;> omega
          cases fo with
          | none =>
            have HGT : Hid (goodAt l k x = false) := Lib.hid (by rw [HGU.out, HUP.out]; rfl)
            go_wp2
            go_ret
            exact ⟨⟨_, rfl, HBAD.out HGT.out⟩, HB5.out⟩
          | some m =>
            have qk2 : W5.cell? ⟨w4.heap.size, 1, none⟩ = some (.int .i64 m.kind) := qk
            clear qk
            by_cases hm2 : m.kind = 2
            · have HGT : Hid (goodAt l k x = true) := Lib.hid (by rw [HGU.out, HUP.out]; simp [kdOk, hm2])
              rw [hm2] at qk2
              clear hm2
              go_wp2
              go_roundw
              case rel => exact ⟨k + 1, by omega, by go_num, Lib.hid (HNXT.out HGT.out), HB5⟩
              case measure => simp [intOf] <;> omega
            · have HGT : Hid (goodAt l k x = false) := Lib.hid (by rw [HGU.out, HUP.out]; simp [kdOk, hm2])
              have f2 : (m.kind == 2) = false := by rw [beq_eq_false_iff_ne]; exact hm2
              generalize m.kind = mk at *
              clear hm2
              go_wp2
              go_ret
              exact ⟨⟨_, rfl, HBAD.out HGT.out⟩, HB5.out⟩
    · obtain rfl : k = N := by omega
      go_wp2
      go_ret
      exact ⟨⟨_, rfl, (HD.out _).2 (.inr ⟨by omega, .inl ⟨rfl, fun j y hy => hok.out j y (HLT.out j y hy) hy⟩⟩)⟩, hB.out⟩
end Go.Proofs.YtbkpbgcbpakpeaaGreatDoor

