/- Merged: JuM, JuA, JuN, JuS, JbA, JbB, JbC, JbE, JbF. -/
import Derived.Test.YtcepemgalammhaaGreatDoorM01
import Derived.Test.YtcepemgalammhaaGreatDoorJsV
import Derived.Test.YtcepemgalammhaaGreatDoorJtZ
import Derived.Deep.Slices
import Derived.Deep.Fields
import Derived.ChangeSame
import Derived.OpenShut
import Derived.Deep.AppendLies
/- Layer 11: Print. -/
namespace Go.Proofs.YtcepemgalammhaaGreatDoor
open Go.RowKit

theorem prat_new (w : World) : PrAt (w.alloc (.cells #[.pointer none, .slice none 0 0] 63)) w.heap.size w.heap.size [] := by
  refine .inl ⟨Nat.le_refl _, .slice none 0 0, heap_alloc_new w _, ?_, by simp [Value.ownBlock]⟩
  exact World.ownsRowF_of (World.ownsRow_nil _ _ _ _)
theorem puts_print {v : JV} (h : may v) : (65536 < (prG [] v).length → 65536 < (putsL [] (psJ v)).length) ∧ (¬ 65536 < (prG [] v).length → putsL [] (psJ v) = prG [] v) := by
  constructor
  · intro hl
    refine putsL_over _ _ ?_
    rw [psJ_all h]
    simpa using hl
  · intro hl
    rw [putsL_all _ _ (by rw [psJ_all h]; simpa using hl), psJ_all h]
    rfl
set_option maxRecDepth 100000 in
set_option maxHeartbeats 8000000 in
theorem print_any {v : JV} {w : World} {a b c d : Value} (ho : okJ v) (hE : Env w) (hH : HoldsC w (fun k => k < w.heap.size) v a b c d) :
    Calls Tryz.prog 8 #[.agg #[a, b, c, d]] w fun e w' => e = .returned (.tuple #[.string (str (printA v).1), .int .i64 ((printA v).2 : Int)]) ∧ Below w.heap.size w w' := by
  have hH0 := hH
  obtain ⟨rfl, rfl, ⟨x1, c1, rfl⟩, x2, c2, rfl⟩ := hH.form
  obtain ⟨W0, hW0⟩ : ∃ W0, W0 = w.alloc (.cells #[.int .i64 v.kind, .string (str v.text), .slice x1 v.items.length c1, .slice x2 v.keys.length c2] 27) := ⟨_, rfl⟩
  have R0 : rowC W0 w.heap.size #[.int .i64 v.kind, .string (str v.text), .slice x1 v.items.length c1, .slice x2 v.keys.length c2] 27 := by rw [hW0]; exact rowC_new w _ _
  have B0 : Below w.heap.size w W0 := by rw [hW0]; exact (Below.refl _ _).alloc (Nat.le_refl _) _
  have E0 : Env W0 := hE.below B0
  have CD := depth_any _ v (Nat.le_refl _) ho 65536 W0 65536 _ _ _ _ (Nat.le_refl _) rfl E0 (hH0.on B0)
  have hPA : printA v = match depthF 65536 v with | none => ([], 2) | some n => if 16 < n then ([], 11) else if 65536 < (prG [] v).length then ([], 3) else (prG [] v, 0) := rfl
  have hDS := fun m (h : depthF 65536 v = some m) (hm : m ≤ 16) => depth_some 65536 v m h (by omega)
  have hDL := fun m (h : depthF 65536 v = some m) => depthF_le 65536 v m h
  generalize depthF 65536 v = D at CD hPA hDS hDL
  have HIF := Lib.hid info_V
  have HW0 := Lib.hid hW0
  have HB0 := Lib.hid B0
  have HR0 := Lib.hid R0
  have HE := Lib.hid hE
  have HH := Lib.hid hH0
  have HO := Lib.hid ho
  clear hW0 R0 B0 E0 hE hH hH0 ho
  cases D with
  | none =>
    have HP := Lib.hid hPA
    clear hPA hDS hDL
    simp only [depD, depO] at CD
    go_enter Tryz.func8, Tryz.ntmps8
    go_upto_region 1 with (fail)
    rw [← HW0.out]
    go_wp2_with (first
      | ((with_reducible show wpList _ _ _ (⟨some 8, .load _ (.tmp 1), _, _, _, _⟩ :: _) _ _); refine wpList_load_row rfl 27 _ rfl w.heap.size rfl 27 #[.int .i64 v.kind, .string (str v.text), .slice x1 v.items.length c1, .slice x2 v.keys.length c2] (0, 0) _ HR0.out Tryz.underlying27 rfl HIF.out ?_)
      | (go_at_call 14; ((with_reducible refine CD.mono ?_); rintro e w2 ⟨rfl, hb2⟩)))
    go_ret2
    rw [HP.out]
    exact ⟨rfl, HB0.out.trans (hb2.mono HB0.out.size)⟩
  | some n =>
    have hnl := hDL n rfl
    simp only [depD, depO] at CD
    by_cases h16 : 16 < n
    · have HP : Hid (printA v = ([], 11)) := Lib.hid (by rw [hPA]; dsimp only; rw [if_pos h16])
      have hn : (16 : Int) < (n : Int) := by omega
      clear hPA hDS hDL h16 hnl
      go_enter Tryz.func8, Tryz.ntmps8
      go_upto_region 1 with (fail)
      rw [← HW0.out]
      go_wp2_with (first
        | ((with_reducible show wpList _ _ _ (⟨some 8, .load _ (.tmp 1), _, _, _, _⟩ :: _) _ _); refine wpList_load_row rfl 27 _ rfl w.heap.size rfl 27 #[.int .i64 v.kind, .string (str v.text), .slice x1 v.items.length c1, .slice x2 v.keys.length c2] (0, 0) _ HR0.out Tryz.underlying27 rfl HIF.out ?_)
        | (go_at_call 14; ((with_reducible refine CD.mono ?_); rintro e w2 ⟨rfl, hb2⟩)))
      go_ret2
      rw [HP.out]
      exact ⟨rfl, HB0.out.trans (hb2.mono HB0.out.size)⟩
    · have hm := (hDS n rfl (by omega)).1
      have HPV := Lib.hid (pvalue_any _ v (Nat.le_refl _) hm HO.out)
      unfold PvOk at HPV
      have HPP := Lib.hid (puts_print hm)
      have HNE := Lib.hid (pr_ne hm)
      have hn : ¬ (16 : Int) < (n : Int) := by omega
      have HP0 : Hid (printA v = if 65536 < (prG [] v).length then ([], 3) else (prG [] v, 0)) := Lib.hid (by rw [hPA]; dsimp only; rw [if_neg h16])
      clear hPA hDS hDL h16 hnl hm
      go_enter Tryz.func8, Tryz.ntmps8
      go_upto_region 1 with (fail)
      rw [← HW0.out]
      go_upto_region 6 with (first
        | ((with_reducible show wpList _ _ _ (⟨some 8, .load _ (.tmp 1), _, _, _, _⟩ :: _) _ _); refine wpList_load_row rfl 27 _ rfl w.heap.size rfl 27 #[.int .i64 v.kind, .string (str v.text), .slice x1 v.items.length c1, .slice x2 v.keys.length c2] (0, 0) _ HR0.out Tryz.underlying27 rfl HIF.out ?_)
        | (go_at_call 14; ((with_reducible refine CD.mono ?_); rintro e w2 ⟨rfl, hb2⟩)))
      obtain ⟨W3, hW3⟩ : ∃ W3, W3 = w2.alloc (.cells #[.pointer none, .slice none 0 0] 63) := ⟨_, rfl⟩
      have P3 : PrAt W3 w2.heap.size w2.heap.size [] := by rw [hW3]; exact prat_new w2
      have B2 : Below w.heap.size w w2 := HB0.out.trans (hb2.mono HB0.out.size)
      have B3 : Below w2.heap.size w2 W3 := by rw [hW3]; exact (Below.refl _ _).alloc (Nat.le_refl _) _
      have R3 : rowC W3 w.heap.size #[.int .i64 v.kind, .string (str v.text), .slice x1 v.items.length c1, .slice x2 v.keys.length c2] 27 := by
        rw [hW3]; exact rowC_alloc (rowC_below HR0.out hb2 (rowC_lt HR0.out)) _
      have H3 : HoldsC W3 (fun k => k < w2.heap.size) v (.int .i64 v.kind) (.string (str v.text)) (.slice x1 v.items.length c1) (.slice x2 v.keys.length c2) :=
        HoldsC.chg (s := fun _ => False) (Chg.of_below B3) (fun _ _ => id) _ _ _ _ _ (HH.out.on B2)
      have h10 : 10 ≤ w2.heap.size := by have := HE.out.big; have := B2.size; omega
      have CV := HPV.out W3 w2.heap.size w2.heap.size [] _ _ _ _ P3 B3.size (HE.out.below (B2.trans (B3.mono B2.size))) h10 H3
      have HW3 := Lib.hid hW3
      have HR3 := Lib.hid R3
      have HB3 := Lib.hid (B2.trans (B3.mono B2.size))
      have HB2 := Lib.hid B2
      have hbb : w2.heap.size ≤ w2.heap.size := Nat.le_refl _
      clear hW3 P3 B2 B3 R3 H3 h10 CD
      go_upto_region 7 with (fail)
      rw [← HW3.out]
      by_cases hl : 65536 < (prG [] v).length
      · have HP : Hid (printA v = ([], 3)) := Lib.hid (by rw [HP0.out, if_pos hl])
        have hll := HPP.out.1 hl
        have hl2 : (65536 : Int) < ((putsL [] (psJ v)).length : Int) := by omega
        clear hl hll HP0
        go_wp2_with (first
          | ((with_reducible show wpList _ _ _ (⟨some 16, .load _ (.tmp 1), _, _, _, _⟩ :: _) _ _); refine wpList_load_row rfl 27 _ rfl w.heap.size rfl 27 #[.int .i64 v.kind, .string (str v.text), .slice x1 v.items.length c1, .slice x2 v.keys.length c2] (0, 0) _ HR3.out Tryz.underlying27 rfl HIF.out ?_)
          | (go_at_call 15; ((with_reducible refine CV.mono ?_); rintro e w4 ⟨rfl, h4⟩; have CL := bd_len _ _ _ _ h4.pr; rw [Lib.byteCells_length] at CL))
          | (go_at_call 16; ((with_reducible refine CL.mono ?_); rintro e w5 ⟨rfl, rfl⟩)))
        go_ret2
        rw [HP.out]
        exact ⟨rfl, HB3.out.trans (h4.bel.mono HB2.out.size)⟩
      · have HP : Hid (printA v = (prG [] v, 0)) := Lib.hid (by rw [HP0.out, if_neg hl])
        have hll := HPP.out.2 hl
        rw [hll] at CV
        have hl2 : ¬ (65536 : Int) < ((prG [] v).length : Int) := by omega
        clear hl hll HP0
        go_wp2_with (first
          | ((with_reducible show wpList _ _ _ (⟨some 16, .load _ (.tmp 1), _, _, _, _⟩ :: _) _ _); refine wpList_load_row rfl 27 _ rfl w.heap.size rfl 27 #[.int .i64 v.kind, .string (str v.text), .slice x1 v.items.length c1, .slice x2 v.keys.length c2] (0, 0) _ HR3.out Tryz.underlying27 rfl HIF.out ?_)
          | (go_at_call 15; ((with_reducible refine CV.mono ?_); rintro e w4 ⟨rfl, h4⟩; have CL := bd_len _ _ _ _ h4.pr; rw [Lib.byteCells_length] at CL))
          | (go_at_call 16; ((with_reducible refine CL.mono ?_); rintro e w5 ⟨rfl, rfl⟩))
          | (go_at_call 17; ((with_reducible refine (bd_string _ _ _ _ h4.pr HNE.out).mono ?_); rintro e w6 ⟨rfl, hb6⟩)))
        go_ret2
        rw [HP.out]
        exact ⟨rfl, (HB3.out.trans (h4.bel.mono HB2.out.size)).trans (hb6.mono HB2.out.size)⟩
end Go.Proofs.YtcepemgalammhaaGreatDoor

/- Layer 11: errors.As finds the reader's error. (299: the depth of this turn: prog.depth less what the log names.) -/
namespace Go.Proofs.YtcepemgalammhaaGreatDoor
open Go.RowKit Go.Extern.Stop Go.Stop Go.Extern

theorem rls (v x : Value) : ReflectliteValue.set #[v, x] = (do
    let (some (dst, a, fl), some (src, b, _)) := (← ReflectliteValue.parts v, ← ReflectliteValue.parts x)
      | unsupported (.noEntry "extern/(internal/reflectlite.Value).Set.zeroValue")
    if fl / ReflectliteValue.flagAddr % 2 == 0 then unsupported (.noEntry "extern/(internal/reflectlite.Value).Set.unaddressable")
    let val ← loadVar src b
    if ← Rtype.directlyAssignable dst src then storeVar dst a val
    else if ← Rtype.implements dst src then
      if (← Rtype.kind src) == 20 then
        match val with
        | .nilIface => unsupported (.noEntry "extern/reflectlite: a nil value of one interface type handed on as a value of another")
        | _ => storeVar dst a val
      else storeVar dst a (.iface src val)
    else panicString ("reflectlite.Set: value of type " ++ (← Rtype.spelt src) ++ " is not assignable to type " ++ (← Rtype.spelt dst))
    pure (.tuple #[])) := rfl
theorem jz_partsA (a : Addr) (w : World) : (ReflectliteValue.parts (.agg #[.pointer (some ⟨10, 55, none⟩), .pointer (some a), .int .u64 409])).run Tryz.prog w = .ok (some (55, a, 409)) w := by kernel_rfl
theorem jz_partsS (a : Addr) (w : World) : (ReflectliteValue.parts (.agg #[.pointer (some ⟨10, 55, none⟩), .pointer (some a), .int .u64 153])).run Tryz.prog w = .ok (some (55, a, 153)) w := by kernel_rfl
theorem jz_direct (w : World) : (Rtype.directlyAssignable 55 55).run Tryz.prog w = .ok true w := by kernel_rfl
theorem info_W2 : (Tryz.prog.info? 55).map (·.size) = some 2 := by kernel_rfl
theorem jz_set (g h : Nat) (x y : Int) (o1 o2 : Value) (W : World) (hs : rowC W h #[.int .i64 x, .int .i64 y] 55) (hd : rowC W g #[o1, o2] 55) :
    (ReflectliteValue.set #[.agg #[.pointer (some ⟨10, 55, none⟩), .pointer (some ⟨g, 0, none⟩), .int .u64 409], .agg #[.pointer (some ⟨10, 55, none⟩), .pointer (some ⟨h, 0, none⟩), .int .u64 153]]).run Tryz.prog W
      = .ok (.tuple #[]) ((W.setCell ⟨g, 0, none⟩ (.int .i64 x)).setCell ⟨g, 1, none⟩ (.int .i64 y)) := by
  have L := run_loadVar_row (P := Tryz.prog) W h 55 55 #[.int .i64 x, .int .i64 y] (0, 0) _ hs Tryz.underlying55 rfl info_W2
  rw [rls]
  simp only [Sem.run_bind, jz_partsA, jz_partsS, Result.andThen]
  simp [ReflectliteValue.flagAddr, L, Result.andThen, jz_direct, storeVar, Value.cells, storeCells, Addr.add]
  rw [run_store Tryz.prog W ⟨g, 0, none⟩ _ _ (by rfl)]
  have d0 := rowC_cell hd 0
  have d1 := rowC_cell (rowC_set hd 0 (.int .i64 x)) 1
  have e0 := rowC_free hd 0
  have e1 := rowC_free (rowC_set hd 0 (.int .i64 x)) 1
  simp [d0, e0]
  rw [run_store Tryz.prog (W.setCell ⟨g, 0, none⟩ (.int .i64 x)) ⟨g, 1, none⟩ _ _ (by rfl)]
  simp [d1, e1]
/-- (299: the number of types that the walk shows at a call through an interface.) -/
theorem jz_mKind (h : Value) (w : World) : (Go.method 299 101 (.agg #[h]) "Kind").run Tryz.prog w = .ok (121, h) w := by kernel_rfl
theorem jz_mElem (h : Value) (w : World) : (Go.method 299 101 (.agg #[h]) "Elem").run Tryz.prog w = .ok (133, .agg #[h]) w := by kernel_rfl
theorem jz_mImplements (h : Value) (w : World) : (Go.method 299 101 (.agg #[h]) "Implements").run Tryz.prog w = .ok (134, .agg #[h]) w := by kernel_rfl
theorem jz_mAssignableTo (h : Value) (w : World) : (Go.method 299 101 (.agg #[h]) "AssignableTo").run Tryz.prog w = .ok (131, .agg #[h]) w := by kernel_rfl
set_option maxRecDepth 100000 in
set_option maxHeartbeats 8000000 in
theorem as_hit (g : Nat) (x y : Int) (o1 o2 : Value) (w : World) (hE : w.cell? ⟨0, 0, none⟩ = some (.iface 101 (.agg #[.pointer (some ⟨10, 51, none⟩)]))) (hd : rowC w g #[o1, o2] 55) :
    Calls Tryz.prog 13 #[.iface 55 (.agg #[.int .i64 x, .int .i64 y]), .iface 57 (.pointer (some ⟨g, 0, none⟩))] w fun ev w' => ev = .returned (.bool true) ∧ rowC w' g #[.int .i64 x, .int .i64 y] 55 ∧ Chg (· = g) w w' := by
  have h28 := @run_callFunc_extern Tryz.prog 24 _ (fun args => ReflectliteValue.unpack (args.getD 0 (.tuple #[]))) Tryz.func24 (by kernel_rfl) (by kernel_rfl) (by kernel_rfl) (by kernel_rfl)
  have h29 := @run_callFunc_extern Tryz.prog 25 _ (ReflectliteValue.methodAny (ReflectliteValue.valueError "reflectlite.Value.Type" 0) (fun t _ _ _ => ReflectliteType.toType t)) Tryz.func25 (by kernel_rfl) (by kernel_rfl) (by kernel_rfl) (by kernel_rfl)
  have h30 := @run_callFunc_extern Tryz.prog 26 _ (ReflectliteValue.method (ReflectliteValue.valueError "reflectlite.Value.IsNil" 0) ReflectliteValue.isNil) Tryz.func26 (by kernel_rfl) (by kernel_rfl) (by kernel_rfl) (by kernel_rfl)
  have h123 := @run_callFunc_extern Tryz.prog 121 _ (ReflectliteType.abiMethod fun t => do pure (.int .u8 (← Rtype.kind t))) Tryz.func121 (by kernel_rfl) (by kernel_rfl) (by kernel_rfl) (by kernel_rfl)
  have h135 := @run_callFunc_extern Tryz.prog 133 _ (ReflectliteType.method ReflectliteType.elem) Tryz.func133 (by kernel_rfl) (by kernel_rfl) (by kernel_rfl) (by kernel_rfl)
  have h136 := @run_callFunc_extern Tryz.prog 134 _ (ReflectliteType.relation "Implements" ReflectliteType.implements_) Tryz.func134 (by kernel_rfl) (by kernel_rfl) (by kernel_rfl) (by kernel_rfl)
  have h49 := @run_callFunc_extern Tryz.prog 45 _ ReflectliteType.typeOf Tryz.func45 (by kernel_rfl) (by kernel_rfl) (by kernel_rfl) (by kernel_rfl)
  have h133 := @run_callFunc_extern Tryz.prog 131 _ (ReflectliteType.relation "AssignableTo" ReflectliteType.assignableTo) Tryz.func131 (by kernel_rfl) (by kernel_rfl) (by kernel_rfl) (by kernel_rfl)
  have h50 := @run_callFunc_extern Tryz.prog 46 _ (ReflectliteValue.method (ReflectliteValue.valueError "reflectlite.Value.Elem" 0) ReflectliteValue.elem) Tryz.func46 (by kernel_rfl) (by kernel_rfl) (by kernel_rfl) (by kernel_rfl)
  have h51 := @run_callFunc_extern Tryz.prog 47 _ ReflectliteValue.set Tryz.func47 (by kernel_rfl) (by kernel_rfl) (by kernel_rfl) (by kernel_rfl)
  have a0 := jz_valueOfP
  have a1 := jz_typeP
  have a2 := jz_kindP
  have a3 := jz_kindS
  have a4 := jz_elemT
  have a5 := jz_implements
  have a6 := jz_typeOf
  have a7 := jz_assignable
  have a8 := jz_valueOfS
  have m1 := jz_mKind
  have m2 := jz_mElem
  have m3 := jz_mImplements
  have m4 := jz_mAssignableTo
  have n8 := jz_isNil ⟨w.heap.size, 0, none⟩ ⟨g, 0, none⟩ ((w.alloc (.cells #[.pointer (some ⟨g, 0, none⟩)] 57)).alloc (.cells #[.pointer (some ⟨10, 57, none⟩), .pointer (some ⟨w.heap.size, 0, none⟩), .int .u64 150] 75)) (rowC_cell (rowC_alloc (rowC_new w _ _) _) 0)
  have hg2 : ((w.alloc (.cells #[.pointer (some ⟨g, 0, none⟩)] 57)).alloc (.cells #[.pointer (some ⟨10, 57, none⟩), .pointer (some ⟨w.heap.size, 0, none⟩), .int .u64 150] 75)).cell? ⟨0, 0, none⟩ = some (.iface 101 (.agg #[.pointer (some ⟨10, 51, none⟩)])) := cell_chg (s := fun _ => False) (((Chg.refl _ w).alloc _).alloc _) hE id
  have el := jz_elemV ⟨w.heap.size, 0, none⟩ ⟨g, 0, none⟩ (((w.alloc (.cells #[.pointer (some ⟨g, 0, none⟩)] 57)).alloc (.cells #[.pointer (some ⟨10, 57, none⟩), .pointer (some ⟨w.heap.size, 0, none⟩), .int .u64 150] 75)).alloc (.cells #[.pointer (some ⟨10, 57, none⟩), .pointer (some ⟨w.heap.size, 0, none⟩), .int .u64 150] 75)) (rowC_cell (rowC_alloc (rowC_alloc (rowC_new w _ _) _) _) 0)
  have hs3 : (((w.alloc (.cells #[.pointer (some ⟨g, 0, none⟩)] 57)).alloc (.cells #[.pointer (some ⟨10, 57, none⟩), .pointer (some ⟨w.heap.size, 0, none⟩), .int .u64 150] 75)).alloc (.cells #[.pointer (some ⟨10, 57, none⟩), .pointer (some ⟨w.heap.size, 0, none⟩), .int .u64 150] 75)).heap.size = w.heap.size + 1 + 1 + 1 := by simp
  have rs : rowC ((((w.alloc (.cells #[.pointer (some ⟨g, 0, none⟩)] 57)).alloc (.cells #[.pointer (some ⟨10, 57, none⟩), .pointer (some ⟨w.heap.size, 0, none⟩), .int .u64 150] 75)).alloc (.cells #[.pointer (some ⟨10, 57, none⟩), .pointer (some ⟨w.heap.size, 0, none⟩), .int .u64 150] 75)).alloc (.cells #[.int .i64 x, .int .i64 y] 55)) (w.heap.size + 1 + 1 + 1) #[.int .i64 x, .int .i64 y] 55 := by rw [← hs3]; exact rowC_new _ _ _
  have rd : rowC ((((w.alloc (.cells #[.pointer (some ⟨g, 0, none⟩)] 57)).alloc (.cells #[.pointer (some ⟨10, 57, none⟩), .pointer (some ⟨w.heap.size, 0, none⟩), .int .u64 150] 75)).alloc (.cells #[.pointer (some ⟨10, 57, none⟩), .pointer (some ⟨w.heap.size, 0, none⟩), .int .u64 150] 75)).alloc (.cells #[.int .i64 x, .int .i64 y] 55)) g #[o1, o2] 55 := rowC_alloc (rowC_alloc (rowC_alloc (rowC_alloc hd _) _) _) _
  have st := jz_set g (w.heap.size + 1 + 1 + 1) x y o1 o2 _ rs rd
  have hfin : rowC ((((((w.alloc (.cells #[.pointer (some ⟨g, 0, none⟩)] 57)).alloc (.cells #[.pointer (some ⟨10, 57, none⟩), .pointer (some ⟨w.heap.size, 0, none⟩), .int .u64 150] 75)).alloc (.cells #[.pointer (some ⟨10, 57, none⟩), .pointer (some ⟨w.heap.size, 0, none⟩), .int .u64 150] 75)).alloc (.cells #[.int .i64 x, .int .i64 y] 55)).setCell ⟨g, 0, none⟩ (.int .i64 x)).setCell ⟨g, 1, none⟩ (.int .i64 y)) g #[.int .i64 x, .int .i64 y] 55 := rowC_set (rowC_set rd 0 _) 1 _
  have HF := Lib.hid hfin
  have HC : Hid (Chg (· = g) w ((((((w.alloc (.cells #[.pointer (some ⟨g, 0, none⟩)] 57)).alloc (.cells #[.pointer (some ⟨10, 57, none⟩), .pointer (some ⟨w.heap.size, 0, none⟩), .int .u64 150] 75)).alloc (.cells #[.pointer (some ⟨10, 57, none⟩), .pointer (some ⟨w.heap.size, 0, none⟩), .int .u64 150] 75)).alloc (.cells #[.int .i64 x, .int .i64 y] 55)).setCell ⟨g, 0, none⟩ (.int .i64 x)).setCell ⟨g, 1, none⟩ (.int .i64 y))) := Lib.hid (((((((Chg.refl _ w).alloc _).alloc _).alloc _).alloc _).cellq 0 _).cellq 1 _)
  clear hs3 rs rd hfin hd
  go_enter Tryz.func13, Tryz.ntmps13
  go_wp2
  refine wp_loop_rounds 1 ?_
  rw [rounds_succ]
  go_wp2
  go_ret
  exact ⟨rfl, HF.out, HC.out⟩
end Go.Proofs.YtcepemgalammhaaGreatDoor

/- Layer 11: Parse. -/
namespace Go.Proofs.YtcepemgalammhaaGreatDoor
open Go.RowKit

/-- A row out of memory, and two numbers beside it, as results. -/
theorem results_row_tmp2 {P : Program} {fn : Func} {p u u2 : Tmp} {ty : TypeId} (h : fn.results = #[.cell p ty, .tmp u, .tmp u2]) (tmps : Array Value) (w : World) (g : Nat) (t : TypeId) (cs : Array Value) (d : TypeDesc)
    (hp : tmps.getD p undef = .pointer (some ⟨g, 0, none⟩)) (hg : rowC w g cs t)
    (hu : P.underlying ty = some d) (hd : (match d with | .struct _ | .array _ _ => true | _ => false) = true) (hi : (P.info? ty).map (·.size) = some cs.size) (v v2 : Value) (hv : tmps.getD u undef = v) (hv2 : tmps.getD u2 undef = v2) :
    (results fn tmps).run P w = .ok (.tuple #[.agg cs, v, v2]) w := by
  have key : (results fn tmps).run P w = ((asAddr (tmps.getD p undef)).run P w).andThen fun a w₁ => ((loadVar ty a).run P w₁).andThen fun v w₂ => .ok (.tuple #[v, tmps.getD u undef, tmps.getD u2 undef]) w₂ := by
    simp only [results, h]
    simp [Sem.run_bind, Result.andThen]
  rw [key, hp, hv, hv2]
  simp only [asAddr, Sem.run_pure, Result.andThen_ok, run_loadVar_row w g t ty cs (0, 0) d hg hu hd hi]
/-- What Parse answers of a text that is not too long. -/
def saysP (w : World) (S : Bs) (R : Res JV) (e : Ending) (w' : World) : Prop :=
  match R with
  | .ok v _ => ∃ V, e = .returned (.tuple #[V, .int .i64 0, .int .i64 0]) ∧ HoldsJ w' (fun k => w.heap.size ≤ k ∧ k < w'.heap.size) v V ∧ Below w.heap.size w w'
  | .bad code x => e = .returned (.tuple #[.agg zeroV4, .int .i64 ((S.length - x.length : Nat) : Int), .int .i64 (code : Int)]) ∧ Below w.heap.size w w'
set_option maxRecDepth 100000 in
set_option maxHeartbeats 8000000 in
theorem parse_long (S : Bs) (hl : 65536 < S.length) (w : World) :
    Calls Tryz.prog 7 #[.string (str S)] w fun e w' => e = .returned (.tuple #[.agg zeroV4, .int .i64 0, .int .i64 3]) ∧ Below w.heap.size w w' := by
  obtain ⟨W0, hW0⟩ : ∃ W0, W0 = w.alloc (.cells #[.int .i64 0, .string ⟨#[]⟩, .slice none 0 0, .slice none 0 0] 27) := ⟨_, rfl⟩
  have R0 : rowC W0 w.heap.size zeroV4 27 := by rw [hW0]; exact rowC_new w _ _
  have B0 : Below w.heap.size w W0 := by rw [hW0]; exact (Below.refl _ _).alloc (Nat.le_refl _) _
  have hsz := str_size S
  have hl' : (65536 : Int) < ((str S).size : Int) := by omega
  have HI := Lib.hid info_V
  have HW0 := Lib.hid hW0
  have HR0 := Lib.hid R0
  have HB0 := Lib.hid B0
  clear hW0 R0 B0 hsz hl
  go_enter Tryz.func7, Tryz.ntmps7
  go_upto_region 1 with (fail)
  rw [← HW0.out]
  go_wp2_with (first
    | ((with_reducible show wpList _ _ _ (⟨some 11, .build _ _, _, _, _, _⟩ :: _) _ _); refine wpList_build_as rfl 27 _ rfl zeroV4 (by kernel_rfl) ?_)
    | ((with_reducible show wpList _ _ _ (⟨none, .store _ (.tmp 2) _, _, _, _, _⟩ :: _) _ _); refine wpList_store_row rfl 27 _ _ rfl w.heap.size zeroV4 rfl rfl 27 zeroV4 HR0.out HI.out rfl zeroV4_all ?_))
  refine bodyPost_ret (results_row_tmp2 rfl _ _ w.heap.size 27 zeroV4 _ rfl (rowC_setRow HR0.out _) Tryz.underlying27 rfl HI.out (.int .i64 0) (.int .i64 3) rfl rfl) rfl ?_
  exact ⟨rfl, below_setRow HB0.out (Nat.le_refl _) _⟩
set_option maxRecDepth 100000 in
set_option maxHeartbeats 8000000 in
theorem parse_any {n : Nat} {S : Bs} {R : Res JV} (hS : okS S) (w : World) (hE : Env w) (hR : allP n S = some R) :
    Calls Tryz.prog 7 #[.string (str S)] w fun e w' => saysP w S R e w' := by
  obtain ⟨W0, hW0⟩ : ∃ W0, W0 = w.alloc (.cells #[.int .i64 0, .string ⟨#[]⟩, .slice none 0 0, .slice none 0 0] 27) := ⟨_, rfl⟩
  have R0 : rowC W0 w.heap.size zeroV4 27 := by rw [hW0]; exact rowC_new w _ _
  have B0 : Below w.heap.size w W0 := by rw [hW0]; exact (Below.refl _ _).alloc (Nat.le_refl _) _
  have s0 : W0.heap.size = w.heap.size + 1 := by rw [hW0]; exact size_alloc _ _
  obtain ⟨W1, hW1⟩ : ∃ W1, W1 = W0.alloc (.cells #[.string (str S), .int .i64 0, .int .i64 0] 49) := ⟨_, rfl⟩
  have Q1 : RdAt W1 (w.heap.size + 1) S S 0 := ⟨by
    rw [hW1, Nat.sub_self, ← s0]
    exact rowC_new W0 _ _, List.suffix_refl S⟩
  have R1 : rowC W1 w.heap.size zeroV4 27 := by rw [hW1]; exact rowC_alloc R0 _
  have B1 : Below w.heap.size w W1 := by rw [hW1]; exact B0.alloc (by omega) _
  have E1 : Env W1 := hE.below B1
  have hbig := hE.big
  have CA := rall_any hS E1 (by omega) Q1 hR
  have hsz := str_size S
  have hl' : ¬ (65536 : Int) < ((str S).size : Int) := by unfold okS at hS; omega
  have HI := Lib.hid info_V
  have HW0 := Lib.hid hW0
  have HW1 := Lib.hid hW1
  have HR1 := Lib.hid R1
  have HB1 := Lib.hid B1
  have Hs0 := Lib.hid s0
  have HE1 := Lib.hid E1
  have Hs1 : Hid (W1.heap.size = w.heap.size + 1 + 1) := Lib.hid (by rw [hW1, size_alloc, s0])
  have HBG := Lib.hid hbig
  clear hW0 R0 B0 hsz hS hR hW1 Q1 R1 B1 E1 s0 hE hbig
  cases R with
  | ok v x =>
    unfold saysV at CA
    go_enter Tryz.func7, Tryz.ntmps7
    go_upto_region 1 with (fail)
    rw [← HW0.out]
    go_upto_region 4 with (fail)
    rw [Hs0.out, ← HW1.out]
    go_wp2_with (first
      | (go_at_call 12; ((with_reducible refine CA.mono ?_); rintro e w2 ⟨V, rfl, ⟨a, b, c, d, rfl, hH⟩, hQ, hC⟩; obtain ⟨rfl, rfl, ⟨x1, c1, rfl⟩, x2, c2, rfl⟩ := hH.form; have HH := Lib.hid hH; have HC := Lib.hid hC; have HZ := Lib.hid (hC.rowC HR1.out (by omega)); clear hH hQ hC))
      | ((with_reducible show wpList _ _ _ (⟨none, .store _ (.tmp 2) (.tmp 18), _, _, _, _⟩ :: _) _ _); refine wpList_store_row rfl 27 _ _ rfl w.heap.size (row4 v.kind (str v.text) x1 v.items.length c1 x2 v.keys.length c2) rfl rfl 27 zeroV4 HZ.out HI.out rfl (row4_all _ _ _ _ _ _ _ _) ?_)
      | (go_at_call 13; ((with_reducible refine (as_nil _ _).mono ?_); rintro e w4 ⟨rfl, rfl⟩))
      | ((with_reducible show wpList _ _ _ (⟨some 28, .load _ (.tmp 2), _, _, _, _⟩ :: _) _ _); refine wpList_load_row rfl 27 _ rfl w.heap.size rfl 27 (row4 v.kind (str v.text) x1 v.items.length c1 x2 v.keys.length c2) (0, 0) _ (rowC_alloc (rowC_setRow HZ.out _) _) Tryz.underlying27 rfl HI.out ?_)
      | ((with_reducible show wpList _ _ _ (⟨none, .store _ (.tmp 2) (.tmp 28), _, _, _, _⟩ :: _) _ _); refine wpList_store_row rfl 27 _ _ rfl w.heap.size (row4 v.kind (str v.text) x1 v.items.length c1 x2 v.keys.length c2) rfl rfl 27 _ (rowC_alloc (rowC_setRow HZ.out _) _) HI.out rfl (row4_all _ _ _ _ _ _ _ _) ?_))
    have Z4 := rowC_alloc (rowC_setRow HZ.out (row4 v.kind (str v.text) x1 v.items.length c1 x2 v.keys.length c2)) (Obj.cells #[.int .i64 0, .int .i64 0] 55)
    refine bodyPost_ret (results_row_tmp2 rfl _ _ w.heap.size 27 (row4 v.kind (str v.text) x1 v.items.length c1 x2 v.keys.length c2) _ rfl (rowC_setRow Z4 _) Tryz.underlying27 rfl HI.out (.int .i64 0) (.int .i64 0) rfl rfl) rfl ?_
    have c23 : Chg (fun k => k = w.heap.size) w2 (((w2.setRow w.heap.size (row4 v.kind (str v.text) x1 v.items.length c1 x2 v.keys.length c2)).alloc (Obj.cells #[.int .i64 0, .int .i64 0] 55)).setRow w.heap.size (row4 v.kind (str v.text) x1 v.items.length c1 x2 v.keys.length c2)) := ((((Chg.refl (fun k => k = w.heap.size) w2).setRow _ _ (.inl rfl)).alloc _).setRow _ _ (.inl rfl))
    have b2 : Below w.heap.size w w2 := HB1.out.trans (HC.out.below HB1.out.size (fun k hk e => by omega))
    refine ⟨_, rfl, ⟨_, _, _, _, rfl, HoldsC.mono (fun k hk hlt => ⟨by have := Hs1.out; omega, hlt⟩) _ _ _ _ _ (HoldsC.chg c23 (fun k hk e => by have := Hs1.out; omega) _ _ _ _ _ HH.out)⟩, b2.trans (c23.below b2.size (fun k hk e => by omega))⟩
  | bad code x =>
    unfold saysV errAt errV at CA
    dsimp only at CA
    obtain ⟨at_, hat⟩ : ∃ m, m = S.length - x.length := ⟨_, rfl⟩
    rw [← hat] at CA
    have HAT := Lib.hid hat
    clear hat
    go_enter Tryz.func7, Tryz.ntmps7
    go_upto_region 1 with (fail)
    rw [← HW0.out]
    go_upto_region 4 with (fail)
    rw [Hs0.out, ← HW1.out]
    go_upto_region 7 with (first
      | (go_at_call 12; ((with_reducible refine CA.mono ?_); rintro e w2 ⟨V, rfl, ⟨k, t, x1, n1, c1, x2, n2, c2, rfl⟩, _, hC⟩; have HC := Lib.hid hC; have HEV := Lib.hid (HE1.out.chg hC (fun k hk e => by have := HBG.out; omega)); have HZ := Lib.hid (hC.rowC HR1.out (by omega)); clear hC))
      | ((with_reducible show wpList _ _ _ (⟨none, .store _ (.tmp 2) (.tmp 18), _, _, _, _⟩ :: _) _ _); refine wpList_store_row rfl 27 _ _ rfl w.heap.size (row4 k t x1 n1 c1 x2 n2 c2) rfl rfl 27 zeroV4 HZ.out HI.out rfl (row4_all _ _ _ _ _ _ _ _) ?_)
      | (go_at_call 13; ((with_reducible refine (as_hit w2.heap.size (at_ : Int) (code : Int) (.int .i64 0) (.int .i64 0) _ (HEV.out.chg (((Chg.refl (fun k => k = w.heap.size) w2).setRow _ _ (.inl rfl)).alloc _) (fun k hk e => by have := HBG.out; omega)).errT (by rw [← setRow_size w2 w.heap.size (row4 k t x1 n1 c1 x2 n2 c2)]; exact rowC_new _ _ _)).mono ?_); rintro e w4 ⟨rfl, hr4, hc4⟩)))
    have hsz2 := HC.out.size
    have hne : w.heap.size ≠ w2.heap.size := by have := Hs1.out; omega
    have Z4 : rowC w4 w.heap.size (row4 k t x1 n1 c1 x2 n2 c2) 27 := hc4.rowC (rowC_alloc (rowC_setRow HZ.out _) _) hne
    have g0 : w4.cell? ⟨w2.heap.size, 0, none⟩ = some (.int .i64 (at_ : Int)) := rowC_cell hr4 0
    have g1 : w4.cell? ⟨w2.heap.size, 1, none⟩ = some (.int .i64 (code : Int)) := rowC_cell hr4 1
    have z0 : w4.cell? ⟨w.heap.size, 0, none⟩ = some (.int .i64 k) := rowC_cell Z4 0
    have z1 : w4.cell? ⟨w.heap.size, 1, none⟩ = some (.string t) := rowC_cell Z4 1
    have z2 : w4.cell? ⟨w.heap.size, 2, none⟩ = some (.slice x1 n1 c1) := rowC_cell Z4 2
    have z3 : w4.cell? ⟨w.heap.size, 3, none⟩ = some (.slice x2 n2 c2) := rowC_cell Z4 3
    have f0 := rowC_free Z4 0
    have f1 := rowC_free Z4 1
    have f2 := rowC_free Z4 2
    have f3 := rowC_free Z4 3
    have hne2 : ¬ w2.heap.size = w.heap.size := fun e => hne e.symm
    have HZ4 := Lib.hid Z4
    have HC4 := Lib.hid hc4
    clear Z4 hc4 hr4 CA
    go_region
    go_wp2
    have Z8 : rowC ((((w4.setCell ⟨w.heap.size, 0, none⟩ (.int .i64 0)).setCell ⟨w.heap.size, 1, none⟩ (.string ⟨#[]⟩)).setCell ⟨w.heap.size, 2, none⟩ (.slice none 0 0)).setCell ⟨w.heap.size, 3, none⟩ (.slice none 0 0)).drew w.heap.size zeroV4 27 := rowC_set (rowC_set (rowC_set (rowC_set HZ4.out 0 (.int .i64 0)) 1 (.string ⟨#[]⟩)) 2 (.slice none 0 0)) 3 (.slice none 0 0)
    refine bodyPost_ret (results_row_tmp2 rfl _ _ w.heap.size 27 zeroV4 _ rfl Z8 Tryz.underlying27 rfl HI.out (.int .i64 (at_ : Int)) (.int .i64 (code : Int)) rfl rfl) rfl ?_
    unfold saysP
    dsimp only
    rw [← HAT.out]
    have b2 : Below w.heap.size w w2 := HB1.out.trans (HC.out.below HB1.out.size (fun k hk e => by omega))
    have c2 : Chg (fun k => k = w.heap.size) w2 ((w2.setRow w.heap.size (row4 k t x1 n1 c1 x2 n2 c2)).alloc (Obj.cells #[.int .i64 0, .int .i64 0] 55)) := ((Chg.refl (fun k => k = w.heap.size) w2).setRow _ _ (.inl rfl)).alloc _
    have b3 := b2.trans (c2.below b2.size (fun k hk e => by omega))
    have b4 := b3.trans (HC4.out.below b3.size (fun k hk e => by have := Hs1.out; omega))
    have c5 : Chg (fun k => k = w.heap.size) w4 ((((w4.setCell ⟨w.heap.size, 0, none⟩ (.int .i64 0)).setCell ⟨w.heap.size, 1, none⟩ (.string ⟨#[]⟩)).setCell ⟨w.heap.size, 2, none⟩ (.slice none 0 0)).setCell ⟨w.heap.size, 3, none⟩ (.slice none 0 0)).drew := (((((Chg.refl (fun k => k = w.heap.size) w4).cellq _ _).cellq _ _).cellq _ _).cellq _ _).drew
    exact ⟨rfl, b4.trans (c5.below b4.size (fun k hk e => by omega))⟩
end Go.Proofs.YtcepemgalammhaaGreatDoor

/- Layer 11: the chapter's texts. -/
namespace Go.Proofs.YtcepemgalammhaaGreatDoor
open Go.RowKit

theorem ex_two {w : World} (hE : Env w) : Calls Tryz.prog 7 #[.string ⟨#[48, 49]⟩] w fun e w' => e = .returned (.tuple #[.agg zeroV4, .int .i64 1, .int .i64 10]) ∧ Below w.heap.size w w' :=
  (parse_any (S := [48, 49]) (by unfold okS; decide) w hE ex2).mono fun _ _ h => ⟨h.1, h.2⟩
theorem ex_three {w : World} (hE : Env w) : Calls Tryz.prog 7 #[.string ⟨#[91, 49, 44, 93]⟩] w fun e w' => e = .returned (.tuple #[.agg zeroV4, .int .i64 3, .int .i64 10]) ∧ Below w.heap.size w w' :=
  (parse_any (S := [91, 49, 44, 93]) (by unfold okS; decide) w hE ex3).mono fun _ _ h => ⟨h.1, h.2⟩
theorem ex_four {w : World} (hE : Env w) : Calls Tryz.prog 7 #[.string ⟨#[34, 97]⟩] w fun e w' => e = .returned (.tuple #[.agg zeroV4, .int .i64 2, .int .i64 10]) ∧ Below w.heap.size w w' :=
  (parse_any (S := [34, 97]) (by unfold okS; decide) w hE ex4).mono fun _ _ h => ⟨h.1, h.2⟩
theorem ex_one {w : World} (hE : Env w) : Calls Tryz.prog 7 #[.string ⟨#[91, 49, 44, 32, 45, 50, 46, 53, 101, 51, 93]⟩] w fun e w' => ∃ (ad : Addr) (c1 : Nat) (x2 : Option Addr) (c2 : Nat),
    e = .returned (.tuple #[.agg #[.int .i64 5, .string ⟨#[]⟩, .slice (some ad) 2 c1, .slice x2 0 c2], .int .i64 0, .int .i64 0]) ∧ w'.cell? ⟨(ad.add 4).block, (ad.add 4).off + 1, none⟩ = some (.string ⟨#[45, 50, 46, 53, 101, 51]⟩) ∧ Below w.heap.size w w' := by
  refine (parse_any (S := [91, 49, 44, 32, 45, 50, 46, 53, 101, 51, 93]) (by unfold okS; decide) w hE ex1).mono fun e w' h => ?_
  obtain ⟨V, rfl, ⟨a, b, c, d, rfl, hH⟩, hb⟩ := h
  obtain ⟨rfl, rfl, _, ⟨x1, c1, rfl, hI⟩, ⟨x2, c2, rfl, _⟩⟩ := hH.opens
  obtain ⟨ad, a', b', c', d', rfl, _, h4, hV⟩ := hI 1 _ rfl
  obtain ⟨rfl, rfl, _⟩ := hV.opens
  exact ⟨ad, c1, x2, c2, rfl, h4 1 _ rfl, hb⟩
theorem okJ_text (k : Int) (t : Bs) (h : k = 3 → t.length ≤ 70368744177664) : okJ (.mk k t [] []) := by
  rw [okJ, okJL]
  exact ⟨h, ⟨by simp, by simp, fun y hy => by cases hy⟩, trivial⟩
theorem ex_five {w : World} (hE : Env w) : Calls Tryz.prog 8 #[.agg #[.int .i64 4, .string ⟨#[34, 10, 1]⟩, .slice none 0 0, .slice none 0 0]] w fun e w' => e = .returned (.tuple #[.string ⟨#[34, 92, 34, 92, 110, 92, 117, 48, 48, 48, 49, 34]⟩, .int .i64 0]) ∧ Below w.heap.size w w' := by
  have hm : may (.mk 4 [34, 10, 1] [] []) := by
    rw [may, mayL]
    exact ⟨trivial, .inr (.inr (.inl ⟨rfl, by rfl, rfl, rfl⟩))⟩
  have hd : deep (.mk 4 [34, 10, 1] [] []) ≤ 16 := by rw [deep, deepL]; simp
  have hp := printA_may hm hd
  rw [ex5] at hp
  have hp2 : printA (.mk 4 [34, 10, 1] [] []) = ([34, 92, 34, 92, 110, 92, 117, 48, 48, 48, 49, 34], 0) := hp.trans (if_neg (by decide))
  have hH : HoldsC w (fun k => k < w.heap.size) (.mk 4 [34, 10, 1] [] []) (.int .i64 4) (.string ⟨#[34, 10, 1]⟩) (.slice none 0 0) (.slice none 0 0) := by
    rw [HoldsC]
    exact ⟨rfl, rfl, by decide, .inl ⟨rfl, rfl⟩, .inl ⟨rfl, rfl⟩⟩
  have C := print_any (okJ_text 4 [34, 10, 1] (fun e => absurd e (by decide))) hE hH
  rw [hp2] at C
  exact C
set_option maxRecDepth 100000 in
set_option maxHeartbeats 8000000 in
theorem noted_any (w : World) (hE : Env w) : Calls Tryz.prog 6 #[] w fun e w' => e = .returned (.bool true) ∧ Below w.heap.size w w' := by
  have HIF := Lib.hid info_V
  have HE := Lib.hid hE
  clear hE
  go_enter Tryz.func6, Tryz.ntmps6
  go_upto_region 2 with (first
    | (go_at_call 7; ((with_reducible refine (ex_one HE.out).mono ?_); rintro e w1 ⟨ad, c1, x2, c2, rfl, hc1, hb1⟩))
    | ((with_reducible show wpList _ _ _ (⟨none, .store _ (.tmp 1) (.tmp 21), _, _, _, _⟩ :: _) _ _); refine wpList_store_last rfl 27 _ _ rfl w1.heap.size #[.int .i64 5, .string ⟨#[]⟩, .slice (some ad) 2 c1, .slice x2 0 c2] rfl rfl 27 zeroV4 rfl HIF.out rfl (row4_all _ _ _ _ _ _ _ _) ?_))
  obtain ⟨W1, hW1⟩ : ∃ W1, W1 = w1.alloc (.cells #[.int .i64 5, .string ⟨#[]⟩, .slice (some ad) 2 c1, .slice x2 0 c2] 27) := ⟨_, rfl⟩
  rw [← hW1]
  have R1 : rowC W1 w1.heap.size #[.int .i64 5, .string ⟨#[]⟩, .slice (some ad) 2 c1, .slice x2 0 c2] 27 := by rw [hW1]; exact rowC_new _ _ _
  have HB1 : Hid (Below w.heap.size w W1) := Lib.hid (by rw [hW1]; exact hb1.alloc hb1.size _)
  have hc2 : W1.cell? ⟨(ad.add 4).block, (ad.add 4).off + 1, none⟩ = some (.string ⟨#[45, 50, 46, 53, 101, 51]⟩) := by
    rw [hW1]; exact cell_chg (s := fun _ => False) ((Chg.refl _ w1).alloc _) hc1 id
  have K : Hid (∀ w', Below W1.heap.size W1 w' → w'.cell? ⟨w1.heap.size, 0, none⟩ = some (.int .i64 5) ∧ w'.cell? ⟨w1.heap.size, 2, none⟩ = some (.slice (some ad) 2 c1) ∧ w'.cell? ⟨(ad.add 4).block, (ad.add 4).off + 1, none⟩ = some (.string ⟨#[45, 50, 46, 53, 101, 51]⟩)) := Lib.hid fun w' hb =>
    ⟨rowC_cell (rowC_below R1 hb (rowC_lt R1)) 0, rowC_cell (rowC_below R1 hb (rowC_lt R1)) 2, cell_chg (s := fun _ => False) (Chg.of_below hb) hc2 id⟩
  have HK1 : Hid (Below W1.heap.size W1 W1) := Lib.hid (Below.refl _ _)
  clear hW1 R1 hc1 hb1 hc2
  go_upto_region 3 with (first
    | (go_at_call 7; ((with_reducible refine (ex_two (HE.out.below HB1.out)).mono ?_); rintro e w2 ⟨rfl, hb2⟩))
    | ((with_reducible show wpList _ _ _ (⟨none, .store _ (.tmp 4) (.tmp 26), _, _, _, _⟩ :: _) _ _); refine wpList_store_last rfl 27 _ _ rfl w2.heap.size zeroV4 rfl rfl 27 zeroV4 rfl HIF.out rfl zeroV4_all ?_))
  have HK2 : Hid (Below W1.heap.size W1 (w2.alloc (.cells zeroV4 27))) := Lib.hid ((HK1.out.trans (hb2.mono HK1.out.size)).alloc (Nat.le_trans HK1.out.size hb2.size) _)
  have HB2 : Hid (Below w.heap.size w (w2.alloc (.cells zeroV4 27))) := Lib.hid (HB1.out.trans (HK2.out.mono HB1.out.size))
  clear hb2
  generalize w2.alloc (.cells zeroV4 27) = W2 at *
  go_upto_region 4 with (first
    | (go_at_call 7; ((with_reducible refine (ex_three (HE.out.below HB2.out)).mono ?_); rintro e w3 ⟨rfl, hb3⟩))
    | ((with_reducible show wpList _ _ _ (⟨none, .store _ (.tmp 7) (.tmp 31), _, _, _, _⟩ :: _) _ _); refine wpList_store_last rfl 27 _ _ rfl w3.heap.size zeroV4 rfl rfl 27 zeroV4 rfl HIF.out rfl zeroV4_all ?_))
  have HK3 : Hid (Below W1.heap.size W1 (w3.alloc (.cells zeroV4 27))) := Lib.hid ((HK2.out.trans (hb3.mono HK2.out.size)).alloc (Nat.le_trans HK2.out.size hb3.size) _)
  have HB3 : Hid (Below w.heap.size w (w3.alloc (.cells zeroV4 27))) := Lib.hid (HB1.out.trans (HK3.out.mono HB1.out.size))
  clear hb3
  generalize w3.alloc (.cells zeroV4 27) = W3 at *
  go_upto_region 5 with (first
    | (go_at_call 7; ((with_reducible refine (ex_four (HE.out.below HB3.out)).mono ?_); rintro e w4 ⟨rfl, hb4⟩))
    | ((with_reducible show wpList _ _ _ (⟨none, .store _ (.tmp 10) (.tmp 36), _, _, _, _⟩ :: _) _ _); refine wpList_store_last rfl 27 _ _ rfl w4.heap.size zeroV4 rfl rfl 27 zeroV4 rfl HIF.out rfl zeroV4_all ?_))
  have HK4 : Hid (Below W1.heap.size W1 (w4.alloc (.cells zeroV4 27))) := Lib.hid ((HK3.out.trans (hb4.mono HK3.out.size)).alloc (Nat.le_trans HK3.out.size hb4.size) _)
  have HB4 : Hid (Below w.heap.size w (w4.alloc (.cells zeroV4 27))) := Lib.hid (HB1.out.trans (HK4.out.mono HB1.out.size))
  clear hb4
  generalize w4.alloc (.cells zeroV4 27) = W4 at *
  go_upto_region 8 with (first
    | ((with_reducible show wpList _ _ _ (⟨some 40, .build _ _, _, _, _, _⟩ :: _) _ _); refine wpList_build_as rfl 27 _ rfl #[.int .i64 4, .string ⟨#[34, 10, 1]⟩, .slice none 0 0, .slice none 0 0] (by kernel_rfl) ?_)
    | ((with_reducible show wpList _ _ _ (⟨some 45, .build _ _, _, _, _, _⟩ :: _) _ _); refine wpList_build_as rfl 27 _ rfl #[.int .i64 3, .string ⟨#[49, 101, 51]⟩, .slice none 0 0, .slice none 0 0] (by kernel_rfl) ?_)
    | ((with_reducible show wpList _ _ _ (⟨some 50, .build _ _, _, _, _, _⟩ :: _) _ _); refine wpList_build_as rfl 27 _ rfl #[.int .i64 3, .string ⟨#[45, 55]⟩, .slice none 0 0, .slice none 0 0] (by kernel_rfl) ?_)
    | (go_at_call 8; ((with_reducible refine (ex_five (HE.out.below HB4.out)).mono ?_); rintro e w5 ⟨rfl, hb5⟩; have B5 := HB4.out.trans (hb5.mono HB4.out.size); have K5 := HK4.out.trans (hb5.mono HK4.out.size)))
    | (go_at_call 11; first
      | ((with_reducible refine (int_no _ (HE.out.below B5)).mono ?_); rintro e w6 ⟨rfl, hb6⟩; have B6 := B5.trans (hb6.mono B5.size); have K6 := K5.trans (hb6.mono K5.size))
      | ((with_reducible refine (int_yes _ (HE.out.below B6)).mono ?_); rintro e w7 ⟨rfl, hb7⟩; have B7 := B6.trans (hb7.mono B6.size); have K7 := K6.trans (hb7.mono K6.size))))
  obtain ⟨k0, k2, k4⟩ := K.out w7 K7
  have k5 : w7.cell? ⟨ad.block, ad.off + 4 + 1, none⟩ = some (.string ⟨#[45, 50, 46, 53, 101, 51]⟩) := k4
  go_wp2
  go_ret
  exact ⟨rfl, B7⟩
end Go.Proofs.YtcepemgalammhaaGreatDoor

/- Layer 11: the parts that come in, as the statements hand them. -/
namespace Go.Proofs.YtcepemgalammhaaGreatDoor
open Go.RowKit Go.ChangeShapes Go.WideShapes Go.Deep

theorem boundsI8 {n : Int} (h : (Lit.int .i8 n).wf = true) : -128 ≤ n ∧ n ≤ 127 := by
  simp [Lit.wf, IntKind.min, IntKind.max, IntKind.signed, IntKind.bits] at h
  omega
theorem boundsU8 {n : Int} (h : (Lit.int .u8 n).wf = true) : 0 ≤ n ∧ n ≤ 255 := by
  simp [Lit.wf, IntKind.min, IntKind.max, IntKind.signed, IntKind.bits] at h
  omega
structure Part1 where
  kind : Int
  text : Bs
  items : Nat
  keys : List Bs
instance : Inhabited Part1 := ⟨⟨0, [], 0, []⟩⟩
def Part1.ok (p : Part1) : Prop := -128 ≤ p.kind ∧ p.kind ≤ 127 ∧ p.text.length ≤ maxLen ∧ p.items < 256
/-- A part, at its place. -/
def PartC (w : World) (ad : Addr) (i : Nat) (p : Part1) : Prop :=
  ∃ xk ck, at4 w (ad.add (i * 4)) (.int .i8 p.kind) (.string (str p.text)) (.int .u8 (p.items : Int)) (.slice xk p.keys.length ck) ∧ HoldsK w (fun k => k < w.heap.size) p.keys (.slice xk p.keys.length ck) ∧ (∀ x ∈ p.keys, x.length ≤ maxLen) ∧ p.keys.length ≤ maxLen ∧ p.ok
def PartsC (w : World) (x : Option Addr) (l : List Part1) : Prop := ∀ i p, l[i]? = some p → ∃ ad, x = some ad ∧ ad.block < w.heap.size ∧ PartC w ad i p
section
variable {H : Type} {enc : TypeId × Value → H} {W : World} {base : Nat} {sp : Nat → Bool} {held : Bool}
theorem add_pos (a : Addr) (j : Nat) (h : j ≠ 0) : a.add j = ⟨a.block, a.off + j, none⟩ := by unfold Addr.add; rw [if_neg h]
/-- A list of texts that comes in. -/
theorem open_keysK {fuel : Nat} {v : Value} {x : DataW H × List MemPlace} (h : DataW.trod enc Tryz.prog W base sp held fuel 25 [v] = some x) :
    ∃ (l : List Bs) (xk : Option Addr) (ck : Nat), v = .slice xk l.length ck ∧ HoldsK W (fun k => k < W.heap.size) l v ∧ (∀ x ∈ l, x.length ≤ maxLen) ∧ l.length ≤ maxLen := by
  rcases open_slice1 Tryz.underlying25 (by kernel_rfl) h with ⟨hcs, _⟩ | ⟨a, len, cap, m, n, V, D, Pl, hcs, _, hl, hm, hmm, _, hc⟩
  · exact ⟨[], none, 0, (List.cons.inj hcs).1, .inl ⟨(List.cons.inj hcs).1, rfl⟩, (fun x hx => by cases hx), Nat.zero_le _⟩
  · have hlm : len ≤ m := by rw [hmm]; split <;> omega
    have key : ∀ i, i < len → ∃ s : Bs, W.cell? (a.add i) = some (.string (str s)) ∧ s.length ≤ maxLen := by
      intro i hi
      obtain ⟨h1, h2⟩ := hc i (by omega)
      obtain ⟨b, hb, _, hs⟩ := DataW.trod_string Tryz.underlying9 h2
      refine ⟨b.data.toList, ?_, ?_⟩
      · rw [h1, str_list]
        exact congrArg some (List.cons.inj hb).1
      · exact hs
    obtain ⟨f, hf⟩ := choose_lt key
    have hg : ∀ j, j < len → ((List.range len).map f).getD j [] = f j := fun j hj => by
      rw [List.getD_eq_getElem?_getD, List.getElem?_map, List.getElem?_range hj]; rfl
    have e1 : ((List.range len).map f).length = len := by rw [List.length_map, List.length_range]
    have e2 : v = .slice (some a) len cap := (List.cons.inj hcs).1
    refine ⟨(List.range len).map f, some a, cap, by rw [e1]; exact e2, .inr ⟨a, cap, by rw [e1]; exact e2, fun i hi => ?_⟩, fun x hx => ?_, ?_⟩
    · rw [e1] at hi
      rw [hg i hi]
      have := World.block_lt_of_cell? W _ (hf i hi).1
      rw [add_block] at this
      exact ⟨this, (hf i hi).1⟩
    · obtain ⟨i, hi, rfl⟩ := List.mem_map.1 hx
      exact (hf i (List.mem_range.1 hi)).2
    · rw [e1]
      omega
set_option maxRecDepth 100000 in
/-- A part, of its four cells. -/
theorem open_part {fuel : Nat} {cs : List Value} {x : DataW H × List MemPlace} (h : DataW.trod enc Tryz.prog W base sp held fuel 44 cs = some x) :
    ∃ (p : Part1) (xk : Option Addr) (ck : Nat), cs = [.int .i8 p.kind, .string (str p.text), .int .u8 (p.items : Int), .slice xk p.keys.length ck] ∧ HoldsK W (fun k => k < W.heap.size) p.keys (.slice xk p.keys.length ck) ∧ (∀ x ∈ p.keys, x.length ≤ maxLen) ∧ p.keys.length ≤ maxLen ∧ p.ok := by
  obtain ⟨xs, n, _, _, hlen, _, hf⟩ := DataW.trod_struct Tryz.underlying44 h
  have hc : Tryz.prog.cellsOf 44 = 4 := by kernel_rfl
  have c1 : Tryz.prog.cellsOf 42 = 1 := by kernel_rfl
  have c2 : Tryz.prog.cellsOf 9 = 1 := by kernel_rfl
  have c3 : Tryz.prog.cellsOf 5 = 1 := by kernel_rfl
  have c4 : Tryz.prog.cellsOf 25 = 1 := by kernel_rfl
  rw [hc] at hlen
  match cs, hlen with
  | [v0, v1, v2, v3], _ =>
    have f0 : DataW.trod enc Tryz.prog W base sp held n 42 (([v0, v1, v2, v3].drop 0).take (Tryz.prog.cellsOf 42)) = xs[0]? := hf 0 _ rfl
    have f1 : DataW.trod enc Tryz.prog W base sp held n 9 (([v0, v1, v2, v3].drop 1).take (Tryz.prog.cellsOf 9)) = xs[1]? := hf 1 _ rfl
    have f2 : DataW.trod enc Tryz.prog W base sp held n 5 (([v0, v1, v2, v3].drop 2).take (Tryz.prog.cellsOf 5)) = xs[2]? := hf 2 _ rfl
    have f3 : DataW.trod enc Tryz.prog W base sp held n 25 (([v0, v1, v2, v3].drop 3).take (Tryz.prog.cellsOf 25)) = xs[3]? := hf 3 _ rfl
    rw [c1] at f0
    rw [c2] at f1
    rw [c3] at f2
    rw [c4] at f3
    replace f0 : DataW.trod enc Tryz.prog W base sp held n 42 [v0] = xs[0]? := f0
    replace f1 : DataW.trod enc Tryz.prog W base sp held n 9 [v1] = xs[1]? := f1
    replace f2 : DataW.trod enc Tryz.prog W base sp held n 5 [v2] = xs[2]? := f2
    replace f3 : DataW.trod enc Tryz.prog W base sp held n 25 [v3] = xs[3]? := f3
    have get : ∀ {i : Nat} {t : TypeId} {l : List Value}, DataW.trod enc Tryz.prog W base sp held n t l = xs[i]? → i < xs.length → ∃ y, DataW.trod enc Tryz.prog W base sp held n t l = some y := fun h hi => ⟨_, h.trans (List.getElem?_eq_getElem hi)⟩
    have hx : xs.length = 4 := by assumption
    obtain ⟨y0, g0⟩ := get f0 (by omega)
    obtain ⟨y1, g1⟩ := get f1 (by omega)
    obtain ⟨y2, g2⟩ := get f2 (by omega)
    obtain ⟨y3, g3⟩ := get f3 (by omega)
    obtain ⟨n0, e0, _, w0⟩ := DataW.trod_int Tryz.underlying42 g0
    obtain ⟨s1, e1, _, w1⟩ := DataW.trod_string Tryz.underlying9 g1
    obtain ⟨n2, e2, _, w2⟩ := DataW.trod_int Tryz.underlying5 g2
    obtain ⟨l, xk, ck, rfl, hK, hl1, hl2⟩ := open_keysK g3
    obtain ⟨b1, b2⟩ := boundsI8 w0
    obtain ⟨b3, b4⟩ := boundsU8 w2
    obtain ⟨m, rfl⟩ : ∃ m : Nat, n2 = m := ⟨n2.toNat, by omega⟩
    refine ⟨⟨n0, s1.data.toList, m, l⟩, xk, ck, ?_, hK, hl1, hl2, b1, b2, ?_, (show m < 256 by omega)⟩
    · rw [(List.cons.inj e0).1, (List.cons.inj e1).1, (List.cons.inj e2).1, str_list]
    · exact w1
/-- A list of parts that comes in. -/
theorem open_partsC {fuel : Nat} {v : Value} {x : DataW H × List MemPlace} (h : DataW.trod enc Tryz.prog W base sp held fuel 22 [v] = some x) :
    ∃ (l : List Part1) (xp : Option Addr) (cp : Nat), v = .slice xp l.length cp ∧ PartsC W xp l ∧ l.length ≤ maxLen := by
  have hc4 : Tryz.prog.cellsOf 44 = 4 := by kernel_rfl
  rcases open_slice Tryz.underlying22 h with ⟨hcs, _⟩ | ⟨a, len, cap, m, n, D, Pl, hcs, _, hl, hm, hmm, _, hx⟩
  · exact ⟨[], none, 0, (List.cons.inj hcs).1, (fun i p hi => by cases hi), Nat.zero_le _⟩
  · have hlm : len ≤ m := by rw [hmm]; split <;> omega
    rw [hc4] at hx
    have key : ∀ i, i < len → ∃ z : Part1, PartC W a i z ∧ a.block < W.heap.size := by
      intro i hi
      obtain ⟨cs', h1, h2⟩ := hx i (by omega)
      obtain ⟨_, h3, hat⟩ := World.cells?_some h1
      obtain ⟨p, xk, ck, rfl, hK, hk1, hk2, hok⟩ := open_part h2
      have q0 := hat 0 (by decide)
      rw [Addr.add_zero'] at q0
      have hb := World.block_lt_of_cell? W _ q0
      rw [add_block] at hb
      refine ⟨p, ⟨xk, ck, fun j v hj => ?_, hK, hk1, hk2, hok⟩, hb⟩
      have hj4 : j < 4 := (List.getElem?_eq_some_iff.1 hj).1
      exact (hat j hj4).trans hj
    obtain ⟨f, hf⟩ := choose_lt key
    have e1 : ((List.range len).map f).length = len := by rw [List.length_map, List.length_range]
    have e2 : v = .slice (some a) len cap := (List.cons.inj hcs).1
    refine ⟨(List.range len).map f, some a, cap, by rw [e1]; exact e2, fun i p hi => ?_, ?_⟩
    · have hlt : i < len := by
        have := (List.getElem?_eq_some_iff.1 hi).1
        rwa [e1] at this
      rw [List.getElem?_map, List.getElem?_range hlt] at hi
      obtain rfl : f i = p := Option.some.inj hi
      exact ⟨a, rfl, (hf i hlt).2, (hf i hlt).1⟩
    · rw [e1]
      omega
end
end Go.Proofs.YtcepemgalammhaaGreatDoor

/- Layer 11, plain: what is parsed keeps the bounds that its text has. -/
namespace Go.Proofs.YtcepemgalammhaaGreatDoor
open Go.Lib

theorem str_len : ∀ (n : Nat) {l acc t q : Bs}, strP n l acc = some (.ok t q) → t.length ≤ acc.length + 4 * l.length
  | 0, l, acc, t, q, h => by cases h
  | n + 1, l, acc, t, q, h => by
    rw [strP] at h
    split at h
    · rw [Option.some.injEq, Res.ok.injEq] at h
      rw [← h.1]; omega
    · cases ho : oneP l with
      | bad k r => rw [ho] at h; cases h
      | ok c r =>
        rw [ho] at h
        have hc := one_ok ho
        have h1 := str_len n h
        have h2 := enc_le c
        rw [List.length_append] at h1
        omega
theorem quo_len {n : Nat} {l t q : Bs} (h : quoP n l = some (.ok t q)) : t.length ≤ 4 * l.length := by
  unfold quoP at h
  split at h
  · have h1 := str_len n h
    have := tail_le l
    rw [List.length_nil] at h1
    omega
  · cases h
theorem key_len {n : Nat} {seen : List Bs} {l t q : Bs} (h : keyP n seen l = some (.ok t q)) : t.length ≤ 4 * l.length := by
  unfold keyP at h
  cases hq : quoP n (dropB l) with
  | none => rw [hq] at h; cases h
  | some x =>
    rw [hq] at h
    cases x with
    | bad k r => cases h
    | ok key r =>
      simp only at h
      have h1 := quo_len hq
      have h2 := dropB_le l
      split at h
      · cases h
      split at h
      · rw [Option.some.injEq, Res.ok.injEq] at h
        rw [← h.1]; omega
      · cases h
/-- A step that goes on, by what is left. -/
theorem parts_good {α : Type} {e : UInt8} {step : α → Bs → Option (Res α)} {good : α → Nat → Prop} (hm : ∀ a n m, m ≤ n → good a n → good a m) (hs : ∀ a l b q, good a l.length → step a l = some (.ok b q) → good b q.length) :
    ∀ (n : Nat) (first : Bool) (a : α) (l : Bs) (b : α) (q : Bs), good a l.length → partsP e step n first a l = some (.ok b q) → good b q.length
  | 0, _, _, _, _, _, _, h => by cases h
  | n + 1, first, a, l, b, q, hg, h => by
    have hb := dropB_le l
    have ht := tail_le (dropB l)
    rw [partsP] at h
    split at h
    · rw [Option.some.injEq, Res.ok.injEq] at h
      rw [← h.1, ← h.2]
      exact hm _ _ _ (by omega) hg
    split at h
    · cases hx : step a (dropB l) with
      | none => rw [hx] at h; cases h
      | some x =>
        rw [hx] at h
        cases x with
        | bad k r => cases h
        | ok a' r => exact parts_good hm hs n false a' r b q (hs _ _ _ _ (hm _ _ _ hb hg) hx) h
    split at h
    · cases hx : step a (dropB l).tail with
      | none => rw [hx] at h; cases h
      | some x =>
        rw [hx] at h
        cases x with
        | bad k r => cases h
        | ok a' r => exact parts_good hm hs n false a' r b q (hs _ _ _ _ (hm _ _ _ (by omega) hg) hx) h
    · cases h
theorem okJL_all : ∀ {l : List JV}, (∀ x ∈ l, okJ x) → okJL l
  | [], _ => by rw [okJL]; trivial
  | x :: l, h => by rw [okJL]; exact ⟨h x (by simp), okJL_all fun y hy => h y (by simp [hy])⟩
theorem okJ_leaf (k : Int) (t : Bs) (h : t.length ≤ 70368744177664) : okJ (.mk k t [] []) := by
  rw [okJ, okJL]
  exact ⟨fun _ => h, ⟨by simp, by simp, fun y hy => by cases hy⟩, trivial⟩
theorem val_good : ∀ (n lev : Nat) (l : Bs) (v : JV) (q : Bs), lev ≤ 16 → l.length ≤ 65536 → valP n lev l = some (.ok v q) → okJ v
  | 0, lev, l, v, q, _, _, h => by cases h
  | n + 1, lev, l, v, q, hlev, hl, h => by
    rw [valP] at h
    have hb := dropB_le l
    generalize dropB l = m at h hb
    unfold valB at h
    have word : ∀ k w, some (mkW k w m) = some (.ok v q) → okJ v := by
      intro k w h
      unfold mkW at h
      cases hx : wordP w m with
      | bad k r => rw [hx] at h; cases h
      | ok u r =>
        rw [hx] at h
        simp only [Res.map, Option.some.injEq, Res.ok.injEq] at h
        rw [← h.1]
        exact okJ_leaf _ _ (Nat.zero_le _)
    have hml := tail_le m
    split at h
    · exact word 0 nullT h
    split at h
    · exact word 1 falseT h
    split at h
    · exact word 2 trueT h
    split at h
    · cases hx : quoP n m with
      | none => rw [hx] at h; cases h
      | some x =>
        rw [hx] at h
        cases x with
        | bad k r => cases h
        | ok t r =>
          simp only [Option.map_some, Res.map, Option.some.injEq, Res.ok.injEq] at h
          rw [← h.1]
          have h1 := quo_len hx
          exact okJ_leaf _ _ (by omega)
    split at h
    · split at h
      · cases h
      · rename_i h91 h16
        cases hx : partsP 93 (stepL (valP n (lev + 1))) n true [] m.tail with
        | none => rw [hx] at h; cases h
        | some x =>
          rw [hx] at h
          cases x with
          | bad k r => cases h
          | ok acc r =>
            simp only [Option.map_some, Res.map, Option.some.injEq, Res.ok.injEq] at h
            rw [← h.1]
            have hp := parts_good (e := 93) (step := stepL (valP n (lev + 1))) (good := fun (acc : List JV) k => acc.length + k ≤ 65536 ∧ ∀ x ∈ acc, okJ x) (fun a n m hm h => ⟨by omega, h.2⟩) (by
              intro a l b q ha hs
              unfold stepL at hs
              cases hv : valP n (lev + 1) l with
              | none => rw [hv] at hs; cases hs
              | some y =>
                rw [hv] at hs
                cases y with
                | bad k r => cases hs
                | ok y r =>
                  rw [Option.some.injEq, Res.ok.injEq] at hs
                  obtain ⟨rfl, rfl⟩ := hs
                  have h1 := val_ok n (lev + 1) l y _ (by omega) hv
                  have h2 := val_good n (lev + 1) l y _ (by omega) (by omega) hv
                  refine ⟨by rw [List.length_append, List.length_singleton]; omega, fun z hz => ?_⟩
                  rcases List.mem_append.1 hz with hz | hz
                  · exact ha.2 z hz
                  · rw [List.mem_singleton.1 hz]; exact h2) n true [] m.tail acc r ⟨by rw [List.length_nil]; omega, fun x hx => by cases hx⟩ hx
            unfold mkL
            rw [okJ]
            exact ⟨fun _ => Nat.zero_le _, ⟨by omega, by simp, fun y hy => by cases hy⟩, okJL_all hp.2⟩
    split at h
    · split at h
      · cases h
      · rename_i h91 h16
        cases hx : partsP 125 (stepO n (valP n (lev + 1))) n true [] m.tail with
        | none => rw [hx] at h; cases h
        | some x =>
          rw [hx] at h
          cases x with
          | bad k r => cases h
          | ok acc r =>
            simp only [Option.map_some, Res.map, Option.some.injEq, Res.ok.injEq] at h
            rw [← h.1]
            have hp := parts_good (e := 125) (step := stepO n (valP n (lev + 1))) (good := fun (acc : List (Bs × JV)) k => acc.length + k ≤ 65536 ∧ ∀ x ∈ acc, okJ x.2 ∧ x.1.length ≤ 262144) (fun a n m hm h => ⟨by omega, h.2⟩) (by
              intro a l b q ha hs
              unfold stepO at hs
              cases hk : keyP n (a.map (·.1)) l with
              | none => rw [hk] at hs; cases hs
              | some kx =>
                rw [hk] at hs
                cases kx with
                | bad k r => cases hs
                | ok key r =>
                  simp only at hs
                  have hk1 := key_ok hk
                  have hk2 := key_len hk
                  cases hv : valP n (lev + 1) r with
                  | none => rw [hv] at hs; cases hs
                  | some y =>
                    rw [hv] at hs
                    cases y with
                    | bad k r => cases hs
                    | ok y r' =>
                      simp only [Option.some.injEq, Res.ok.injEq] at hs
                      obtain ⟨rfl, rfl⟩ := hs
                      have h1 := val_ok n (lev + 1) r y _ (by omega) hv
                      have h2 := val_good n (lev + 1) r y _ (by omega) (by omega) hv
                      refine ⟨by rw [List.length_append, List.length_singleton]; omega, fun z hz => ?_⟩
                      rcases List.mem_append.1 hz with hz | hz
                      · exact ha.2 z hz
                      · rw [List.mem_singleton.1 hz]; exact ⟨h2, show key.length ≤ 262144 by have := ha.1; omega⟩) n true [] m.tail acc r ⟨by rw [List.length_nil]; omega, fun x hx => by cases hx⟩ hx
            unfold mkO
            rw [okJ]
            refine ⟨fun _ => Nat.zero_le _, ⟨by rw [List.length_map]; omega, by rw [List.length_map]; omega, fun y hy => ?_⟩, okJL_all fun y hy => ?_⟩
            · obtain ⟨z, hz, rfl⟩ := List.mem_map.1 hy
              exact (hp.2 z hz).2
            · obtain ⟨z, hz, rfl⟩ := List.mem_map.1 hy
              exact (hp.2 z hz).1
    · unfold mkN at h
      cases hx : numP m with
      | bad k r => rw [hx] at h; cases h
      | ok u r =>
        rw [hx] at h
        simp only [Option.some.injEq, Res.ok.injEq] at h
        rw [← h.1]
        exact okJ_leaf _ _ (by rw [List.length_take]; omega)
theorem all_good {n : Nat} {l : Bs} {v : JV} {r : Bs} (hl : l.length ≤ 65536) (h : allP n l = some (.ok v r)) : okJ v := by
  unfold allP at h
  cases hv : valP n 0 l with
  | none => rw [hv] at h; cases h
  | some x =>
    rw [hv] at h
    cases x with
    | bad k q => cases h
    | ok w q =>
      have := val_good n 0 l w q (by omega) hl hv
      dsimp only at h
      split at h
      · rw [Option.some.injEq, Res.ok.injEq] at h
        rw [← h.1]
        exact this
      · cases h
end Go.Proofs.YtcepemgalammhaaGreatDoor

/- Layer 11: what Build keeps, in memory. -/
namespace Go.Proofs.YtcepemgalammhaaGreatDoor
open Go.RowKit

def stepJ (op : List JV) (p : Part1) : List JV := op.take (op.length - p.items % 7) ++ [.mk p.kind p.text (op.drop (op.length - p.items % 7)) p.keys]
theorem stepJ_len (op : List JV) (p : Part1) : (stepJ op p).length ≤ op.length + 1 ∧ stepJ op p ≠ [] := by
  unfold stepJ
  rw [List.length_append, List.length_take, List.length_singleton]
  exact ⟨by omega, by simp⟩
theorem stepJ_ok {op : List JV} {p : Part1} (h : ∀ v ∈ op, okJ v) (hl : op.length ≤ 80) (h1 : p.text.length ≤ 300) (h2 : p.keys.length ≤ 8) (h3 : ∀ y ∈ p.keys, y.length ≤ 300) : ∀ v ∈ stepJ op p, okJ v := fun v hv => by
  unfold stepJ at hv
  rcases List.mem_append.1 hv with hv | hv
  · exact h v (List.mem_of_mem_take hv)
  · rw [List.mem_singleton.1 hv, okJ]
    exact ⟨fun _ => by omega, ⟨by rw [List.length_drop]; omega, by omega, fun y hy => by have := h3 y hy; omega⟩, okJL_all fun x hx => h x (List.mem_of_mem_drop hx)⟩
theorem ItemsC.drop {w : World} {F : Nat → Prop} : ∀ (n : Nat) (l : List JV) (xs : List Value), ItemsC w F l xs → ItemsC w F (l.drop n) (xs.drop (n * 4))
  | 0, l, xs, h => by rw [Nat.zero_mul]; exact h
  | n + 1, [], [], _ => by simp; trivial
  | n + 1, x :: l, a :: b :: c :: d :: xs, h => by
    rw [show (n + 1) * 4 = n * 4 + 4 by omega]
    exact ItemsC.drop n l xs h.2
theorem ItemsC.take {w : World} {F : Nat → Prop} : ∀ (n : Nat) (l : List JV) (xs : List Value), ItemsC w F l xs → ItemsC w F (l.take n) (xs.take (n * 4))
  | 0, l, xs, h => by rw [Nat.zero_mul]; trivial
  | n + 1, [], [], _ => by simp; trivial
  | n + 1, x :: l, a :: b :: c :: d :: xs, h => by
    rw [show (n + 1) * 4 = n * 4 + 4 by omega]
    exact ⟨h.1, ItemsC.take n l xs h.2⟩
theorem ItemsC.one {w : World} {F : Nat → Prop} : ∀ (l : List JV) (xs : List Value), ItemsC w F l xs → ∀ u ∈ xs, u.oneCell' = true
  | [], [], _, u, hu => by cases hu
  | x :: l, a :: b :: c :: d :: xs, h, u, hu => by
    obtain ⟨rfl, rfl, ⟨x1, c1, rfl⟩, x2, c2, rfl⟩ := h.1.form
    simp only [List.mem_cons] at hu
    rcases hu with rfl | rfl | rfl | rfl | hu
    · rfl
    · rfl
    · rfl
    · rfl
    · exact ItemsC.one l xs h.2 u hu
/-- What is open, in memory. -/
structure OpC (g : Nat) (w : World) (op : List JV) (V : Value) : Prop where
  ex : ∃ x c xs, V = .slice x op.length c ∧ op.length ≤ c ∧ ItemsC w (fun k => k ≠ g) op xs ∧ (op ≠ [] → ∃ ax, x = some ax ∧ ∀ j u, xs[j]? = some u → w.cell? (ax.add j) = some u)
  nil : op = [] → V = .slice none 0 0
  ok : ∀ v ∈ op, okJ v
  len : op.length ≤ 80
structure BuO (g : Nat) (w0 w : World) (j : Nat) (op : List JV) (V : Value) : Prop where
  o : OpC g w op V
  r : rowC w g zeroV4 27
  b : Below w0.heap.size w0 w
  l : op.length ≤ j
  n : 0 < j → op ≠ []
def BuildSays (w : World) (e : Ending) (w' : World) : Prop := ∃ V ok, e = .returned (.tuple #[V, .bool ok]) ∧ (ok = false ∧ V = .agg zeroV4 ∨ ok = true ∧ ∃ v, okJ v ∧ HoldsJ w' (fun k => k < w'.heap.size) v V) ∧ Below w.heap.size w w'
/-- A value of four cells whose items are a row of the call's own. -/
theorem mid_hold {wr w1 : World} {base g cap len : Nat} {F0 F1 : Nat → Prop} {items : List JV} {news : List Value} {kind : Int} {text : Bs} {keys : List Bs} {xk : Option Addr} {ck : Nat} (cw : Chg (fun _ => False) wr w1)
    (ho : w1.ownsRow base 27 4 (.slice (some ⟨g, 0, none⟩) len cap) len news) (hl : items.length = len) (hI : ItemsC wr F0 items news) (hF : ∀ k, F0 k → k < wr.heap.size → F1 k) (hg : F1 g)
    (hK : HoldsK wr (fun k => F1 k) keys (.slice xk keys.length ck)) (ht : text.length ≤ 281474976710656) :
    HoldsC w1 F1 (.mk kind text items keys) (.int .i64 kind) (.string (str text)) (.slice (some ⟨g, 0, none⟩) len cap) (.slice xk keys.length ck) := by
  have hI1 := ItemsC.chg cw (fun _ _ h => h) _ _ (ItemsC.mono hF _ _ hI)
  rw [HoldsC]
  refine ⟨rfl, rfl, ht, ?_, .inr ⟨⟨g, 0, none⟩, cap, by rw [hl], ItemsC.row items news 0 hI1 (fun _ => hg) fun j u hj => ?_⟩⟩
  · rcases hK with h | ⟨ad, c, e, hc⟩
    · exact .inl h
    · exact .inr ⟨ad, c, e, fun i hi => ⟨(hc i hi).1, cell_chg cw (hc i hi).2 id⟩⟩
  · have := ho.cells (g := g) rfl j u hj
    simpa using this
/-- The same, without items. -/
theorem mid_hold0 {wr w1 : World} {F1 : Nat → Prop} {kind : Int} {text : Bs} {keys : List Bs} {xk : Option Addr} {ck : Nat} (cw : Chg (fun _ => False) wr w1)
    (hK : HoldsK wr (fun k => F1 k) keys (.slice xk keys.length ck)) (ht : text.length ≤ 281474976710656) :
    HoldsC w1 F1 (.mk kind text [] keys) (.int .i64 kind) (.string (str text)) (.slice none 0 0) (.slice xk keys.length ck) := by
  rw [HoldsC]
  refine ⟨rfl, rfl, ht, ?_, .inl ⟨rfl, rfl⟩⟩
  rcases hK with h | ⟨ad, c, e, hc⟩
  · exact .inl h
  · exact .inr ⟨ad, c, e, fun i hi => ⟨(hc i hi).1, cell_chg cw (hc i hi).2 id⟩⟩
end Go.Proofs.YtcepemgalammhaaGreatDoor

/- Layer 11: what JsonBack asks, plainly. -/
namespace Go.Proofs.YtcepemgalammhaaGreatDoor
open Go.RowKit

theorem back_full {v : JV} (h : (printA v).2 = 0) : ∃ n, allP n (printA v).1 = some (.ok v []) := by
  obtain ⟨h1, h2, h3, h4⟩ := printA_ok h
  obtain ⟨n0, hn⟩ := all_rt gap_nil h1 h2
  refine ⟨n0, ?_⟩
  have := hn n0 (Nat.le_refl _)
  rw [List.nil_append, List.append_nil] at this
  rw [h3]
  exact this
theorem back_cut {v : JV} (h : (printA v).2 = 0) {k : Nat} (hk : k < (printA v).1.length) : ∃ n R, allP n ((printA v).1.take k) = some R ∧ (v.kind ≠ 3 → ∃ r, R = .bad 10 r) := by
  obtain ⟨h1, h2, h3, h4⟩ := printA_ok h
  rw [h3] at hk ⊢
  obtain ⟨n1, hc⟩ := all_cut h1 h2 hk
  obtain ⟨R, n0, hR⟩ := all_total ((prG [] v).take k)
  have e : allP (max n0 n1) ((prG [] v).take k) = some R := hR (max n0 n1) (by omega)
  refine ⟨max n0 n1, R, e, fun h3 => ?_⟩
  obtain ⟨r, hr⟩ := hc (max n0 n1) (by omega) h3
  rw [hr] at e
  exact ⟨r, (Option.some.inj e).symm⟩
theorem back_len {v : JV} (h : (printA v).2 = 0) : 0 < (printA v).1.length ∧ (printA v).1.length ≤ 65536 := by
  obtain ⟨h1, h2, h3, h4⟩ := printA_ok h
  rw [h3]
  exact ⟨List.length_pos_iff.2 (pr_ne h1), h4⟩
theorem back_read {n : Nat} {s : Bs} {v : JV} {r : Bs} (h : allP n s = some (.ok v r)) : (printA v).2 = 0 ∨ (printA v).2 = 3 := by
  obtain ⟨h1, h2⟩ := all_ok h
  rw [printA_may h1 h2]
  split
  · exact .inr rfl
  · exact .inl rfl
/-- A value as its four cells. -/
def In4 (w : World) (v : JV) (k : Int) (t : ByteArray) (x1 : Option Addr) (n1 c1 : Nat) (x2 : Option Addr) (n2 c2 : Nat) : Prop := HoldsC w (fun j => j < w.heap.size) v (.int .i64 k) (.string t) (.slice x1 n1 c1) (.slice x2 n2 c2)
theorem null_ok : okJ (.mk 0 [] [] []) ∧ may (.mk 0 [] [] []) ∧ deep (.mk 0 [] [] []) ≤ 16 := by
  refine ⟨okJ_leaf _ _ (Nat.zero_le _), ?_, ?_⟩
  · rw [may, mayL]
    exact ⟨trivial, .inl ⟨.inl rfl, rfl, rfl, rfl⟩⟩
  · rw [deep, deepL]
    simp
theorem null_code : (printA (.mk 0 [] [] [])).2 = 0 ∨ (printA (.mk 0 [] [] [])).2 = 3 := by
  rw [printA_may null_ok.2.1 null_ok.2.2]
  split
  · exact .inr rfl
  · exact .inl rfl
theorem null_in (w : World) : In4 w (.mk 0 [] [] []) 0 ⟨#[]⟩ none 0 0 none 0 0 := by
  unfold In4
  rw [HoldsC]
  exact ⟨rfl, rfl, Nat.zero_le _, .inl ⟨rfl, rfl⟩, .inl ⟨rfl, rfl⟩⟩
/-- What is parsed, in its cells. -/
def Says4 (w : World) (P : JV → Nat → Nat → Prop) (e : Ending) (w' : World) : Prop := ∃ (k : Int) (t : ByteArray) (x1 : Option Addr) (n1 c1 : Nat) (x2 : Option Addr) (n2 c2 at_ code : Nat) (v : JV),
  e = .returned (.tuple #[.agg #[.int .i64 k, .string t, .slice x1 n1 c1, .slice x2 n2 c2], .int .i64 (at_ : Int), .int .i64 (code : Int)]) ∧ In4 w' v k t x1 n1 c1 x2 n2 c2 ∧ P v at_ code ∧ Below w.heap.size w w'
theorem says4_of {w : World} {S : Bs} {R : Res JV} {P : JV → Nat → Nat → Prop} (h1 : ∀ v r, R = .ok v r → P v 0 0) (h2 : ∀ c r, R = .bad c r → P (.mk 0 [] [] []) (S.length - r.length) c) {e : Ending} {w' : World} (h : saysP w S R e w') : Says4 w P e w' := by
  cases R with
  | ok v r =>
    obtain ⟨V, he, ⟨a, b, c, d, rfl, hH⟩, hb⟩ := h
    have hI : HoldsC w' (fun j => j < w'.heap.size) v a b c d := HoldsC.mono (fun j hj _ => hj.2) _ _ _ _ _ hH
    obtain ⟨rfl, rfl, ⟨x1, c1, rfl⟩, x2, c2, rfl⟩ := hH.form
    exact ⟨_, _, _, _, _, _, _, _, 0, 0, v, he, hI, h1 v r rfl, hb⟩
  | bad c r =>
    obtain ⟨he, hb⟩ := h
    exact ⟨0, ⟨#[]⟩, none, 0, 0, none, 0, 0, _, c, _, he, null_in _, h2 c r rfl, hb⟩
/-- A text, read. -/
theorem read_says (S : Bs) (hl : S.length ≤ 65536) (w : World) (hE : Env w) :
    Calls Tryz.prog 7 #[.string (str S)] w fun e w' => Says4 w (fun v _ code => okJ v ∧ (code = 0 → (printA v).2 = 0 ∨ (printA v).2 = 3)) e w' := by
  obtain ⟨R, n0, hR⟩ := all_total S
  have hr := hR n0 (Nat.le_refl _)
  refine (parse_any hl w hE hr).mono fun e w' h => says4_of (fun v r e => ?_) (fun c r e => ?_) h
  · rw [e] at hr
    exact ⟨all_good hl hr, fun _ => back_read hr⟩
  · exact ⟨null_ok.1, fun _ => null_code⟩
/-- A printed text, read. -/
theorem full_says {v : JV} (h : (printA v).2 = 0) (w : World) (hE : Env w) :
    Calls Tryz.prog 7 #[.string (str (printA v).1)] w fun e w' => Says4 w (fun x _ code => x = v ∧ code = 0) e w' := by
  obtain ⟨n, hr⟩ := back_full h
  refine (parse_any (back_len h).2 w hE hr).mono fun e w' h => says4_of (fun v r e => ?_) (fun c r e => by cases e) h
  obtain ⟨rfl, _⟩ := Res.ok.inj e
  exact ⟨rfl, rfl⟩
/-- What is cut off of it. -/
theorem cut_says {v : JV} (h : (printA v).2 = 0) {k : Nat} (hk : k < (printA v).1.length) (w : World) (hE : Env w) :
    Calls Tryz.prog 7 #[.string (str ((printA v).1.take k))] w fun e w' => Says4 w (fun _ at_ code => v.kind ≠ 3 → code = 10 ∧ at_ ≤ k) e w' := by
  obtain ⟨n, R, hr, h3⟩ := back_cut h hk
  have hl : ((printA v).1.take k).length ≤ 65536 := by rw [List.length_take]; have := (back_len h).2; omega
  refine (parse_any hl w hE hr).mono fun e w' h => says4_of (fun x r e hn => ?_) (fun c r e hn => ?_) h
  · obtain ⟨r', e'⟩ := h3 hn
    rw [e'] at e
    cases e
  · obtain ⟨r', e'⟩ := h3 hn
    rw [e'] at e
    obtain ⟨rfl, rfl⟩ := Res.bad.inj e
    rw [List.length_take]
    exact ⟨rfl, by omega⟩
/-- What Build tells, in its cells. -/
theorem build_says {w : World} {e : Ending} {w' : World} (h : BuildSays w e w') : ∃ (k : Int) (t : ByteArray) (x1 : Option Addr) (n1 c1 : Nat) (x2 : Option Addr) (n2 c2 : Nat) (ok : Bool) (v : JV),
    e = .returned (.tuple #[.agg #[.int .i64 k, .string t, .slice x1 n1 c1, .slice x2 n2 c2], .bool ok]) ∧ In4 w' v k t x1 n1 c1 x2 n2 c2 ∧ okJ v ∧ Below w.heap.size w w' := by
  obtain ⟨V, ok, he, hor, hb⟩ := h
  rcases hor with ⟨rfl, rfl⟩ | ⟨rfl, v, hv, a, b, c, d, rfl, hH⟩
  · exact ⟨0, ⟨#[]⟩, none, 0, 0, none, 0, 0, false, _, he, null_in _, null_ok.1, hb⟩
  · have hH0 := hH
    obtain ⟨rfl, rfl, ⟨x1, c1, rfl⟩, x2, c2, rfl⟩ := hH.form
    exact ⟨_, _, _, _, _, _, _, _, true, v, he, hH0, hv, hb⟩
theorem In4.on {w w' : World} {v : JV} {k : Int} {t : ByteArray} {x1 : Option Addr} {n1 c1 : Nat} {x2 : Option Addr} {n2 c2 : Nat} (h : In4 w v k t x1 n1 c1 x2 n2 c2) (hb : Below w.heap.size w w') : In4 w' v k t x1 n1 c1 x2 n2 c2 := HoldsC.on h hb
theorem In4.kind {w : World} {v : JV} {k : Int} {t : ByteArray} {x1 : Option Addr} {n1 c1 : Nat} {x2 : Option Addr} {n2 c2 : Nat} (h : In4 w v k t x1 n1 c1 x2 n2 c2) : k = v.kind := by
  have := (HoldsC.form h).1
  simpa using this
end Go.Proofs.YtcepemgalammhaaGreatDoor

/- Layer 11: what JsonBack's round holds. -/
namespace Go.Proofs.YtcepemgalammhaaGreatDoor
open Go.RowKit

def row8 (k1 : Int) (t1 : ByteArray) (x1 : Option Addr) (n1 c1 : Nat) (y1 : Option Addr) (p1 q1 : Nat) (k2 : Int) (t2 : ByteArray) (x2 : Option Addr) (n2 c2 : Nat) (y2 : Option Addr) (p2 q2 : Nat) : Array Value :=
  #[.int .i64 k1, .string t1, .slice x1 n1 c1, .slice y1 p1 q1, .int .i64 k2, .string t2, .slice x2 n2 c2, .slice y2 p2 q2]
def zeroV8 : Array Value := #[.int .i64 0, .string ⟨#[]⟩, .slice none 0 0, .slice none 0 0, .int .i64 0, .string ⟨#[]⟩, .slice none 0 0, .slice none 0 0]
theorem row8_all (k1 : Int) (t1 : ByteArray) (x1 : Option Addr) (n1 c1 : Nat) (y1 : Option Addr) (p1 q1 : Nat) (k2 : Int) (t2 : ByteArray) (x2 : Option Addr) (n2 c2 : Nat) (y2 : Option Addr) (p2 q2 : Nat) : (row8 k1 t1 x1 n1 c1 y1 p1 q1 k2 t2 x2 n2 c2 y2 p2 q2).all (·.oneCell') = true := all_oneCell_toArray (fun v hv => by
  repeat (rcases List.mem_cons.1 hv with rfl | hv; rfl)
  cases hv)
theorem built_8 (k1 : Int) (t1 : ByteArray) (x1 : Option Addr) (n1 c1 : Nat) (y1 : Option Addr) (p1 q1 : Nat) (k2 : Int) (t2 : ByteArray) (x2 : Option Addr) (n2 c2 : Nat) (y2 : Option Addr) (p2 q2 : Nat) : Tryz.prog.built 34 [(0, .agg (row4 k1 t1 x1 n1 c1 y1 p1 q1)), (1, .agg (row4 k2 t2 x2 n2 c2 y2 p2 q2))] = some (row8 k1 t1 x1 n1 c1 y1 p1 q1 k2 t2 x2 n2 c2 y2 p2 q2) := by kernel_rfl
theorem info_8 : (Tryz.prog.info? 34).map (·.size) = some 8 := by kernel_rfl
/-- What stands in memory in each round. -/
structure BkM (w : World) (g code : Nat) (u v : JV) (cs : Array Value) (k1 : Int) (t1 : ByteArray) (x1 : Option Addr) (n1 c1 : Nat) (y1 : Option Addr) (p1 q1 : Nat) (k2 : Int) (t2 : ByteArray) (x2 : Option Addr) (n2 c2 : Nat) (y2 : Option Addr) (p2 q2 : Nat) (wr : World) : Prop where
  b : Below w.heap.size w wr
  env : Env wr
  csEq : cs = row8 k1 t1 x1 n1 c1 y1 p1 q1 k2 t2 x2 n2 c2 y2 p2 q2
  row : rowC wr g cs 34
  one : In4 wr u k1 t1 x1 n1 c1 y1 p1 q1
  two : In4 wr v k2 t2 x2 n2 c2 y2 p2 q2
  ok1 : okJ u
  ok2 : okJ v
  said : code = 0 → (printA v).2 = 0 ∨ (printA v).2 = 3
section
variable {w : World} {g code : Nat} {u v : JV} {cs : Array Value} {k1 : Int} {t1 : ByteArray} {x1 : Option Addr} {n1 c1 : Nat} {y1 : Option Addr} {p1 q1 : Nat} {k2 : Int} {t2 : ByteArray} {x2 : Option Addr} {n2 c2 : Nat} {y2 : Option Addr} {p2 q2 : Nat} {wr : World}
theorem BkM.step (h : BkM w g code u v cs k1 t1 x1 n1 c1 y1 p1 q1 k2 t2 x2 n2 c2 y2 p2 q2 wr) {w' : World} (hb : Below wr.heap.size wr w') : BkM w g code u v cs k1 t1 x1 n1 c1 y1 p1 q1 k2 t2 x2 n2 c2 y2 p2 q2 w' :=
  ⟨h.b.trans (hb.mono h.b.size), h.env.below hb, h.csEq, rowC_below h.row hb (rowC_lt h.row), h.one.on hb, h.two.on hb, h.ok1, h.ok2, h.said⟩
theorem BkM.get (h : BkM w g code u v cs k1 t1 x1 n1 c1 y1 p1 q1 k2 t2 x2 n2 c2 y2 p2 q2 wr) {i : Nat} (hi : i < 2) :
    ∃ (o : Nat) (V : JV) (k : Int) (t : ByteArray) (x : Option Addr) (n c : Nat) (y : Option Addr) (p q : Nat), okJ V ∧ k = V.kind ∧
      (∀ w', Below wr.heap.size wr w' → In4 w' V k t x n c y p q ∧ at4 w' ⟨g, o, none⟩ (.int .i64 k) (.string t) (.slice x n c) (.slice y p q)) ∧
      ((i = 0 ∧ o = 0) ∨ (i = 1 ∧ o = 4 ∧ code = 0 ∧ ((printA V).2 = 0 ∨ (printA V).2 = 3)) ∨ (i = 1 ∧ o = 4 ∧ ((code : Int) == 0) = false)) := by
  have hcs := h.csEq
  have hg : ∀ w', Below wr.heap.size wr w' → rowC w' g (row8 k1 t1 x1 n1 c1 y1 p1 q1 k2 t2 x2 n2 c2 y2 p2 q2) 34 := fun w' hb => by
    rw [← hcs]; exact rowC_below h.row hb (rowC_lt h.row)
  rcases (show i = 0 ∨ i = 1 by omega) with rfl | rfl
  · refine ⟨0, u, k1, t1, x1, n1, c1, y1, p1, q1, h.ok1, h.one.kind, fun w' hb => ⟨h.one.on hb, fun j v hj => ?_⟩, .inl ⟨rfl, rfl⟩⟩
    have hr := hg w' hb
    match j, hj with
    | 0, hj => simp at hj; subst hj; exact rowC_cell hr 0
    | 1, hj => simp at hj; subst hj; exact rowC_cell hr 1
    | 2, hj => simp at hj; subst hj; exact rowC_cell hr 2
    | 3, hj => simp at hj; subst hj; exact rowC_cell hr 3
  · refine ⟨4, v, k2, t2, x2, n2, c2, y2, p2, q2, h.ok2, h.two.kind, fun w' hb => ⟨h.two.on hb, fun j v hj => ?_⟩, ?_⟩
    · have hr := hg w' hb
      match j, hj with
      | 0, hj => simp at hj; subst hj; exact rowC_cell hr 4
      | 1, hj => simp at hj; subst hj; exact rowC_cell hr 5
      | 2, hj => simp at hj; subst hj; exact rowC_cell hr 6
      | 3, hj => simp at hj; subst hj; exact rowC_cell hr 7
    · by_cases hc : code = 0
      · exact .inr (.inl ⟨rfl, rfl, hc, h.said hc⟩)
      · refine .inr (.inr ⟨rfl, rfl, ?_⟩)
        rw [beq_eq_false_iff_ne]
        omega
end
theorem take_text (S : Bs) (k : Nat) : (str S).extract 0 k = str (S.take k) := by
  apply ByteArray.ext
  apply Array.ext'
  simp [str, ByteArray.data_extract]
end Go.Proofs.YtcepemgalammhaaGreatDoor

