/- Merged: JuA, JuN, JuS, JlA, JuT. -/
import Derived.Test.YtafmokpplnmbgaaGreatDoorM09
import Derived.Test.YtafmokpplnmbgaaGreatDoorM08
import Derived.Test.YtafmokpplnmbgaaGreatDoorRows
import Derived.ProofKit
import Derived.LaidMore
import Derived.LaidLaws
import Derived.LaidHandle
import Derived.Lib.LaidU8T
import Derived.Stop.LaidErr
import Derived.OpenShut
import Derived.Stop.Joined
/- Layer 11: errors.As finds the reader's error. -/
namespace Go.Proofs.YtafmokpplnmbgaaGreatDoor
open Go.RowKit Go.Extern.Stop Go.Stop Go.Extern

theorem rls (v x : Value) : ReflectliteValue.set #[v, x] = (do
    let (some (dst, a, fl), some (src, b, _)) := (← ReflectliteValue.parts v, ← ReflectliteValue.parts x)
      | unsupported (.noEntry "extern/(internal/reflectlite.Value).Set.zeroValue")
    if fl / ReflectliteValue.flagAddr % 2 == 0 then unsupported (.noEntry "extern/(internal/reflectlite.Value).Set.unaddressable")
    let val ← loadVar src b
    if ← Rtype.directlyAssignable dst src then storeVar dst a val
    else if ← Rtype.implements dst src then
      if (← Rtype.kind src) == 20 then
        match val with
        | .nilIface => unsupported (.noEntry "extern/reflectlite: a nil value of one interface type handed on as a value of another")
        | _ => storeVar dst a val
      else storeVar dst a (.iface src val)
    else panicString ("reflectlite.Set: value of type " ++ (← Rtype.spelt src) ++ " is not assignable to type " ++ (← Rtype.spelt dst))
    pure (.tuple #[])) := rfl
theorem jz_partsA (a : Addr) (w : World) : (ReflectliteValue.parts (.agg #[.pointer (some ⟨10, 64, none⟩), .pointer (some a), .int .u64 409])).run Tryz.prog w = .ok (some (64, a, 409)) w := by kernel_rfl
theorem jz_partsS (a : Addr) (w : World) : (ReflectliteValue.parts (.agg #[.pointer (some ⟨10, 64, none⟩), .pointer (some a), .int .u64 153])).run Tryz.prog w = .ok (some (64, a, 153)) w := by kernel_rfl
theorem jz_direct (w : World) : (Rtype.directlyAssignable 64 64).run Tryz.prog w = .ok true w := by kernel_rfl
theorem info_W2 : (Tryz.prog.info? 64).map (·.size) = some 2 := by kernel_rfl
theorem jz_set (g h : Nat) (x y : Int) (o1 o2 : Value) (W : World) (hs : rowC W h #[.int .i64 x, .int .i64 y] 64) (hd : rowC W g #[o1, o2] 64) :
    (ReflectliteValue.set #[.agg #[.pointer (some ⟨10, 64, none⟩), .pointer (some ⟨g, 0, none⟩), .int .u64 409], .agg #[.pointer (some ⟨10, 64, none⟩), .pointer (some ⟨h, 0, none⟩), .int .u64 153]]).run Tryz.prog W
      = .ok (.tuple #[]) ((W.setCell ⟨g, 0, none⟩ (.int .i64 x)).setCell ⟨g, 1, none⟩ (.int .i64 y)) := by
  have L := run_loadVar_row (P := Tryz.prog) W h 64 64 #[.int .i64 x, .int .i64 y] (0, 0) _ hs Tryz.underlying64 rfl info_W2
  rw [rls]
  simp only [Sem.run_bind, jz_partsA, jz_partsS, Result.andThen]
  simp [ReflectliteValue.flagAddr, L, Result.andThen, jz_direct, storeVar, Value.cells, storeCells, Addr.add]
  rw [run_store Tryz.prog W ⟨g, 0, none⟩ _ _ (by rfl)]
  have d0 := rowC_cell hd 0
  have d1 := rowC_cell (rowC_set hd 0 (.int .i64 x)) 1
  have e0 := rowC_free hd 0
  have e1 := rowC_free (rowC_set hd 0 (.int .i64 x)) 1
  simp [d0, e0]
  rw [run_store Tryz.prog (W.setCell ⟨g, 0, none⟩ (.int .i64 x)) ⟨g, 1, none⟩ _ _ (by rfl)]
  simp [d1, e1]
/-- (301: the number of types that the walk shows at a call through an interface.) -/
theorem jz_mKind (h : Value) (w : World) : (Go.method 301 105 (.agg #[h]) "Kind").run Tryz.prog w = .ok (123, h) w := by kernel_rfl
theorem jz_mElem (h : Value) (w : World) : (Go.method 301 105 (.agg #[h]) "Elem").run Tryz.prog w = .ok (135, .agg #[h]) w := by kernel_rfl
theorem jz_mImplements (h : Value) (w : World) : (Go.method 301 105 (.agg #[h]) "Implements").run Tryz.prog w = .ok (136, .agg #[h]) w := by kernel_rfl
theorem jz_mAssignableTo (h : Value) (w : World) : (Go.method 301 105 (.agg #[h]) "AssignableTo").run Tryz.prog w = .ok (133, .agg #[h]) w := by kernel_rfl
set_option maxRecDepth 100000 in
set_option maxHeartbeats 8000000 in
theorem as_hit (g : Nat) (x y : Int) (o1 o2 : Value) (w : World) (hE : w.cell? ⟨1, 0, none⟩ = some (.iface 105 (.agg #[.pointer (some ⟨10, 60, none⟩)]))) (hd : rowC w g #[o1, o2] 64) :
    Calls Tryz.prog 18 #[.iface 64 (.agg #[.int .i64 x, .int .i64 y]), .iface 66 (.pointer (some ⟨g, 0, none⟩))] w fun ev w' => ev = .returned (.bool true) ∧ rowC w' g #[.int .i64 x, .int .i64 y] 64 ∧ Chg (· = g) w w' := by
  have h28 := @run_callFunc_extern Tryz.prog 28 _ (fun args => ReflectliteValue.unpack (args.getD 0 (.tuple #[]))) Tryz.func28 (by kernel_rfl) (by kernel_rfl) (by kernel_rfl) (by kernel_rfl)
  have h29 := @run_callFunc_extern Tryz.prog 29 _ (ReflectliteValue.methodAny (ReflectliteValue.valueError "reflectlite.Value.Type" 0) (fun t _ _ _ => ReflectliteType.toType t)) Tryz.func29 (by kernel_rfl) (by kernel_rfl) (by kernel_rfl) (by kernel_rfl)
  have h30 := @run_callFunc_extern Tryz.prog 30 _ (ReflectliteValue.method (ReflectliteValue.valueError "reflectlite.Value.IsNil" 0) ReflectliteValue.isNil) Tryz.func30 (by kernel_rfl) (by kernel_rfl) (by kernel_rfl) (by kernel_rfl)
  have h123 := @run_callFunc_extern Tryz.prog 123 _ (ReflectliteType.abiMethod fun t => do pure (.int .u8 (← Rtype.kind t))) Tryz.func123 (by kernel_rfl) (by kernel_rfl) (by kernel_rfl) (by kernel_rfl)
  have h135 := @run_callFunc_extern Tryz.prog 135 _ (ReflectliteType.method ReflectliteType.elem) Tryz.func135 (by kernel_rfl) (by kernel_rfl) (by kernel_rfl) (by kernel_rfl)
  have h136 := @run_callFunc_extern Tryz.prog 136 _ (ReflectliteType.relation "Implements" ReflectliteType.implements_) Tryz.func136 (by kernel_rfl) (by kernel_rfl) (by kernel_rfl) (by kernel_rfl)
  have h49 := @run_callFunc_extern Tryz.prog 49 _ ReflectliteType.typeOf Tryz.func49 (by kernel_rfl) (by kernel_rfl) (by kernel_rfl) (by kernel_rfl)
  have h133 := @run_callFunc_extern Tryz.prog 133 _ (ReflectliteType.relation "AssignableTo" ReflectliteType.assignableTo) Tryz.func133 (by kernel_rfl) (by kernel_rfl) (by kernel_rfl) (by kernel_rfl)
  have h50 := @run_callFunc_extern Tryz.prog 50 _ (ReflectliteValue.method (ReflectliteValue.valueError "reflectlite.Value.Elem" 0) ReflectliteValue.elem) Tryz.func50 (by kernel_rfl) (by kernel_rfl) (by kernel_rfl) (by kernel_rfl)
  have h51 := @run_callFunc_extern Tryz.prog 51 _ ReflectliteValue.set Tryz.func51 (by kernel_rfl) (by kernel_rfl) (by kernel_rfl) (by kernel_rfl)
  have a0 := jz_valueOfP
  have a1 := jz_typeP
  have a2 := jz_kindP
  have a3 := jz_kindS
  have a4 := jz_elemT
  have a5 := jz_implements
  have a6 := jz_typeOf
  have a7 := jz_assignable
  have a8 := jz_valueOfS
  have m1 := jz_mKind
  have m2 := jz_mElem
  have m3 := jz_mImplements
  have m4 := jz_mAssignableTo
  have n8 := jz_isNil ⟨w.heap.size, 0, none⟩ ⟨g, 0, none⟩ ((w.alloc (.cells #[.pointer (some ⟨g, 0, none⟩)] 66)).alloc (.cells #[.pointer (some ⟨10, 66, none⟩), .pointer (some ⟨w.heap.size, 0, none⟩), .int .u64 150] 81)) (rowC_cell (rowC_alloc (rowC_new w _ _) _) 0)
  have hg2 : ((w.alloc (.cells #[.pointer (some ⟨g, 0, none⟩)] 66)).alloc (.cells #[.pointer (some ⟨10, 66, none⟩), .pointer (some ⟨w.heap.size, 0, none⟩), .int .u64 150] 81)).cell? ⟨1, 0, none⟩ = some (.iface 105 (.agg #[.pointer (some ⟨10, 60, none⟩)])) := cell_chg (s := fun _ => False) (((Chg.refl _ w).alloc _).alloc _) hE id
  have el := jz_elemV ⟨w.heap.size, 0, none⟩ ⟨g, 0, none⟩ (((w.alloc (.cells #[.pointer (some ⟨g, 0, none⟩)] 66)).alloc (.cells #[.pointer (some ⟨10, 66, none⟩), .pointer (some ⟨w.heap.size, 0, none⟩), .int .u64 150] 81)).alloc (.cells #[.pointer (some ⟨10, 66, none⟩), .pointer (some ⟨w.heap.size, 0, none⟩), .int .u64 150] 81)) (rowC_cell (rowC_alloc (rowC_alloc (rowC_new w _ _) _) _) 0)
  have hs3 : (((w.alloc (.cells #[.pointer (some ⟨g, 0, none⟩)] 66)).alloc (.cells #[.pointer (some ⟨10, 66, none⟩), .pointer (some ⟨w.heap.size, 0, none⟩), .int .u64 150] 81)).alloc (.cells #[.pointer (some ⟨10, 66, none⟩), .pointer (some ⟨w.heap.size, 0, none⟩), .int .u64 150] 81)).heap.size = w.heap.size + 1 + 1 + 1 := by simp
  have rs : rowC ((((w.alloc (.cells #[.pointer (some ⟨g, 0, none⟩)] 66)).alloc (.cells #[.pointer (some ⟨10, 66, none⟩), .pointer (some ⟨w.heap.size, 0, none⟩), .int .u64 150] 81)).alloc (.cells #[.pointer (some ⟨10, 66, none⟩), .pointer (some ⟨w.heap.size, 0, none⟩), .int .u64 150] 81)).alloc (.cells #[.int .i64 x, .int .i64 y] 64)) (w.heap.size + 1 + 1 + 1) #[.int .i64 x, .int .i64 y] 64 := by rw [← hs3]; exact rowC_new _ _ _
  have rd : rowC ((((w.alloc (.cells #[.pointer (some ⟨g, 0, none⟩)] 66)).alloc (.cells #[.pointer (some ⟨10, 66, none⟩), .pointer (some ⟨w.heap.size, 0, none⟩), .int .u64 150] 81)).alloc (.cells #[.pointer (some ⟨10, 66, none⟩), .pointer (some ⟨w.heap.size, 0, none⟩), .int .u64 150] 81)).alloc (.cells #[.int .i64 x, .int .i64 y] 64)) g #[o1, o2] 64 := rowC_alloc (rowC_alloc (rowC_alloc (rowC_alloc hd _) _) _) _
  have st := jz_set g (w.heap.size + 1 + 1 + 1) x y o1 o2 _ rs rd
  have hfin : rowC ((((((w.alloc (.cells #[.pointer (some ⟨g, 0, none⟩)] 66)).alloc (.cells #[.pointer (some ⟨10, 66, none⟩), .pointer (some ⟨w.heap.size, 0, none⟩), .int .u64 150] 81)).alloc (.cells #[.pointer (some ⟨10, 66, none⟩), .pointer (some ⟨w.heap.size, 0, none⟩), .int .u64 150] 81)).alloc (.cells #[.int .i64 x, .int .i64 y] 64)).setCell ⟨g, 0, none⟩ (.int .i64 x)).setCell ⟨g, 1, none⟩ (.int .i64 y)) g #[.int .i64 x, .int .i64 y] 64 := rowC_set (rowC_set rd 0 _) 1 _
  have HF := Lib.hid hfin
  have HC : Hid (Chg (· = g) w ((((((w.alloc (.cells #[.pointer (some ⟨g, 0, none⟩)] 66)).alloc (.cells #[.pointer (some ⟨10, 66, none⟩), .pointer (some ⟨w.heap.size, 0, none⟩), .int .u64 150] 81)).alloc (.cells #[.pointer (some ⟨10, 66, none⟩), .pointer (some ⟨w.heap.size, 0, none⟩), .int .u64 150] 81)).alloc (.cells #[.int .i64 x, .int .i64 y] 64)).setCell ⟨g, 0, none⟩ (.int .i64 x)).setCell ⟨g, 1, none⟩ (.int .i64 y))) := Lib.hid (((((((Chg.refl _ w).alloc _).alloc _).alloc _).alloc _).cellq 0 _).cellq 1 _)
  clear hs3 rs rd hfin hd
  go_enter Tryz.func18, Tryz.ntmps18
  go_wp2
  refine wp_loop_rounds 1 ?_
  rw [rounds_succ]
  go_wp2
  go_ret
  exact ⟨rfl, HF.out, HC.out⟩
end Go.Proofs.YtafmokpplnmbgaaGreatDoor

/- Layer 11: Parse. -/
namespace Go.Proofs.YtafmokpplnmbgaaGreatDoor
open Go.RowKit

/-- A row out of memory, and two numbers beside it, as results. -/
theorem results_row_tmp2 {P : Program} {fn : Func} {p u u2 : Tmp} {ty : TypeId} (h : fn.results = #[.cell p ty, .tmp u, .tmp u2]) (tmps : Array Value) (w : World) (g : Nat) (t : TypeId) (cs : Array Value) (d : TypeDesc)
    (hp : tmps.getD p undef = .pointer (some ⟨g, 0, none⟩)) (hg : rowC w g cs t)
    (hu : P.underlying ty = some d) (hd : (match d with | .struct _ | .array _ _ => true | _ => false) = true) (hi : (P.info? ty).map (·.size) = some cs.size) (v v2 : Value) (hv : tmps.getD u undef = v) (hv2 : tmps.getD u2 undef = v2) :
    (results fn tmps).run P w = .ok (.tuple #[.agg cs, v, v2]) w := by
  have key : (results fn tmps).run P w = ((asAddr (tmps.getD p undef)).run P w).andThen fun a w₁ => ((loadVar ty a).run P w₁).andThen fun v w₂ => .ok (.tuple #[v, tmps.getD u undef, tmps.getD u2 undef]) w₂ := by
    simp only [results, h]
    simp [Sem.run_bind, Result.andThen]
  rw [key, hp, hv, hv2]
  simp only [asAddr, Sem.run_pure, Result.andThen_ok, run_loadVar_row w g t ty cs (0, 0) d hg hu hd hi]
/-- What Parse answers of a text that is not too long. -/
def saysP (w : World) (S : Bs) (R : Res JV) (e : Ending) (w' : World) : Prop :=
  match R with
  | .ok v _ => ∃ V, e = .returned (.tuple #[V, .int .i64 0, .int .i64 0]) ∧ HoldsJ w' (fun k => w.heap.size ≤ k ∧ k < w'.heap.size) v V ∧ Below w.heap.size w w'
  | .bad code x => e = .returned (.tuple #[.agg zeroV4, .int .i64 ((S.length - x.length : Nat) : Int), .int .i64 (code : Int)]) ∧ Below w.heap.size w w'
set_option maxRecDepth 100000 in
set_option maxHeartbeats 8000000 in
theorem parse_long (S : Bs) (hl : 65536 < S.length) (w : World) :
    Calls Tryz.prog 8 #[.string (str S)] w fun e w' => e = .returned (.tuple #[.agg zeroV4, .int .i64 0, .int .i64 3]) ∧ Below w.heap.size w w' := by
  obtain ⟨W0, hW0⟩ : ∃ W0, W0 = w.alloc (.cells #[.int .i64 0, .string ⟨#[]⟩, .slice none 0 0, .slice none 0 0] 27) := ⟨_, rfl⟩
  have R0 : rowC W0 w.heap.size zeroV4 27 := by rw [hW0]; exact rowC_new w _ _
  have B0 : Below w.heap.size w W0 := by rw [hW0]; exact (Below.refl _ _).alloc (Nat.le_refl _) _
  have hsz := str_size S
  have hl' : (65536 : Int) < ((str S).size : Int) := by omega
  have HI := Lib.hid info_V
  have HW0 := Lib.hid hW0
  have HR0 := Lib.hid R0
  have HB0 := Lib.hid B0
  clear hW0 R0 B0 hsz hl
  go_enter Tryz.func8, Tryz.ntmps8
  go_upto_region 1 with (fail)
  rw [← HW0.out]
  go_wp2_with (first
    | ((with_reducible show wpList _ _ _ (⟨some 11, .build _ _, _, _, _, _⟩ :: _) _ _); refine wpList_build_as rfl 27 _ rfl zeroV4 (by kernel_rfl) ?_)
    | ((with_reducible show wpList _ _ _ (⟨none, .store _ (.tmp 2) _, _, _, _, _⟩ :: _) _ _); refine wpList_store_row rfl 27 _ _ rfl w.heap.size zeroV4 rfl rfl 27 zeroV4 HR0.out HI.out rfl zeroV4_all ?_))
  refine bodyPost_ret (results_row_tmp2 rfl _ _ w.heap.size 27 zeroV4 _ rfl (rowC_setRow HR0.out _) Tryz.underlying27 rfl HI.out (.int .i64 0) (.int .i64 3) rfl rfl) rfl ?_
  exact ⟨rfl, below_setRow HB0.out (Nat.le_refl _) _⟩
set_option maxRecDepth 100000 in
set_option maxHeartbeats 8000000 in
theorem parse_any {n : Nat} {S : Bs} {R : Res JV} (hS : okS S) (w : World) (hE : Env w) (hR : allP n S = some R) :
    Calls Tryz.prog 8 #[.string (str S)] w fun e w' => saysP w S R e w' := by
  obtain ⟨W0, hW0⟩ : ∃ W0, W0 = w.alloc (.cells #[.int .i64 0, .string ⟨#[]⟩, .slice none 0 0, .slice none 0 0] 27) := ⟨_, rfl⟩
  have R0 : rowC W0 w.heap.size zeroV4 27 := by rw [hW0]; exact rowC_new w _ _
  have B0 : Below w.heap.size w W0 := by rw [hW0]; exact (Below.refl _ _).alloc (Nat.le_refl _) _
  have s0 : W0.heap.size = w.heap.size + 1 := by rw [hW0]; exact size_alloc _ _
  obtain ⟨W1, hW1⟩ : ∃ W1, W1 = W0.alloc (.cells #[.string (str S), .int .i64 0, .int .i64 0] 58) := ⟨_, rfl⟩
  have Q1 : RdAt W1 (w.heap.size + 1) S S 0 := ⟨by
    rw [hW1, Nat.sub_self, ← s0]
    exact rowC_new W0 _ _, List.suffix_refl S⟩
  have R1 : rowC W1 w.heap.size zeroV4 27 := by rw [hW1]; exact rowC_alloc R0 _
  have B1 : Below w.heap.size w W1 := by rw [hW1]; exact B0.alloc (by omega) _
  have E1 : Env W1 := hE.below B1
  have hbig := hE.big
  have CA := rall_any hS E1 (by omega) Q1 hR
  have hsz := str_size S
  have hl' : ¬ (65536 : Int) < ((str S).size : Int) := by unfold okS at hS; omega
  have HI := Lib.hid info_V
  have HW0 := Lib.hid hW0
  have HW1 := Lib.hid hW1
  have HR1 := Lib.hid R1
  have HB1 := Lib.hid B1
  have Hs0 := Lib.hid s0
  have HE1 := Lib.hid E1
  have Hs1 : Hid (W1.heap.size = w.heap.size + 1 + 1) := Lib.hid (by rw [hW1, size_alloc, s0])
  have HBG := Lib.hid hbig
  clear hW0 R0 B0 hsz hS hR hW1 Q1 R1 B1 E1 s0 hE hbig
  cases R with
  | ok v x =>
    unfold saysV at CA
    go_enter Tryz.func8, Tryz.ntmps8
    go_upto_region 1 with (fail)
    rw [← HW0.out]
    go_upto_region 4 with (fail)
    rw [Hs0.out, ← HW1.out]
    go_wp2_with (first
      | (go_at_call 17; ((with_reducible refine CA.mono ?_); rintro e w2 ⟨V, rfl, ⟨a, b, c, d, rfl, hH⟩, hQ, hC⟩; obtain ⟨rfl, rfl, ⟨x1, c1, rfl⟩, x2, c2, rfl⟩ := hH.form; have HH := Lib.hid hH; have HC := Lib.hid hC; have HZ := Lib.hid (hC.rowC HR1.out (by omega)); clear hH hQ hC))
      | ((with_reducible show wpList _ _ _ (⟨none, .store _ (.tmp 2) (.tmp 18), _, _, _, _⟩ :: _) _ _); refine wpList_store_row rfl 27 _ _ rfl w.heap.size (row4 v.kind (str v.text) x1 v.items.length c1 x2 v.keys.length c2) rfl rfl 27 zeroV4 HZ.out HI.out rfl (row4_all _ _ _ _ _ _ _ _) ?_)
      | (go_at_call 18; ((with_reducible refine (as_nil _ _).mono ?_); rintro e w4 ⟨rfl, rfl⟩))
      | ((with_reducible show wpList _ _ _ (⟨some 28, .load _ (.tmp 2), _, _, _, _⟩ :: _) _ _); refine wpList_load_row rfl 27 _ rfl w.heap.size rfl 27 (row4 v.kind (str v.text) x1 v.items.length c1 x2 v.keys.length c2) (0, 0) _ (rowC_alloc (rowC_setRow HZ.out _) _) Tryz.underlying27 rfl HI.out ?_)
      | ((with_reducible show wpList _ _ _ (⟨none, .store _ (.tmp 2) (.tmp 28), _, _, _, _⟩ :: _) _ _); refine wpList_store_row rfl 27 _ _ rfl w.heap.size (row4 v.kind (str v.text) x1 v.items.length c1 x2 v.keys.length c2) rfl rfl 27 _ (rowC_alloc (rowC_setRow HZ.out _) _) HI.out rfl (row4_all _ _ _ _ _ _ _ _) ?_))
    have Z4 := rowC_alloc (rowC_setRow HZ.out (row4 v.kind (str v.text) x1 v.items.length c1 x2 v.keys.length c2)) (Obj.cells #[.int .i64 0, .int .i64 0] 64)
    refine bodyPost_ret (results_row_tmp2 rfl _ _ w.heap.size 27 (row4 v.kind (str v.text) x1 v.items.length c1 x2 v.keys.length c2) _ rfl (rowC_setRow Z4 _) Tryz.underlying27 rfl HI.out (.int .i64 0) (.int .i64 0) rfl rfl) rfl ?_
    have c23 : Chg (fun k => k = w.heap.size) w2 (((w2.setRow w.heap.size (row4 v.kind (str v.text) x1 v.items.length c1 x2 v.keys.length c2)).alloc (Obj.cells #[.int .i64 0, .int .i64 0] 64)).setRow w.heap.size (row4 v.kind (str v.text) x1 v.items.length c1 x2 v.keys.length c2)) := ((((Chg.refl (fun k => k = w.heap.size) w2).setRow _ _ (.inl rfl)).alloc _).setRow _ _ (.inl rfl))
    have b2 : Below w.heap.size w w2 := HB1.out.trans (HC.out.below HB1.out.size (fun k hk e => by omega))
    refine ⟨_, rfl, ⟨_, _, _, _, rfl, HoldsC.mono (fun k hk hlt => ⟨by have := Hs1.out; omega, hlt⟩) _ _ _ _ _ (HoldsC.chg c23 (fun k hk e => by have := Hs1.out; omega) _ _ _ _ _ HH.out)⟩, b2.trans (c23.below b2.size (fun k hk e => by omega))⟩
  | bad code x =>
    unfold saysV errAt errV at CA
    dsimp only at CA
    obtain ⟨at_, hat⟩ : ∃ m, m = S.length - x.length := ⟨_, rfl⟩
    rw [← hat] at CA
    have HAT := Lib.hid hat
    clear hat
    go_enter Tryz.func8, Tryz.ntmps8
    go_upto_region 1 with (fail)
    rw [← HW0.out]
    go_upto_region 4 with (fail)
    rw [Hs0.out, ← HW1.out]
    go_upto_region 7 with (first
      | (go_at_call 17; ((with_reducible refine CA.mono ?_); rintro e w2 ⟨V, rfl, ⟨k, t, x1, n1, c1, x2, n2, c2, rfl⟩, _, hC⟩; have HC := Lib.hid hC; have HEV := Lib.hid (HE1.out.chg hC (fun k hk e => by have := HBG.out; omega)); have HZ := Lib.hid (hC.rowC HR1.out (by omega)); clear hC))
      | ((with_reducible show wpList _ _ _ (⟨none, .store _ (.tmp 2) (.tmp 18), _, _, _, _⟩ :: _) _ _); refine wpList_store_row rfl 27 _ _ rfl w.heap.size (row4 k t x1 n1 c1 x2 n2 c2) rfl rfl 27 zeroV4 HZ.out HI.out rfl (row4_all _ _ _ _ _ _ _ _) ?_)
      | (go_at_call 18; ((with_reducible refine (as_hit w2.heap.size (at_ : Int) (code : Int) (.int .i64 0) (.int .i64 0) _ (HEV.out.chg (((Chg.refl (fun k => k = w.heap.size) w2).setRow _ _ (.inl rfl)).alloc _) (fun k hk e => by have := HBG.out; omega)).errT (by rw [← setRow_size w2 w.heap.size (row4 k t x1 n1 c1 x2 n2 c2)]; exact rowC_new _ _ _)).mono ?_); rintro e w4 ⟨rfl, hr4, hc4⟩)))
    have hsz2 := HC.out.size
    have hne : w.heap.size ≠ w2.heap.size := by have := Hs1.out; omega
    have Z4 : rowC w4 w.heap.size (row4 k t x1 n1 c1 x2 n2 c2) 27 := hc4.rowC (rowC_alloc (rowC_setRow HZ.out _) _) hne
    have g0 : w4.cell? ⟨w2.heap.size, 0, none⟩ = some (.int .i64 (at_ : Int)) := rowC_cell hr4 0
    have g1 : w4.cell? ⟨w2.heap.size, 1, none⟩ = some (.int .i64 (code : Int)) := rowC_cell hr4 1
    have z0 : w4.cell? ⟨w.heap.size, 0, none⟩ = some (.int .i64 k) := rowC_cell Z4 0
    have z1 : w4.cell? ⟨w.heap.size, 1, none⟩ = some (.string t) := rowC_cell Z4 1
    have z2 : w4.cell? ⟨w.heap.size, 2, none⟩ = some (.slice x1 n1 c1) := rowC_cell Z4 2
    have z3 : w4.cell? ⟨w.heap.size, 3, none⟩ = some (.slice x2 n2 c2) := rowC_cell Z4 3
    have f0 := rowC_free Z4 0
    have f1 := rowC_free Z4 1
    have f2 := rowC_free Z4 2
    have f3 := rowC_free Z4 3
    have hne2 : ¬ w2.heap.size = w.heap.size := fun e => hne e.symm
    have HZ4 := Lib.hid Z4
    have HC4 := Lib.hid hc4
    clear Z4 hc4 hr4 CA
    go_region
    go_wp2
    have Z8 : rowC ((((w4.setCell ⟨w.heap.size, 0, none⟩ (.int .i64 0)).setCell ⟨w.heap.size, 1, none⟩ (.string ⟨#[]⟩)).setCell ⟨w.heap.size, 2, none⟩ (.slice none 0 0)).setCell ⟨w.heap.size, 3, none⟩ (.slice none 0 0)).drew w.heap.size zeroV4 27 := rowC_set (rowC_set (rowC_set (rowC_set HZ4.out 0 (.int .i64 0)) 1 (.string ⟨#[]⟩)) 2 (.slice none 0 0)) 3 (.slice none 0 0)
    refine bodyPost_ret (results_row_tmp2 rfl _ _ w.heap.size 27 zeroV4 _ rfl Z8 Tryz.underlying27 rfl HI.out (.int .i64 (at_ : Int)) (.int .i64 (code : Int)) rfl rfl) rfl ?_
    unfold saysP
    dsimp only
    rw [← HAT.out]
    have b2 : Below w.heap.size w w2 := HB1.out.trans (HC.out.below HB1.out.size (fun k hk e => by omega))
    have c2 : Chg (fun k => k = w.heap.size) w2 ((w2.setRow w.heap.size (row4 k t x1 n1 c1 x2 n2 c2)).alloc (Obj.cells #[.int .i64 0, .int .i64 0] 64)) := ((Chg.refl (fun k => k = w.heap.size) w2).setRow _ _ (.inl rfl)).alloc _
    have b3 := b2.trans (c2.below b2.size (fun k hk e => by omega))
    have b4 := b3.trans (HC4.out.below b3.size (fun k hk e => by have := Hs1.out; omega))
    have c5 : Chg (fun k => k = w.heap.size) w4 ((((w4.setCell ⟨w.heap.size, 0, none⟩ (.int .i64 0)).setCell ⟨w.heap.size, 1, none⟩ (.string ⟨#[]⟩)).setCell ⟨w.heap.size, 2, none⟩ (.slice none 0 0)).setCell ⟨w.heap.size, 3, none⟩ (.slice none 0 0)).drew := (((((Chg.refl (fun k => k = w.heap.size) w4).cellq _ _).cellq _ _).cellq _ _).cellq _ _).drew
    exact ⟨rfl, b4.trans (c5.below b4.size (fun k hk e => by omega))⟩
end Go.Proofs.YtafmokpplnmbgaaGreatDoor

/- Layer 11: the chapter's texts. -/
namespace Go.Proofs.YtafmokpplnmbgaaGreatDoor
open Go.RowKit

theorem ex_two {w : World} (hE : Env w) : Calls Tryz.prog 8 #[.string ⟨#[48, 49]⟩] w fun e w' => e = .returned (.tuple #[.agg zeroV4, .int .i64 1, .int .i64 10]) ∧ Below w.heap.size w w' :=
  (parse_any (S := [48, 49]) (by unfold okS; decide) w hE ex2).mono fun _ _ h => ⟨h.1, h.2⟩
theorem ex_three {w : World} (hE : Env w) : Calls Tryz.prog 8 #[.string ⟨#[91, 49, 44, 93]⟩] w fun e w' => e = .returned (.tuple #[.agg zeroV4, .int .i64 3, .int .i64 10]) ∧ Below w.heap.size w w' :=
  (parse_any (S := [91, 49, 44, 93]) (by unfold okS; decide) w hE ex3).mono fun _ _ h => ⟨h.1, h.2⟩
theorem ex_four {w : World} (hE : Env w) : Calls Tryz.prog 8 #[.string ⟨#[34, 97]⟩] w fun e w' => e = .returned (.tuple #[.agg zeroV4, .int .i64 2, .int .i64 10]) ∧ Below w.heap.size w w' :=
  (parse_any (S := [34, 97]) (by unfold okS; decide) w hE ex4).mono fun _ _ h => ⟨h.1, h.2⟩
theorem ex_one {w : World} (hE : Env w) : Calls Tryz.prog 8 #[.string ⟨#[91, 49, 44, 32, 45, 50, 46, 53, 101, 51, 93]⟩] w fun e w' => ∃ (ad : Addr) (c1 : Nat) (x2 : Option Addr) (c2 : Nat),
    e = .returned (.tuple #[.agg #[.int .i64 5, .string ⟨#[]⟩, .slice (some ad) 2 c1, .slice x2 0 c2], .int .i64 0, .int .i64 0]) ∧ w'.cell? ⟨(ad.add 4).block, (ad.add 4).off + 1, none⟩ = some (.string ⟨#[45, 50, 46, 53, 101, 51]⟩) ∧ Below w.heap.size w w' := by
  refine (parse_any (S := [91, 49, 44, 32, 45, 50, 46, 53, 101, 51, 93]) (by unfold okS; decide) w hE ex1).mono fun e w' h => ?_
  obtain ⟨V, rfl, ⟨a, b, c, d, rfl, hH⟩, hb⟩ := h
  obtain ⟨rfl, rfl, _, ⟨x1, c1, rfl, hI⟩, ⟨x2, c2, rfl, _⟩⟩ := hH.opens
  obtain ⟨ad, a', b', c', d', rfl, _, h4, hV⟩ := hI 1 _ rfl
  obtain ⟨rfl, rfl, _⟩ := hV.opens
  exact ⟨ad, c1, x2, c2, rfl, h4 1 _ rfl, hb⟩
theorem okJ_text (k : Int) (t : Bs) (h : k = 3 → t.length ≤ 70368744177664) : okJ (.mk k t [] []) := by
  rw [okJ, okJL]
  exact ⟨h, ⟨by simp, by simp, fun y hy => by cases hy⟩, trivial⟩
theorem ex_five {w : World} (hE : Env w) : Calls Tryz.prog 7 #[.agg #[.int .i64 4, .string ⟨#[34, 10, 1]⟩, .slice none 0 0, .slice none 0 0]] w fun e w' => e = .returned (.tuple #[.string ⟨#[34, 92, 34, 92, 110, 92, 117, 48, 48, 48, 49, 34]⟩, .int .i64 0]) ∧ Below w.heap.size w w' := by
  have hm : may (.mk 4 [34, 10, 1] [] []) := by
    rw [may, mayL]
    exact ⟨trivial, .inr (.inr (.inl ⟨rfl, by rfl, rfl, rfl⟩))⟩
  have hd : deep (.mk 4 [34, 10, 1] [] []) ≤ 16 := by rw [deep, deepL]; simp
  have hp := printA_may hm hd
  rw [ex5] at hp
  have hp2 : printA (.mk 4 [34, 10, 1] [] []) = ([34, 92, 34, 92, 110, 92, 117, 48, 48, 48, 49, 34], 0) := hp.trans (if_neg (by decide))
  have hH : HoldsC w (fun k => k < w.heap.size) (.mk 4 [34, 10, 1] [] []) (.int .i64 4) (.string ⟨#[34, 10, 1]⟩) (.slice none 0 0) (.slice none 0 0) := by
    rw [HoldsC]
    exact ⟨rfl, rfl, by decide, .inl ⟨rfl, rfl⟩, .inl ⟨rfl, rfl⟩⟩
  have C := print_any (okJ_text 4 [34, 10, 1] (fun e => absurd e (by decide))) hE hH
  rw [hp2] at C
  exact C
set_option maxRecDepth 100000 in
set_option maxHeartbeats 8000000 in
theorem noted_any (w : World) (hE : Env w) : Calls Tryz.prog 9 #[] w fun e w' => e = .returned (.bool true) ∧ Below w.heap.size w w' := by
  have HIF := Lib.hid info_V
  have HE := Lib.hid hE
  clear hE
  go_enter Tryz.func9, Tryz.ntmps9
  go_upto_region 2 with (first
    | (go_at_call 8; ((with_reducible refine (ex_one HE.out).mono ?_); rintro e w1 ⟨ad, c1, x2, c2, rfl, hc1, hb1⟩))
    | ((with_reducible show wpList _ _ _ (⟨none, .store _ (.tmp 1) (.tmp 21), _, _, _, _⟩ :: _) _ _); refine wpList_store_last rfl 27 _ _ rfl w1.heap.size #[.int .i64 5, .string ⟨#[]⟩, .slice (some ad) 2 c1, .slice x2 0 c2] rfl rfl 27 zeroV4 rfl HIF.out rfl (row4_all _ _ _ _ _ _ _ _) ?_))
  obtain ⟨W1, hW1⟩ : ∃ W1, W1 = w1.alloc (.cells #[.int .i64 5, .string ⟨#[]⟩, .slice (some ad) 2 c1, .slice x2 0 c2] 27) := ⟨_, rfl⟩
  rw [← hW1]
  have R1 : rowC W1 w1.heap.size #[.int .i64 5, .string ⟨#[]⟩, .slice (some ad) 2 c1, .slice x2 0 c2] 27 := by rw [hW1]; exact rowC_new _ _ _
  have HB1 : Hid (Below w.heap.size w W1) := Lib.hid (by rw [hW1]; exact hb1.alloc hb1.size _)
  have hc2 : W1.cell? ⟨(ad.add 4).block, (ad.add 4).off + 1, none⟩ = some (.string ⟨#[45, 50, 46, 53, 101, 51]⟩) := by
    rw [hW1]; exact cell_chg (s := fun _ => False) ((Chg.refl _ w1).alloc _) hc1 id
  have K : Hid (∀ w', Below W1.heap.size W1 w' → w'.cell? ⟨w1.heap.size, 0, none⟩ = some (.int .i64 5) ∧ w'.cell? ⟨w1.heap.size, 2, none⟩ = some (.slice (some ad) 2 c1) ∧ w'.cell? ⟨(ad.add 4).block, (ad.add 4).off + 1, none⟩ = some (.string ⟨#[45, 50, 46, 53, 101, 51]⟩)) := Lib.hid fun w' hb =>
    ⟨rowC_cell (rowC_below R1 hb (rowC_lt R1)) 0, rowC_cell (rowC_below R1 hb (rowC_lt R1)) 2, cell_chg (s := fun _ => False) (Chg.of_below hb) hc2 id⟩
  have HK1 : Hid (Below W1.heap.size W1 W1) := Lib.hid (Below.refl _ _)
  clear hW1 R1 hc1 hb1 hc2
  go_upto_region 3 with (first
    | (go_at_call 8; ((with_reducible refine (ex_two (HE.out.below HB1.out)).mono ?_); rintro e w2 ⟨rfl, hb2⟩))
    | ((with_reducible show wpList _ _ _ (⟨none, .store _ (.tmp 4) (.tmp 26), _, _, _, _⟩ :: _) _ _); refine wpList_store_last rfl 27 _ _ rfl w2.heap.size zeroV4 rfl rfl 27 zeroV4 rfl HIF.out rfl zeroV4_all ?_))
  have HK2 : Hid (Below W1.heap.size W1 (w2.alloc (.cells zeroV4 27))) := Lib.hid ((HK1.out.trans (hb2.mono HK1.out.size)).alloc (Nat.le_trans HK1.out.size hb2.size) _)
  have HB2 : Hid (Below w.heap.size w (w2.alloc (.cells zeroV4 27))) := Lib.hid (HB1.out.trans (HK2.out.mono HB1.out.size))
  clear hb2
  generalize w2.alloc (.cells zeroV4 27) = W2 at *
  go_upto_region 4 with (first
    | (go_at_call 8; ((with_reducible refine (ex_three (HE.out.below HB2.out)).mono ?_); rintro e w3 ⟨rfl, hb3⟩))
    | ((with_reducible show wpList _ _ _ (⟨none, .store _ (.tmp 7) (.tmp 31), _, _, _, _⟩ :: _) _ _); refine wpList_store_last rfl 27 _ _ rfl w3.heap.size zeroV4 rfl rfl 27 zeroV4 rfl HIF.out rfl zeroV4_all ?_))
  have HK3 : Hid (Below W1.heap.size W1 (w3.alloc (.cells zeroV4 27))) := Lib.hid ((HK2.out.trans (hb3.mono HK2.out.size)).alloc (Nat.le_trans HK2.out.size hb3.size) _)
  have HB3 : Hid (Below w.heap.size w (w3.alloc (.cells zeroV4 27))) := Lib.hid (HB1.out.trans (HK3.out.mono HB1.out.size))
  clear hb3
  generalize w3.alloc (.cells zeroV4 27) = W3 at *
  go_upto_region 5 with (first
    | (go_at_call 8; ((with_reducible refine (ex_four (HE.out.below HB3.out)).mono ?_); rintro e w4 ⟨rfl, hb4⟩))
    | ((with_reducible show wpList _ _ _ (⟨none, .store _ (.tmp 10) (.tmp 36), _, _, _, _⟩ :: _) _ _); refine wpList_store_last rfl 27 _ _ rfl w4.heap.size zeroV4 rfl rfl 27 zeroV4 rfl HIF.out rfl zeroV4_all ?_))
  have HK4 : Hid (Below W1.heap.size W1 (w4.alloc (.cells zeroV4 27))) := Lib.hid ((HK3.out.trans (hb4.mono HK3.out.size)).alloc (Nat.le_trans HK3.out.size hb4.size) _)
  have HB4 : Hid (Below w.heap.size w (w4.alloc (.cells zeroV4 27))) := Lib.hid (HB1.out.trans (HK4.out.mono HB1.out.size))
  clear hb4
  generalize w4.alloc (.cells zeroV4 27) = W4 at *
  go_upto_region 8 with (first
    | ((with_reducible show wpList _ _ _ (⟨some 40, .build _ _, _, _, _, _⟩ :: _) _ _); refine wpList_build_as rfl 27 _ rfl #[.int .i64 4, .string ⟨#[34, 10, 1]⟩, .slice none 0 0, .slice none 0 0] (by kernel_rfl) ?_)
    | ((with_reducible show wpList _ _ _ (⟨some 45, .build _ _, _, _, _, _⟩ :: _) _ _); refine wpList_build_as rfl 27 _ rfl #[.int .i64 3, .string ⟨#[49, 101, 51]⟩, .slice none 0 0, .slice none 0 0] (by kernel_rfl) ?_)
    | ((with_reducible show wpList _ _ _ (⟨some 50, .build _ _, _, _, _, _⟩ :: _) _ _); refine wpList_build_as rfl 27 _ rfl #[.int .i64 3, .string ⟨#[45, 55]⟩, .slice none 0 0, .slice none 0 0] (by kernel_rfl) ?_)
    | (go_at_call 7; ((with_reducible refine (ex_five (HE.out.below HB4.out)).mono ?_); rintro e w5 ⟨rfl, hb5⟩; have B5 := HB4.out.trans (hb5.mono HB4.out.size); have K5 := HK4.out.trans (hb5.mono HK4.out.size)))
    | (go_at_call 19; first
      | ((with_reducible refine (int_no _ (HE.out.below B5)).mono ?_); rintro e w6 ⟨rfl, hb6⟩; have B6 := B5.trans (hb6.mono B5.size); have K6 := K5.trans (hb6.mono K5.size))
      | ((with_reducible refine (int_yes _ (HE.out.below B6)).mono ?_); rintro e w7 ⟨rfl, hb7⟩; have B7 := B6.trans (hb7.mono B6.size); have K7 := K6.trans (hb7.mono K6.size))))
  obtain ⟨k0, k2, k4⟩ := K.out w7 K7
  have k5 : w7.cell? ⟨ad.block, ad.off + 4 + 1, none⟩ = some (.string ⟨#[45, 50, 46, 53, 101, 51]⟩) := k4
  go_wp2
  go_ret
  exact ⟨rfl, B7⟩
end Go.Proofs.YtafmokpplnmbgaaGreatDoor

/- Layer 11: a text of one letter, as long as may be, and longer. -/
namespace Go.Proofs.YtafmokpplnmbgaaGreatDoor
open Go.RowKit

def lets (n : Nat) : Bs := List.replicate n 97
theorem lets_utf : ∀ n, utfB (List.replicate n 97) = lets n
  | 0 => rfl
  | n + 1 => by
    show Lib.encodeRune ((97 : Nat) : Int) ++ utfB (List.replicate n 97) = 97 :: lets n
    rw [lets_utf n, enc_ascii (by decide)]
    rfl
theorem lets_scal (n : Nat) : ∀ c ∈ List.replicate n 97, scal c := fun c hc => by
  rw [List.eq_of_mem_replicate hc]
  unfold scal
  omega
theorem lets_valid (n : Nat) : Lib.validD (lets n) = true := by
  rw [← lets_utf n]
  exact utf_valid _ (lets_scal n)
theorem lets_quo (n : Nat) : quoT (lets n) = 34 :: (lets n ++ [34]) := by
  have h : ∀ n, (List.replicate n 97).flatMap printedR = lets n := by
    intro n
    induction n with
    | zero => rfl
    | succ n ih =>
      rw [List.replicate_succ, List.flatMap_cons, ih]
      rfl
  unfold quoT quoR
  rw [← lets_utf n, runesT_utf (lets_scal n), h n, lets_utf n]
theorem lets_len (n : Nat) : (lets n).length = n := List.length_replicate
theorem lets_may (n : Nat) : may (.mk 4 (lets n) [] []) := by
  rw [may, mayL]
  exact ⟨trivial, .inr (.inr (.inl ⟨rfl, lets_valid n, rfl, rfl⟩))⟩
theorem lets_deep (n : Nat) : deep (.mk 4 (lets n) [] []) ≤ 16 := by rw [deep, deepL]; simp
theorem lets_pr (n : Nat) : prG [] (.mk 4 (lets n) [] []) = 34 :: (lets n ++ [34]) := by
  rw [prG, if_neg (by decide), if_pos rfl, lets_quo]
theorem lets_print (n : Nat) : printA (.mk 4 (lets n) [] []) = if 65534 < n then ([], 3) else (34 :: (lets n ++ [34]), 0) := by
  rw [printA_may (lets_may n) (lets_deep n), lets_pr]
  have e : (34 :: (lets n ++ [34])).length = n + 2 := by simp [lets_len]
  rw [e]
  by_cases h : 65534 < n
  · rw [if_pos (by omega), if_pos h]
  · rw [if_neg (by omega), if_neg h]
/-- So many letters are laid. -/
def partA (N k : Nat) : Bs := lets k ++ List.replicate (N - k) 0
theorem partA_len {N k : Nat} (h : k ≤ N) : (partA N k).length = N := by unfold partA; rw [List.length_append, lets_len, List.length_replicate]; omega
theorem partA_step {N k : Nat} (h : k < N) : (partA N k).set k 97 = partA N (k + 1) := by
  unfold partA
  rw [List.set_append_right _ _ (by rw [lets_len]; omega), lets_len, Nat.sub_self]
  obtain ⟨m, hm⟩ : ∃ m, N - k = m + 1 := ⟨N - k - 1, by omega⟩
  rw [hm, List.replicate_succ, List.set_cons_zero, show N - (k + 1) = m by omega]
  have : lets (k + 1) = lets k ++ [97] := by unfold lets; rw [List.replicate_succ']
  rw [this, List.append_assoc]
  rfl
theorem partA_all (N : Nat) : partA N N = lets N := by unfold partA; rw [Nat.sub_self]; simp
theorem letters_holds (w : World) (F : Nat → Prop) (n : Nat) (hn : n ≤ 70000) : HoldsC w F (.mk 4 (lets n) [] []) (.int .i64 4) (.string (str (lets n))) (.slice none 0 0) (.slice none 0 0) := by
  rw [HoldsC]
  exact ⟨rfl, rfl, by rw [lets_len]; omega, .inl ⟨rfl, rfl⟩, .inl ⟨rfl, rfl⟩⟩
theorem bounds_i8 {n : Int} (h : (Lit.int .i8 n).wf = true) : -128 ≤ n ∧ n ≤ 127 := by
  simp [Lit.wf, IntKind.min, IntKind.max, IntKind.signed, IntKind.bits] at h
  omega
/-- 'string(b)' of cells that stand. -/
theorem conv_cells {w : World} {g : Nat} {l : List UInt8} (cap : Nat) (h : ∀ i v, l[i]? = some v → w.cell? ⟨g, i, none⟩ = some (byteV v)) :
    (convert 23 9 (.slice (some ⟨g, 0, none⟩) l.length cap)).run Tryz.prog w = .ok (.string (str l)) w := by
  rw [run_convert_bytes_arg w 23 5 Tryz.underlying23 Tryz.underlying5 g 0 l.length cap (l.map fun b => (b.toNat : Int)) (by simp) (fun i hi => ?_) 9 Tryz.underlying9, str_nums]
  rw [Nat.zero_add, h i _ (List.getElem?_eq_getElem hi)]
  simp [List.getD, List.getElem?_eq_getElem hi, byteV]
theorem add_lets (n : Nat) : (ByteArray.mk #[34]) ++ str (lets n) ++ ByteArray.mk #[34] = str (34 :: (lets n ++ [34])) := by
  have h : ByteArray.mk #[34] = str [34] := rfl
  rw [h, str_append, str_append]
  rfl
theorem parse_lets {n : Nat} (w : World) (hE : Env w) (hn : n ≤ 65534) :
    Calls Tryz.prog 8 #[.string (str (34 :: (lets n ++ [34])))] w fun e w' => ∃ V, e = .returned (.tuple #[V, .int .i64 0, .int .i64 0]) ∧ HoldsJ w' (fun k => w.heap.size ≤ k ∧ k < w'.heap.size) (.mk 4 (lets n) [] []) V ∧ Below w.heap.size w w' := by
  obtain ⟨m, hm⟩ := all_rt gap_nil (lets_may n) (lets_deep n)
  have h := hm m (Nat.le_refl _)
  rw [List.nil_append, List.append_nil, lets_pr] at h
  exact parse_any (by unfold okS; simp [lets_len]; omega) w hE h
def vL (n : Nat) : Array Value := #[.int .i64 4, .string (str (lets n)), .slice none 0 0, .slice none 0 0]
theorem vL_all (n : Nat) : (vL n).all (·.oneCell') = true := row4_all 4 (str (lets n)) none 0 0 none 0 0
theorem built_t (s : ByteArray) : Tryz.prog.built 27 [(0, .int .i64 4), (1, .string s)] = some #[.int .i64 4, .string s, .slice none 0 0, .slice none 0 0] := by kernel_rfl
theorem print_lets {n : Nat} (w : World) (hE : Env w) (hn : n ≤ 65534) :
    Calls Tryz.prog 7 #[.agg (vL n)] w fun e w' => e = .returned (.tuple #[.string (str (34 :: (lets n ++ [34]))), .int .i64 0]) ∧ Below w.heap.size w w' := by
  have C := print_any (okJ_text 4 (lets n) (fun e => absurd e (by decide))) hE (letters_holds w _ n (by omega))
  rw [lets_print, if_neg (by omega)] at C
  exact C
theorem print_lets_long {n : Nat} (w : World) (hE : Env w) (hn : 65534 < n) (h2 : n ≤ 70000) :
    Calls Tryz.prog 7 #[.agg (vL n)] w fun e w' => e = .returned (.tuple #[.string ⟨#[]⟩, .int .i64 3]) ∧ Below w.heap.size w w' := by
  have C := print_any (okJ_text 4 (lets n) (fun e => absurd e (by decide))) hE (letters_holds w _ n h2)
  rw [lets_print, if_pos hn] at C
  exact C
theorem same_lets {n : Nat} {w : World} {c d : Value} (hn : n ≤ 65534) (h : HoldsC w (fun j => j < w.heap.size) (.mk 4 (lets n) [] []) (.int .i64 4) (.string (str (lets n))) c d) :
    Calls Tryz.prog 10 #[.agg #[.int .i64 4, .string (str (lets n)), c, d], .agg (vL n)] w fun e w' => e = .returned (.bool true) ∧ Below w.heap.size w w' :=
  Same_any (v := .mk 4 (lets n) [] []) (okJ_text 4 (lets n) (fun e => absurd e (by decide))) h (letters_holds w _ n (by omega))
theorem parse_lets_long {n : Nat} (w : World) (hn : 65534 < n) :
    Calls Tryz.prog 8 #[.string (str (34 :: (lets n ++ [34])))] w fun e w' => e = .returned (.tuple #[.agg zeroV4, .int .i64 0, .int .i64 3]) ∧ Below w.heap.size w w' :=
  parse_long _ (by simp [lets_len]; omega) w
set_option maxRecDepth 100000 in
set_option maxHeartbeats 8000000 in
theorem long_walk (a : Int) (w : World) (wa : (Lit.int .i8 a).wf = true) (hE : Env w) :
    Calls Tryz.prog 3 #[.int .i8 a] w fun e w' => e = .returned (.bool true) ∧ Below w.heap.size w w' := by
  obtain ⟨i0, hi, hz0, hz1, hz2⟩ := info_parts info_u8
  obtain ⟨b1, b2⟩ := bounds_i8 wa
  obtain ⟨N, hN⟩ : ∃ N : Nat, (N : Int) = 65534 + a := ⟨(65534 + a).toNat, by omega⟩
  have hn1 : 65406 ≤ N := by omega
  have hn2 : N ≤ 65661 := by omega
  have HIF := Lib.hid info_V
  have HE := Lib.hid hE
  have hbig := hE.big
  have eB := Lib.hid hN.symm
  have HA : Hid ((a > 0) = (65534 < N)) := Lib.hid (by simp; omega)
  clear hE wa
  go_enter Tryz.func3, Tryz.ntmps3
  go_upto_region 3 with (at_make; rw [eB.out]; refine wpList_make_full _ rfl _ _ 23 rfl w.heap.size 5 i0 (.int .u8 0) 1 Tryz.underlying23 hi hz0 hz1 .i64 .i64 _ _ N rfl rfl rfl rfl (by rw [hz2]; omega) (by unfold maxLen; omega) (Nat.le_refl _) ?_; intro w0 hown0 hgrow0)
  rw [eB.out]
  have hb0 : Below w.heap.size w w0 := (Below.refl _ _).grown hgrow0 (Nat.le_refl _) (fun j hj => by cases hj)
  rw [show (madeCells (Value.int IntKind.u8 0).cells (N * 1)).toList = (partA N 0).map byteV by
    unfold partA lets
    rw [Nat.sub_zero, List.replicate_zero, List.nil_append, List.map_replicate, Nat.mul_one]; exact toList_madeCells_one _ _] at hown0
  clear hgrow0
  have HO := Lib.hid hown0
  have HBl := Lib.hid hb0
  clear hown0 hb0
  go_upto_region 4 with (fail)
  go_loopw [5] (fun i wr => ∃ k : Nat, k ≤ N ∧ i = .int .i64 k ∧ wr.ownsRow w.heap.size 5 1 (.slice (some ⟨w.heap.size, 0, none⟩) N N) N ((partA N k).map byteV) ∧ Below w.heap.size w wr) (fun i _ => N - (intOf i).toNat)
  case atStart => exact ⟨0, Nat.zero_le _, rfl, HO.out, HBl.out⟩
  case round =>
    obtain ⟨k, hk, rfl, hown, hnx⟩ := hrel
    clear HO HBl
    by_cases hlt : k < N
    · have k0 : (0 : Int) ≤ (k : Int) := by omega
      have k1 : (k : Int) < (N : Int) := by omega
      have hl8 : k < (partA N k).length := by rw [partA_len hk]; exact hlt
      have hcB := hown.cellAt k (by omega)
      rw [List.getElem?_map, List.getElem?_eq_getElem hl8] at hcB
      have hfz := hown.frozenAt k
      have hsto := (hown.stored k (.int .u8 97)).1
      have hsto2 : (wr.setCell ⟨w.heap.size, k, none⟩ (.int .u8 97)).ownsRow w.heap.size 5 1 (.slice (some ⟨w.heap.size, 0, none⟩) N N) N ((partA N (k + 1)).map byteV) := by
        rw [← partA_step hlt, List.map_set]
        exact hsto
      have HS := Lib.hid hsto2
      replace hcB : wr.cell? ⟨w.heap.size, k, none⟩ = some (byteV (partA N k)[k]) := hcB
      generalize byteV (partA N k)[k] = bv at hcB
      clear hsto hsto2
      go_wp2
      go_roundw
      case rel => exact ⟨k + 1, by omega, by go_num, HS.out, hnx.setCell (p := ⟨w.heap.size, k, none⟩) (Nat.le_refl _) _⟩
      case measure => simp [intOf]; omega
    · obtain rfl : k = N := by omega
      rw [partA_all] at hown
      have hs0 := hnx.size
      have hsz : w.heap.size < wr.heap.size := (hown.lt w.heap.size rfl).2
      have CK : Hid (∀ w', Below wr.heap.size wr w' → (convert 23 9 (.slice (some ⟨w.heap.size, 0, none⟩) k k)).run Tryz.prog w' = .ok (.string (str (lets k))) w') := Lib.hid fun w' hb => by
        have hh := conv_cells (w := w') (g := w.heap.size) (l := lets k) k fun i v hv => by
          have hi : i < k := by have := (List.getElem?_eq_some_iff.1 hv).1; rwa [lets_len] at this
          have hc := hown.cellAt i (by omega)
          rw [List.getElem?_map, hv] at hc
          exact cell_chg (s := fun k => wr.heap.size ≤ k) (chg_of_below hb) hc (by simp; omega)
        rwa [lets_len] at hh
      have HB := Lib.hid hnx
      have c0 := CK.out wr (Below.refl _ _)
      obtain ⟨W1, hW1⟩ : ∃ W1, W1 = wr.alloc (.cells (vL k) 27) := ⟨_, rfl⟩
      have HR1 : Hid (rowC W1 wr.heap.size (vL k) 27) := Lib.hid (by rw [hW1]; exact rowC_new _ _ _)
      have k1 : Below wr.heap.size wr W1 := by rw [hW1]; exact (Below.refl _ _).alloc (Nat.le_refl _) _
      have K1 := Lib.hid k1
      have HB1 := Lib.hid (hnx.trans (k1.mono hs0))
      have HW1 := Lib.hid hW1
      have hlt1 : wr.heap.size < W1.heap.size := by rw [hW1, size_alloc]; omega
      clear hown hnx k1 hW1
      have HL := Lib.hid hlt1
      go_upto_region 8 with (first
        | ((with_reducible show wpList _ _ _ (⟨some 27, .build _ _, _, _, _, _⟩ :: _) _ _); refine wpList_build_as rfl 27 _ rfl (vL k) (built_t (str (lets k))) ?_)
        | ((with_reducible show wpList _ _ _ (⟨none, .store _ (.tmp 6) _, _, _, _, _⟩ :: _) _ _); refine wpList_store_last rfl 27 _ _ rfl wr.heap.size (vL k) rfl rfl 27 zeroV4 rfl HIF.out rfl (vL_all k) ?_))
      rw [← HW1.out]
      clear c0
      have z1 : ¬ 9223372036854775807 < 1 + (str (lets k)).size := by rw [str_size, lets_len]; omega
      have z2 : ¬ 9223372036854775807 < 1 + (str (lets k)).size + 1 := by rw [str_size, lets_len]; omega
      have hsS : ((str (34 :: (lets k ++ [34]))).size : Int) = 65534 + a + 2 := by rw [str_size]; simp [lets_len]; omega
      by_cases hk2 : 65534 < k
      · have ha : (0 : Int) < a := by have := HA.out; omega
        have HK := Lib.hid hk2
        go_upto_region 10 with (first
          | ((with_reducible show wpList _ _ _ (⟨some 29, .load _ (.tmp 6), _, _, _, _⟩ :: _) _ _); refine wpList_load_row rfl 27 _ rfl wr.heap.size rfl 27 _ (0, 0) _ HR1.out Tryz.underlying27 rfl HIF.out ?_)
          | (go_at_call 7; ((with_reducible refine (print_lets_long W1 (HE.out.below HB1.out) HK.out (by omega)).mono ?_); rintro e w2 ⟨rfl, hb2⟩; have B2 := HB1.out.trans (hb2.mono HB1.out.size); have c2 := CK.out w2 (K1.out.trans (hb2.mono (Nat.le_of_lt HL.out)))))
          | (go_at_call 8; rw [add_lets]; ((with_reducible refine (parse_lets_long w2 HK.out).mono ?_); rintro e w3 ⟨rfl, hb3⟩; have B3 := B2.trans (hb3.mono B2.size)))
          | ((with_reducible show wpList _ _ _ (⟨none, .store _ (.tmp 9) _, _, _, _, _⟩ :: _) _ _); refine wpList_store_last rfl 27 _ _ rfl w3.heap.size zeroV4 rfl rfl 27 zeroV4 rfl HIF.out rfl zeroV4_all ?_))
        have e3 := HE.out.below (B3.alloc B3.size (.cells zeroV4 27))
        have HB4 := Lib.hid (B3.alloc B3.size (.cells zeroV4 27))
        have RX := rowC_new w3 zeroV4 27
        have rx : (w3.alloc (.cells zeroV4 27)).cell? ⟨w3.heap.size, 1, none⟩ = some (.string ⟨#[]⟩) := rowC_cell RX 1
        clear RX c2 B3 hb3 hb2 B2
        generalize w3.alloc (.cells zeroV4 27) = W3 at *
        go_wp2_with (go_at_call 9; ((with_reducible refine (noted_any W3 e3).mono ?_); rintro e w4 ⟨rfl, hb4⟩))
        go_ret
        exact ⟨rfl, HB4.out.trans (hb4.mono HB4.out.size)⟩
      · have ha : ¬ (0 : Int) < a := by have := HA.out; omega
        have hk3 : k ≤ 65534 := by omega
        have HK := Lib.hid hk3
        go_upto_region 10 with (first
          | ((with_reducible show wpList _ _ _ (⟨some 29, .load _ (.tmp 6), _, _, _, _⟩ :: _) _ _); refine wpList_load_row rfl 27 _ rfl wr.heap.size rfl 27 _ (0, 0) _ HR1.out Tryz.underlying27 rfl HIF.out ?_)
          | (go_at_call 7; ((with_reducible refine (print_lets W1 (HE.out.below HB1.out) HK.out).mono ?_); rintro e w2 ⟨rfl, hb2⟩; have B2 := HB1.out.trans (hb2.mono HB1.out.size); have c2 := CK.out w2 (K1.out.trans (hb2.mono (Nat.le_of_lt HL.out)))))
          | (go_at_call 8; rw [add_lets]; ((with_reducible refine (parse_lets w2 (HE.out.below B2) HK.out).mono ?_); rintro e w3 ⟨V, rfl, ⟨va, vb, vc, vd, rfl, hHV⟩, hb3⟩; have B3 := B2.trans (hb3.mono B2.size); obtain ⟨rfl, rfl, _, ⟨x1, d1, rfl, _⟩, ⟨x2, d2, rfl, _⟩⟩ := hHV.opens))
          | ((with_reducible show wpList _ _ _ (⟨none, .store _ (.tmp 9) _, _, _, _, _⟩ :: _) _ _); refine wpList_store_last rfl 27 _ _ rfl w3.heap.size #[.int .i64 4, .string (str (lets k)), .slice x1 0 d1, .slice x2 0 d2] rfl rfl 27 zeroV4 rfl HIF.out rfl (row4_all _ _ _ _ _ _ _ _) ?_))
        obtain ⟨W3, hW3⟩ : ∃ W3, W3 = w3.alloc (.cells #[.int .i64 4, .string (str (lets k)), .slice x1 0 d1, .slice x2 0 d2] 27) := ⟨_, rfl⟩
        have hR3 : Hid (rowC W3 w3.heap.size #[.int .i64 4, .string (str (lets k)), .slice x1 0 d1, .slice x2 0 d2] 27) := Lib.hid (by rw [hW3]; exact rowC_new _ _ _)
        have k3 : Below w3.heap.size w3 W3 := by rw [hW3]; exact (Below.refl _ _).alloc (Nat.le_refl _) _
        have HV : Hid (HoldsC W3 (fun j => j < W3.heap.size) (.mk 4 (lets k) [] []) (.int .i64 4) (.string (str (lets k))) (.slice x1 0 d1) (.slice x2 0 d2)) := Lib.hid ((HoldsC.mono (fun j hj _ => hj.2) _ _ _ _ _ hHV).on k3)
        have HR4 : Hid (rowC W3 wr.heap.size (vL k) 27) := Lib.hid (rowC_below (rowC_below (rowC_below HR1.out hb2 HL.out) hb3 (Nat.lt_of_lt_of_le HL.out hb2.size)) k3 (Nat.lt_of_lt_of_le HL.out (Nat.le_trans hb2.size hb3.size)))
        have HB4 := Lib.hid (B3.trans (k3.mono B3.size))
        have e3 := HE.out.below HB4.out
        have he3 := Lib.hid e3
        rw [← hW3]
        clear c2 B3 hb3 hb2 B2 hW3 hHV k3 e3
        go_wp2_with (first
          | ((with_reducible show wpList _ _ _ (⟨some 80, .load _ (.tmp 9), _, _, _, _⟩ :: _) _ _); refine wpList_load_rowG rfl 27 _ rfl w3.heap.size rfl 27 #[.int .i64 4, .string (str (lets k)), .slice x1 0 d1, .slice x2 0 d2] _ hR3.out Tryz.underlying27 rfl HIF.out ?_)
          | ((with_reducible show wpList _ _ _ (⟨some 81, .load _ (.tmp 6), _, _, _, _⟩ :: _) _ _); refine wpList_load_rowG rfl 27 _ rfl wr.heap.size rfl 27 (vL k) _ HR4.out Tryz.underlying27 rfl HIF.out ?_)
          | (go_at_call 10; ((with_reducible refine (same_lets HK.out HV.out).mono ?_); rintro e w4 ⟨rfl, hb4⟩; have B4 := HB4.out.trans (hb4.mono HB4.out.size)))
          | (go_at_call 9; ((with_reducible refine (noted_any w4 (HE.out.below B4)).mono ?_); rintro e w5 ⟨rfl, hb5⟩)))
        go_ret
        exact ⟨rfl, B4.trans (hb5.mono B4.size)⟩
end Go.Proofs.YtafmokpplnmbgaaGreatDoor

/- Layer 11: what the variables that start-up laid give. -/
namespace Go.Proofs.YtafmokpplnmbgaaGreatDoor
open Go.ChangeShapes Go.WideShapes Go.ChangeAt Go.WideElems Go.RowKit

theorem own : ownKnob Tryz.prog.godebug = none := by kernel_rfl
def laid2 : List (String × DataW Unit) := [("math/bits.deBruijn32tab", Rows.laid_math_bits_deBruijn32tab), ("math/bits.deBruijn64tab", Rows.laid_math_bits_deBruijn64tab), ("internal/strconv.uint64pow10", Rows.laid_internal_strconv_uint64pow10), ("unicode/utf8.acceptRanges", Rows.laid_unicode_utf8_acceptRanges), ("errors.errorType", Rows.laid_errors_errorType), ("strconv.ErrRange", Rows.laid_strconv_ErrRange), ("strconv.ErrSyntax", Rows.laid_strconv_ErrSyntax), ("lighter/json.words", Rows.laid_lighter_json_words), ("unicode/utf8.first", Rows.laid_unicode_utf8_first)]
def laidD : List (String × DataW Unit) := [("math/bits.deBruijn32tab", Rows.laid_math_bits_deBruijn32tab), ("math/bits.deBruijn64tab", Rows.laid_math_bits_deBruijn64tab), ("internal/strconv.uint64pow10", Rows.laid_internal_strconv_uint64pow10), ("unicode/utf8.acceptRanges", Rows.laid_unicode_utf8_acceptRanges), ("strconv.ErrRange", Rows.laid_strconv_ErrRange), ("strconv.ErrSyntax", Rows.laid_strconv_ErrSyntax), ("lighter/json.words", Rows.laid_lighter_json_words), ("unicode/utf8.first", Rows.laid_unicode_utf8_first)]
theorem row_err (u : TypeId) (h : Tryz.prog.typeName? 3 u = some "*errors.errorString") : u = 162 :=
  have star : "*" ++ "errors.errorString" = "*errors.errorString" := by decide
  typeName_ptr_named (nm := "errors.errorString") (by rw [star]; kernel_rfl) (by kernel_rfl) (by decide) u (by rw [star]; exact h)
theorem rt_err : (Tryz.prog.cutTypes.find? (·.1 == "internal/reflectlite.rtype")).map (·.2) = some 105 := by kernel_rfl
/-- A table of texts. -/
theorem table_str {H : Type} {enc : TypeId × Value → H} {P : Program} {w : World} {base fuel n : Nat} {spare : Nat → Bool} {held : Bool} {T e : TypeId} {cs : List Value} {q : List MemPlace} (hT : P.underlying T = some (.array n e)) (he : P.underlying e = some .string) (h1 : P.cellsOf e = 1)
    (L : List (List UInt8)) (hd : DataW.trod enc P w base spare held fuel T cs = some (.agg (L.map fun x => .lit (.string x)), q)) (j : Nat) (hj : j < L.length) : cs[j]? = some (.string (str (L.getD j []))) := by
  obtain ⟨xs, m, rfl, hx, hlen, hn, hel⟩ := DataW.trod_array hT hd
  simp only [Prod.mk.injEq, DataW.agg.injEq] at hx
  have hxl : xs.length = L.length := by have := congrArg List.length hx.1; simpa using this.symm
  have hg := hel j (by omega)
  rw [List.getElem?_eq_getElem (by omega)] at hg
  obtain ⟨s, e1, e2, _⟩ := DataW.trod_string he hg
  have hjx : j < xs.length := by omega
  have e3 : (xs[j]'hjx).1 = .lit (.string (L.getD j [])) := by
    have := congrArg (fun l => l[j]?) hx.1
    simp only [List.getElem?_map, List.getElem?_eq_getElem hj, List.getElem?_eq_getElem hjx, Option.map_some, Option.some.injEq] at this
    rw [← this, List.getD_eq_getElem?_getD, List.getElem?_eq_getElem hj]
    rfl
  rw [e2] at e3
  simp only [DataW.lit.injEq, Lit.string.injEq] at e3
  have e4 : s = str (L.getD j []) := bytes_toList (by rw [str_toList]; exact e3)
  rw [e4] at e1
  rw [h1, Nat.mul_one] at e1
  have := congrArg (fun l => l[0]?) e1
  simp only [List.getElem?_take, List.getElem?_drop, Nat.add_zero, List.getElem?_cons_zero] at this
  simpa using this
set_option maxRecDepth 100000 in
theorem laid_split {W : World} (h : laidMetH Tryz.prog laid2 W) : laidMet Tryz.prog laidD W ∧ handlesMet Tryz.prog [("errors.errorType", Rows.laid_errors_errorType)] W := h
theorem gWords : Tryz.prog.globalNamed "lighter/json.words" = some 0 := by kernel_rfl
theorem tWords : (Tryz.prog.globals[0]?).map (·.type) = some 75 := by kernel_rfl
theorem gTz : Tryz.prog.globalNamed "math/bits.deBruijn64tab" = some 9 := by kernel_rfl
theorem tTz : (Tryz.prog.globals[9]?).map (·.type) = some 175 := by kernel_rfl
theorem gErr : Tryz.prog.globalNamed "errors.errorType" = some 1 := by kernel_rfl
def tz64 : List Int := [0, 1, 56, 2, 57, 49, 28, 3, 61, 58, 42, 50, 38, 29, 17, 4, 62, 47, 59, 36, 45, 43, 51, 22, 53, 39, 33, 30, 24, 18, 12, 5, 63, 55, 48, 27, 60, 41, 37, 16, 46, 35, 44, 21, 52, 32, 23, 11, 54, 26, 40, 15, 34, 20, 31, 10, 25, 14, 19, 9, 13, 8, 7, 6]
/-- What the condition gives. -/
theorem env_of_laid {W : World} (h : laidMetH Tryz.prog laid2 W) : Env W := by
  obtain ⟨hd, hh⟩ := laid_split h
  have rw_ := Lib.laidMet.reads hd (n := "lighter/json.words") (d := Rows.laid_lighter_json_words) (.tail _ (.tail _ (.tail _ (.tail _ (.tail _ (.tail _ (.head _)))))))
  have rt_ := Lib.laidMet.reads hd (n := "math/bits.deBruijn64tab") (d := Rows.laid_math_bits_deBruijn64tab) (.tail _ (.head _))
  have ra_ := Lib.laidMet.reads hd (n := "unicode/utf8.acceptRanges") (d := Rows.laid_unicode_utf8_acceptRanges) (.tail _ (.tail _ (.tail _ (.head _))))
  have rf_ := Lib.laidMet.reads hd (n := "unicode/utf8.first") (d := Rows.laid_unicode_utf8_first) (.tail _ (.tail _ (.tail _ (.tail _ (.tail _ (.tail _ (.tail _ (.head _))))))))
  have e1 : Rows.laid_unicode_utf8_first = Lib.firstData := by kernel_rfl
  have e2 : (Rows.laid_unicode_utf8_acceptRanges : DataW Unit) = Lib.acceptData := by kernel_rfl
  rw [e1] at rf_
  rw [e2] at ra_
  have hU : Lib.Utf8Tabs 2 3 W :=
    utf8Tabs_of_readsT (ρ := Tryz.laysValid_ren) (U8Types.of196 Tryz.laysValid) ⟨by kernel_rfl, by kernel_rfl, by kernel_rfl, by kernel_rfl, by kernel_rfl, by kernel_rfl, by kernel_rfl⟩ rf_ ra_
  obtain ⟨a0, s0, hv0, _⟩ := laid_sentinel (g := 4) (ti := 60) (tp := 162) (te := 164) (ts := 9) hd.tail.tail.tail.tail.tail (by kernel_rfl) (by kernel_rfl) Tryz.underlying60 row_err Tryz.underlying162 Tryz.underlying164 rfl rfl Tryz.underlying9 (by kernel_rfl) (by kernel_rfl)
  have htz : W.cell? ⟨9, 15, none⟩ = some (.int .u8 4) := by
    obtain ⟨g, t, cs, fuel, p, h1, h2, h3, h4⟩ := rt_
    obtain rfl := Option.some.inj (gTz.symm.trans h1)
    obtain rfl := Option.some.inj (tTz.symm.trans h2)
    have hcs := Lib.cells_of_tab (zs := tz64) Tryz.underlying175 Tryz.underlying5 (by kernel_rfl) (by kernel_rfl) h4
    rw [World.var?_cell h1 h3 15, ← Array.getElem?_toList, hcs]
    rfl
  have hbig : 10 ≤ W.heap.size := World.block_lt_of_cell? W _ htz
  refine ⟨fun i hi => ?_, hU, ?_, ⟨_, _, hv0⟩, hbig, htz⟩
  · obtain ⟨g, t, cs, fuel, p, h1, h2, h3, h4⟩ := rw_
    obtain rfl := Option.some.inj (gWords.symm.trans h1)
    obtain rfl := Option.some.inj (tWords.symm.trans h2)
    have r := table_str Tryz.underlying75 Tryz.underlying9 (by kernel_rfl) [nullT, falseT, trueT] h4 i hi
    rw [World.var?_cell h1 h3 i, ← Array.getElem?_toList, r]
    match i, hi with
    | 0, _ => rfl
    | 1, _ => rfl
    | 2, _ => rfl
  · obtain ⟨name, u, ty, e1, e2, e3, e4, e5⟩ := hh _ (List.mem_singleton.2 rfl)
    have en : name = [101, 114, 114, 111, 114] := (Option.some.inj e1).symm
    subst en
    obtain rfl := Option.some.inj (rt_err.symm.trans e2)
    have one : ((List.range Tryz.prog.types.size).filter fun t => Tryz.prog.rowNamed t [101, 114, 114, 111, 114]) = [60] := by kernel_rfl
    have hm : ty ∈ (List.range Tryz.prog.types.size).filter fun t => Tryz.prog.rowNamed t [101, 114, 114, 111, 114] := List.mem_filter.2 ⟨List.mem_range.2 e3, e4⟩
    rw [one] at hm
    obtain rfl := List.mem_singleton.1 hm
    have hty : typeHandle Tryz.prog 60 = .pointer (some ⟨10, 60, none⟩) := by kernel_rfl
    rw [hty] at e5
    simpa using World.var?_cell gErr e5 0
/-- The door's own heap, with the library's great table laid. -/
noncomputable def startW (os : Os) : World :=
  let w0 := World.doorLaid Tryz.prog 400 os
  { w0 with heap := w0.heap.modify 2 fun
      | .cells _ t frozen => .cells (Go.Pinned.utf8FirstZ.map fun (z : Nat) => Value.int .u8 (z : Int)).toArray t frozen
      | o => o }
/-- It meets the condition. -/
theorem door_met (os : Os) (args : Array Value) : laidMetH Tryz.prog laid2 ((startW os).forCall (fun _ _ => 0) ⟨#[], args, []⟩).memory :=
  laidMetH_of_parts3 (fuel := 8) (laidMet_of_run' 8 (by kernel_rfl) (by kernel_rfl)) (by kernel_rfl) (by kernel_rfl)
theorem of_laid {W : World} (h : laidMetH Tryz.prog laid2 W) : Env W := env_of_laid h
end Go.Proofs.YtafmokpplnmbgaaGreatDoor

