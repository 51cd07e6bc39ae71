/- Merged: JuA, JuN, OdQ. -/
import Derived.Test.YtnkencdibniagaaGreatDoorM17
import Derived.Test.YtnkencdibniagaaGreatDoorM29
import Derived.Test.YtnkencdibniagaaGreatDoorM28
import Derived.Test.YtnkencdibniagaaGreatDoorM23
import Derived.Test.YtnkencdibniagaaGreatDoorM27
/- Layer 11: errors.As finds the reader's error. (299: the depth of this turn: prog.depth less what the log names.) -/
namespace Go.Proofs.YtnkencdibniagaaGreatDoor
open Go.RowKit Go.Extern.Stop Go.Stop Go.Extern

theorem rls (v x : Value) : ReflectliteValue.set #[v, x] = (do
    let (some (dst, a, fl), some (src, b, _)) := (← ReflectliteValue.parts v, ← ReflectliteValue.parts x)
      | unsupported (.noEntry "extern/(internal/reflectlite.Value).Set.zeroValue")
    if fl / ReflectliteValue.flagAddr % 2 == 0 then unsupported (.noEntry "extern/(internal/reflectlite.Value).Set.unaddressable")
    let val ← loadVar src b
    if ← Rtype.directlyAssignable dst src then storeVar dst a val
    else if ← Rtype.implements dst src then
      if (← Rtype.kind src) == 20 then
        match val with
        | .nilIface => unsupported (.noEntry "extern/reflectlite: a nil value of one interface type handed on as a value of another")
        | _ => storeVar dst a val
      else storeVar dst a (.iface src val)
    else panicString ("reflectlite.Set: value of type " ++ (← Rtype.spelt src) ++ " is not assignable to type " ++ (← Rtype.spelt dst))
    pure (.tuple #[])) := rfl
theorem jz_partsA (a : Addr) (w : World) : (ReflectliteValue.parts (.agg #[.pointer (some ⟨10, 126, none⟩), .pointer (some a), .int .u64 409])).run Tryz.prog w = .ok (some (126, a, 409)) w := by kernel_rfl
theorem jz_partsS (a : Addr) (w : World) : (ReflectliteValue.parts (.agg #[.pointer (some ⟨10, 126, none⟩), .pointer (some a), .int .u64 153])).run Tryz.prog w = .ok (some (126, a, 153)) w := by kernel_rfl
theorem jz_direct (w : World) : (Rtype.directlyAssignable 126 126).run Tryz.prog w = .ok true w := by kernel_rfl
theorem info_W2 : (Tryz.prog.info? 126).map (·.size) = some 2 := by kernel_rfl
theorem jz_set (g h : Nat) (x y : Int) (o1 o2 : Value) (W : World) (hs : rowC W h #[.int .i64 x, .int .i64 y] 126) (hd : rowC W g #[o1, o2] 126) :
    (ReflectliteValue.set #[.agg #[.pointer (some ⟨10, 126, none⟩), .pointer (some ⟨g, 0, none⟩), .int .u64 409], .agg #[.pointer (some ⟨10, 126, none⟩), .pointer (some ⟨h, 0, none⟩), .int .u64 153]]).run Tryz.prog W
      = .ok (.tuple #[]) ((W.setCell ⟨g, 0, none⟩ (.int .i64 x)).setCell ⟨g, 1, none⟩ (.int .i64 y)) := by
  have L := run_loadVar_row (P := Tryz.prog) W h 126 126 #[.int .i64 x, .int .i64 y] (0, 0) _ hs Tryz.underlying126 rfl info_W2
  rw [rls]
  simp only [Sem.run_bind, jz_partsA, jz_partsS, Result.andThen]
  simp [ReflectliteValue.flagAddr, L, Result.andThen, jz_direct, storeVar, Value.cells, storeCells, Addr.add]
  rw [run_store Tryz.prog W ⟨g, 0, none⟩ _ _ (by rfl)]
  have d0 := rowC_cell hd 0
  have d1 := rowC_cell (rowC_set hd 0 (.int .i64 x)) 1
  have e0 := rowC_free hd 0
  have e1 := rowC_free (rowC_set hd 0 (.int .i64 x)) 1
  simp [d0, e0]
  rw [run_store Tryz.prog (W.setCell ⟨g, 0, none⟩ (.int .i64 x)) ⟨g, 1, none⟩ _ _ (by rfl)]
  simp [d1, e1]
/-- (407: the number of types that the walk shows at a call through an interface.) -/
theorem jz_mKind (h : Value) (w : World) : (Go.method 407 206 (.agg #[h]) "Kind").run Tryz.prog w = .ok (224, h) w := by kernel_rfl
theorem jz_mElem (h : Value) (w : World) : (Go.method 407 206 (.agg #[h]) "Elem").run Tryz.prog w = .ok (236, .agg #[h]) w := by kernel_rfl
theorem jz_mImplements (h : Value) (w : World) : (Go.method 407 206 (.agg #[h]) "Implements").run Tryz.prog w = .ok (237, .agg #[h]) w := by kernel_rfl
theorem jz_mAssignableTo (h : Value) (w : World) : (Go.method 407 206 (.agg #[h]) "AssignableTo").run Tryz.prog w = .ok (234, .agg #[h]) w := by kernel_rfl
set_option maxRecDepth 100000 in
set_option maxHeartbeats 8000000 in
theorem as_hit (g : Nat) (x y : Int) (o1 o2 : Value) (w : World) (hE : w.cell? ⟨0, 0, none⟩ = some (.iface 206 (.agg #[.pointer (some ⟨10, 122, none⟩)]))) (hd : rowC w g #[o1, o2] 126) :
    Calls Tryz.prog 68 #[.iface 126 (.agg #[.int .i64 x, .int .i64 y]), .iface 128 (.pointer (some ⟨g, 0, none⟩))] w fun ev w' => ev = .returned (.bool true) ∧ rowC w' g #[.int .i64 x, .int .i64 y] 126 ∧ Chg (· = g) w w' := by
  have h28 := @run_callFunc_extern Tryz.prog 101 _ (fun args => ReflectliteValue.unpack (args.getD 0 (.tuple #[]))) Tryz.func101 (by kernel_rfl) (by kernel_rfl) (by kernel_rfl) (by kernel_rfl)
  have h29 := @run_callFunc_extern Tryz.prog 102 _ (ReflectliteValue.methodAny (ReflectliteValue.valueError "reflectlite.Value.Type" 0) (fun t _ _ _ => ReflectliteType.toType t)) Tryz.func102 (by kernel_rfl) (by kernel_rfl) (by kernel_rfl) (by kernel_rfl)
  have h30 := @run_callFunc_extern Tryz.prog 103 _ (ReflectliteValue.method (ReflectliteValue.valueError "reflectlite.Value.IsNil" 0) ReflectliteValue.isNil) Tryz.func103 (by kernel_rfl) (by kernel_rfl) (by kernel_rfl) (by kernel_rfl)
  have h123 := @run_callFunc_extern Tryz.prog 224 _ (ReflectliteType.abiMethod fun t => do pure (.int .u8 (← Rtype.kind t))) Tryz.func224 (by kernel_rfl) (by kernel_rfl) (by kernel_rfl) (by kernel_rfl)
  have h135 := @run_callFunc_extern Tryz.prog 236 _ (ReflectliteType.method ReflectliteType.elem) Tryz.func236 (by kernel_rfl) (by kernel_rfl) (by kernel_rfl) (by kernel_rfl)
  have h136 := @run_callFunc_extern Tryz.prog 237 _ (ReflectliteType.relation "Implements" ReflectliteType.implements_) Tryz.func237 (by kernel_rfl) (by kernel_rfl) (by kernel_rfl) (by kernel_rfl)
  have h49 := @run_callFunc_extern Tryz.prog 139 _ ReflectliteType.typeOf Tryz.func139 (by kernel_rfl) (by kernel_rfl) (by kernel_rfl) (by kernel_rfl)
  have h133 := @run_callFunc_extern Tryz.prog 234 _ (ReflectliteType.relation "AssignableTo" ReflectliteType.assignableTo) Tryz.func234 (by kernel_rfl) (by kernel_rfl) (by kernel_rfl) (by kernel_rfl)
  have h50 := @run_callFunc_extern Tryz.prog 140 _ (ReflectliteValue.method (ReflectliteValue.valueError "reflectlite.Value.Elem" 0) ReflectliteValue.elem) Tryz.func140 (by kernel_rfl) (by kernel_rfl) (by kernel_rfl) (by kernel_rfl)
  have h51 := @run_callFunc_extern Tryz.prog 141 _ ReflectliteValue.set Tryz.func141 (by kernel_rfl) (by kernel_rfl) (by kernel_rfl) (by kernel_rfl)
  have a0 := jz_valueOfP
  have a1 := jz_typeP
  have a2 := jz_kindP
  have a3 := jz_kindS
  have a4 := jz_elemT
  have a5 := jz_implements
  have a6 := jz_typeOf
  have a7 := jz_assignable
  have a8 := jz_valueOfS
  have m1 := jz_mKind
  have m2 := jz_mElem
  have m3 := jz_mImplements
  have m4 := jz_mAssignableTo
  have n8 := jz_isNil ⟨w.heap.size, 0, none⟩ ⟨g, 0, none⟩ ((w.alloc (.cells #[.pointer (some ⟨g, 0, none⟩)] 128)).alloc (.cells #[.pointer (some ⟨10, 128, none⟩), .pointer (some ⟨w.heap.size, 0, none⟩), .int .u64 150] 166)) (rowC_cell (rowC_alloc (rowC_new w _ _) _) 0)
  have hg2 : ((w.alloc (.cells #[.pointer (some ⟨g, 0, none⟩)] 128)).alloc (.cells #[.pointer (some ⟨10, 128, none⟩), .pointer (some ⟨w.heap.size, 0, none⟩), .int .u64 150] 166)).cell? ⟨0, 0, none⟩ = some (.iface 206 (.agg #[.pointer (some ⟨10, 122, none⟩)])) := cell_chg (s := fun _ => False) (((Chg.refl _ w).alloc _).alloc _) hE id
  have el := jz_elemV ⟨w.heap.size, 0, none⟩ ⟨g, 0, none⟩ (((w.alloc (.cells #[.pointer (some ⟨g, 0, none⟩)] 128)).alloc (.cells #[.pointer (some ⟨10, 128, none⟩), .pointer (some ⟨w.heap.size, 0, none⟩), .int .u64 150] 166)).alloc (.cells #[.pointer (some ⟨10, 128, none⟩), .pointer (some ⟨w.heap.size, 0, none⟩), .int .u64 150] 166)) (rowC_cell (rowC_alloc (rowC_alloc (rowC_new w _ _) _) _) 0)
  have hs3 : (((w.alloc (.cells #[.pointer (some ⟨g, 0, none⟩)] 128)).alloc (.cells #[.pointer (some ⟨10, 128, none⟩), .pointer (some ⟨w.heap.size, 0, none⟩), .int .u64 150] 166)).alloc (.cells #[.pointer (some ⟨10, 128, none⟩), .pointer (some ⟨w.heap.size, 0, none⟩), .int .u64 150] 166)).heap.size = w.heap.size + 1 + 1 + 1 := by simp
  have rs : rowC ((((w.alloc (.cells #[.pointer (some ⟨g, 0, none⟩)] 128)).alloc (.cells #[.pointer (some ⟨10, 128, none⟩), .pointer (some ⟨w.heap.size, 0, none⟩), .int .u64 150] 166)).alloc (.cells #[.pointer (some ⟨10, 128, none⟩), .pointer (some ⟨w.heap.size, 0, none⟩), .int .u64 150] 166)).alloc (.cells #[.int .i64 x, .int .i64 y] 126)) (w.heap.size + 1 + 1 + 1) #[.int .i64 x, .int .i64 y] 126 := by rw [← hs3]; exact rowC_new _ _ _
  have rd : rowC ((((w.alloc (.cells #[.pointer (some ⟨g, 0, none⟩)] 128)).alloc (.cells #[.pointer (some ⟨10, 128, none⟩), .pointer (some ⟨w.heap.size, 0, none⟩), .int .u64 150] 166)).alloc (.cells #[.pointer (some ⟨10, 128, none⟩), .pointer (some ⟨w.heap.size, 0, none⟩), .int .u64 150] 166)).alloc (.cells #[.int .i64 x, .int .i64 y] 126)) g #[o1, o2] 126 := rowC_alloc (rowC_alloc (rowC_alloc (rowC_alloc hd _) _) _) _
  have st := jz_set g (w.heap.size + 1 + 1 + 1) x y o1 o2 _ rs rd
  have hfin : rowC ((((((w.alloc (.cells #[.pointer (some ⟨g, 0, none⟩)] 128)).alloc (.cells #[.pointer (some ⟨10, 128, none⟩), .pointer (some ⟨w.heap.size, 0, none⟩), .int .u64 150] 166)).alloc (.cells #[.pointer (some ⟨10, 128, none⟩), .pointer (some ⟨w.heap.size, 0, none⟩), .int .u64 150] 166)).alloc (.cells #[.int .i64 x, .int .i64 y] 126)).setCell ⟨g, 0, none⟩ (.int .i64 x)).setCell ⟨g, 1, none⟩ (.int .i64 y)) g #[.int .i64 x, .int .i64 y] 126 := rowC_set (rowC_set rd 0 _) 1 _
  have HF := Lib.hid hfin
  have HC : Hid (Chg (· = g) w ((((((w.alloc (.cells #[.pointer (some ⟨g, 0, none⟩)] 128)).alloc (.cells #[.pointer (some ⟨10, 128, none⟩), .pointer (some ⟨w.heap.size, 0, none⟩), .int .u64 150] 166)).alloc (.cells #[.pointer (some ⟨10, 128, none⟩), .pointer (some ⟨w.heap.size, 0, none⟩), .int .u64 150] 166)).alloc (.cells #[.int .i64 x, .int .i64 y] 126)).setCell ⟨g, 0, none⟩ (.int .i64 x)).setCell ⟨g, 1, none⟩ (.int .i64 y))) := Lib.hid (((((((Chg.refl _ w).alloc _).alloc _).alloc _).alloc _).cellq 0 _).cellq 1 _)
  clear hs3 rs rd hfin hd
  go_enter Tryz.func68, Tryz.ntmps68
  go_wp2
  refine wp_loop_rounds 1 ?_
  rw [rounds_succ]
  go_wp2
  go_ret
  exact ⟨rfl, HF.out, HC.out⟩
end Go.Proofs.YtnkencdibniagaaGreatDoor

/- Layer 11: Parse. -/
namespace Go.Proofs.YtnkencdibniagaaGreatDoor
open Go.RowKit

/-- A row out of memory, and two numbers beside it, as results. -/
theorem results_row_tmp2 {P : Program} {fn : Func} {p u u2 : Tmp} {ty : TypeId} (h : fn.results = #[.cell p ty, .tmp u, .tmp u2]) (tmps : Array Value) (w : World) (g : Nat) (t : TypeId) (cs : Array Value) (d : TypeDesc)
    (hp : tmps.getD p undef = .pointer (some ⟨g, 0, none⟩)) (hg : rowC w g cs t)
    (hu : P.underlying ty = some d) (hd : (match d with | .struct _ | .array _ _ => true | _ => false) = true) (hi : (P.info? ty).map (·.size) = some cs.size) (v v2 : Value) (hv : tmps.getD u undef = v) (hv2 : tmps.getD u2 undef = v2) :
    (results fn tmps).run P w = .ok (.tuple #[.agg cs, v, v2]) w := by
  have key : (results fn tmps).run P w = ((asAddr (tmps.getD p undef)).run P w).andThen fun a w₁ => ((loadVar ty a).run P w₁).andThen fun v w₂ => .ok (.tuple #[v, tmps.getD u undef, tmps.getD u2 undef]) w₂ := by
    simp only [results, h]
    simp [Sem.run_bind, Result.andThen]
  rw [key, hp, hv, hv2]
  simp only [asAddr, Sem.run_pure, Result.andThen_ok, run_loadVar_row w g t ty cs (0, 0) d hg hu hd hi]
/-- What Parse answers of a text that is not too long. -/
def saysP (w : World) (S : Bs) (R : Res JV) (e : Ending) (w' : World) : Prop :=
  match R with
  | .ok v _ => ∃ V, e = .returned (.tuple #[V, .int .i64 0, .int .i64 0]) ∧ HoldsJ w' (fun k => w.heap.size ≤ k ∧ k < w'.heap.size) v V ∧ Below w.heap.size w w'
  | .bad code x => e = .returned (.tuple #[.agg zeroV4, .int .i64 ((S.length - x.length : Nat) : Int), .int .i64 (code : Int)]) ∧ Below w.heap.size w w'
set_option maxRecDepth 100000 in
set_option maxHeartbeats 8000000 in
theorem jparse_any {n : Nat} {S : Bs} {R : Res JV} (hS : okS S) (w : World) (hE : Env w) (hR : allP n S = some R) :
    Calls Tryz.prog 28 #[.string (str S)] w fun e w' => saysP w S R e w' := by
  obtain ⟨W0, hW0⟩ : ∃ W0, W0 = w.alloc (.cells #[.int .i64 0, .string ⟨#[]⟩, .slice none 0 0, .slice none 0 0] 63) := ⟨_, rfl⟩
  have R0 : rowC W0 w.heap.size zeroV4 63 := by rw [hW0]; exact rowC_new w _ _
  have B0 : Below w.heap.size w W0 := by rw [hW0]; exact (Below.refl _ _).alloc (Nat.le_refl _) _
  have s0 : W0.heap.size = w.heap.size + 1 := by rw [hW0]; exact size_alloc _ _
  obtain ⟨W1, hW1⟩ : ∃ W1, W1 = W0.alloc (.cells #[.string (str S), .int .i64 0, .int .i64 0] 120) := ⟨_, rfl⟩
  have Q1 : RdAt W1 (w.heap.size + 1) S S 0 := ⟨by
    rw [hW1, Nat.sub_self, ← s0]
    exact rowC_new W0 _ _, List.suffix_refl S⟩
  have R1 : rowC W1 w.heap.size zeroV4 63 := by rw [hW1]; exact rowC_alloc R0 _
  have B1 : Below w.heap.size w W1 := by rw [hW1]; exact B0.alloc (by omega) _
  have E1 : Env W1 := hE.below B1
  have hbig := hE.big
  have CA := rall_any hS E1 (by omega) Q1 hR
  have hsz := str_size S
  have hl' : ¬ (65536 : Int) < ((str S).size : Int) := by unfold okS at hS; omega
  have HI := Lib.hid info_V
  have HW0 := Lib.hid hW0
  have HW1 := Lib.hid hW1
  have HR1 := Lib.hid R1
  have HB1 := Lib.hid B1
  have Hs0 := Lib.hid s0
  have HE1 := Lib.hid E1
  have Hs1 : Hid (W1.heap.size = w.heap.size + 1 + 1) := Lib.hid (by rw [hW1, size_alloc, s0])
  have HBG := Lib.hid hbig
  clear hW0 R0 B0 hsz hS hR hW1 Q1 R1 B1 E1 s0 hE hbig
  cases R with
  | ok v x =>
    unfold saysV at CA
    go_enter Tryz.func28, Tryz.ntmps28
    go_upto_region 1 with (fail)
    rw [← HW0.out]
    go_upto_region 4 with (fail)
    rw [Hs0.out, ← HW1.out]
    go_wp2_with (first
      | (go_at_call 67; ((with_reducible refine CA.mono ?_); rintro e w2 ⟨V, rfl, ⟨a, b, c, d, rfl, hH⟩, hQ, hC⟩; obtain ⟨rfl, rfl, ⟨x1, c1, rfl⟩, x2, c2, rfl⟩ := hH.form; have HH := Lib.hid hH; have HC := Lib.hid hC; have HZ := Lib.hid (hC.rowC HR1.out (by omega)); clear hH hQ hC))
      | ((with_reducible show wpList _ _ _ (⟨none, .store _ (.tmp 2) (.tmp 18), _, _, _, _⟩ :: _) _ _); refine wpList_store_row rfl 63 _ _ rfl w.heap.size (row4 v.kind (str v.text) x1 v.items.length c1 x2 v.keys.length c2) rfl rfl 63 zeroV4 HZ.out HI.out rfl (row4_all _ _ _ _ _ _ _ _) ?_)
      | (go_at_call 68; ((with_reducible refine (as_nil _ _).mono ?_); rintro e w4 ⟨rfl, rfl⟩))
      | ((with_reducible show wpList _ _ _ (⟨some 28, .load _ (.tmp 2), _, _, _, _⟩ :: _) _ _); refine wpList_load_row rfl 63 _ rfl w.heap.size rfl 63 (row4 v.kind (str v.text) x1 v.items.length c1 x2 v.keys.length c2) (0, 0) _ (rowC_alloc (rowC_setRow HZ.out _) _) Tryz.underlying63 rfl HI.out ?_)
      | ((with_reducible show wpList _ _ _ (⟨none, .store _ (.tmp 2) (.tmp 28), _, _, _, _⟩ :: _) _ _); refine wpList_store_row rfl 63 _ _ rfl w.heap.size (row4 v.kind (str v.text) x1 v.items.length c1 x2 v.keys.length c2) rfl rfl 63 _ (rowC_alloc (rowC_setRow HZ.out _) _) HI.out rfl (row4_all _ _ _ _ _ _ _ _) ?_))
    have Z4 := rowC_alloc (rowC_setRow HZ.out (row4 v.kind (str v.text) x1 v.items.length c1 x2 v.keys.length c2)) (Obj.cells #[.int .i64 0, .int .i64 0] 126)
    refine bodyPost_ret (results_row_tmp2 rfl _ _ w.heap.size 63 (row4 v.kind (str v.text) x1 v.items.length c1 x2 v.keys.length c2) _ rfl (rowC_setRow Z4 _) Tryz.underlying63 rfl HI.out (.int .i64 0) (.int .i64 0) rfl rfl) rfl ?_
    have c23 : Chg (fun k => k = w.heap.size) w2 (((w2.setRow w.heap.size (row4 v.kind (str v.text) x1 v.items.length c1 x2 v.keys.length c2)).alloc (Obj.cells #[.int .i64 0, .int .i64 0] 126)).setRow w.heap.size (row4 v.kind (str v.text) x1 v.items.length c1 x2 v.keys.length c2)) := ((((Chg.refl (fun k => k = w.heap.size) w2).setRow _ _ (.inl rfl)).alloc _).setRow _ _ (.inl rfl))
    have b2 : Below w.heap.size w w2 := HB1.out.trans (HC.out.below HB1.out.size (fun k hk e => by omega))
    refine ⟨_, rfl, ⟨_, _, _, _, rfl, HoldsC.mono (fun k hk hlt => ⟨by have := Hs1.out; omega, hlt⟩) _ _ _ _ _ (HoldsC.chg c23 (fun k hk e => by have := Hs1.out; omega) _ _ _ _ _ HH.out)⟩, b2.trans (c23.below b2.size (fun k hk e => by omega))⟩
  | bad code x =>
    unfold saysV errAt errV at CA
    dsimp only at CA
    obtain ⟨at_, hat⟩ : ∃ m, m = S.length - x.length := ⟨_, rfl⟩
    rw [← hat] at CA
    have HAT := Lib.hid hat
    clear hat
    go_enter Tryz.func28, Tryz.ntmps28
    go_upto_region 1 with (fail)
    rw [← HW0.out]
    go_upto_region 4 with (fail)
    rw [Hs0.out, ← HW1.out]
    go_upto_region 7 with (first
      | (go_at_call 67; ((with_reducible refine CA.mono ?_); rintro e w2 ⟨V, rfl, ⟨k, t, x1, n1, c1, x2, n2, c2, rfl⟩, _, hC⟩; have HC := Lib.hid hC; have HEV := Lib.hid (HE1.out.chg hC (fun k hk e => by have := HBG.out; omega)); have HZ := Lib.hid (hC.rowC HR1.out (by omega)); clear hC))
      | ((with_reducible show wpList _ _ _ (⟨none, .store _ (.tmp 2) (.tmp 18), _, _, _, _⟩ :: _) _ _); refine wpList_store_row rfl 63 _ _ rfl w.heap.size (row4 k t x1 n1 c1 x2 n2 c2) rfl rfl 63 zeroV4 HZ.out HI.out rfl (row4_all _ _ _ _ _ _ _ _) ?_)
      | (go_at_call 68; ((with_reducible refine (as_hit w2.heap.size (at_ : Int) (code : Int) (.int .i64 0) (.int .i64 0) _ (HEV.out.chg (((Chg.refl (fun k => k = w.heap.size) w2).setRow _ _ (.inl rfl)).alloc _) (fun k hk e => by have := HBG.out; omega)).errT (by rw [← setRow_size w2 w.heap.size (row4 k t x1 n1 c1 x2 n2 c2)]; exact rowC_new _ _ _)).mono ?_); rintro e w4 ⟨rfl, hr4, hc4⟩)))
    have hsz2 := HC.out.size
    have hne : w.heap.size ≠ w2.heap.size := by have := Hs1.out; omega
    have Z4 : rowC w4 w.heap.size (row4 k t x1 n1 c1 x2 n2 c2) 63 := hc4.rowC (rowC_alloc (rowC_setRow HZ.out _) _) hne
    have g0 : w4.cell? ⟨w2.heap.size, 0, none⟩ = some (.int .i64 (at_ : Int)) := rowC_cell hr4 0
    have g1 : w4.cell? ⟨w2.heap.size, 1, none⟩ = some (.int .i64 (code : Int)) := rowC_cell hr4 1
    have z0 : w4.cell? ⟨w.heap.size, 0, none⟩ = some (.int .i64 k) := rowC_cell Z4 0
    have z1 : w4.cell? ⟨w.heap.size, 1, none⟩ = some (.string t) := rowC_cell Z4 1
    have z2 : w4.cell? ⟨w.heap.size, 2, none⟩ = some (.slice x1 n1 c1) := rowC_cell Z4 2
    have z3 : w4.cell? ⟨w.heap.size, 3, none⟩ = some (.slice x2 n2 c2) := rowC_cell Z4 3
    have f0 := rowC_free Z4 0
    have f1 := rowC_free Z4 1
    have f2 := rowC_free Z4 2
    have f3 := rowC_free Z4 3
    have hne2 : ¬ w2.heap.size = w.heap.size := fun e => hne e.symm
    have HZ4 := Lib.hid Z4
    have HC4 := Lib.hid hc4
    clear Z4 hc4 hr4 CA
    go_region
    go_wp2
    have Z8 : rowC ((((w4.setCell ⟨w.heap.size, 0, none⟩ (.int .i64 0)).setCell ⟨w.heap.size, 1, none⟩ (.string ⟨#[]⟩)).setCell ⟨w.heap.size, 2, none⟩ (.slice none 0 0)).setCell ⟨w.heap.size, 3, none⟩ (.slice none 0 0)).drew w.heap.size zeroV4 63 := rowC_set (rowC_set (rowC_set (rowC_set HZ4.out 0 (.int .i64 0)) 1 (.string ⟨#[]⟩)) 2 (.slice none 0 0)) 3 (.slice none 0 0)
    refine bodyPost_ret (results_row_tmp2 rfl _ _ w.heap.size 63 zeroV4 _ rfl Z8 Tryz.underlying63 rfl HI.out (.int .i64 (at_ : Int)) (.int .i64 (code : Int)) rfl rfl) rfl ?_
    unfold saysP
    dsimp only
    rw [← HAT.out]
    have b2 : Below w.heap.size w w2 := HB1.out.trans (HC.out.below HB1.out.size (fun k hk e => by omega))
    have c2 : Chg (fun k => k = w.heap.size) w2 ((w2.setRow w.heap.size (row4 k t x1 n1 c1 x2 n2 c2)).alloc (Obj.cells #[.int .i64 0, .int .i64 0] 126)) := ((Chg.refl (fun k => k = w.heap.size) w2).setRow _ _ (.inl rfl)).alloc _
    have b3 := b2.trans (c2.below b2.size (fun k hk e => by omega))
    have b4 := b3.trans (HC4.out.below b3.size (fun k hk e => by have := Hs1.out; omega))
    have c5 : Chg (fun k => k = w.heap.size) w4 ((((w4.setCell ⟨w.heap.size, 0, none⟩ (.int .i64 0)).setCell ⟨w.heap.size, 1, none⟩ (.string ⟨#[]⟩)).setCell ⟨w.heap.size, 2, none⟩ (.slice none 0 0)).setCell ⟨w.heap.size, 3, none⟩ (.slice none 0 0)).drew := (((((Chg.refl (fun k => k = w.heap.size) w4).cellq _ _).cellq _ _).cellq _ _).cellq _ _).drew
    exact ⟨rfl, b4.trans (c5.below b4.size (fun k hk e => by omega))⟩
end Go.Proofs.YtnkencdibniagaaGreatDoor

/- Layer 13: a text's value, that says that it is of a kind. -/
namespace Go.Proofs.YtnkencdibniagaaGreatDoor
open Go.RowKit

/-- What is wrong with a text that was parsed so: 0 is nothing. -/
def codeP (kind : Nat) (R : Res JV) : Nat := match R with | .bad c _ => c | .ok v _ => headV kind v
def ParP (w : World) (kind : Nat) (R : Res JV) (e : Ending) (w' : World) : Prop :=
  ∃ v code y m z n, e = .returned (.tuple #[.agg (row4 v.kind (str v.text) y v.items.length m z v.keys.length n), .int .i64 ((code : Nat) : Int)]) ∧
    HoldsC w' (fun k => w.heap.size ≤ k ∧ k < w'.heap.size) v (.int .i64 v.kind) (.string (str v.text)) (.slice y v.items.length m) (.slice z v.keys.length n) ∧
    ((∃ r, R = .ok v r) ∧ code = 0 ∧ headV kind v = 0 ∨ code ≠ 0 ∧ code = codeP kind R) ∧ Below w.heap.size w w'
theorem parP_bad {w w' : World} {kind code : Nat} {R : Res JV} (hB : Below w.heap.size w w') (h : code ≠ 0 ∧ code = codeP kind R) : ParP w kind R (.returned (.tuple #[.agg zeroV4, .int .i64 ((code : Nat) : Int)])) w' :=
  ⟨.mk 0 [] [] [], code, none, 0, none, 0, rfl, by rw [HoldsC]; exact ⟨rfl, rfl, by simp, .inl ⟨rfl, rfl⟩, .inl ⟨rfl, rfl⟩⟩, .inr h, hB⟩
theorem head_ver {kind : Nat} {v : JV} (h : partV v kVer intV ≠ some 2) : headV kind v = 10 := by unfold headV; rw [if_pos h]
theorem head_med {kind : Nat} {v : JV} (h : partV v kVer intV = some 2) : headV kind v = match anyV [] v kMed (mediaV kind) with | none => 72 | some _ => 0 := by unfold headV; rw [if_neg (by simp [h])]; cases anyV [] v kMed (mediaV kind) <;> rfl
set_option maxRecDepth 100000 in
set_option maxHeartbeats 16000000 in
theorem oparse_any {q : Nat} {S : Bs} {R : Res JV} (hS : S.length ≤ 65536) (kind : Nat) (w : World) (hE : Env2 w) (hR : allP q S = some R) :
    Calls Tryz.prog 31 #[.string (str S), .int .i64 (kind : Int)] w fun e w' => ParP w kind R e w' := by
  obtain ⟨W0, hW0⟩ : ∃ W0, W0 = w.alloc (.cells #[.int .i64 0, .string ⟨#[]⟩, .slice none 0 0, .slice none 0 0] 63) := ⟨_, rfl⟩
  have Z0 : rowC W0 w.heap.size zeroV4 63 := by rw [hW0]; exact rowC_new w _ _
  have B0 : Below w.heap.size w W0 := by rw [hW0]; exact (Below.refl _ _).alloc (Nat.le_refl _) _
  have S0 : W0.heap.size = w.heap.size + 1 := by rw [hW0, size_alloc]
  have hbig := hE.env.big
  have CR := jparse_any (S := S) (by unfold okS; omega) W0 (hE.below B0).env hR
  have HW0 := Lib.hid hW0
  have HZ0 := Lib.hid Z0
  have HB0 := Lib.hid B0
  have HI := Lib.hid info_V
  have HE := Lib.hid hE
  have HRR := Lib.hid hR
  have HSL := Lib.hid hS
  clear hW0 Z0 B0 hE hR hS
  cases R with
  | bad code r =>
    have hc : code ≠ 0 := by rcases all_1x _ _ _ _ HRR.out with h | h <;> omega
    have hci : ¬ (code : Int) = 0 := by omega
    have hcb : ((code : Int) == 0) = false := by rw [beq_eq_false_iff_ne]; exact hci
    unfold saysP at CR
    dsimp only at CR
    go_enter Tryz.func31, Tryz.ntmps31
    go_upto_region 1 with (fail)
    rw [← HW0.out]
    go_upto_region 2 with (first
      | (go_at_call 28; ((with_reducible refine CR.mono ?_); rintro e w2 ⟨rfl, hb2⟩; have HB2 := Lib.hid hb2; have s2 := hb2.size; clear hb2))
      | ((with_reducible show wpList _ _ _ (⟨none, .store _ (.tmp 6) _, _, _, _, _⟩ :: _) _ _); refine wpList_store_last rfl 63 _ _ rfl w2.heap.size zeroV4 rfl rfl 63 zeroV4 rfl HI.out rfl zeroV4_all ?_))
    have B2 : Hid (Below w.heap.size w (w2.alloc (.cells zeroV4 63))) := Lib.hid ((HB0.out.trans (HB2.out.mono (by omega))).alloc (by omega) _)
    have Z2 : Hid (rowC (w2.alloc (.cells zeroV4 63)) w.heap.size zeroV4 63) := Lib.hid (rowC_alloc (rowC_below HZ0.out HB2.out (by omega)) _)
    generalize w2.alloc (.cells zeroV4 63) = W2 at *
    go_wp2_with (first
      | ((with_reducible show wpList _ _ _ (⟨some 21, .build _ _, _, _, _, _⟩ :: _) _ _); refine wpList_build_as rfl 63 _ rfl zeroV4 (by kernel_rfl) ?_)
      | ((with_reducible show wpList _ _ _ (⟨none, .store _ (.tmp 4) _, _, _, _, _⟩ :: _) _ _); refine wpList_store_row rfl 63 _ _ rfl w.heap.size zeroV4 rfl rfl 63 zeroV4 Z2.out HI.out rfl zeroV4_all ?_))
    refine bodyPost_ret (results_row_tmp rfl _ _ w.heap.size 63 zeroV4 _ rfl (rowC_setRow Z2.out _) Tryz.underlying63 rfl HI.out (.int .i64 ((code : Nat) : Int)) rfl) rfl ?_
    exact parP_bad (below_setRow B2.out (Nat.le_refl _) _) ⟨hc, rfl⟩
  | ok v r =>
    unfold saysP at CR
    dsimp only at CR
    have HOR := Lib.hid (okR_all HSL.out HRR.out)
    go_enter Tryz.func31, Tryz.ntmps31
    go_upto_region 1 with (fail)
    rw [← HW0.out]
    go_upto_region 2 with (first
      | (go_at_call 28; ((with_reducible refine CR.mono ?_); rintro e w2 ⟨V, rfl, ⟨a, b, c, d, rfl, hV⟩, hb2⟩; obtain ⟨rfl, rfl, ⟨y, m, rfl⟩, z, n, rfl⟩ := hV.form; have HV := Lib.hid hV; have HB2 := Lib.hid hb2; have s2 := hb2.size; clear hV hb2))
      | ((with_reducible show wpList _ _ _ (⟨none, .store _ (.tmp 6) _, _, _, _, _⟩ :: _) _ _); refine wpList_store_last rfl 63 _ _ rfl w2.heap.size (row4 v.kind (str v.text) y v.items.length m z v.keys.length n) rfl rfl 63 zeroV4 rfl HI.out rfl (row4_all _ _ _ _ _ _ _ _) ?_))
    obtain ⟨W2, hW2⟩ : ∃ W2, W2 = w2.alloc (.cells (row4 v.kind (str v.text) y v.items.length m z v.keys.length n) 63) := ⟨_, rfl⟩
    rw [← hW2]
    have sw2 : W2.heap.size = w2.heap.size + 1 := by rw [hW2]; exact size_alloc _ _
    have B2 : Hid (Below w.heap.size w W2) := Lib.hid (by rw [hW2]; exact (HB0.out.trans (HB2.out.mono (by omega))).alloc (by omega) _)
    have Z2 : Hid (rowC W2 w.heap.size zeroV4 63) := Lib.hid (by rw [hW2]; exact rowC_alloc (rowC_below HZ0.out HB2.out (by omega)) _)
    have R2 : Hid (rowC W2 w2.heap.size (row4 v.kind (str v.text) y v.items.length m z v.keys.length n) 63) := Lib.hid (by rw [hW2]; exact rowC_new _ _ _)
    have H2 : Hid (HoldsC W2 (fun k => w.heap.size < k ∧ k < w2.heap.size) v (.int .i64 v.kind) (.string (str v.text)) (.slice y v.items.length m) (.slice z v.keys.length n)) := Lib.hid (by rw [hW2]; exact HoldsC.chg (s := no) ((Chg.refl _ _).alloc _) (fun _ _ h => h) _ _ _ _ _ (HoldsC.mono (fun k hk _ => by have hk : W0.heap.size ≤ k ∧ k < w2.heap.size := hk; exact ⟨by omega, hk.2⟩) _ _ _ _ _ HV.out))
    clear hW2 HV
    have CI : Calls Tryz.prog 73 #[.agg (row4 v.kind (str v.text) y v.items.length m z v.keys.length n), .string ⟨#[115, 99, 104, 101, 109, 97, 86, 101, 114, 115, 105, 111, 110]⟩, .func (.func 74) #[] #[]] W2 fun e w' => ReadP eInt W2 (partV v kVer intV) e w' :=
      part_int rd_int HOR.out kVer (HE.out.below B2.out) trivial (HoldsC.mono (fun k hk hlt => hlt) _ _ _ _ _ H2.out)
    go_upto_region 5 with (first
      | ((with_reducible show wpList _ _ _ (⟨some 24, .load _ _, _, _, _, _⟩ :: _) _ _); refine wpList_load_row rfl 63 _ rfl w2.heap.size rfl 63 (row4 v.kind (str v.text) y v.items.length m z v.keys.length n) (0, 0) _ R2.out Tryz.underlying63 rfl HI.out ?_)
      | (go_at_call 73; ((with_reducible refine CI.mono ?_); rintro e W3 ⟨n3, tv, ok3, rfl, ⟨rfl, _⟩, hor3, hb3⟩; have HOR3 := Lib.hid hor3; have HB3 := Lib.hid hb3; have s3 := hb3.size; clear hor3 hb3 CI)))
    have B3 : Hid (Below w.heap.size w W3) := Lib.hid (B2.out.trans (HB3.out.mono (by omega)))
    have Z3 : Hid (rowC W3 w.heap.size zeroV4 63) := Lib.hid (rowC_below Z2.out HB3.out (by omega))
    have R3 : Hid (rowC W3 w2.heap.size (row4 v.kind (str v.text) y v.items.length m z v.keys.length n) 63) := Lib.hid (rowC_below R2.out HB3.out (by omega))
    have H3 : Hid (HoldsC W3 (fun k => w.heap.size < k ∧ k < w2.heap.size) v (.int .i64 v.kind) (.string (str v.text)) (.slice y v.items.length m) (.slice z v.keys.length n)) := Lib.hid (HoldsC.chg (Chg.of_below (s := no) HB3.out) (fun _ _ h => h) _ _ _ _ _ H2.out)
    clear B2 Z2 R2 H2
    rcases HOR3.out with ⟨h3, hok⟩ | ⟨h3, hok⟩
    rotate_left
    · subst hok
      have e0 := head_ver (kind := kind) (v := v) (by rw [h3]; simp)
      go_wp2_with (first
        | ((with_reducible show wpList _ _ _ (⟨some 34, .build _ _, _, _, _, _⟩ :: _) _ _); refine wpList_build_as rfl 63 _ rfl zeroV4 (by kernel_rfl) ?_)
        | ((with_reducible show wpList _ _ _ (⟨none, .store _ (.tmp 4) _, _, _, _, _⟩ :: _) _ _); refine wpList_store_row rfl 63 _ _ rfl w.heap.size zeroV4 rfl rfl 63 zeroV4 Z3.out HI.out rfl zeroV4_all ?_))
      refine bodyPost_ret (results_row_tmp rfl _ _ w.heap.size 63 zeroV4 _ rfl (rowC_setRow Z3.out _) Tryz.underlying63 rfl HI.out (.int .i64 ((10 : Nat) : Int)) rfl) rfl ?_
      exact parP_bad (below_setRow B3.out (Nat.le_refl _) _) ⟨by decide, e0.symm⟩
    subst hok
    by_cases h2 : n3 = 2
    rotate_left
    · have e0 := head_ver (kind := kind) (v := v) (by rw [h3]; simpa using h2)
      go_wp2_with (first
        | ((with_reducible show wpList _ _ _ (⟨some 34, .build _ _, _, _, _, _⟩ :: _) _ _); refine wpList_build_as rfl 63 _ rfl zeroV4 (by kernel_rfl) ?_)
        | ((with_reducible show wpList _ _ _ (⟨none, .store _ (.tmp 4) _, _, _, _, _⟩ :: _) _ _); refine wpList_store_row rfl 63 _ _ rfl w.heap.size zeroV4 rfl rfl 63 zeroV4 Z3.out HI.out rfl zeroV4_all ?_))
      refine bodyPost_ret (results_row_tmp rfl _ _ w.heap.size 63 zeroV4 _ rfl (rowC_setRow Z3.out _) Tryz.underlying63 rfl HI.out (.int .i64 ((10 : Nat) : Int)) rfl) rfl ?_
      exact parP_bad (below_setRow B3.out (Nat.le_refl _) _) ⟨by decide, e0.symm⟩
    have e0 := head_med (kind := kind) (v := v) (by rw [h3, h2])
    subst h2
    go_upto_region 7 with (fail)
    have CM : ∀ w', Gn W3 no w' → Calls Tryz.prog 76 #[.int .i64 (kind : Int)] w' fun e w1 => e = .returned (.func (.func 111) #[] #[.pointer (some ⟨w'.heap.size, 0, none⟩)]) ∧ w1.cell? ⟨w'.heap.size, 0, none⟩ = some (.int .i64 (kind : Int)) ∧ Gn W3 no w1 := fun w' hg => (mediaOf_any kind w').mono fun e w1 ⟨h1, h2, h3⟩ => ⟨h1, h2, hg.call h3⟩
    have CP : ∀ bl w', Gn W3 no w' → w'.cell? ⟨bl, 0, none⟩ = some (.int .i64 (kind : Int)) → Calls Tryz.prog 75 #[.agg #[.int .i64 v.kind, .string (str v.text), .slice y v.items.length m, .slice z v.keys.length n], .string ⟨#[109, 101, 100, 105, 97, 84, 121, 112, 101]⟩, .func (.func 111) #[] #[.pointer (some ⟨bl, 0, none⟩)]] w' fun e w2 => ∃ t ok, e = .returned (.tuple #[.string (str t), .bool ok]) ∧ (anyV [] v kMed (mediaV kind) = some t ∧ ok = true ∨ anyV [] v kMed (mediaV kind) = none ∧ ok = false) ∧ Gn W3 no w2 := fun bl w' hg hc => by
      have sw := hg.size
      have hb : Below w.heap.size w w' := B3.out.trans (hg.below (by omega) (fun _ _ h => h))
      refine (any_txt (rd_med kind bl) HOR.out kMed (HE.out.below hb) hc (HoldsC.mono (fun k hk hlt => hlt) _ _ _ _ _ (HoldsC.chg hg (fun _ _ h => h) _ _ _ _ _ H3.out))).mono ?_
      rintro e w2 ⟨t, tv, ok, rfl, ⟨rfl, _⟩, h3, h4⟩
      exact ⟨t, ok, rfl, h3, hg.call h4⟩
    have OS : ∀ w', Gn W3 no w' → w'.rangeAt w2.heap.size 0 [.int .i64 v.kind, .string (str v.text), .slice y v.items.length m, .slice z v.keys.length n] ∧ True := fun w' h => ⟨rowC_range (h.row R3.out id) 0 _ (fun u hq hh => by rw [Nat.zero_add]; simpa [row4] using hh), trivial⟩
    have SO : ∀ w', Gn W3 no w' → Gn W3 no w' := fun _ h => h
    have ui := Tryz.underlying63
    have ii := HI.out
    refine wp_region_noPanic ?_
    refine wp_region_held_drew (S := Gn W3 no) (by kernel_rfl) (Gn.start _ _) (fun hHeld => ?_)
    generalize W3.drew = wd at *
    refine wpAnyH_take (i := 1) (oi := { dst := some 37, op := Op.move (Operand.tmp 1), type := 3, pos := "oci.go:250", after := #[], guard := none }) (v := ?_) rfl (by kernel_rfl) (by kernel_rfl) (by kernel_rfl) (fun _ _ _ h => h) (Or.inl ⟨by rfl, ?_⟩) (by assumption) ?_
    rotate_left
    · intro w hSw
      skip
      clear hSw
      go_simp
      try with_reducible rfl
    try simp only [Act.put, List.setIfInBounds_toArray, List.set_cons_zero, List.set_cons_succ]
    refine wpAnyH_take (i := 0) (oi := { dst := some 36, op := Op.load 63 (Operand.tmp 6), type := 63, pos := "oci.go:250", after := #[], guard := none }) (v := _) rfl (by kernel_rfl) (by kernel_rfl) (by kernel_rfl) (fun _ _ _ h => h) (yieldsIf_load_mid (by rfl) _ _ rfl _ _ rfl _ _ (by intro w hSw; have hSw := OS _ hSw; go_split_ands; assumption) (by assumption) rfl (by assumption)) (by assumption) ?_
    try simp only [Act.put, List.setIfInBounds_toArray, List.set_cons_zero, List.set_cons_succ]
    refine wpAnyH_ready (rs := [2]) (by kernel_rfl) (by simp) ?_
    refine (AllReadyH.cons (o := { dst := some 38, op := Op.call { callee := Callee.value (Operand.func 76), args := #[Operand.tmp 37], argTypes := #[3] }, type := 143, pos := "oci.go:250", after := #[{ on := 1, ground := Ground.data }], guard := none }) rfl (fun K hK => ?_) AllReadyH.nil)
    go_simp
    with_reducible refine (CM _ hHeld).mono ?_
    rintro e w2' ⟨rfl, hc1, m2'⟩
    refine hK.out _ _ (SO _ (by assumption)) (fun hHeld => ?_)
    clear hK K
    try simp only [Act.put, List.setIfInBounds_toArray, List.set_cons_zero, List.set_cons_succ]
    refine wpAnyH_ready (rs := [3]) (by kernel_rfl) (by simp) ?_
    refine (AllReadyH.cons (o := { dst := some 39, op := Op.call { callee := Callee.value (Operand.func 75), args := #[Operand.tmp 36, Operand.const (Value.string { data := #[109, 101, 100, 105, 97, 84, 121, 112, 101] }), Operand.tmp 38], argTypes := #[63, 9, 143] }, type := 94, pos := "oci.go:250", after := #[{ on := 0, ground := Ground.data }, { on := 2, ground := Ground.data }, { on := 2, ground := Ground.chain }], guard := none }) rfl (fun K hK => ?_) AllReadyH.nil)
    go_simp
    with_reducible refine (CP _ _ hHeld hc1).mono ?_
    rintro e w3' ⟨tm, ok4, rfl, hor4, m3'⟩
    refine hK.out _ _ (SO _ (by assumption)) (fun hHeld => ?_)
    clear hK K
    try simp only [Act.put, List.setIfInBounds_toArray, List.set_cons_zero, List.set_cons_succ]
    refine wpAnyH_take (i := 4) (oi := { dst := some 35, op := Op.move (Operand.tmp 39), type := 94, pos := "oci.go:250", after := #[{ on := 3, ground := Ground.data }], guard := none }) (v := ?_) rfl (by kernel_rfl) (by kernel_rfl) (by kernel_rfl) (fun _ _ _ h => h) (Or.inl ⟨by rfl, ?_⟩) (by assumption) ?_
    rotate_left
    · intro w hSw
      skip
      clear hSw
      go_simp
      try with_reducible rfl
    try simp only [Act.put, List.setIfInBounds_toArray, List.set_cons_zero, List.set_cons_succ]
    refine wpAnyH_take (i := 5) (oi := { dst := some 40, op := Op.extract (Operand.tmp 35) 0, type := 9, pos := "oci.go:250", after := #[{ on := 4, ground := Ground.data }], guard := none }) (v := ?_) rfl (by kernel_rfl) (by kernel_rfl) (by kernel_rfl) (fun _ _ _ h => h) (Or.inl ⟨by rfl, ?_⟩) (by assumption) ?_
    rotate_left
    · intro w hSw
      skip
      clear hSw
      go_simp
      try with_reducible rfl
    try simp only [Act.put, List.setIfInBounds_toArray, List.set_cons_zero, List.set_cons_succ]
    refine wpAnyH_take (i := 6) (oi := { dst := some 41, op := Op.extract (Operand.tmp 35) 1, type := 4, pos := "oci.go:250", after := #[{ on := 4, ground := Ground.data }, { on := 7, ground := Ground.gcOnly Departure.lateStores }], guard := none }) (v := ?_) rfl (by kernel_rfl) (by kernel_rfl) (by kernel_rfl) (fun _ _ _ h => h) (Or.inl ⟨by rfl, ?_⟩) (by assumption) ?_
    rotate_left
    · intro w hSw
      skip
      clear hSw
      go_simp
      try with_reducible rfl
    try simp only [Act.put, List.setIfInBounds_toArray, List.set_cons_zero, List.set_cons_succ]
    refine wpAnyH_take (i := 7) (oi := { dst := some 11, op := Op.assign (Operand.tmp 40), type := 9, pos := "oci.go:250", after := #[{ on := 5, ground := Ground.data }, { on := 3, ground := Ground.chain }, { on := 0, ground := Ground.phase }, { on := 1, ground := Ground.phase }, { on := 2, ground := Ground.phase }, { on := 3, ground := Ground.phase }, { on := 4, ground := Ground.phase }, { on := 5, ground := Ground.phase }, { on := 6, ground := Ground.textOnly Departure.lateStores }], guard := none }) (v := ?_) rfl (by kernel_rfl) (by kernel_rfl) (by kernel_rfl) (fun _ _ _ h => h) (Or.inl ⟨by rfl, ?_⟩) (by assumption) ?_
    rotate_left
    · intro w hSw
      skip
      clear hSw
      go_simp
      try with_reducible rfl
    try simp only [Act.put, List.setIfInBounds_toArray, List.set_cons_zero, List.set_cons_succ]
    refine wpAnyH_take (i := 8) (oi := { dst := some 12, op := Op.assign (Operand.tmp 41), type := 4, pos := "oci.go:250", after := #[{ on := 6, ground := Ground.data }, { on := 7, ground := Ground.chain }, { on := 0, ground := Ground.phase }, { on := 1, ground := Ground.phase }, { on := 2, ground := Ground.phase }, { on := 3, ground := Ground.phase }, { on := 4, ground := Ground.phase }, { on := 5, ground := Ground.phase }, { on := 6, ground := Ground.phase }, { on := 7, ground := Ground.phase }], guard := none }) (v := ?_) rfl (by kernel_rfl) (by kernel_rfl) (by kernel_rfl) (fun _ _ _ h => h) (Or.inl ⟨by rfl, ?_⟩) (by assumption) ?_
    rotate_left
    · intro w hSw
      skip
      clear hSw
      go_simp
      try with_reducible rfl
    try simp only [Act.put, List.setIfInBounds_toArray, List.set_cons_zero, List.set_cons_succ]
    refine wpAnyH_done (by kernel_rfl) ?_ _
    refine NoPanic.normal ?_
    have sw3 := m3'.size
    have B4 : Hid (Below w.heap.size w w3') := Lib.hid (B3.out.trans (m3'.below (by omega) (fun _ _ h => h)))
    have Z4 : Hid (rowC w3' w.heap.size zeroV4 63) := Lib.hid (m3'.row Z3.out id)
    have R4 : Hid (rowC w3' w2.heap.size (row4 v.kind (str v.text) y v.items.length m z v.keys.length n) 63) := Lib.hid (m3'.row R3.out id)
    have H4 : Hid (HoldsC w3' (fun k => w.heap.size < k ∧ k < w2.heap.size) v (.int .i64 v.kind) (.string (str v.text)) (.slice y v.items.length m) (.slice z v.keys.length n)) := Lib.hid (HoldsC.chg m3' (fun _ _ h => h) _ _ _ _ _ H3.out)
    rcases hor4 with ⟨h4, hok⟩ | ⟨h4, hok⟩
    · subst hok
      rw [h4] at e0
      go_wp2_with (first
        | ((with_reducible show wpList _ _ _ (⟨some 45, .load _ _, _, _, _, _⟩ :: _) _ _); refine wpList_load_row rfl 63 _ rfl w2.heap.size rfl 63 (row4 v.kind (str v.text) y v.items.length m z v.keys.length n) (0, 0) _ R4.out Tryz.underlying63 rfl HI.out ?_)
        | ((with_reducible show wpList _ _ _ (⟨none, .store _ (.tmp 4) _, _, _, _, _⟩ :: _) _ _); refine wpList_store_row rfl 63 _ _ rfl w.heap.size (row4 v.kind (str v.text) y v.items.length m z v.keys.length n) rfl rfl 63 zeroV4 Z4.out HI.out rfl (row4_all _ _ _ _ _ _ _ _) ?_))
      refine bodyPost_ret (results_row_tmp rfl _ _ w.heap.size 63 (row4 v.kind (str v.text) y v.items.length m z v.keys.length n) _ rfl (rowC_setRow Z4.out _) Tryz.underlying63 rfl HI.out (.int .i64 ((0 : Nat) : Int)) rfl) rfl ?_
      exact ⟨v, 0, y, m, z, n, rfl, HoldsC.mono (fun k hk hlt => ⟨by have := hk.1; omega, hlt⟩) _ _ _ _ _ (HoldsC.chg (s := fun k => k = w.heap.size) ((Chg.refl _ _).setRow _ _ (.inl rfl)) (fun k hk e => by have := hk.1; omega) _ _ _ _ _ H4.out), .inl ⟨⟨r, rfl⟩, rfl, e0⟩, below_setRow B4.out (Nat.le_refl _) _⟩
    · subst hok
      rw [h4] at e0
      go_wp2_with (first
        | ((with_reducible show wpList _ _ _ (⟨some 44, .build _ _, _, _, _, _⟩ :: _) _ _); refine wpList_build_as rfl 63 _ rfl zeroV4 (by kernel_rfl) ?_)
        | ((with_reducible show wpList _ _ _ (⟨none, .store _ (.tmp 4) _, _, _, _, _⟩ :: _) _ _); refine wpList_store_row rfl 63 _ _ rfl w.heap.size zeroV4 rfl rfl 63 zeroV4 Z4.out HI.out rfl zeroV4_all ?_))
      refine bodyPost_ret (results_row_tmp rfl _ _ w.heap.size 63 zeroV4 _ rfl (rowC_setRow Z4.out _) Tryz.underlying63 rfl HI.out (.int .i64 ((72 : Nat) : Int)) rfl) rfl ?_
      exact parP_bad (below_setRow B4.out (Nat.le_refl _) _) ⟨by decide, e0.symm⟩
end Go.Proofs.YtnkencdibniagaaGreatDoor

