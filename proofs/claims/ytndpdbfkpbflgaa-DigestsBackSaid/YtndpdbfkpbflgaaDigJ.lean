/- Layer 5: the walk of DigestsBack. -/
import Derived.Test.YtndpdbfkpbflgaaDigG
import Derived.Test.YtndpdbfkpbflgaaOpen
import Derived.Deep.DeepCutAuto
import Derived.Deep.CutBlock
namespace Go.Proofs.Ytndpdbfkpbflgaa
open Go.RowKit

/-- The memory of DigestsBack: both digests, and where and which byte. -/
structure ThreeM (W w : World) (a b z : List UInt8) : Prop where
  r0 : rowC w W.heap.size (cells8 a) 23
  r1 : rowC w (W.heap.size + 1) (cells8 b) 23
  r2 : rowC w (W.heap.size + 1 + 1) (cells8 z) 31
  nx : Below W.heap.size W w
theorem ThreeM.start (w : World) (a b z : List UInt8) : ThreeM w (((w.alloc (.cells (cells8 a) 23)).alloc (.cells (cells8 b) 23)).alloc (.cells (cells8 z) 31)) a b z := by
  have h1 := rowC_new (w.alloc (.cells (cells8 a) 23)) (cells8 b) 23
  have h2 := rowC_new ((w.alloc (.cells (cells8 a) 23)).alloc (.cells (cells8 b) 23)) (cells8 z) 31
  simp only [size_alloc] at h1 h2
  exact ⟨rowC_alloc (rowC_alloc (rowC_new w _ _) _) _, rowC_alloc h1 _, h2, (((Below.refl _ _).alloc (Nat.le_refl _) _).alloc (by simp) _).alloc (by simp; omega) _⟩
theorem ThreeM.below {W w w' : World} {a b z : List UInt8} (h : ThreeM W w a b z) (hb : Below w.heap.size w w') : ThreeM W w' a b z :=
  ⟨rowC_below h.r0 hb (rowC_lt h.r0), rowC_below h.r1 hb (rowC_lt h.r1), rowC_below h.r2 hb (rowC_lt h.r2), h.nx.trans (hb.mono h.nx.size)⟩
theorem ThreeM.drew {W w : World} {a b z : List UInt8} (h : ThreeM W w a b z) : ThreeM W w.drew a b z := ⟨h.r0, h.r1, h.r2, h.nx.drew⟩
theorem ThreeM.drewN {W w : World} {a b z : List UInt8} (h : ThreeM W w a b z) (n : Nat) : ThreeM W (w.drewN n) a b z := ⟨h.r0, h.r1, h.r2, below_drewN h.nx n⟩
theorem ThreeM.lt {W w : World} {a b z : List UInt8} (h : ThreeM W w a b z) : W.heap.size + 3 ≤ w.heap.size := rowC_lt h.r2
theorem ThreeM.call {W : World} {a b z : List UInt8} {f : FuncId} {args : Array Value} {v : Value} {w' : World} (hc : Calls Try.prog f args w' fun e w'' => e = .returned v ∧ Below w'.heap.size w' w'') (m : ThreeM W w' a b z) :
    Calls Try.prog f args w' fun e w'' => e = .returned v ∧ ThreeM W w'' a b z := hc.mono fun _ _ ⟨h1, h2⟩ => ⟨h1, m.below h2⟩
/-- A new row behind, filled at once. -/
theorem ThreeM.fresh {W w : World} {a b z : List UInt8} (h : ThreeM W w a b z) (cs ds : Array Value) (t : TypeId) :
    ThreeM W ((w.alloc (.cells cs t)).setRow w.heap.size ds) a b z ∧ rowC ((w.alloc (.cells cs t)).setRow w.heap.size ds) w.heap.size ds t := by
  have := h.lt
  exact ⟨⟨rowC_setRow_other (rowC_alloc h.r0 _) _ _ (by omega), rowC_setRow_other (rowC_alloc h.r1 _) _ _ (by omega), rowC_setRow_other (rowC_alloc h.r2 _) _ _ (by omega), below_setRow (h.nx.alloc (by omega) _) (by omega) _⟩, rowC_setRow (rowC_new w _ _) _⟩
theorem less_bytes : ∀ (l m : List UInt8), l.length = m.length → Op.bytesLess l m = lessL l m
  | [], [], _ => rfl
  | x :: l, y :: m, h => by
    have ih := less_bytes l m (by simpa using h)
    rw [Op.bytesLess, lessL, ih]
    by_cases e : x = y
    · subst e
      simp
    · rw [if_neg e]
      have e2 : (x == y) = false := by simpa using e
      rw [e2, Bool.false_and, Bool.or_false, decide_eq_decide]
      exact UInt8.lt_iff_toNat_lt
theorem less_texts {a b : List UInt8} (h : a.length = b.length) : Op.bytesLess (str (textL a)).toList (str (textL b)).toList = lessL a b := by
  unfold str
  rw [ByteArray.toList_mk, ByteArray.toList_mk, less_bytes _ _ (by rw [textL_length, textL_length, h]), lessL_textL h]
theorem with_byte (L : List UInt8) (k : Nat) (x : UInt8) (h : k < L.length) : (str L).extract 0 k ++ str [x] ++ (str L).extract (k + 1) L.length = str (L.set k x) := by
  refine bytes_toList ?_
  rw [List.set_eq_take_append_cons_drop, if_pos h]
  simp only [ByteArray.data_append, ByteArray.data_extract, Array.toList_append, Array.toList_extract, str, List.extract_eq_take_drop]
  rw [show L.length - (k + 1) = (L.drop (k + 1)).length by rw [List.length_drop], List.take_length]
  simp
theorem conv_single (w : World) (x : UInt8) : (convert 32 9 (.slice (some ⟨w.heap.size, 0, none⟩) 1 1)).run Try.prog (w.alloc (.cells #[.int .u8 (x.toNat : Int)] 5)) = .ok (.string (str [x])) (w.alloc (.cells #[.int .u8 (x.toNat : Int)] 5)) := by
  rw [run_convert_bytes_arg _ 32 5 Try.underlying32 Try.underlying5 w.heap.size 0 1 1 [(x.toNat : Int)] rfl (fun i hi => ?_) 9 Try.underlying9]
  · have := str_nums [x]
    rw [List.map_singleton] at this
    rw [this]
  · obtain rfl : i = 0 := by omega
    simp
/-- A walk behind which all is as it was, but for what is new. -/
def Done (W : World) (e : Ending) (w' : World) : Prop := e = .returned (.bool true) ∧ Below W.heap.size W w'
set_option maxRecDepth 100000 in
set_option maxHeartbeats 4000000 in
theorem digestsBack_walk (a b z : List UInt8) (w : World) (ha : a.length = 32) (hb : b.length = 32) (hz : z.length = 2) :
    Calls Try.prog 4 #[.agg (cells8 a), .agg (cells8 b), .agg (cells8 z)] w fun e w' => e = .returned (.bool true) ∧ Below w.heap.size w w' := by
  obtain ⟨x0, x1, rfl⟩ : ∃ x0 x1, z = [x0, x1] := by
    match z, hz with
    | [x, y], _ => exact ⟨x, y, rfl⟩
  clear hz
  have HA := Lib.hid ha
  have HB := Lib.hid hb
  have T0 := Lib.hid (ThreeM.start w a b [x0, x1])
  clear ha hb
  go_enter Try.func4, Try.ntmps4
  go_wp2
  have m0 := T0.out
  change Code.wp _ _ _ _ (((w.alloc (.cells (cells8 a) 23)).alloc (.cells (cells8 b) 23)).alloc (.cells (cells8 [x0, x1]) 31))
  generalize World.alloc _ _ = w0 at m0 ⊢
  clear T0
  obtain ⟨z, hz⟩ : ∃ z, z = [x0, x1] := ⟨_, rfl⟩
  rw [← hz] at m0 ⊢
  have HZ := Lib.hid hz
  clear hz
  have CTa : ∀ w', ThreeM w w' a b z → _ := fun w' m => ThreeM.call (text_any a w' HA.out) m
  have CTb : ∀ w', ThreeM w w' a b z → _ := fun w' m => ThreeM.call (text_any b w' HB.out) m
  have hu := Try.underlying23
  have hA : (Try.prog.info? 23).map (·.size) = some (a.map byteV).length := by rw [List.length_map, HA.out]; kernel_rfl
  have hB : (Try.prog.info? 23).map (·.size) = some (b.map byteV).length := by rw [List.length_map, HB.out]; kernel_rfl
  have R0 : ∀ w', ThreeM w w' a b z → w'.rangeAt w.heap.size 0 (a.map byteV) := fun w' m => range_row m.r0
  have R1 : ∀ w', ThreeM w w' a b z → w'.rangeAt (w.heap.size + 1) 0 (b.map byteV) := fun w' m => range_row m.r1
  obtain ⟨X, hX⟩ : ∃ x, x = str (textL a) := ⟨_, rfl⟩
  obtain ⟨Y, hY⟩ : ∃ x, x = str (textL b) := ⟨_, rfl⟩
  rw [← hX] at CTa
  rw [← hY] at CTb
  have HX := Lib.hid hX
  have HY := Lib.hid hY
  clear hX hY
  unfold cells8 at CTa CTb ⊢
  have md := m0.drew
  obtain ⟨NA, hNA⟩ : ∃ NA, NA = a.map byteV := ⟨_, rfl⟩
  obtain ⟨NB, hNB⟩ : ∃ NB, NB = b.map byteV := ⟨_, rfl⟩
  rw [← hNA] at CTa hA R0 ⊢
  rw [← hNB] at CTb hB R1 ⊢
  have HNA := Lib.hid hNA
  have HNB := Lib.hid hNB
  clear hNA hNB m0
  obtain ⟨SS, hSS⟩ : ∃ SS : World → Prop, SS = fun w' => ThreeM w w' a b z ∧ w'.rangeAt w.heap.size 0 NA ∧ w'.rangeAt (w.heap.size + 1) 0 NB := ⟨_, rfl⟩
  have SO : ∀ w', ThreeM w w' a b z → SS w' := fun w' m => by rw [hSS]; exact ⟨m, R0 w' m, R1 w' m⟩
  have OS : ∀ w', SS w' → ThreeM w w' a b z ∧ w'.rangeAt w.heap.size 0 NA ∧ w'.rangeAt (w.heap.size + 1) 0 NB := fun w' h => by rw [hSS] at h; exact h
  have HSS := Lib.hid hSS
  clear hSS R0 R1
  refine wp_region_noPanic ?_
  refine wp_region_held_drew (S := SS) (by kernel_rfl) (SO _ md) (fun hHeld => ?_)
  refine wpAnyH_take (i := 0) (oi := { dst := some 15, op := Op.load 23 (Operand.tmp 3), type := 23, pos := "outright.go:12", after := #[], guard := none }) (v := _) rfl (by kernel_rfl) (by kernel_rfl) (by kernel_rfl) (fun _ _ _ h => h) (yieldsIf_load_mid (by rfl) _ _ rfl _ _ rfl _ _ (by intro w hSw; have hSw := OS _ hSw; go_split_ands; assumption) (by assumption) rfl (by assumption)) (by assumption) ?_
  try simp only [Act.put, List.setIfInBounds_toArray, List.set_cons_zero, List.set_cons_succ]
  refine wpAnyH_take (i := 2) (oi := { dst := some 17, op := Op.load 23 (Operand.tmp 4), type := 23, pos := "outright.go:12", after := #[], guard := none }) (v := _) rfl (by kernel_rfl) (by kernel_rfl) (by kernel_rfl) (fun _ _ _ h => h) (yieldsIf_load_mid (by rfl) _ _ rfl _ _ rfl _ _ (by intro w hSw; have hSw := OS _ hSw; go_split_ands; assumption) (by assumption) rfl (by assumption)) (by assumption) ?_
  try simp only [Act.put, List.setIfInBounds_toArray, List.set_cons_zero, List.set_cons_succ]
  refine wpAnyH_ready (rs := [1]) (by kernel_rfl) (by simp) ?_
  refine AllReadyH.cons (o := { dst := some 16, op := Op.call { callee := Callee.value (Operand.func 9), args := #[Operand.tmp 15], argTypes := #[23] }, type := 9, pos := "outright.go:12", after := #[{ on := 0, ground := Ground.data }], guard := none }) rfl (fun K hK => ?_) AllReadyH.nil
  go_simp
  refine (CTa _ (by assumption)).mono ?_
  rintro e w1' ⟨rfl, m1'⟩
  refine hK.out _ _ (SO _ (by assumption)) (fun hHeld => ?_)
  clear hK K
  try simp only [Act.put, List.setIfInBounds_toArray, List.set_cons_zero, List.set_cons_succ]
  refine wpAnyH_ready (rs := [3]) (by kernel_rfl) (by simp) ?_
  refine AllReadyH.cons (o := { dst := some 18, op := Op.call { callee := Callee.value (Operand.func 9), args := #[Operand.tmp 17], argTypes := #[23] }, type := 9, pos := "outright.go:12", after := #[{ on := 2, ground := Ground.data }, { on := 1, ground := Ground.chain }], guard := none }) rfl (fun K hK => ?_) AllReadyH.nil
  go_simp
  refine (CTb _ (by assumption)).mono ?_
  rintro e w3' ⟨rfl, m3'⟩
  refine hK.out _ _ (SO _ (by assumption)) (fun hHeld => ?_)
  clear hK K
  try simp only [Act.put, List.setIfInBounds_toArray, List.set_cons_zero, List.set_cons_succ]
  refine wpAnyH_take (i := 4) (oi := { dst := some 7, op := Op.assign (Operand.tmp 16), type := 9, pos := "outright.go:12", after := #[{ on := 1, ground := Ground.data }, { on := 3, ground := Ground.chain }, { on := 0, ground := Ground.phase }, { on := 1, ground := Ground.phase }, { on := 2, ground := Ground.textOnly Departure.lateStores }, { on := 3, ground := Ground.textOnly Departure.lateStoresUnsure }], guard := none }) (v := ?_) rfl (by kernel_rfl) (by kernel_rfl) (by kernel_rfl) (fun _ _ _ h => h) (Or.inl ⟨by rfl, ?_⟩) (by assumption) ?_
  rotate_left
  · intro w hSw
    skip
    clear hSw
    go_simp
    try with_reducible rfl
  try simp only [Act.put, List.setIfInBounds_toArray, List.set_cons_zero, List.set_cons_succ]
  refine wpAnyH_take (i := 5) (oi := { dst := some 8, op := Op.assign (Operand.tmp 18), type := 9, pos := "outright.go:12", after := #[{ on := 3, ground := Ground.data }, { on := 4, ground := Ground.chain }, { on := 0, ground := Ground.phase }, { on := 1, ground := Ground.phase }, { on := 2, ground := Ground.phase }, { on := 3, ground := Ground.phase }, { on := 4, ground := Ground.phase }], guard := none }) (v := ?_) rfl (by kernel_rfl) (by kernel_rfl) (by kernel_rfl) (fun _ _ _ h => h) (Or.inl ⟨by rfl, ?_⟩) (by assumption) ?_
  rotate_left
  · intro w hSw
    skip
    clear hSw
    go_simp
    try with_reducible rfl
  try simp only [Act.put, List.setIfInBounds_toArray, List.set_cons_zero, List.set_cons_succ]
  refine wpAnyH_done (by kernel_rfl) ?_ _
  refine NoPanic.normal ?_
  have m3 := m3'
  clear m1' m3' hHeld HSS SO OS CTa CTb hA hB md

  have eA : NA.toArray = cells8 a := by rw [HNA.out]; rfl
  have eB : NB.toArray = cells8 b := by rw [HNB.out]; rfl
  have eZ : (z.map byteV).toArray = cells8 z := rfl
  rw [eA, eB, eZ]
  clear eA eB eZ HNA HNB hu
  clear NA NB

  have CPa : ∀ w, Calls Try.prog 7 #[.string X] w fun e w' => e = .returned (.tuple #[.agg (cells8 a), .int .i64 0]) ∧ Below w.heap.size w w' := fun w => by
    have h := parse_any (textL a) w
    rw [digL_textL HA.out, show errL (textL a) = 0 by unfold errL; rw [if_pos (isText_textL HA.out)], ← HX.out] at h
    exact h
  have szX : X.size = 71 := by rw [HX.out, str_size, textL_length, HA.out]
  obtain ⟨β, hβ⟩ : ∃ β : Bool, β = decide (a = b) := ⟨_, rfl⟩
  have q1 : ∀ w, (Op.equalIn 10000 23 (.agg (cells8 a)) (.agg (cells8 a))).run Try.prog w = .ok true w := fun w => by
    rw [eq_digest w 9998 HA.out HA.out]; simp
  have q2 : ∀ w, (Op.equalIn 10000 23 (.agg (cells8 a)) (.agg (cells8 b))).run Try.prog w = .ok β w := fun w => by
    rw [eq_digest w 9998 HA.out HB.out, hβ]
  have e2 : (X.toList == Y.toList) = β := by
    rw [HX.out, HY.out, eq_texts, hβ, decide_eq_decide]
    exact ⟨textL_inj, fun h => by rw [h]⟩
  have gd := guard_digest
  have HIa := Lib.hid (info_digest HA.out)
  have HIb := Lib.hid (info_digest HB.out)
  have HOa := Lib.hid (show (cells8 zero32).size = (cells8 a).size by rw [cells8_size, cells8_size, HA.out]; rfl)
  obtain ⟨k, hk⟩ : ∃ k, k = x0.toNat % 71 := ⟨_, rfl⟩
  have k71 : k < 71 := by omega
  have ek : (x0.toNat : Int) % 71 = (k : Int) := by omega
  have Hβ := Lib.hid hβ
  have M3 := Lib.hid m3
  clear hβ hk m3
  go_upto_region 5 with (first
    | (go_at_call 7; ((with_reducible refine (CPa _).mono ?_); rintro e w4 ⟨rfl, hb4⟩; have F4 := (M3.out.below hb4).fresh (cells8 zero32) (cells8 a) 23; have M4 := Lib.hid F4.1; have RC := Lib.hid F4.2; have c0 := cells8_at F4.1.r2 (k := 0) (by rw [HZ.out]; simp); have c1 := cells8_at F4.1.r2 (k := 1) (by rw [HZ.out]; simp); rw [show z.getD 0 0 = x0 by rw [HZ.out]; rfl] at c0; rw [show z.getD 1 0 = x1 by rw [HZ.out]; rfl] at c1; clear F4 hb4))
    | ((with_reducible show wpList _ _ _ (⟨_, .store _ _ _, _, _, _, _⟩ :: _) _ _); refine wpList_store_row rfl 23 _ _ rfl w4.heap.size (cells8 a) rfl rfl 23 (cells8 zero32) (rowC_new w4 _ _) HIa.out HOa.out (cells8_one _) ?_)
    | ((with_reducible show wpList _ _ _ (⟨_, .load _ _, _, _, _, _⟩ :: _) _ _); refine wpList_load_rowG (by kernel_rfl) 23 _ rfl w4.heap.size rfl 23 (cells8 a) _ RC.out Try.underlying23 rfl HIa.out ?_)
    | ((with_reducible show wpList _ _ _ (⟨_, .load _ _, _, _, _, _⟩ :: _) _ _); refine wpList_load_rowG (by kernel_rfl) 23 _ rfl w.heap.size rfl 23 (cells8 a) _ M4.out.r0 Try.underlying23 rfl HIa.out ?_)
    | ((with_reducible show wpList _ _ _ (⟨_, .load _ _, _, _, _, _⟩ :: _) _ _); refine wpList_load_rowG (by kernel_rfl) 23 _ rfl (w.heap.size + 1) rfl 23 (cells8 b) _ M4.out.r1 Try.underlying23 rfl HIb.out ?_))
  have m5 := M4.out
  change Code.wp _ _ _ _ ((w4.alloc (.cells (cells8 zero32) 23)).setRow w4.heap.size (cells8 a))
  generalize World.setRow _ w4.heap.size _ = w5 at m5 c0 c1 ⊢
  have M5 := Lib.hid m5
  clear m5 M4 RC M3 q1 q2 e2 HIa HIb HOa CPa hHeld
  have hx0 : x0.toNat < 256 := UInt8.toNat_lt _
  generalize x0.toNat = y0 at c0 ek hx0
  have y1 : (y0 : Int) ≤ 255 := by omega
  have y2 : (0 : Int) ≤ (y0 : Int) := by omega
  go_wp2
  rw [ek]
  have hcv : ∀ w' : World, (convert 32 9 (.slice (some ⟨w'.heap.size, 0, none⟩) 1 1)).run Try.prog (w'.alloc (.cells #[.int .u8 (x1.toNat : Int)] 5)).drew = .ok (.string (str [x1])) (w'.alloc (.cells #[.int .u8 (x1.toNat : Int)] 5)).drew := fun w' => conv_single w'.drew x1
  have z1 : (str [x1]).size = 1 := rfl
  have z2 : (X.extract 0 k).size = k := by rw [ByteArray.size_extract, szX]; omega
  have z3 : (X.extract (k + 1) 71).size = 70 - k := by rw [ByteArray.size_extract, szX]; omega
  have k0 : (0 : Int) ≤ k := by omega
  have k1 : (k : Int) ≤ 71 := by omega
  have k2 : (k : Int) + 1 ≤ 71 := by omega
  have wk : IntKind.i64.wrap ((k : Int) + 1) = (k : Int) + 1 := IntWalk.i64_in _ (by omega)
  have k3 : (0 : Int) ≤ (k : Int) + 1 := by omega
  have k4 : ((k : Int) + 1).toNat = k + 1 := by omega
  have U1 := Lib.hid (show X.extract 0 k ++ str [x1] ++ X.extract (k + 1) 71 = str ((textL a).set k x1) by
    have hl : (textL a).length = 71 := by rw [textL_length, HA.out]
    have h := with_byte (textL a) k x1 (by omega)
    rw [hl] at h
    rw [HX.out]; exact h)
  have sl1 : ∀ w', (Instr.slice 9 (.string X) none (some (.int .i64 (k : Int))) none).run Try.prog w' = .ok (.string (X.extract 0 k)) w' := fun w' => by
    rw [run_slice_string_h _ _ _ Try.underlying9 _ _ k0 (by rw [szX]; exact k1), Int.toNat_natCast]
  have sl2 : ∀ w', (Instr.slice 9 (.string X) (some (.int .i64 ((k : Int) + 1))) none none).run Try.prog w' = .ok (.string (X.extract (k + 1) 71)) w' := fun w' => by
    rw [run_slice_string_l _ _ _ Try.underlying9 _ _ k3 (by rw [szX]; exact k2), k4, szX]
  clear ek c0 hx0 y1 y2
  have hlt5 := M5.out.lt
  have hne5 : w5.heap.size ≠ w.heap.size + 1 + 1 := by omega
  have c1' : w5.drew.cell? ⟨w.heap.size + 1 + 1, 1, none⟩ = some (.int .u8 (x1.toNat : Int)) := c1
  have c2' : (w5.alloc (.cells #[.int .u8 (x1.toNat : Int)] 5)).drew.cell? ⟨w.heap.size + 1 + 1, 1, none⟩ = some (.int .u8 (x1.toNat : Int)) := by
    have h := rowC_cell (rowC_alloc M5.out.r2 (.cells #[.int .u8 (x1.toNat : Int)] 5)) 1
    rw [← rowC_cell M5.out.r2 1] at h
    exact h.trans c1
  obtain ⟨SS, hSS⟩ : ∃ SS : World → Prop, SS = fun w' => w'.cell? ⟨w.heap.size + 1 + 1, 1, none⟩ = some (.int .u8 (x1.toNat : Int)) := ⟨_, rfl⟩
  have SO : ∀ w' : World, w'.cell? ⟨w.heap.size + 1 + 1, 1, none⟩ = some (.int .u8 (x1.toNat : Int)) → SS w' := fun w' m => by rw [hSS]; exact m
  have OS : ∀ w', SS w' → w'.cell? ⟨w.heap.size + 1 + 1, 1, none⟩ = some (.int .u8 (x1.toNat : Int)) := fun w' h => by rw [hSS] at h; exact h
  clear hSS hlt5
  refine wp_region_noPanic ?_
  refine wp_region_held_drew (S := SS) (by kernel_rfl) (SO _ c1') (fun hHeld => ?_)
  refine wpAnyH_take (i := 0) (oi := { dst := some 49, op := Op.move (Operand.tmp 7), type := 9, pos := "outright.go:18", after := #[], guard := none }) (v := ?_) rfl (by kernel_rfl) (by kernel_rfl) (by kernel_rfl) (fun _ _ _ h => h) (Or.inl ⟨by rfl, ?_⟩) (by assumption) ?_
  rotate_left
  · intro w hSw
    skip
    clear hSw
    go_simp
    try with_reducible rfl
  try simp only [Act.put, List.setIfInBounds_toArray, List.set_cons_zero, List.set_cons_succ]
  refine wpAnyH_take (i := 1) (oi := { dst := some 50, op := Op.move (Operand.tmp 11), type := 3, pos := "outright.go:18", after := #[], guard := none }) (v := ?_) rfl (by kernel_rfl) (by kernel_rfl) (by kernel_rfl) (fun _ _ _ h => h) (Or.inl ⟨by rfl, ?_⟩) (by assumption) ?_
  rotate_left
  · intro w hSw
    skip
    clear hSw
    go_simp
    try with_reducible rfl
  try simp only [Act.put, List.setIfInBounds_toArray, List.set_cons_zero, List.set_cons_succ]
  refine wpAnyH_take (i := 2) (oi := { dst := some 51, op := Op.slice 9 (Operand.tmp 49) none (some (Operand.tmp 50)) none, type := 9, pos := "outright.go:18", after := #[{ on := 0, ground := Ground.data }, { on := 1, ground := Ground.data }], guard := none }) (v := ?_) rfl (by kernel_rfl) (by kernel_rfl) (by kernel_rfl) (fun _ _ _ h => h) (Or.inl ⟨by rfl, ?_⟩) (by assumption) ?_
  rotate_left
  · intro w hSw
    skip
    clear hSw
    go_simp
    try with_reducible rfl
  try simp only [Act.put, List.setIfInBounds_toArray, List.set_cons_zero, List.set_cons_succ]
  refine wpAnyH_take (i := 3) (oi := { dst := some 52, op := Op.indexAddr 31 (Operand.tmp 5) (Operand.const (Value.int IntKind.i64 1)), type := 0, pos := "outright.go:18", after := #[], guard := none }) (v := ?_) rfl (by kernel_rfl) (by kernel_rfl) (by kernel_rfl) (fun _ _ _ h => h) (Or.inl ⟨by rfl, ?_⟩) (by assumption) ?_
  rotate_left
  · intro w hSw
    skip
    clear hSw
    go_simp
    try with_reducible rfl
  try simp only [Act.put, List.setIfInBounds_toArray, List.set_cons_zero, List.set_cons_succ]
  refine wpAnyH_take (i := 8) (oi := { dst := some 57, op := Op.move (Operand.tmp 7), type := 9, pos := "outright.go:18", after := #[], guard := none }) (v := ?_) rfl (by kernel_rfl) (by kernel_rfl) (by kernel_rfl) (fun _ _ _ h => h) (Or.inl ⟨by rfl, ?_⟩) (by assumption) ?_
  rotate_left
  · intro w hSw
    skip
    clear hSw
    go_simp
    try with_reducible rfl
  try simp only [Act.put, List.setIfInBounds_toArray, List.set_cons_zero, List.set_cons_succ]
  refine wpAnyH_take (i := 9) (oi := { dst := some 58, op := Op.move (Operand.tmp 11), type := 3, pos := "outright.go:18", after := #[], guard := none }) (v := ?_) rfl (by kernel_rfl) (by kernel_rfl) (by kernel_rfl) (fun _ _ _ h => h) (Or.inl ⟨by rfl, ?_⟩) (by assumption) ?_
  rotate_left
  · intro w hSw
    skip
    clear hSw
    go_simp
    try with_reducible rfl
  try simp only [Act.put, List.setIfInBounds_toArray, List.set_cons_zero, List.set_cons_succ]
  refine wpAnyH_take (i := 10) (oi := { dst := some 59, op := Op.binOp BinOp.add 3 (Operand.tmp 58) (Operand.const (Value.int IntKind.i64 1)) 3, type := 3, pos := "outright.go:18", after := #[{ on := 9, ground := Ground.data }], guard := none }) (v := ?_) rfl (by kernel_rfl) (by kernel_rfl) (by kernel_rfl) (fun _ _ _ h => h) (Or.inl ⟨by rfl, ?_⟩) (by assumption) ?_
  rotate_left
  · intro w hSw
    skip
    clear hSw
    go_simp
    try with_reducible rfl
  try simp only [Act.put, List.setIfInBounds_toArray, List.set_cons_zero, List.set_cons_succ]
  refine wpAnyH_take (i := 11) (oi := { dst := some 60, op := Op.slice 9 (Operand.tmp 57) (some (Operand.tmp 59)) none none, type := 9, pos := "outright.go:18", after := #[{ on := 8, ground := Ground.data }, { on := 10, ground := Ground.data }], guard := none }) (v := ?_) rfl (by kernel_rfl) (by kernel_rfl) (by kernel_rfl) (fun _ _ _ h => h) (Or.inl ⟨by rfl, ?_⟩) (by assumption) ?_
  rotate_left
  · intro w hSw
    skip
    clear hSw
    go_simp
    try with_reducible rfl
  try simp only [Act.put, List.setIfInBounds_toArray, List.set_cons_zero, List.set_cons_succ]
  refine wpAnyH_take (i := 4) (oi := { dst := some 53, op := Op.load 5 (Operand.tmp 52), type := 5, pos := "outright.go:18", after := #[{ on := 3, ground := Ground.data }], guard := none }) (v := ?_) rfl (by kernel_rfl) (by kernel_rfl) (by kernel_rfl) (fun _ _ _ h => h) (Or.inl ⟨by rfl, ?_⟩) (by assumption) ?_
  rotate_left
  · intro w hSw
    have hSw := OS _ hSw
    go_simp
    try with_reducible rfl
  try simp only [Act.put, List.setIfInBounds_toArray, List.set_cons_zero, List.set_cons_succ]
  refine wpAnyH_ready (rs := [5]) (by kernel_rfl) (by simp) ?_
  refine AllReadyH.cons (o := { dst := some 54, op := Op.buildSlice 32 1 #[(0, Operand.tmp 53)], type := 32, pos := "outright.go:18", after := #[{ on := 4, ground := Ground.data }], guard := none }) rfl (fun K hK => ?_) AllReadyH.nil
  skip
  go_simp
  refine hK.out _ _ (SO _ (by first | exact c1' | exact c2')) (fun hHeld => ?_)
  clear hK K
  try simp only [Act.put, List.setIfInBounds_toArray, List.set_cons_zero, List.set_cons_succ]
  refine wpAnyH_ready (rs := [6]) (by kernel_rfl) (by simp) ?_
  refine AllReadyH.cons (o := { dst := some 55, op := Op.convert 32 9 (Operand.tmp 54), type := 9, pos := "outright.go:18", after := #[{ on := 5, ground := Ground.data }], guard := none }) rfl (fun K hK => ?_) AllReadyH.nil
  skip
  go_simp
  refine hK.out _ _ (SO _ (by first | exact c1' | exact c2')) (fun hHeld => ?_)
  clear hK K
  try simp only [Act.put, List.setIfInBounds_toArray, List.set_cons_zero, List.set_cons_succ]
  refine wpAnyH_take (i := 7) (oi := { dst := some 56, op := Op.binOp BinOp.add 9 (Operand.tmp 51) (Operand.tmp 55) 9, type := 9, pos := "outright.go:18", after := #[{ on := 2, ground := Ground.data }, { on := 6, ground := Ground.data }], guard := none }) (v := ?_) rfl (by kernel_rfl) (by kernel_rfl) (by kernel_rfl) (fun _ _ _ h => h) (Or.inl ⟨by rfl, ?_⟩) (by assumption) ?_
  rotate_left
  · intro w hSw
    have hsum : ¬ 9223372036854775807 < k + 1 := by omega
    clear hSw
    go_simp
    try with_reducible rfl
  try simp only [Act.put, List.setIfInBounds_toArray, List.set_cons_zero, List.set_cons_succ]
  refine wpAnyH_take (i := 12) (oi := { dst := some 61, op := Op.binOp BinOp.add 9 (Operand.tmp 56) (Operand.tmp 60) 9, type := 9, pos := "outright.go:18", after := #[{ on := 7, ground := Ground.data }, { on := 11, ground := Ground.data }], guard := none }) (v := ?_) rfl (by kernel_rfl) (by kernel_rfl) (by kernel_rfl) (fun _ _ _ h => h) (Or.inl ⟨by rfl, ?_⟩) (by assumption) ?_
  rotate_left
  · intro w hSw
    have hsum : ¬ 9223372036854775807 < k + 1 + (70 - k) := by omega
    clear hSw
    go_simp
    try with_reducible rfl
  try simp only [Act.put, List.setIfInBounds_toArray, List.set_cons_zero, List.set_cons_succ]
  refine wpAnyH_take (i := 13) (oi := { dst := some 12, op := Op.assign (Operand.tmp 61), type := 9, pos := "outright.go:18", after := #[{ on := 12, ground := Ground.data }, { on := 0, ground := Ground.phase }, { on := 1, ground := Ground.phase }, { on := 2, ground := Ground.phase }, { on := 3, ground := Ground.phase }, { on := 4, ground := Ground.phase }, { on := 5, ground := Ground.phase }, { on := 6, ground := Ground.phase }, { on := 7, ground := Ground.phase }, { on := 8, ground := Ground.phase }, { on := 9, ground := Ground.phase }, { on := 10, ground := Ground.phase }, { on := 11, ground := Ground.phase }, { on := 12, ground := Ground.phase }], guard := none }) (v := ?_) rfl (by kernel_rfl) (by kernel_rfl) (by kernel_rfl) (fun _ _ _ h => h) (Or.inl ⟨by rfl, ?_⟩) (by assumption) ?_
  rotate_left
  · intro w hSw
    skip
    clear hSw
    go_simp
    try with_reducible rfl
  try simp only [Act.put, List.setIfInBounds_toArray, List.set_cons_zero, List.set_cons_succ]
  refine wpAnyH_done (by kernel_rfl) ?_ _
  refine NoPanic.normal ?_
  rw [U1.out]
  have m6 : ThreeM w (w5.alloc (.cells #[.int .u8 (x1.toNat : Int)] 5)).drew a b z := (M5.out.below ((Below.refl _ _).alloc (Nat.le_refl _) _)).drew
  obtain ⟨U, hU⟩ : ∃ U, U = (textL a).set k x1 := ⟨_, rfl⟩
  rw [← hU] at U1 ⊢
  clear c1 c1' c2' hne5 SO OS hHeld U1 M5 sl1 sl2 z1 z2 z3 k0 k1 k2 wk k3 k4 hcv k71 hU
  generalize World.drew _ = w6 at m6 ⊢
  have M6 := Lib.hid m6
  have CPu := fun w => parse_any U w
  obtain ⟨D, hD⟩ : ∃ D, D = digL U := ⟨_, rfl⟩
  have hDl : D.length = 32 := by rw [hD]; exact digL_length U
  have HId := Lib.hid (info_digest hDl)
  have HIa := Lib.hid (info_digest HA.out)
  have HOd := Lib.hid (show (cells8 zero32).size = (cells8 D).size by rw [cells8_size, cells8_size, hDl]; rfl)
  obtain ⟨γ, hγ⟩ : ∃ γ : Bool, γ = decide (U = textL a) := ⟨_, rfl⟩
  have e3 : ((str U).toList == X.toList) = γ := by rw [HX.out, eq_texts, hγ]
  rw [← hD] at CPu
  have HD := Lib.hid hD
  have HDl := Lib.hid hDl
  have Hγ := Lib.hid hγ
  clear hD hDl hγ m6
  by_cases hT : isText U = true
  focus
    have hE : errL U = 0 := by unfold errL; rw [if_pos hT]
    rw [hE] at CPu
    have CTd : ∀ w, Calls Try.prog 9 #[.agg (cells8 D)] w fun e w' => e = .returned (.string (str U)) ∧ Below w.heap.size w w' := fun w => by
      have h := text_any D w HDl.out
      rw [show textL D = U by rw [HD.out]; exact textL_digL hT] at h
      exact h
    have q3 : ∀ w, (Op.equalIn 10000 23 (.agg (cells8 D)) (.agg (cells8 a))).run Try.prog w = .ok γ w := fun w => by
      rw [eq_digest w 9998 HDl.out HA.out, Hγ.out]
      congr 1
      rw [decide_eq_decide, HD.out]
      exact ⟨fun h => by rw [← h, textL_digL hT], fun h => by rw [h]; exact digL_textL HA.out⟩
    clear hT hE
    go_upto_region 10 with (first
      | (go_at_call 7; ((with_reducible refine (CPu _).mono ?_); rintro e w7 ⟨rfl, hb7⟩; have F7 := (M6.out.below hb7).fresh (cells8 zero32) (cells8 D) 23; have M7 := Lib.hid F7.1; have R7 := Lib.hid F7.2; clear F7 hb7))
      | ((with_reducible show wpList _ _ _ (⟨_, .store _ _ _, _, _, _, _⟩ :: _) _ _); refine wpList_store_row rfl 23 _ _ rfl w7.heap.size (cells8 D) rfl rfl 23 (cells8 zero32) (rowC_new w7 _ _) HId.out HOd.out (cells8_one _) ?_)
      | ((with_reducible show wpList _ _ _ (⟨some 70, _, _, _, _, _⟩ :: _) _ _); refine wpList_load_rowG (by kernel_rfl) 23 _ rfl w7.heap.size rfl 23 (cells8 D) _ R7.out Try.underlying23 rfl HId.out ?_)
      | (go_at_call 9; ((with_reducible refine (CTd _).mono ?_); rintro e w8 ⟨rfl, hb8⟩; have M8 := Lib.hid (M7.out.below hb8); have R8 := Lib.hid (rowC_below R7.out hb8 (rowC_lt R7.out)); clear hb8))
      | ((with_reducible show wpList _ _ _ (⟨some 97, _, _, _, _, _⟩ :: _) _ _); refine wpList_load_rowG (by kernel_rfl) 23 _ rfl w7.heap.size rfl 23 (cells8 D) _ R8.out Try.underlying23 rfl HId.out ?_)
      | ((with_reducible show wpList _ _ _ (⟨some 98, _, _, _, _, _⟩ :: _) _ _); refine wpList_load_rowG (by kernel_rfl) 23 _ rfl w.heap.size rfl 23 (cells8 a) _ M8.out.r0 Try.underlying23 rfl HIa.out ?_))
    have m9 := M8.out
    generalize hw9 : w8 = w9 at m9 ⊢
    clear hw9 M8 R8 M7 R7 q3 CTd
  rotate_left
  focus
    have hT' : isText U = false := by simpa using hT
    have hE : errL U = 10 := by unfold errL; rw [if_neg hT]
    have hDz : D = zero32 := by rw [HD.out]; unfold digL; rw [if_neg hT]
    rw [hE] at CPu
    have q3 : ∀ w, (Op.equalIn 10000 23 (.agg (cells8 D)) (.agg (cells8 zero32))).run Try.prog w = .ok true w := fun w => by
      rw [hDz, eq_digest w 9998 (l := zero32) (m := zero32) rfl rfl]; simp
    have hγ0 : γ = false := by
      rw [Hγ.out, decide_eq_false_iff_not]
      intro h
      rw [h, isText_textL HA.out] at hT'
      exact absurd hT' (by decide)
    rw [hγ0] at e3
    clear hT hT' hE hDz hγ0
    go_upto_region 10 with (first
      | (go_at_call 7; ((with_reducible refine (CPu _).mono ?_); rintro e w8 ⟨rfl, hb7⟩; have F7 := (M6.out.below hb7).fresh (cells8 zero32) (cells8 D) 23; have M7 := Lib.hid F7.1; have R7 := Lib.hid F7.2; clear F7 hb7))
      | ((with_reducible show wpList _ _ _ (⟨_, .store _ _ _, _, _, _, _⟩ :: _) _ _); refine wpList_store_row rfl 23 _ _ rfl w8.heap.size (cells8 D) rfl rfl 23 (cells8 zero32) (rowC_new w8 _ _) HId.out HOd.out (cells8_one _) ?_)
      | ((with_reducible show wpList _ _ _ (⟨some 87, _, _, _, _, _⟩ :: _) _ _); refine wpList_load_rowG (by kernel_rfl) 23 _ rfl w8.heap.size rfl 23 (cells8 D) _ R7.out Try.underlying23 rfl HId.out ?_)
      | ((with_reducible show wpList _ _ _ (⟨some 88, _, _, _, _, _⟩ :: _) _ _); refine wpList_build_asG (by kernel_rfl) 23 _ rfl (cells8 zero32) (by kernel_rfl) ?_))
    have m9 := M7.out
    change Code.wp _ _ _ _ ((w8.alloc (.cells (cells8 zero32) 23)).setRow w8.heap.size (cells8 D))
    generalize World.setRow _ w8.heap.size _ = w9 at m9 ⊢
    clear M7 R7 q3
  all_goals
    clear e3 CPu HId HOd HD Hγ HDl M6
    have hl : a.length = b.length := by rw [HA.out, HB.out]
    have hβ : β = (!lessL a b && !lessL b a) := by rw [Hβ.out, lessL_tri a b hl]
    have hlt : Op.bytesLess X.toList Y.toList = lessL a b := by rw [HX.out, HY.out, less_texts hl]
    have x7 : X.extract 7 19 = str (shortL a) := by rw [HX.out, short_rtext]
    have q2 : ∀ w, (Op.equalIn 10000 23 (.agg (cells8 a)) (.agg (cells8 b))).run Try.prog w = .ok β w := fun w => by
      rw [eq_digest w 9998 HA.out HB.out, Hβ.out]
    have CSa : ∀ w', ThreeM w w' a b z → _ := fun w' m => ThreeM.call (short_any a w' HA.out) m
    have CLab : ∀ w', ThreeM w w' a b z → _ := fun w' m => ThreeM.call (less_any a b w' HA.out HB.out) m
    have CLba : ∀ w', ThreeM w w' a b z → _ := fun w' m => ThreeM.call (less_any b a w' HB.out HA.out) m
    have CN : ∀ w', ThreeM w w' a b z → _ := fun w' m => ThreeM.call (named_any w') m
    have hu := Try.underlying23
    have hA : (Try.prog.info? 23).map (·.size) = some (a.map byteV).length := by rw [List.length_map, HA.out]; kernel_rfl
    have hB : (Try.prog.info? 23).map (·.size) = some (b.map byteV).length := by rw [List.length_map, HB.out]; kernel_rfl
    have R0 : ∀ w', ThreeM w w' a b z → w'.rangeAt w.heap.size 0 (a.map byteV) := fun w' m => range_row m.r0
    have R1 : ∀ w', ThreeM w w' a b z → w'.rangeAt (w.heap.size + 1) 0 (b.map byteV) := fun w' m => range_row m.r1
    obtain ⟨V, hV⟩ : ∃ V, V = str (shortL a) := ⟨_, rfl⟩
    rw [← hV] at CSa x7
    clear hV
    generalize lessL a b = l1 at hβ hlt CLab
    generalize lessL b a = l2 at hβ CLba
    unfold cells8 at q2 CSa CLab CLba ⊢
    have md := m9.drew
    obtain ⟨NA, hNA⟩ : ∃ NA, NA = a.map byteV := ⟨_, rfl⟩
    obtain ⟨NB, hNB⟩ : ∃ NB, NB = b.map byteV := ⟨_, rfl⟩
    rw [← hNA] at CSa hA R0 CLab CLba q2 ⊢
    rw [← hNB] at hB R1 CLab CLba q2 ⊢
    clear hNA hNB m9 Hβ
    obtain ⟨SS, hSS⟩ : ∃ SS : World → Prop, SS = fun w' => ThreeM w w' a b z ∧ w'.rangeAt w.heap.size 0 NA ∧ w'.rangeAt (w.heap.size + 1) 0 NB := ⟨_, rfl⟩
    have SO : ∀ w', ThreeM w w' a b z → SS w' := fun w' m => by rw [hSS]; exact ⟨m, R0 w' m, R1 w' m⟩
    have OS : ∀ w', SS w' → ThreeM w w' a b z ∧ w'.rangeAt w.heap.size 0 NA ∧ w'.rangeAt (w.heap.size + 1) 0 NB := fun w' h => by rw [hSS] at h; exact h
    clear hSS R0 R1 hl
    cases l1
    case false =>
      rw [Bool.not_false, Bool.true_and] at hβ
      subst hβ
      refine wp_region_noPanic ?_
      refine wp_region_held_drew (S := SS) (by kernel_rfl) (SO _ md) (fun hHeld => ?_)
      refine wpAnyH_take (i := 3) (oi := { dst := some 109, op := Op.move (Operand.tmp 7), type := 9, pos := "outright.go:23", after := #[], guard := none }) (v := ?_) rfl (by kernel_rfl) (by kernel_rfl) (by kernel_rfl) (fun _ _ _ h => h) (Or.inl ⟨by rfl, ?_⟩) (by assumption) ?_
      rotate_left
      · intro w hSw
        skip
        clear hSw
        go_simp
        try with_reducible rfl
      try simp only [Act.put, List.setIfInBounds_toArray, List.set_cons_zero, List.set_cons_succ]
      refine wpAnyH_take (i := 4) (oi := { dst := some 110, op := Op.move (Operand.tmp 8), type := 9, pos := "outright.go:23", after := #[], guard := none }) (v := ?_) rfl (by kernel_rfl) (by kernel_rfl) (by kernel_rfl) (fun _ _ _ h => h) (Or.inl ⟨by rfl, ?_⟩) (by assumption) ?_
      rotate_left
      · intro w hSw
        skip
        clear hSw
        go_simp
        try with_reducible rfl
      try simp only [Act.put, List.setIfInBounds_toArray, List.set_cons_zero, List.set_cons_succ]
      refine wpAnyH_take (i := 5) (oi := { dst := some 111, op := Op.binOp BinOp.lss 9 (Operand.tmp 109) (Operand.tmp 110) 9, type := 4, pos := "outright.go:23", after := #[{ on := 3, ground := Ground.data }, { on := 4, ground := Ground.data }], guard := none }) (v := ?_) rfl (by kernel_rfl) (by kernel_rfl) (by kernel_rfl) (fun _ _ _ h => h) (Or.inl ⟨by rfl, ?_⟩) (by assumption) ?_
      rotate_left
      · intro w hSw
        skip
        clear hSw
        go_simp
        try with_reducible rfl
      try simp only [Act.put, List.setIfInBounds_toArray, List.set_cons_zero, List.set_cons_succ]
      refine wpAnyH_take (i := 0) (oi := { dst := some 106, op := Op.load 23 (Operand.tmp 3), type := 23, pos := "outright.go:23", after := #[], guard := none }) (v := _) rfl (by kernel_rfl) (by kernel_rfl) (by kernel_rfl) (fun _ _ _ h => h) (yieldsIf_load_mid (by rfl) _ _ rfl _ _ rfl _ _ (by intro w hSw; have hSw := OS _ hSw; go_split_ands; assumption) (by assumption) rfl (by assumption)) (by assumption) ?_
      try simp only [Act.put, List.setIfInBounds_toArray, List.set_cons_zero, List.set_cons_succ]
      refine wpAnyH_take (i := 1) (oi := { dst := some 107, op := Op.load 23 (Operand.tmp 4), type := 23, pos := "outright.go:23", after := #[], guard := none }) (v := _) rfl (by kernel_rfl) (by kernel_rfl) (by kernel_rfl) (fun _ _ _ h => h) (yieldsIf_load_mid (by rfl) _ _ rfl _ _ rfl _ _ (by intro w hSw; have hSw := OS _ hSw; go_split_ands; assumption) (by assumption) rfl (by assumption)) (by assumption) ?_
      try simp only [Act.put, List.setIfInBounds_toArray, List.set_cons_zero, List.set_cons_succ]
      refine wpAnyH_ready (rs := [2]) (by kernel_rfl) (by simp) ?_
      refine AllReadyH.cons (o := { dst := some 108, op := Op.call { callee := Callee.value (Operand.func 13), args := #[Operand.tmp 106, Operand.tmp 107], argTypes := #[23, 23] }, type := 4, pos := "outright.go:23", after := #[{ on := 0, ground := Ground.data }, { on := 1, ground := Ground.data }], guard := none }) rfl (fun K hK => ?_) AllReadyH.nil
      go_simp
      refine (CLab _ (by assumption)).mono ?_
      rintro e w2' ⟨rfl, m2'⟩
      refine hK.out _ _ (SO _ (by assumption)) (fun hHeld => ?_)
      clear hK K
      try simp only [Act.put, List.setIfInBounds_toArray, List.set_cons_zero, List.set_cons_succ]
      refine wpAnyH_take (i := 6) (oi := { dst := some 112, op := Op.binOp BinOp.eql 4 (Operand.tmp 108) (Operand.tmp 111) 4, type := 4, pos := "outright.go:23", after := #[{ on := 2, ground := Ground.data }, { on := 5, ground := Ground.data }], guard := none }) (v := ?_) rfl (by kernel_rfl) (by kernel_rfl) (by kernel_rfl) (fun _ _ _ h => h) (Or.inl ⟨by rfl, ?_⟩) (by assumption) ?_
      rotate_left
      · intro w hSw
        skip
        clear hSw
        go_simp
        try with_reducible rfl
      try simp only [Act.put, List.setIfInBounds_toArray, List.set_cons_zero, List.set_cons_succ]
      refine wpAnyH_take (i := 7) (oi := { dst := some 113, op := Op.move (Operand.tmp 112), type := 4, pos := "outright.go:23", after := #[{ on := 6, ground := Ground.data }, { on := 2, ground := Ground.chain }], guard := none }) (v := ?_) rfl (by kernel_rfl) (by kernel_rfl) (by kernel_rfl) (fun _ _ _ h => h) (Or.inl ⟨by rfl, ?_⟩) (by assumption) ?_
      rotate_left
      · intro w hSw
        skip
        clear hSw
        go_simp
        try with_reducible rfl
      try simp only [Act.put, List.setIfInBounds_toArray, List.set_cons_zero, List.set_cons_succ]
      refine wpAnyH_take (i := 8) (oi := { dst := some 114, op := Op.load 23 (Operand.tmp 3), type := 23, pos := "outright.go:23", after := #[{ on := 7, ground := Ground.guard }], guard := some (7, true) }) (v := _) rfl (by kernel_rfl) (by kernel_rfl) (by kernel_rfl) (fun _ _ _ h => h) (yieldsIf_load_mid (by rfl) _ _ rfl _ _ rfl _ _ (by intro w hSw; have hSw := OS _ hSw; go_split_ands; assumption) (by assumption) rfl (by assumption)) (by assumption) ?_
      try simp only [Act.put, List.setIfInBounds_toArray, List.set_cons_zero, List.set_cons_succ]
      refine wpAnyH_take (i := 9) (oi := { dst := some 115, op := Op.load 23 (Operand.tmp 4), type := 23, pos := "outright.go:23", after := #[{ on := 7, ground := Ground.guard }], guard := some (7, true) }) (v := _) rfl (by kernel_rfl) (by kernel_rfl) (by kernel_rfl) (fun _ _ _ h => h) (yieldsIf_load_mid (by rfl) _ _ rfl _ _ rfl _ _ (by intro w hSw; have hSw := OS _ hSw; go_split_ands; assumption) (by assumption) rfl (by assumption)) (by assumption) ?_
      try simp only [Act.put, List.setIfInBounds_toArray, List.set_cons_zero, List.set_cons_succ]
      refine wpAnyH_take (i := 10) (oi := { dst := some 116, op := Op.binOp BinOp.eql 23 (Operand.tmp 114) (Operand.tmp 115) 23, type := 4, pos := "outright.go:23", after := #[{ on := 8, ground := Ground.data }, { on := 9, ground := Ground.data }, { on := 7, ground := Ground.guard }], guard := some (7, true) }) (v := ?_) rfl (by kernel_rfl) (by kernel_rfl) (by kernel_rfl) (fun _ _ _ h => h) (Or.inl ⟨by rfl, ?_⟩) (by assumption) ?_
      rotate_left
      · intro w hSw
        skip
        clear hSw
        go_simp
        try with_reducible rfl
      try simp only [Act.put, List.setIfInBounds_toArray, List.set_cons_zero, List.set_cons_succ]
      refine wpAnyH_take (i := 11) (oi := { dst := some 117, op := Op.load 23 (Operand.tmp 3), type := 23, pos := "outright.go:23", after := #[{ on := 7, ground := Ground.guard }], guard := some (7, true) }) (v := _) rfl (by kernel_rfl) (by kernel_rfl) (by kernel_rfl) (fun _ _ _ h => h) (yieldsIf_load_mid (by rfl) _ _ rfl _ _ rfl _ _ (by intro w hSw; have hSw := OS _ hSw; go_split_ands; assumption) (by assumption) rfl (by assumption)) (by assumption) ?_
      try simp only [Act.put, List.setIfInBounds_toArray, List.set_cons_zero, List.set_cons_succ]
      refine wpAnyH_take (i := 12) (oi := { dst := some 118, op := Op.load 23 (Operand.tmp 4), type := 23, pos := "outright.go:23", after := #[{ on := 7, ground := Ground.guard }], guard := some (7, true) }) (v := _) rfl (by kernel_rfl) (by kernel_rfl) (by kernel_rfl) (fun _ _ _ h => h) (yieldsIf_load_mid (by rfl) _ _ rfl _ _ rfl _ _ (by intro w hSw; have hSw := OS _ hSw; go_split_ands; assumption) (by assumption) rfl (by assumption)) (by assumption) ?_
      try simp only [Act.put, List.setIfInBounds_toArray, List.set_cons_zero, List.set_cons_succ]
      refine wpAnyH_ready (rs := [13]) (by kernel_rfl) (by simp) ?_
      refine AllReadyH.cons (o := { dst := some 119, op := Op.call { callee := Callee.value (Operand.func 13), args := #[Operand.tmp 117, Operand.tmp 118], argTypes := #[23, 23] }, type := 4, pos := "outright.go:23", after := #[{ on := 11, ground := Ground.data }, { on := 12, ground := Ground.data }, { on := 7, ground := Ground.chain }, { on := 7, ground := Ground.guard }], guard := some (7, true) }) rfl (fun K hK => ?_) AllReadyH.nil
      go_simp
      refine (CLab _ (by assumption)).mono ?_
      rintro e w13' ⟨rfl, m13'⟩
      refine hK.out _ _ (SO _ (by assumption)) (fun hHeld => ?_)
      clear hK K
      try simp only [Act.put, List.setIfInBounds_toArray, List.set_cons_zero, List.set_cons_succ]
      refine wpAnyH_take (i := 14) (oi := { dst := some 120, op := Op.unOp UnOp.not 4 (Operand.tmp 119), type := 4, pos := "outright.go:23", after := #[{ on := 13, ground := Ground.data }, { on := 7, ground := Ground.guard }], guard := some (7, true) }) (v := ?_) rfl (by kernel_rfl) (by kernel_rfl) (by kernel_rfl) (fun _ _ _ h => h) (Or.inl ⟨by rfl, ?_⟩) (by assumption) ?_
      rotate_left
      · intro w hSw
        skip
        clear hSw
        go_simp
        try with_reducible rfl
      try simp only [Act.put, List.setIfInBounds_toArray, List.set_cons_zero, List.set_cons_succ]
      refine wpAnyH_take (i := 15) (oi := { dst := some 121, op := Op.move (Operand.tmp 120), type := 4, pos := "outright.go:23", after := #[{ on := 14, ground := Ground.data }, { on := 13, ground := Ground.chain }, { on := 7, ground := Ground.guard }], guard := some (7, true) }) (v := ?_) rfl (by kernel_rfl) (by kernel_rfl) (by kernel_rfl) (fun _ _ _ h => h) (Or.inl ⟨by rfl, ?_⟩) (by assumption) ?_
      rotate_left
      · intro w hSw
        skip
        clear hSw
        go_simp
        try with_reducible rfl
      try simp only [Act.put, List.setIfInBounds_toArray, List.set_cons_zero, List.set_cons_succ]
      refine wpAnyH_take (i := 16) (oi := { dst := some 122, op := Op.load 23 (Operand.tmp 4), type := 23, pos := "outright.go:23", after := #[{ on := 15, ground := Ground.guard }], guard := some (15, true) }) (v := _) rfl (by kernel_rfl) (by kernel_rfl) (by kernel_rfl) (fun _ _ _ h => h) (yieldsIf_load_mid (by rfl) _ _ rfl _ _ rfl _ _ (by intro w hSw; have hSw := OS _ hSw; go_split_ands; assumption) (by assumption) rfl (by assumption)) (by assumption) ?_
      try simp only [Act.put, List.setIfInBounds_toArray, List.set_cons_zero, List.set_cons_succ]
      refine wpAnyH_take (i := 17) (oi := { dst := some 123, op := Op.load 23 (Operand.tmp 3), type := 23, pos := "outright.go:23", after := #[{ on := 15, ground := Ground.guard }], guard := some (15, true) }) (v := _) rfl (by kernel_rfl) (by kernel_rfl) (by kernel_rfl) (fun _ _ _ h => h) (yieldsIf_load_mid (by rfl) _ _ rfl _ _ rfl _ _ (by intro w hSw; have hSw := OS _ hSw; go_split_ands; assumption) (by assumption) rfl (by assumption)) (by assumption) ?_
      try simp only [Act.put, List.setIfInBounds_toArray, List.set_cons_zero, List.set_cons_succ]
      refine wpAnyH_ready (rs := [18]) (by kernel_rfl) (by simp) ?_
      refine AllReadyH.cons (o := { dst := some 124, op := Op.call { callee := Callee.value (Operand.func 13), args := #[Operand.tmp 122, Operand.tmp 123], argTypes := #[23, 23] }, type := 4, pos := "outright.go:23", after := #[{ on := 16, ground := Ground.data }, { on := 17, ground := Ground.data }, { on := 15, ground := Ground.chain }, { on := 15, ground := Ground.guard }], guard := some (15, true) }) rfl (fun K hK => ?_) AllReadyH.nil
      go_simp
      refine (CLba _ (by assumption)).mono ?_
      rintro e w18' ⟨rfl, m18'⟩
      refine hK.out _ _ (SO _ (by assumption)) (fun hHeld => ?_)
      clear hK K
      try simp only [Act.put, List.setIfInBounds_toArray, List.set_cons_zero, List.set_cons_succ]
      refine wpAnyH_take (i := 19) (oi := { dst := some 125, op := Op.unOp UnOp.not 4 (Operand.tmp 124), type := 4, pos := "outright.go:23", after := #[{ on := 18, ground := Ground.data }, { on := 15, ground := Ground.guard }], guard := some (15, true) }) (v := ?_) rfl (by kernel_rfl) (by kernel_rfl) (by kernel_rfl) (fun _ _ _ h => h) (Or.inl ⟨by rfl, ?_⟩) (by assumption) ?_
      rotate_left
      · intro w hSw
        skip
        clear hSw
        go_simp
        try with_reducible rfl
      try simp only [Act.put, List.setIfInBounds_toArray, List.set_cons_zero, List.set_cons_succ]
      refine wpAnyH_take (i := 20) (oi := { dst := some 126, op := Op.pick (Operand.tmp 121) (Operand.tmp 125) (Operand.const (Value.bool false)), type := 4, pos := "outright.go:23", after := #[{ on := 15, ground := Ground.data }, { on := 19, ground := Ground.data }, { on := 7, ground := Ground.guard }], guard := some (7, true) }) (v := ?_) rfl (by kernel_rfl) (by kernel_rfl) (by kernel_rfl) (fun _ _ _ h => h) (Or.inl ⟨by rfl, ?_⟩) (by assumption) ?_
      rotate_left
      · intro w hSw
        skip
        clear hSw
        go_simp
        try with_reducible rfl
      try simp only [Act.put, List.setIfInBounds_toArray, List.set_cons_zero, List.set_cons_succ]
      refine wpAnyH_take (i := 21) (oi := { dst := some 127, op := Op.binOp BinOp.eql 4 (Operand.tmp 116) (Operand.tmp 126) 4, type := 4, pos := "outright.go:23", after := #[{ on := 10, ground := Ground.data }, { on := 20, ground := Ground.data }, { on := 7, ground := Ground.guard }], guard := some (7, true) }) (v := ?_) rfl (by kernel_rfl) (by kernel_rfl) (by kernel_rfl) (fun _ _ _ h => h) (Or.inl ⟨by rfl, ?_⟩) (by assumption) ?_
      rotate_left
      · intro w hSw
        skip
        clear hSw
        go_simp
        try with_reducible rfl
      try simp only [Act.put, List.setIfInBounds_toArray, List.set_cons_zero, List.set_cons_succ]
      refine wpAnyH_take (i := 22) (oi := { dst := some 128, op := Op.pick (Operand.tmp 113) (Operand.tmp 127) (Operand.const (Value.bool false)), type := 4, pos := "outright.go:23", after := #[{ on := 7, ground := Ground.data }, { on := 21, ground := Ground.data }], guard := none }) (v := ?_) rfl (by kernel_rfl) (by kernel_rfl) (by kernel_rfl) (fun _ _ _ h => h) (Or.inl ⟨by rfl, ?_⟩) (by assumption) ?_
      rotate_left
      · intro w hSw
        skip
        clear hSw
        go_simp
        try with_reducible rfl
      try simp only [Act.put, List.setIfInBounds_toArray, List.set_cons_zero, List.set_cons_succ]
      refine wpAnyH_take (i := 23) (oi := { dst := some 129, op := Op.move (Operand.tmp 128), type := 4, pos := "outright.go:23", after := #[{ on := 22, ground := Ground.data }, { on := 18, ground := Ground.chain }], guard := none }) (v := ?_) rfl (by kernel_rfl) (by kernel_rfl) (by kernel_rfl) (fun _ _ _ h => h) (Or.inl ⟨by rfl, ?_⟩) (by assumption) ?_
      rotate_left
      · intro w hSw
        skip
        clear hSw
        go_simp
        try with_reducible rfl
      try simp only [Act.put, List.setIfInBounds_toArray, List.set_cons_zero, List.set_cons_succ]
      refine wpAnyH_take (i := 24) (oi := { dst := some 130, op := Op.move (Operand.tmp 7), type := 9, pos := "outright.go:23", after := #[{ on := 23, ground := Ground.guard }], guard := some (23, true) }) (v := ?_) rfl (by kernel_rfl) (by kernel_rfl) (by kernel_rfl) (fun _ _ _ h => h) (Or.inl ⟨by rfl, ?_⟩) (by assumption) ?_
      rotate_left
      · intro w hSw
        skip
        clear hSw
        go_simp
        try with_reducible rfl
      try simp only [Act.put, List.setIfInBounds_toArray, List.set_cons_zero, List.set_cons_succ]
      refine wpAnyH_take (i := 25) (oi := { dst := some 131, op := Op.slice 9 (Operand.tmp 130) (some (Operand.const (Value.int IntKind.i64 7))) (some (Operand.const (Value.int IntKind.i64 19))) none, type := 9, pos := "outright.go:23", after := #[{ on := 24, ground := Ground.data }, { on := 23, ground := Ground.guard }], guard := some (23, true) }) (v := ?_) rfl (by kernel_rfl) (by kernel_rfl) (by kernel_rfl) (fun _ _ _ h => h) (Or.inl ⟨by rfl, ?_⟩) (by assumption) ?_
      rotate_left
      · intro w hSw
        skip
        clear hSw
        go_simp
        try with_reducible rfl
      try simp only [Act.put, List.setIfInBounds_toArray, List.set_cons_zero, List.set_cons_succ]
      refine wpAnyH_take (i := 26) (oi := { dst := some 132, op := Op.load 23 (Operand.tmp 3), type := 23, pos := "outright.go:23", after := #[{ on := 23, ground := Ground.guard }], guard := some (23, true) }) (v := _) rfl (by kernel_rfl) (by kernel_rfl) (by kernel_rfl) (fun _ _ _ h => h) (yieldsIf_load_mid (by rfl) _ _ rfl _ _ rfl _ _ (by intro w hSw; have hSw := OS _ hSw; go_split_ands; assumption) (by assumption) rfl (by assumption)) (by assumption) ?_
      try simp only [Act.put, List.setIfInBounds_toArray, List.set_cons_zero, List.set_cons_succ]
      refine wpAnyH_ready (rs := [27]) (by kernel_rfl) (by simp) ?_
      refine AllReadyH.cons (o := { dst := some 133, op := Op.call { callee := Callee.value (Operand.func 11), args := #[Operand.tmp 132], argTypes := #[23] }, type := 9, pos := "outright.go:23", after := #[{ on := 26, ground := Ground.data }, { on := 23, ground := Ground.chain }, { on := 23, ground := Ground.guard }], guard := some (23, true) }) rfl (fun K hK => ?_) AllReadyH.nil
      go_simp
      refine (CSa _ (by assumption)).mono ?_
      rintro e w27' ⟨rfl, m27'⟩
      refine hK.out _ _ (SO _ (by assumption)) (fun hHeld => ?_)
      clear hK K
      try simp only [Act.put, List.setIfInBounds_toArray, List.set_cons_zero, List.set_cons_succ]
      refine wpAnyH_take (i := 28) (oi := { dst := some 134, op := Op.binOp BinOp.eql 9 (Operand.tmp 131) (Operand.tmp 133) 9, type := 4, pos := "outright.go:23", after := #[{ on := 25, ground := Ground.data }, { on := 27, ground := Ground.data }, { on := 23, ground := Ground.guard }], guard := some (23, true) }) (v := ?_) rfl (by kernel_rfl) (by kernel_rfl) (by kernel_rfl) (fun _ _ _ h => h) (Or.inl ⟨by rfl, ?_⟩) (by assumption) ?_
      rotate_left
      · intro w hSw
        skip
        clear hSw
        go_simp
        try with_reducible rfl
      try simp only [Act.put, List.setIfInBounds_toArray, List.set_cons_zero, List.set_cons_succ]
      refine wpAnyH_take (i := 29) (oi := { dst := some 135, op := Op.pick (Operand.tmp 129) (Operand.tmp 134) (Operand.const (Value.bool false)), type := 4, pos := "outright.go:23", after := #[{ on := 23, ground := Ground.data }, { on := 28, ground := Ground.data }], guard := none }) (v := ?_) rfl (by kernel_rfl) (by kernel_rfl) (by kernel_rfl) (fun _ _ _ h => h) (Or.inl ⟨by rfl, ?_⟩) (by assumption) ?_
      rotate_left
      · intro w hSw
        skip
        clear hSw
        go_simp
        try with_reducible rfl
      try simp only [Act.put, List.setIfInBounds_toArray, List.set_cons_zero, List.set_cons_succ]
      refine wpAnyH_take (i := 30) (oi := { dst := some 136, op := Op.move (Operand.tmp 135), type := 4, pos := "outright.go:23", after := #[{ on := 29, ground := Ground.data }, { on := 27, ground := Ground.chain }], guard := none }) (v := ?_) rfl (by kernel_rfl) (by kernel_rfl) (by kernel_rfl) (fun _ _ _ h => h) (Or.inl ⟨by rfl, ?_⟩) (by assumption) ?_
      rotate_left
      · intro w hSw
        skip
        clear hSw
        go_simp
        try with_reducible rfl
      try simp only [Act.put, List.setIfInBounds_toArray, List.set_cons_zero, List.set_cons_succ]
      refine wpAnyH_ready (rs := [31]) (by kernel_rfl) (by simp) ?_
      refine AllReadyH.cons (o := { dst := some 137, op := Op.call { callee := Callee.value (Operand.func 6), args := #[], argTypes := #[] }, type := 4, pos := "outright.go:23", after := #[{ on := 30, ground := Ground.chain }, { on := 30, ground := Ground.guard }], guard := some (30, true) }) rfl (fun K hK => ?_) AllReadyH.nil
      go_simp
      refine (CN _ (by assumption)).mono ?_
      rintro e w31' ⟨rfl, m31'⟩
      refine hK.out _ _ (SO _ (by assumption)) (fun hHeld => ?_)
      clear hK K
      try simp only [Act.put, List.setIfInBounds_toArray, List.set_cons_zero, List.set_cons_succ]
      refine wpAnyH_take (i := 32) (oi := { dst := some 138, op := Op.pick (Operand.tmp 136) (Operand.tmp 137) (Operand.const (Value.bool false)), type := 4, pos := "outright.go:23", after := #[{ on := 30, ground := Ground.data }, { on := 31, ground := Ground.data }], guard := none }) (v := ?_) rfl (by kernel_rfl) (by kernel_rfl) (by kernel_rfl) (fun _ _ _ h => h) (Or.inl ⟨by rfl, ?_⟩) (by assumption) ?_
      rotate_left
      · intro w hSw
        skip
        clear hSw
        go_simp
        try with_reducible rfl
      try simp only [Act.put, List.setIfInBounds_toArray, List.set_cons_zero, List.set_cons_succ]
      refine wpAnyH_take (i := 33) (oi := { dst := some 6, op := Op.assign (Operand.tmp 138), type := 4, pos := "outright.go:23", after := #[{ on := 32, ground := Ground.data }, { on := 31, ground := Ground.chain }, { on := 0, ground := Ground.phase }, { on := 1, ground := Ground.phase }, { on := 2, ground := Ground.phase }, { on := 3, ground := Ground.phase }, { on := 4, ground := Ground.phase }, { on := 5, ground := Ground.phase }, { on := 6, ground := Ground.phase }, { on := 7, ground := Ground.phase }, { on := 8, ground := Ground.phase }, { on := 9, ground := Ground.phase }, { on := 10, ground := Ground.phase }, { on := 11, ground := Ground.phase }, { on := 12, ground := Ground.phase }, { on := 13, ground := Ground.phase }, { on := 14, ground := Ground.phase }, { on := 15, ground := Ground.phase }, { on := 16, ground := Ground.phase }, { on := 17, ground := Ground.phase }, { on := 18, ground := Ground.phase }, { on := 19, ground := Ground.phase }, { on := 20, ground := Ground.phase }, { on := 21, ground := Ground.phase }, { on := 22, ground := Ground.phase }, { on := 23, ground := Ground.phase }, { on := 24, ground := Ground.phase }, { on := 25, ground := Ground.phase }, { on := 26, ground := Ground.phase }, { on := 27, ground := Ground.phase }, { on := 28, ground := Ground.phase }, { on := 29, ground := Ground.phase }, { on := 30, ground := Ground.phase }, { on := 31, ground := Ground.phase }, { on := 32, ground := Ground.phase }], guard := none }) (v := ?_) rfl (by kernel_rfl) (by kernel_rfl) (by kernel_rfl) (fun _ _ _ h => h) (Or.inl ⟨by rfl, ?_⟩) (by assumption) ?_
      rotate_left
      · intro w hSw
        skip
        clear hSw
        go_simp
        try with_reducible rfl
      try simp only [Act.put, List.setIfInBounds_toArray, List.set_cons_zero, List.set_cons_succ]
      refine wpAnyH_done (by kernel_rfl) ?_ _
      refine NoPanic.normal ?_
      go_wp2
      go_ret
      exact ⟨rfl, (by assumption : ThreeM w _ a b z).nx⟩
    case true =>
      rw [Bool.not_true, Bool.false_and] at hβ
      subst hβ
      refine wp_region_noPanic ?_
      refine wp_region_held_drew (S := SS) (by kernel_rfl) (SO _ md) (fun hHeld => ?_)
      refine wpAnyH_take (i := 3) (oi := { dst := some 109, op := Op.move (Operand.tmp 7), type := 9, pos := "outright.go:23", after := #[], guard := none }) (v := ?_) rfl (by kernel_rfl) (by kernel_rfl) (by kernel_rfl) (fun _ _ _ h => h) (Or.inl ⟨by rfl, ?_⟩) (by assumption) ?_
      rotate_left
      · intro w hSw
        skip
        clear hSw
        go_simp
        try with_reducible rfl
      try simp only [Act.put, List.setIfInBounds_toArray, List.set_cons_zero, List.set_cons_succ]
      refine wpAnyH_take (i := 4) (oi := { dst := some 110, op := Op.move (Operand.tmp 8), type := 9, pos := "outright.go:23", after := #[], guard := none }) (v := ?_) rfl (by kernel_rfl) (by kernel_rfl) (by kernel_rfl) (fun _ _ _ h => h) (Or.inl ⟨by rfl, ?_⟩) (by assumption) ?_
      rotate_left
      · intro w hSw
        skip
        clear hSw
        go_simp
        try with_reducible rfl
      try simp only [Act.put, List.setIfInBounds_toArray, List.set_cons_zero, List.set_cons_succ]
      refine wpAnyH_take (i := 5) (oi := { dst := some 111, op := Op.binOp BinOp.lss 9 (Operand.tmp 109) (Operand.tmp 110) 9, type := 4, pos := "outright.go:23", after := #[{ on := 3, ground := Ground.data }, { on := 4, ground := Ground.data }], guard := none }) (v := ?_) rfl (by kernel_rfl) (by kernel_rfl) (by kernel_rfl) (fun _ _ _ h => h) (Or.inl ⟨by rfl, ?_⟩) (by assumption) ?_
      rotate_left
      · intro w hSw
        skip
        clear hSw
        go_simp
        try with_reducible rfl
      try simp only [Act.put, List.setIfInBounds_toArray, List.set_cons_zero, List.set_cons_succ]
      refine wpAnyH_take (i := 0) (oi := { dst := some 106, op := Op.load 23 (Operand.tmp 3), type := 23, pos := "outright.go:23", after := #[], guard := none }) (v := _) rfl (by kernel_rfl) (by kernel_rfl) (by kernel_rfl) (fun _ _ _ h => h) (yieldsIf_load_mid (by rfl) _ _ rfl _ _ rfl _ _ (by intro w hSw; have hSw := OS _ hSw; go_split_ands; assumption) (by assumption) rfl (by assumption)) (by assumption) ?_
      try simp only [Act.put, List.setIfInBounds_toArray, List.set_cons_zero, List.set_cons_succ]
      refine wpAnyH_take (i := 1) (oi := { dst := some 107, op := Op.load 23 (Operand.tmp 4), type := 23, pos := "outright.go:23", after := #[], guard := none }) (v := _) rfl (by kernel_rfl) (by kernel_rfl) (by kernel_rfl) (fun _ _ _ h => h) (yieldsIf_load_mid (by rfl) _ _ rfl _ _ rfl _ _ (by intro w hSw; have hSw := OS _ hSw; go_split_ands; assumption) (by assumption) rfl (by assumption)) (by assumption) ?_
      try simp only [Act.put, List.setIfInBounds_toArray, List.set_cons_zero, List.set_cons_succ]
      refine wpAnyH_ready (rs := [2]) (by kernel_rfl) (by simp) ?_
      refine AllReadyH.cons (o := { dst := some 108, op := Op.call { callee := Callee.value (Operand.func 13), args := #[Operand.tmp 106, Operand.tmp 107], argTypes := #[23, 23] }, type := 4, pos := "outright.go:23", after := #[{ on := 0, ground := Ground.data }, { on := 1, ground := Ground.data }], guard := none }) rfl (fun K hK => ?_) AllReadyH.nil
      go_simp
      refine (CLab _ (by assumption)).mono ?_
      rintro e w2' ⟨rfl, m2'⟩
      refine hK.out _ _ (SO _ (by assumption)) (fun hHeld => ?_)
      clear hK K
      try simp only [Act.put, List.setIfInBounds_toArray, List.set_cons_zero, List.set_cons_succ]
      refine wpAnyH_take (i := 6) (oi := { dst := some 112, op := Op.binOp BinOp.eql 4 (Operand.tmp 108) (Operand.tmp 111) 4, type := 4, pos := "outright.go:23", after := #[{ on := 2, ground := Ground.data }, { on := 5, ground := Ground.data }], guard := none }) (v := ?_) rfl (by kernel_rfl) (by kernel_rfl) (by kernel_rfl) (fun _ _ _ h => h) (Or.inl ⟨by rfl, ?_⟩) (by assumption) ?_
      rotate_left
      · intro w hSw
        skip
        clear hSw
        go_simp
        try with_reducible rfl
      try simp only [Act.put, List.setIfInBounds_toArray, List.set_cons_zero, List.set_cons_succ]
      refine wpAnyH_take (i := 7) (oi := { dst := some 113, op := Op.move (Operand.tmp 112), type := 4, pos := "outright.go:23", after := #[{ on := 6, ground := Ground.data }, { on := 2, ground := Ground.chain }], guard := none }) (v := ?_) rfl (by kernel_rfl) (by kernel_rfl) (by kernel_rfl) (fun _ _ _ h => h) (Or.inl ⟨by rfl, ?_⟩) (by assumption) ?_
      rotate_left
      · intro w hSw
        skip
        clear hSw
        go_simp
        try with_reducible rfl
      try simp only [Act.put, List.setIfInBounds_toArray, List.set_cons_zero, List.set_cons_succ]
      refine wpAnyH_take (i := 8) (oi := { dst := some 114, op := Op.load 23 (Operand.tmp 3), type := 23, pos := "outright.go:23", after := #[{ on := 7, ground := Ground.guard }], guard := some (7, true) }) (v := _) rfl (by kernel_rfl) (by kernel_rfl) (by kernel_rfl) (fun _ _ _ h => h) (yieldsIf_load_mid (by rfl) _ _ rfl _ _ rfl _ _ (by intro w hSw; have hSw := OS _ hSw; go_split_ands; assumption) (by assumption) rfl (by assumption)) (by assumption) ?_
      try simp only [Act.put, List.setIfInBounds_toArray, List.set_cons_zero, List.set_cons_succ]
      refine wpAnyH_take (i := 9) (oi := { dst := some 115, op := Op.load 23 (Operand.tmp 4), type := 23, pos := "outright.go:23", after := #[{ on := 7, ground := Ground.guard }], guard := some (7, true) }) (v := _) rfl (by kernel_rfl) (by kernel_rfl) (by kernel_rfl) (fun _ _ _ h => h) (yieldsIf_load_mid (by rfl) _ _ rfl _ _ rfl _ _ (by intro w hSw; have hSw := OS _ hSw; go_split_ands; assumption) (by assumption) rfl (by assumption)) (by assumption) ?_
      try simp only [Act.put, List.setIfInBounds_toArray, List.set_cons_zero, List.set_cons_succ]
      refine wpAnyH_take (i := 10) (oi := { dst := some 116, op := Op.binOp BinOp.eql 23 (Operand.tmp 114) (Operand.tmp 115) 23, type := 4, pos := "outright.go:23", after := #[{ on := 8, ground := Ground.data }, { on := 9, ground := Ground.data }, { on := 7, ground := Ground.guard }], guard := some (7, true) }) (v := ?_) rfl (by kernel_rfl) (by kernel_rfl) (by kernel_rfl) (fun _ _ _ h => h) (Or.inl ⟨by rfl, ?_⟩) (by assumption) ?_
      rotate_left
      · intro w hSw
        skip
        clear hSw
        go_simp
        try with_reducible rfl
      try simp only [Act.put, List.setIfInBounds_toArray, List.set_cons_zero, List.set_cons_succ]
      refine wpAnyH_take (i := 11) (oi := { dst := some 117, op := Op.load 23 (Operand.tmp 3), type := 23, pos := "outright.go:23", after := #[{ on := 7, ground := Ground.guard }], guard := some (7, true) }) (v := _) rfl (by kernel_rfl) (by kernel_rfl) (by kernel_rfl) (fun _ _ _ h => h) (yieldsIf_load_mid (by rfl) _ _ rfl _ _ rfl _ _ (by intro w hSw; have hSw := OS _ hSw; go_split_ands; assumption) (by assumption) rfl (by assumption)) (by assumption) ?_
      try simp only [Act.put, List.setIfInBounds_toArray, List.set_cons_zero, List.set_cons_succ]
      refine wpAnyH_take (i := 12) (oi := { dst := some 118, op := Op.load 23 (Operand.tmp 4), type := 23, pos := "outright.go:23", after := #[{ on := 7, ground := Ground.guard }], guard := some (7, true) }) (v := _) rfl (by kernel_rfl) (by kernel_rfl) (by kernel_rfl) (fun _ _ _ h => h) (yieldsIf_load_mid (by rfl) _ _ rfl _ _ rfl _ _ (by intro w hSw; have hSw := OS _ hSw; go_split_ands; assumption) (by assumption) rfl (by assumption)) (by assumption) ?_
      try simp only [Act.put, List.setIfInBounds_toArray, List.set_cons_zero, List.set_cons_succ]
      refine wpAnyH_ready (rs := [13]) (by kernel_rfl) (by simp) ?_
      refine AllReadyH.cons (o := { dst := some 119, op := Op.call { callee := Callee.value (Operand.func 13), args := #[Operand.tmp 117, Operand.tmp 118], argTypes := #[23, 23] }, type := 4, pos := "outright.go:23", after := #[{ on := 11, ground := Ground.data }, { on := 12, ground := Ground.data }, { on := 7, ground := Ground.chain }, { on := 7, ground := Ground.guard }], guard := some (7, true) }) rfl (fun K hK => ?_) AllReadyH.nil
      go_simp
      refine (CLab _ (by assumption)).mono ?_
      rintro e w13' ⟨rfl, m13'⟩
      refine hK.out _ _ (SO _ (by assumption)) (fun hHeld => ?_)
      clear hK K
      try simp only [Act.put, List.setIfInBounds_toArray, List.set_cons_zero, List.set_cons_succ]
      refine wpAnyH_take (i := 14) (oi := { dst := some 120, op := Op.unOp UnOp.not 4 (Operand.tmp 119), type := 4, pos := "outright.go:23", after := #[{ on := 13, ground := Ground.data }, { on := 7, ground := Ground.guard }], guard := some (7, true) }) (v := ?_) rfl (by kernel_rfl) (by kernel_rfl) (by kernel_rfl) (fun _ _ _ h => h) (Or.inl ⟨by rfl, ?_⟩) (by assumption) ?_
      rotate_left
      · intro w hSw
        skip
        clear hSw
        go_simp
        try with_reducible rfl
      try simp only [Act.put, List.setIfInBounds_toArray, List.set_cons_zero, List.set_cons_succ]
      refine wpAnyH_take (i := 15) (oi := { dst := some 121, op := Op.move (Operand.tmp 120), type := 4, pos := "outright.go:23", after := #[{ on := 14, ground := Ground.data }, { on := 13, ground := Ground.chain }, { on := 7, ground := Ground.guard }], guard := some (7, true) }) (v := ?_) rfl (by kernel_rfl) (by kernel_rfl) (by kernel_rfl) (fun _ _ _ h => h) (Or.inl ⟨by rfl, ?_⟩) (by assumption) ?_
      rotate_left
      · intro w hSw
        skip
        clear hSw
        go_simp
        try with_reducible rfl
      try simp only [Act.put, List.setIfInBounds_toArray, List.set_cons_zero, List.set_cons_succ]
      refine wpAnyH_take (i := 16) (oi := { dst := some 122, op := Op.load 23 (Operand.tmp 4), type := 23, pos := "outright.go:23", after := #[{ on := 15, ground := Ground.guard }], guard := some (15, true) }) (v := undef) rfl (by kernel_rfl) (by kernel_rfl) (by kernel_rfl) (fun _ _ _ h => h) (Or.inr ⟨by rfl, rfl⟩) (by assumption) ?_
      try simp only [Act.put, List.setIfInBounds_toArray, List.set_cons_zero, List.set_cons_succ]
      refine wpAnyH_take (i := 17) (oi := { dst := some 123, op := Op.load 23 (Operand.tmp 3), type := 23, pos := "outright.go:23", after := #[{ on := 15, ground := Ground.guard }], guard := some (15, true) }) (v := undef) rfl (by kernel_rfl) (by kernel_rfl) (by kernel_rfl) (fun _ _ _ h => h) (Or.inr ⟨by rfl, rfl⟩) (by assumption) ?_
      try simp only [Act.put, List.setIfInBounds_toArray, List.set_cons_zero, List.set_cons_succ]
      refine wpAnyH_take (i := 18) (oi := { dst := some 124, op := Op.call { callee := Callee.value (Operand.func 13), args := #[Operand.tmp 122, Operand.tmp 123], argTypes := #[23, 23] }, type := 4, pos := "outright.go:23", after := #[{ on := 16, ground := Ground.data }, { on := 17, ground := Ground.data }, { on := 15, ground := Ground.chain }, { on := 15, ground := Ground.guard }], guard := some (15, true) }) (v := undef) rfl (by kernel_rfl) (by kernel_rfl) (by kernel_rfl) (fun _ _ _ h => h) (Or.inr ⟨by rfl, rfl⟩) (by assumption) ?_
      try simp only [Act.put, List.setIfInBounds_toArray, List.set_cons_zero, List.set_cons_succ]
      refine wpAnyH_take (i := 19) (oi := { dst := some 125, op := Op.unOp UnOp.not 4 (Operand.tmp 124), type := 4, pos := "outright.go:23", after := #[{ on := 18, ground := Ground.data }, { on := 15, ground := Ground.guard }], guard := some (15, true) }) (v := undef) rfl (by kernel_rfl) (by kernel_rfl) (by kernel_rfl) (fun _ _ _ h => h) (Or.inr ⟨by rfl, rfl⟩) (by assumption) ?_
      try simp only [Act.put, List.setIfInBounds_toArray, List.set_cons_zero, List.set_cons_succ]
      refine wpAnyH_take (i := 20) (oi := { dst := some 126, op := Op.pick (Operand.tmp 121) (Operand.tmp 125) (Operand.const (Value.bool false)), type := 4, pos := "outright.go:23", after := #[{ on := 15, ground := Ground.data }, { on := 19, ground := Ground.data }, { on := 7, ground := Ground.guard }], guard := some (7, true) }) (v := ?_) rfl (by kernel_rfl) (by kernel_rfl) (by kernel_rfl) (fun _ _ _ h => h) (Or.inl ⟨by rfl, ?_⟩) (by assumption) ?_
      rotate_left
      · intro w hSw
        skip
        clear hSw
        go_simp
        try with_reducible rfl
      try simp only [Act.put, List.setIfInBounds_toArray, List.set_cons_zero, List.set_cons_succ]
      refine wpAnyH_take (i := 21) (oi := { dst := some 127, op := Op.binOp BinOp.eql 4 (Operand.tmp 116) (Operand.tmp 126) 4, type := 4, pos := "outright.go:23", after := #[{ on := 10, ground := Ground.data }, { on := 20, ground := Ground.data }, { on := 7, ground := Ground.guard }], guard := some (7, true) }) (v := ?_) rfl (by kernel_rfl) (by kernel_rfl) (by kernel_rfl) (fun _ _ _ h => h) (Or.inl ⟨by rfl, ?_⟩) (by assumption) ?_
      rotate_left
      · intro w hSw
        skip
        clear hSw
        go_simp
        try with_reducible rfl
      try simp only [Act.put, List.setIfInBounds_toArray, List.set_cons_zero, List.set_cons_succ]
      refine wpAnyH_take (i := 22) (oi := { dst := some 128, op := Op.pick (Operand.tmp 113) (Operand.tmp 127) (Operand.const (Value.bool false)), type := 4, pos := "outright.go:23", after := #[{ on := 7, ground := Ground.data }, { on := 21, ground := Ground.data }], guard := none }) (v := ?_) rfl (by kernel_rfl) (by kernel_rfl) (by kernel_rfl) (fun _ _ _ h => h) (Or.inl ⟨by rfl, ?_⟩) (by assumption) ?_
      rotate_left
      · intro w hSw
        skip
        clear hSw
        go_simp
        try with_reducible rfl
      try simp only [Act.put, List.setIfInBounds_toArray, List.set_cons_zero, List.set_cons_succ]
      refine wpAnyH_take (i := 23) (oi := { dst := some 129, op := Op.move (Operand.tmp 128), type := 4, pos := "outright.go:23", after := #[{ on := 22, ground := Ground.data }, { on := 18, ground := Ground.chain }], guard := none }) (v := ?_) rfl (by kernel_rfl) (by kernel_rfl) (by kernel_rfl) (fun _ _ _ h => h) (Or.inl ⟨by rfl, ?_⟩) (by assumption) ?_
      rotate_left
      · intro w hSw
        skip
        clear hSw
        go_simp
        try with_reducible rfl
      try simp only [Act.put, List.setIfInBounds_toArray, List.set_cons_zero, List.set_cons_succ]
      refine wpAnyH_take (i := 24) (oi := { dst := some 130, op := Op.move (Operand.tmp 7), type := 9, pos := "outright.go:23", after := #[{ on := 23, ground := Ground.guard }], guard := some (23, true) }) (v := ?_) rfl (by kernel_rfl) (by kernel_rfl) (by kernel_rfl) (fun _ _ _ h => h) (Or.inl ⟨by rfl, ?_⟩) (by assumption) ?_
      rotate_left
      · intro w hSw
        skip
        clear hSw
        go_simp
        try with_reducible rfl
      try simp only [Act.put, List.setIfInBounds_toArray, List.set_cons_zero, List.set_cons_succ]
      refine wpAnyH_take (i := 25) (oi := { dst := some 131, op := Op.slice 9 (Operand.tmp 130) (some (Operand.const (Value.int IntKind.i64 7))) (some (Operand.const (Value.int IntKind.i64 19))) none, type := 9, pos := "outright.go:23", after := #[{ on := 24, ground := Ground.data }, { on := 23, ground := Ground.guard }], guard := some (23, true) }) (v := ?_) rfl (by kernel_rfl) (by kernel_rfl) (by kernel_rfl) (fun _ _ _ h => h) (Or.inl ⟨by rfl, ?_⟩) (by assumption) ?_
      rotate_left
      · intro w hSw
        skip
        clear hSw
        go_simp
        try with_reducible rfl
      try simp only [Act.put, List.setIfInBounds_toArray, List.set_cons_zero, List.set_cons_succ]
      refine wpAnyH_take (i := 26) (oi := { dst := some 132, op := Op.load 23 (Operand.tmp 3), type := 23, pos := "outright.go:23", after := #[{ on := 23, ground := Ground.guard }], guard := some (23, true) }) (v := _) rfl (by kernel_rfl) (by kernel_rfl) (by kernel_rfl) (fun _ _ _ h => h) (yieldsIf_load_mid (by rfl) _ _ rfl _ _ rfl _ _ (by intro w hSw; have hSw := OS _ hSw; go_split_ands; assumption) (by assumption) rfl (by assumption)) (by assumption) ?_
      try simp only [Act.put, List.setIfInBounds_toArray, List.set_cons_zero, List.set_cons_succ]
      refine wpAnyH_ready (rs := [27]) (by kernel_rfl) (by simp) ?_
      refine AllReadyH.cons (o := { dst := some 133, op := Op.call { callee := Callee.value (Operand.func 11), args := #[Operand.tmp 132], argTypes := #[23] }, type := 9, pos := "outright.go:23", after := #[{ on := 26, ground := Ground.data }, { on := 23, ground := Ground.chain }, { on := 23, ground := Ground.guard }], guard := some (23, true) }) rfl (fun K hK => ?_) AllReadyH.nil
      go_simp
      refine (CSa _ (by assumption)).mono ?_
      rintro e w27' ⟨rfl, m27'⟩
      refine hK.out _ _ (SO _ (by assumption)) (fun hHeld => ?_)
      clear hK K
      try simp only [Act.put, List.setIfInBounds_toArray, List.set_cons_zero, List.set_cons_succ]
      refine wpAnyH_take (i := 28) (oi := { dst := some 134, op := Op.binOp BinOp.eql 9 (Operand.tmp 131) (Operand.tmp 133) 9, type := 4, pos := "outright.go:23", after := #[{ on := 25, ground := Ground.data }, { on := 27, ground := Ground.data }, { on := 23, ground := Ground.guard }], guard := some (23, true) }) (v := ?_) rfl (by kernel_rfl) (by kernel_rfl) (by kernel_rfl) (fun _ _ _ h => h) (Or.inl ⟨by rfl, ?_⟩) (by assumption) ?_
      rotate_left
      · intro w hSw
        skip
        clear hSw
        go_simp
        try with_reducible rfl
      try simp only [Act.put, List.setIfInBounds_toArray, List.set_cons_zero, List.set_cons_succ]
      refine wpAnyH_take (i := 29) (oi := { dst := some 135, op := Op.pick (Operand.tmp 129) (Operand.tmp 134) (Operand.const (Value.bool false)), type := 4, pos := "outright.go:23", after := #[{ on := 23, ground := Ground.data }, { on := 28, ground := Ground.data }], guard := none }) (v := ?_) rfl (by kernel_rfl) (by kernel_rfl) (by kernel_rfl) (fun _ _ _ h => h) (Or.inl ⟨by rfl, ?_⟩) (by assumption) ?_
      rotate_left
      · intro w hSw
        skip
        clear hSw
        go_simp
        try with_reducible rfl
      try simp only [Act.put, List.setIfInBounds_toArray, List.set_cons_zero, List.set_cons_succ]
      refine wpAnyH_take (i := 30) (oi := { dst := some 136, op := Op.move (Operand.tmp 135), type := 4, pos := "outright.go:23", after := #[{ on := 29, ground := Ground.data }, { on := 27, ground := Ground.chain }], guard := none }) (v := ?_) rfl (by kernel_rfl) (by kernel_rfl) (by kernel_rfl) (fun _ _ _ h => h) (Or.inl ⟨by rfl, ?_⟩) (by assumption) ?_
      rotate_left
      · intro w hSw
        skip
        clear hSw
        go_simp
        try with_reducible rfl
      try simp only [Act.put, List.setIfInBounds_toArray, List.set_cons_zero, List.set_cons_succ]
      refine wpAnyH_ready (rs := [31]) (by kernel_rfl) (by simp) ?_
      refine AllReadyH.cons (o := { dst := some 137, op := Op.call { callee := Callee.value (Operand.func 6), args := #[], argTypes := #[] }, type := 4, pos := "outright.go:23", after := #[{ on := 30, ground := Ground.chain }, { on := 30, ground := Ground.guard }], guard := some (30, true) }) rfl (fun K hK => ?_) AllReadyH.nil
      go_simp
      refine (CN _ (by assumption)).mono ?_
      rintro e w31' ⟨rfl, m31'⟩
      refine hK.out _ _ (SO _ (by assumption)) (fun hHeld => ?_)
      clear hK K
      try simp only [Act.put, List.setIfInBounds_toArray, List.set_cons_zero, List.set_cons_succ]
      refine wpAnyH_take (i := 32) (oi := { dst := some 138, op := Op.pick (Operand.tmp 136) (Operand.tmp 137) (Operand.const (Value.bool false)), type := 4, pos := "outright.go:23", after := #[{ on := 30, ground := Ground.data }, { on := 31, ground := Ground.data }], guard := none }) (v := ?_) rfl (by kernel_rfl) (by kernel_rfl) (by kernel_rfl) (fun _ _ _ h => h) (Or.inl ⟨by rfl, ?_⟩) (by assumption) ?_
      rotate_left
      · intro w hSw
        skip
        clear hSw
        go_simp
        try with_reducible rfl
      try simp only [Act.put, List.setIfInBounds_toArray, List.set_cons_zero, List.set_cons_succ]
      refine wpAnyH_take (i := 33) (oi := { dst := some 6, op := Op.assign (Operand.tmp 138), type := 4, pos := "outright.go:23", after := #[{ on := 32, ground := Ground.data }, { on := 31, ground := Ground.chain }, { on := 0, ground := Ground.phase }, { on := 1, ground := Ground.phase }, { on := 2, ground := Ground.phase }, { on := 3, ground := Ground.phase }, { on := 4, ground := Ground.phase }, { on := 5, ground := Ground.phase }, { on := 6, ground := Ground.phase }, { on := 7, ground := Ground.phase }, { on := 8, ground := Ground.phase }, { on := 9, ground := Ground.phase }, { on := 10, ground := Ground.phase }, { on := 11, ground := Ground.phase }, { on := 12, ground := Ground.phase }, { on := 13, ground := Ground.phase }, { on := 14, ground := Ground.phase }, { on := 15, ground := Ground.phase }, { on := 16, ground := Ground.phase }, { on := 17, ground := Ground.phase }, { on := 18, ground := Ground.phase }, { on := 19, ground := Ground.phase }, { on := 20, ground := Ground.phase }, { on := 21, ground := Ground.phase }, { on := 22, ground := Ground.phase }, { on := 23, ground := Ground.phase }, { on := 24, ground := Ground.phase }, { on := 25, ground := Ground.phase }, { on := 26, ground := Ground.phase }, { on := 27, ground := Ground.phase }, { on := 28, ground := Ground.phase }, { on := 29, ground := Ground.phase }, { on := 30, ground := Ground.phase }, { on := 31, ground := Ground.phase }, { on := 32, ground := Ground.phase }], guard := none }) (v := ?_) rfl (by kernel_rfl) (by kernel_rfl) (by kernel_rfl) (fun _ _ _ h => h) (Or.inl ⟨by rfl, ?_⟩) (by assumption) ?_
      rotate_left
      · intro w hSw
        skip
        clear hSw
        go_simp
        try with_reducible rfl
      try simp only [Act.put, List.setIfInBounds_toArray, List.set_cons_zero, List.set_cons_succ]
      refine wpAnyH_done (by kernel_rfl) ?_ _
      refine NoPanic.normal ?_
      go_wp2
      go_ret
      exact ⟨rfl, (by assumption : ThreeM w _ a b z).nx⟩
end Go.Proofs.Ytndpdbfkpbflgaa
