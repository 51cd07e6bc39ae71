/- Layer 15: the program's putHead. -/
import Derived.Test.YtmgpofdmoaafoaaGreatDoorTrL
import Derived.Laws.BytesArg
namespace Go.Proofs.YtmgpofdmoaafoaaGreatDoor
open Go.RowKit
attribute [local go_sem] wide_fn round_fn

theorem run_copy_str {P : Program} (w : World) (dT sT ty elem : TypeId) (g o dLen dCap : Nat) (S : ByteArray) (cur : Array Value) (t : TypeId) (cs : List UInt8)
    (hu : P.underlying dT = some (.slice elem)) (hs : (P.info? elem).map (·.size) = some 1) (hg : rowC w g cur t) (hcs : cs = S.data.toList.take (Nat.min S.size dLen)) (hfit : o + cs.length ≤ cur.size) :
    (Builtin.copy_ #[dT, sT] ty #[.slice (some ⟨g, o, none⟩) dLen dCap, .string S]).run P w =
      .ok (goInt cs.length) (w.setRow g (cur.toList.take o ++ cs.map byteV ++ cur.toList.drop (o + (cs.map byteV).length)).toArray) := by
  have hst := run_storeCells_at P g o t (cs.map byteV) 0 cur w hg (by simpa using hfit) (fun v hv => by
    obtain ⟨x, _, rfl⟩ := List.mem_map.1 hv
    rfl)
  have hl : cs.length = Nat.min S.size dLen := by
    rw [hcs, List.length_take]
    have : S.data.toList.length = S.size := by simp
    rw [this]
    exact Nat.min_eq_left (Nat.min_le_left _ _)
  have hcs2 : cs = S.data.toList.take cs.length := by rw [hl]; exact hcs
  have hfc : (Builtin.firstCells 1 cs.length (.string S)).run P w = .ok (cs.map byteV).toArray w := by
    have e : ((S.extract 0 (cs.length * 1)).data).toList = cs := by
      rw [Nat.mul_one, ByteArray.data_extract, Array.toList_extract, List.extract_eq_take_drop, List.drop_zero, Nat.sub_zero]
      exact hcs2.symm
    have e2 : (S.extract 0 cs.length).data = cs.toArray := by
      rw [Nat.mul_one] at e
      have e3 := congrArg List.toArray e
      rwa [Array.toArray_toList] at e3
    simp only [Builtin.firstCells, Sem.run_pure]
    rw [e2, List.map_toArray]
    rfl
  cases hq : P.info? elem with
  | none => simp [hq] at hs
  | some i =>
    have hi : i.size = 1 := by simpa [hq] using hs
    rw [Nat.add_zero] at hst
    simp [Builtin.copy_, run_underlying hu, Builtin.lenOf, sizeOf, typeInfo, hq, hi, ← hl, hfc, hst]
theorem wpList_copy_str {P : Program} {w : World} {ops : Array Oper} {rest : List Oper} {o : Oper} {a : Act} {Q : Exit → Act → World → Prop} (hgd : o.guard = none) (d s : Operand) (dT sT : TypeId)
    (ho : o.op = .call { callee := .builtin .copy, args := #[d, s], argTypes := #[dT, sT] }) (elem : TypeId) (hu : P.underlying dT = some (.slice elem)) (hsz : (P.info? elem).map (·.size) = some 1)
    (g off dLen dCap : Nat) (S : ByteArray) (hd : a.eval d = .slice (some ⟨g, off, none⟩) dLen dCap) (hs : a.eval s = .string S) (cur R : Array Value) (t : TypeId) (hg : rowC w g cur t) (cs : List UInt8)
    (hcs : cs = S.data.toList.take (Nat.min S.size dLen)) (hfit : off + cs.length ≤ cur.size) (hR : (cur.toList.take off ++ cs.map byteV ++ cur.toList.drop (off + (cs.map byteV).length)).toArray = R)
    (h : wpList P ops Q rest (a.put o.dst (goInt cs.length)) (w.setRow g R)) : wpList P ops Q (o :: rest) a w := by
  refine wpList_plain hgd fun K hK => ?_
  have hrun := run_copy_str (P := P) w dT sT o.type elem g off dLen dCap S cur t cs hu hsz hg hcs hfit
  rw [hR] at hrun
  unfold Oper.wp
  simp [execOp, ho, resolve, invoke, builtin, hd, hs, hrun, Result.andThen]
  exact hK _ _ h

/-- A block's bytes as a text. -/
theorem conv_row {w : World} {g : Nat} {l : Bs} {t : TypeId} (h : rowC w g (cells8 l) t) (cap : Nat) : (convert 30 9 (.slice (some ⟨g, 0, none⟩) l.length cap)).run Tryz.prog w = .ok (.string (str l)) w := by
  rw [run_convert_bytes_arg w 30 5 Tryz.underlying30 Tryz.underlying5 g 0 l.length cap (l.map fun b => (b.toNat : Int)) (by simp) (fun i hi => ?_) 9 Tryz.underlying9, str_nums]
  rw [Nat.zero_add, rowC_cell h, cells8_get l i hi]
  simp [List.getD, List.getElem?_eq_getElem hi, byteV]
theorem wpQuietIn_convG {F : Fence} {n : Nat} {P : Program} {ops : Array Oper} {C : World → Prop} {Q : Act → Prop} {o : Oper} {rest : List Oper} {a : Act} (hF : ∀ f, F.fn f) (hw : Region.wanted o (yielded ops a.tmps) = true) (t u : TypeId) (x : Operand) (ho : o.op = .convert t u x)
    (v : Value) (hc : ∀ w, C w → (convert t u (a.eval x)).run P w = .ok v w)
    (h : wpQuietIn F n P ops C Q rest (a.put o.dst v)) : wpQuietIn F n P ops C Q (o :: rest) a :=
  wpQuietIn_step (fun _ _ f _ => hF f) (fun K hK => by
    rw [if_pos hw]
    exact ⟨v, fun w hC => by
    unfold Oper.quietAtIn execOp
    simp only [ho, Sem.run_bind, hc w hC, Result.andThen_ok, Sem.run_pure]
    exact ⟨rfl, rfl⟩, hK _ h⟩)
theorem copyL (A C s : Bs) (n : Nat) : (((cells8 (A ++ zerosL n ++ C)).toList.take A.length ++ (s.take n).map byteV ++ (cells8 (A ++ zerosL n ++ C)).toList.drop (A.length + ((s.take n).map byteV).length)).toArray) = cells8 (A ++ padT s n ++ C) := by
  unfold cells8 padT
  congr 1
  simp only [List.map_append, List.append_assoc]
  rw [List.take_left' (by simp)]
  have hk : ((s.take n).map byteV).length = min n s.length := by rw [List.length_map, List.length_take]
  rw [← List.drop_drop, List.drop_left' (by simp), hk, List.drop_append_of_le_length (by rw [List.length_map, zerosL_len]; omega)]
  congr 3
  unfold zerosL
  rw [List.map_replicate, List.drop_replicate, List.map_replicate]
  congr 1
  omega
theorem info_hdr : (Tryz.prog.info? 5).map (·.size) = some 1 := by kernel_rfl
/-- What putHead holds: the block, the head's box. -/
structure PhAt (w : World) (h : Hd) (L : Bs) (W : World) : Prop where
  r : rowC W (w.heap.size + 1) (cells8 L) 123
  z : rowC W w.heap.size #[.string (str h.name), .string (str h.link), .int .i64 (h.mode : Int), .int .i64 (h.size : Int), .int .u8 (h.kind.toNat : Int)] 56
  b : Below w.heap.size w W
theorem PhAt.drew {w : World} {h : Hd} {L : Bs} {W : World} (p : PhAt w h L W) : PhAt w h L W.drew := ⟨rowC_drew p.r, rowC_drew p.z, p.b.drew⟩
theorem PhAt.copied {w : World} {h : Hd} {L : Bs} {W : World} (p : PhAt w h L W) (L' : Bs) : PhAt w h L' (W.setRow (w.heap.size + 1) (cells8 L')) :=
  ⟨rowC_setRow p.r _, rowC_setRow_other p.z _ _ (by omega), below_setRow p.b (by omega) _⟩
theorem PhAt.number {w : World} {h : Hd} {L L' : Bs} {W W' : World} (p : PhAt w h L W) (hr : rowC W' (w.heap.size + 1) (cells8 L') 123) (hc : Chg (isB (w.heap.size + 1)) W W') : PhAt w h L' W' :=
  ⟨hr, hc.rowC p.z (fun e => by have : w.heap.size = w.heap.size + 1 := e; omega), p.b.trans (hc.below p.b.size (fun k hk e => by have : k = w.heap.size + 1 := e; omega))⟩
theorem PhAt.byte {w : World} {h : Hd} {L : Bs} {W : World} (p : PhAt w h L W) (i : Nat) (x : UInt8) : PhAt w h (L.set i x) (W.setCell ⟨w.heap.size + 1, i, none⟩ (byteV x)) := by
  refine ⟨?_, rowC_other p.z _ _ (by show w.heap.size ≠ w.heap.size + 1; omega), p.b.setCell (p := ⟨w.heap.size + 1, i, none⟩) (by show w.heap.size ≤ w.heap.size + 1; omega) _⟩
  have := rowC_set p.r i (byteV x)
  rwa [cells8_set] at this
theorem putNum_at (w : World) (h : Hd) (W : World) (A F C : Bs) (o m cap : Nat) (hA : A.length = o) (hF : F.length = m) (h1 : 1 ≤ m) (hl : A.length + F.length + C.length ≤ 1000000) (hcap : m ≤ cap) (n : Nat) (hn : n ≤ 1099511627776) (p : PhAt w h (A ++ F ++ C) W) :
    Calls Tryz.prog 86 #[.slice (some ⟨w.heap.size + 1, o, none⟩) m cap, .int .i64 (n : Int)] W fun e W' => e = .returned (.tuple #[]) ∧ PhAt w h (A ++ (octD n (m - 1) ++ [0]) ++ C) W' := by
  subst hA
  subst hF
  exact (putNum_any (w.heap.size + 1) _ A F C h1 (by simp only [List.length_append]; omega) cap hcap n hn W p.r).mono fun e W' ⟨he, hr, hc⟩ => ⟨he, p.number hr hc⟩
theorem copy_cs (s : Bs) (n : Nat) : s.take n = (str s).data.toList.take (Nat.min (str s).size n) := by
  rw [str_toList, str_size]
  change s.take n = s.take (min s.length n)
  rcases Nat.le_total s.length n with hle | hle
  · rw [Nat.min_eq_left hle, List.take_of_length_le hle, List.take_length]
  · rw [Nat.min_eq_right hle]
theorem wpList_copyP {w W : World} {h : Hd} {ops : Array Oper} {rest : List Oper} {o : Oper} {a : Act} {Q : Exit → Act → World → Prop} (hgd : o.guard = none) (d s : Operand)
    (ho : o.op = .call { callee := .builtin .copy, args := #[d, s], argTypes := #[30, 9] }) (A C S : Bs) (n off cap : Nat) (hA : A.length = off) (hd : a.eval d = .slice (some ⟨w.heap.size + 1, off, none⟩) n cap) (hs : a.eval s = .string (str S))
    (p : PhAt w h (A ++ zerosL n ++ C) W) (hk : ∀ W', PhAt w h (A ++ padT S n ++ C) W' → wpList Tryz.prog ops Q rest (a.put o.dst (goInt (S.take n).length)) W') : wpList Tryz.prog ops Q (o :: rest) a W := by
  subst hA
  refine wpList_copy_str hgd d s 30 9 ho 5 Tryz.underlying30 info_hdr (w.heap.size + 1) A.length n cap (str S) hd hs (cells8 (A ++ zerosL n ++ C)) (cells8 (A ++ padT S n ++ C)) _ p.r (S.take n) (copy_cs S n) ?_ (copyL A C S n) (hk _ (p.copied _))
  rw [cells8_size]
  simp only [List.length_append, zerosL_len, List.length_take]
  omega
/-- The block's stages. -/
theorem z8 : octD 0 7 ++ [0] = zerosL 0 ++ (octD 0 7 ++ [0]) := rfl
theorem zero512 : cells8 (zerosL 512) = Array.replicate 512 (.int .u8 0) := by
  unfold cells8 zerosL
  rw [List.map_replicate, List.toArray_replicate]
  rfl
theorem zc512 : Tryz.zeroCells123 = Array.replicate 512 (.int .u8 0) := by kernel_rfl
set_option maxRecDepth 100000 in
set_option maxHeartbeats 8000000 in
theorem putHead_any (h : Hd) (hm : h.mode ≤ 1099511627775) (hs : h.size ≤ 1099511627775) (w : World) :
    Calls Tryz.prog 68 #[.agg #[.string (str h.name), .string (str h.link), .int .i64 (h.mode : Int), .int .i64 (h.size : Int), .int .u8 (h.kind.toNat : Int)]] w fun e w' =>
      e = .returned (.string (str (headW h.name h.link h.mode h.size h.kind))) ∧ Below w.heap.size w w' := by
  obtain ⟨W0, hW0⟩ : ∃ W0, W0 = (w.alloc (.cells #[.string (str h.name), .string (str h.link), .int .i64 (h.mode : Int), .int .i64 (h.size : Int), .int .u8 (h.kind.toNat : Int)] 56)).alloc (.cells Tryz.zeroCells123 123) := ⟨_, rfl⟩
  have P0 : PhAt w h (zerosL 512) W0 := by
    rw [hW0]
    refine ⟨?_, rowC_alloc (rowC_new w _ _) _, ((Below.refl _ _).alloc (Nat.le_refl _) _).alloc (by rw [size_alloc]; omega) _⟩
    have := rowC_new (w.alloc (.cells #[.string (str h.name), .string (str h.link), .int .i64 (h.mode : Int), .int .i64 (h.size : Int), .int .u8 (h.kind.toNat : Int)] 56)) Tryz.zeroCells123 123
    rw [size_alloc] at this
    rwa [zero512, ← zc512]
  have HW0 := Lib.hid hW0
  have HP0 := Lib.hid P0
  have HM := Lib.hid hm
  have HS := Lib.hid hs
  clear hW0 P0 hm hs
  go_enter Tryz.func68, Tryz.ntmps68
  go_upto_region 2 with (fail)
  rw [← HW0.out]
  have z0 : W0.cell? ⟨w.heap.size, 0, none⟩ = some (.string (str h.name)) := rowC_cell HP0.out.z 0
  refine wp_region_still_tail 3 (by kernel_rfl) (by kernel_rfl) ?_
  simp only [List.take_succ_cons, List.take_zero, List.drop_succ_cons, List.drop_zero]
  repeat still_step
  refine wpStill_nil ?_
  change wpList _ _ _ _ _ W0.drew
  have HQ0 : Hid (PhAt w h ([] ++ zerosL 100 ++ zerosL 412) W0.drew) := Lib.hid (by rw [List.nil_append, zerosL_add]; exact HP0.out.drew)
  clear HP0 z0
  refine wpList_copyP rfl (.tmp 4) (.tmp 6) rfl [] (zerosL 412) h.name 100 0 512 rfl rfl rfl HQ0.out ?_
  clear HQ0
  intro W1 p1
  have HP1 : Hid (PhAt w h (padT h.name 100 ++ zerosL 8 ++ zerosL 404) W1) := Lib.hid (by rw [List.append_assoc, zerosL_add]; exact p1)
  clear p1
  have z1 : W1.cell? ⟨w.heap.size, 2, none⟩ = some (.int .i64 (h.mode : Int)) := rowC_cell HP1.out.z 2
  go_upto_region 3 with (fail)
  refine wp_region_still_tail 3 (by kernel_rfl) (by kernel_rfl) ?_
  simp only [List.take_succ_cons, List.take_zero, List.drop_succ_cons, List.drop_zero]
  repeat still_step
  refine wpStill_nil ?_
  change wpList _ _ _ _ _ W1.drew
  have C1 := putNum_at w h W1.drew (padT h.name 100) (zerosL 8) (zerosL 404) 100 8 412 (padT_len _ _) (zerosL_len _) (by decide) (by simp only [padT_len, zerosL_len]; decide) (by decide) h.mode (by have := HM.out; omega) HP1.out.drew
  clear HP1 z1
  go_upto_region 4 with (go_at_call 86; (with_reducible refine C1.mono ?_); rintro e W2 ⟨rfl, p2⟩)
  have HP2 : Hid (PhAt w h ((padT h.name 100 ++ (octD h.mode 7 ++ [0])) ++ zerosL 8 ++ zerosL 396) W2) := Lib.hid (by rw [List.append_assoc, zerosL_add]; exact p2)
  have C2 := putNum_at w h W2 (padT h.name 100 ++ (octD h.mode 7 ++ [0])) (zerosL 8) (zerosL 396) 108 8 404 (by simp only [List.length_append, padT_len, octD_len, List.length_cons, List.length_nil]) (zerosL_len _) (by decide) (by simp only [List.length_append, padT_len, octD_len, zerosL_len, List.length_cons, List.length_nil]; decide) (by decide) 0 (by decide) HP2.out
  rw [show (((0 : Nat)) : Int) = 0 from rfl] at C2
  clear p2 HP2 C1
  go_upto_region 5 with (go_at_call 86; (with_reducible refine C2.mono ?_); rintro e W3 ⟨rfl, p3⟩)
  have HP3 : Hid (PhAt w h ((padT h.name 100 ++ (octD h.mode 7 ++ [0]) ++ (octD 0 7 ++ [0])) ++ zerosL 8 ++ zerosL 388) W3) := Lib.hid (by rw [List.append_assoc, zerosL_add]; exact p3)
  have C3 := putNum_at w h W3 (padT h.name 100 ++ (octD h.mode 7 ++ [0]) ++ (octD 0 7 ++ [0])) (zerosL 8) (zerosL 388) 116 8 396 (by simp only [List.length_append, padT_len, octD_len, List.length_cons, List.length_nil]) (zerosL_len _) (by decide) (by simp only [List.length_append, padT_len, octD_len, zerosL_len, List.length_cons, List.length_nil]; decide) (by decide) 0 (by decide) HP3.out
  rw [show (((0 : Nat)) : Int) = 0 from rfl] at C3
  clear p3 HP3 C2
  go_upto_region 6 with (go_at_call 86; (with_reducible refine C3.mono ?_); rintro e W4 ⟨rfl, p4⟩)
  have HP4 : Hid (PhAt w h ((padT h.name 100 ++ (octD h.mode 7 ++ [0]) ++ (octD 0 7 ++ [0]) ++ (octD 0 7 ++ [0])) ++ zerosL 12 ++ zerosL 376) W4) := Lib.hid (by rw [List.append_assoc, zerosL_add]; exact p4)
  clear p4 C3
  have z4 : W4.cell? ⟨w.heap.size, 3, none⟩ = some (.int .i64 (h.size : Int)) := rowC_cell HP4.out.z 3
  refine wp_region_still_tail 3 (by kernel_rfl) (by kernel_rfl) ?_
  simp only [List.take_succ_cons, List.take_zero, List.drop_succ_cons, List.drop_zero]
  repeat still_step
  refine wpStill_nil ?_
  change wpList _ _ _ _ _ W4.drew
  have C4 := putNum_at w h W4.drew (padT h.name 100 ++ (octD h.mode 7 ++ [0]) ++ (octD 0 7 ++ [0]) ++ (octD 0 7 ++ [0])) (zerosL 12) (zerosL 376) 124 12 388 (by simp only [List.length_append, padT_len, octD_len, List.length_cons, List.length_nil]) (zerosL_len _) (by decide) (by simp only [List.length_append, padT_len, octD_len, zerosL_len, List.length_cons, List.length_nil]; decide) (by decide) h.size (by have := HS.out; omega) HP4.out.drew
  clear HP4 z4
  go_upto_region 7 with (go_at_call 86; (with_reducible refine C4.mono ?_); rintro e W5 ⟨rfl, p5⟩)
  have HP5 : Hid (PhAt w h ((padT h.name 100 ++ (octD h.mode 7 ++ [0]) ++ (octD 0 7 ++ [0]) ++ (octD 0 7 ++ [0]) ++ (octD h.size 11 ++ [0])) ++ zerosL 12 ++ zerosL 364) W5) := Lib.hid (by rw [List.append_assoc, zerosL_add]; exact p5)
  have C5 := putNum_at w h W5 (padT h.name 100 ++ (octD h.mode 7 ++ [0]) ++ (octD 0 7 ++ [0]) ++ (octD 0 7 ++ [0]) ++ (octD h.size 11 ++ [0])) (zerosL 12) (zerosL 364) 136 12 376 (by simp only [List.length_append, padT_len, octD_len, List.length_cons, List.length_nil]) (zerosL_len _) (by decide) (by simp only [List.length_append, padT_len, octD_len, zerosL_len, List.length_cons, List.length_nil]; decide) (by decide) 0 (by decide) HP5.out
  rw [show (((0 : Nat)) : Int) = 0 from rfl] at C5
  clear p5 HP5 C4
  go_upto_region 8 with (go_at_call 86; (with_reducible refine C5.mono ?_); rintro e W6 ⟨rfl, p6⟩)
  have HP6 : Hid (PhAt w h (preH h.name h.mode h.size ++ zerosL 364) W6) := Lib.hid p6
  clear p6 C5
  obtain ⟨pre, hpre⟩ : ∃ pre, pre = preH h.name h.mode h.size := ⟨_, rfl⟩
  have HPL : Hid (pre.length = 148) := Lib.hid (by rw [hpre, preH_len])
  have HPR := Lib.hid hpre
  rw [← hpre] at HP6
  clear hpre
  have z6 : W6.cell? ⟨w.heap.size, 4, none⟩ = some (.int .u8 (h.kind.toNat : Int)) := rowC_cell HP6.out.z 4
  have y6 : W6.cell? ⟨w.heap.size + 1, 156, none⟩ = some (byteV 0) := by
    rw [rowC_cell HP6.out.r, cells8_get _ _ (by rw [List.length_append, HPL.out, zerosL_len]; decide), List.getD_eq_getElem?_getD, List.getElem?_append_right (by rw [HPL.out]; decide), HPL.out]
    rfl
  have f6 := rowC_free HP6.out.r 156
  have kb : h.kind.toNat < 256 := h.kind.toNat_lt
  go_upto_region 9 with (fail)
  have HP7 : Hid (PhAt w h ((pre ++ zerosL 8 ++ [h.kind]) ++ zerosL 100 ++ zerosL 255) (W6.setCell ⟨w.heap.size + 1, 156, none⟩ (byteV h.kind))) := Lib.hid (by
    have e := HP6.out.byte 156 h.kind
    have e2 : (pre ++ zerosL 364).set 156 h.kind = (pre ++ zerosL 8 ++ [h.kind]) ++ zerosL 100 ++ zerosL 255 := by
      have hz : zerosL 364 = zerosL 8 ++ ([0] ++ (zerosL 100 ++ zerosL 255)) := by
        rw [zerosL_add, show ([0] : Bs) = zerosL 1 from rfl, zerosL_add, zerosL_add]
      rw [hz, List.set_append_right _ _ (by rw [HPL.out]; decide), HPL.out, List.set_append_right _ _ (by rw [zerosL_len]; decide), zerosL_len]
      simp
    rwa [e2] at e)
  have ekb : byteV h.kind = .int .u8 (h.kind.toNat : Int) := rfl
  rw [ekb] at HP7
  clear HP6 z6 y6 f6 ekb
  generalize W6.setCell ⟨w.heap.size + 1, 156, none⟩ (.int .u8 (h.kind.toNat : Int)) = W7 at *
  have z7 : W7.cell? ⟨w.heap.size, 1, none⟩ = some (.string (str h.link)) := rowC_cell HP7.out.z 1
  refine wp_region_still_tail 3 (by kernel_rfl) (by kernel_rfl) ?_
  simp only [List.take_succ_cons, List.take_zero, List.drop_succ_cons, List.drop_zero]
  repeat still_step
  refine wpStill_nil ?_
  change wpList _ _ _ _ _ W7.drew
  refine wpList_copyP rfl (.tmp 25) (.tmp 27) rfl (pre ++ zerosL 8 ++ [h.kind]) (zerosL 255) h.link 100 157 355 (by simp only [List.length_append, HPL.out, zerosL_len, List.length_cons, List.length_nil]) rfl rfl HP7.out.drew ?_
  clear HP7 z7
  intro W8 p8
  have HP8 : Hid (PhAt w h ((pre ++ zerosL 8 ++ [h.kind] ++ padT h.link 100) ++ zerosL 8 ++ zerosL 247) W8) := Lib.hid (by
    have ez : zerosL 255 = zerosL 8 ++ zerosL 247 := by rw [zerosL_add]
    rw [ez, ← List.append_assoc] at p8
    exact p8)
  clear p8
  have HL257 : Hid ((pre ++ zerosL 8 ++ [h.kind] ++ padT h.link 100).length = 257) := Lib.hid (by simp only [List.length_append, HPL.out, zerosL_len, padT_len, List.length_cons, List.length_nil])
  go_upto_region 11 with ((with_reducible show wpList _ _ _ (⟨some 30, _, _, _, _, _⟩ :: _) _ _); refine wpList_copyP rfl (.tmp 29) (.const (.string ⟨#[117, 115, 116, 97, 114, 0, 48, 48]⟩)) rfl (pre ++ zerosL 8 ++ [h.kind] ++ padT h.link 100) (zerosL 247) magicL 8 257 255 HL257.out rfl rfl HP8.out ?_; intro W9 p9)
  have HP9 : Hid (PhAt w h (pre ++ zerosL 8 ++ postH h.link h.kind) W9) := Lib.hid (by
    have e : (pre ++ zerosL 8 ++ [h.kind] ++ padT h.link 100) ++ padT magicL 8 ++ zerosL 247 = pre ++ zerosL 8 ++ postH h.link h.kind := by
      unfold postH
      have em : padT magicL 8 = magicL := rfl
      rw [em]
      simp only [List.append_assoc]
    rwa [e] at p9)
  clear p9 HP8 HL257
  obtain ⟨post, hpost⟩ : ∃ post, post = postH h.link h.kind := ⟨_, rfl⟩
  have HQL : Hid (post.length = 356) := Lib.hid (by rw [hpost, postH_len])
  have HQR := Lib.hid hpost
  rw [← hpost] at HP9
  clear hpost
  have HL512 : Hid ((pre ++ zerosL 8 ++ post).length = 512) := Lib.hid (by simp only [List.length_append, HPL.out, HQL.out, zerosL_len])
  have HSUM : Hid (sumH (pre ++ zerosL 8 ++ post) = sumL pre + 256 + sumL post) := Lib.hid (by
    unfold sumH
    rw [List.append_assoc, List.take_left' HPL.out, ← List.append_assoc, List.drop_left' (by rw [List.length_append, HPL.out, zerosL_len])])
  have hsm : sumL pre + 256 + sumL post ≤ 1000000 := by
    have h1 := sumL_le pre
    have h2 := sumL_le post
    rw [HPL.out] at h1
    rw [HQL.out] at h2
    omega
  obtain ⟨L, hL⟩ : ∃ L, L = pre ++ zerosL 8 ++ post := ⟨_, rfl⟩
  have HLE := Lib.hid hL
  rw [← hL] at HL512 HSUM HP9
  clear hL
  have QS : ∀ q, CallsIn Fence.wide 3 Tryz.prog 39 #[.string (str L)] (W9.drewN q) fun e w'' => e = .returned (.int .i64 ((sumL pre + 256 + sumL post : Nat) : Int)) ∧ ∃ q', w'' = W9.drewN q' := fun q =>
    (callsIn_wide.2 (sum_any _ HL512.out (W9.drewN q))).mono fun e w'' ⟨he, hw⟩ => ⟨by rw [he, HSUM.out], q, hw.symm⟩
  have HSM := Lib.hid hsm
  obtain ⟨sm, hsmE⟩ : ∃ sm, sm = sumL pre + 256 + sumL post := ⟨_, rfl⟩
  rw [← hsmE] at QS HSM
  have HSME := Lib.hid hsmE
  clear hsmE hsm
  have CV : ∀ w', (∃ q, w' = W9.drewN q) → (convert 30 9 (.slice (some ⟨w.heap.size + 1, 0, none⟩) 512 512)).run Tryz.prog w' = .ok (.string (str L)) w' := fun w' hw => by
    obtain ⟨q, rfl⟩ := hw
    have := conv_row (rowC_drewN HP9.out.r q) 512
    rwa [HL512.out] at this
  have C9 : ∀ q, Calls Tryz.prog 86 #[.slice (some ⟨w.heap.size + 1, 148, none⟩) 7 364, .int .i64 (sm : Int)] (W9.drewN q) fun e W' => e = .returned (.tuple #[]) ∧ PhAt w h (pre ++ (octD sm 6 ++ [0]) ++ ([0] ++ post)) W' := fun q =>
    putNum_at w h (W9.drewN q) pre (zerosL 7) ([0] ++ post) 148 7 364 HPL.out (zerosL_len _) (by decide) (by simp only [List.length_append, HPL.out, HQL.out, zerosL_len, List.length_cons, List.length_nil]; decide) (by decide) sm (by have := HSM.out; omega) ⟨by
      have e : pre ++ zerosL 7 ++ ([0] ++ post) = pre ++ zerosL 8 ++ post := by
        rw [← List.append_assoc, List.append_assoc pre (zerosL 7) [0], show (zerosL 7 ++ [0] : Bs) = zerosL 8 from rfl]
      rw [e, ← HLE.out]
      exact rowC_drewN HP9.out.r q, rowC_drewN HP9.out.z q, below_drewN HP9.out.b q⟩
  simp only [Act.put, List.setIfInBounds_toArray, List.set_cons_zero, List.set_cons_succ]
  refine (wpIn_wide (n := 4)).1 ?_
  refine region_quiet_tail (C := fun w' => ∃ q, w' = W9.drewN q) 4 (by kernel_rfl) (by kernel_rfl) (by kernel_rfl) ⟨1, rfl⟩ ?_
  simp only [List.take_succ_cons, List.take_zero, List.drop_succ_cons, List.drop_zero]
  iterate 2 (gi_big_quiet_step (fail))
  refine wpQuietIn_convG (fun _ => trivial) rfl 30 9 _ rfl (.string (str L)) CV ?_
  simp only [Act.put, List.setIfInBounds_toArray, List.set_cons_zero, List.set_cons_succ]
  repeat (gi_big_quiet_step ((gi_at_call 39; exact QS _)))
  refine wpQuietIn_nil ?_
  rintro _ ⟨q, rfl⟩
  have C9q := C9 q
  clear QS CV C9 HP9
  gi_wp2_with ((gi_at_call 86; (with_reducible refine (callsIn_wide.2 C9q).mono ?_); rintro e W10 ⟨rfl, p10⟩))
  obtain ⟨H, hH⟩ : ∃ H, H = headW h.name h.link h.mode h.size h.kind := ⟨_, rfl⟩
  have HHE := Lib.hid hH
  have e11 : (pre ++ (octD sm 6 ++ [0]) ++ ([0] ++ post)).set 155 32 = H := by
    rw [hH, headW_parts, ← HPR.out, ← HQR.out]
    have es : sumW h.name h.link h.mode h.size h.kind = sm := by rw [HSME.out, HPR.out, HQR.out]; rfl
    rw [es, ← List.append_assoc, List.set_append_left _ _ (by simp only [List.length_append, HPL.out, octD_len, List.length_cons, List.length_nil]; decide), List.append_assoc pre, List.append_assoc pre, List.set_append_right _ _ (by rw [HPL.out]; decide), HPL.out, List.append_assoc (octD sm 6), List.set_append_right _ _ (by rw [octD_len]; decide), octD_len]
    simp
  have p11 := p10.byte 155 32
  rw [e11] at p11
  have HL2 : Hid (H.length = 512) := Lib.hid (by rw [hH, headW_len])
  have y10 : W10.cell? ⟨w.heap.size + 1, 155, none⟩ = some (byteV ((pre ++ (octD sm 6 ++ [0]) ++ ([0] ++ post)).getD 155 0)) := by
    rw [rowC_cell p10.r, cells8_get _ _ (by simp only [List.length_append, HPL.out, HQL.out, octD_len, List.length_cons, List.length_nil]; decide)]
  have f10 := rowC_free p10.r 155
  have e32 : byteV 32 = .int .u8 32 := rfl
  rw [e32] at p11
  have HP11 := Lib.hid p11
  clear p10 p11 e11 hH C9q
  go_upto_region 13 with (fail)
  clear y10 f10
  generalize W10.setCell ⟨w.heap.size + 1, 155, none⟩ (.int .u8 32) = W11 at *
  have cv : (convert 30 9 (.slice (some ⟨w.heap.size + 1, 0, none⟩) 512 512)).run Tryz.prog W11 = .ok (.string (str H)) W11 := by
    have := conv_row HP11.out.r 512
    rwa [HL2.out] at this
  go_wp2
  go_ret
  exact ⟨by rw [← HHE.out]; rfl, HP11.out.b⟩
end Go.Proofs.YtmgpofdmoaafoaaGreatDoor
