/- Layer 4: Write. -/
import Derived.Test.YtemnfnmkhfgopaaDoorSbJ
import Derived.StillTailTactics
namespace Go.Proofs.YtemnfnmkhfgopaaDoor
open Go.RowKit

theorem Laid.grown {w w' : World} (h : Laid w) {p : Nat} (hp : 2 ≤ p) (hg : w.grownBy w' (some p)) : Laid w' :=
  ⟨fun i hi => (World.cell?_of_block (hg.block 0 (by have := h.lt; omega) (by simp; omega))).trans (h.h i hi), fun i hi => (World.cell?_of_block (hg.block 1 (by have := h.lt; omega) (by simp; omega))).trans (h.k i hi), Nat.le_trans h.lt hg.size⟩
theorem grown_setRow (w : World) (p : Nat) (cs : Array Value) : w.grownBy (w.setRow p cs) (some p) :=
  ⟨rfl, rfl, rfl, by rw [setRow_size]; exact Nat.le_refl _, fun k _ hne => setRow_other w p k cs (by simpa using hne)⟩
theorem grown_setCell (w : World) (p i : Nat) (v : Value) : w.grownBy (w.setCell ⟨p, i, none⟩ v) (some p) :=
  ⟨rfl, rfl, rfl, by simp, fun k _ hne => heap_setCell_other w ⟨p, i, none⟩ k v (by simpa using hne)⟩
theorem grown_drew (w : World) (p : Option Nat) : w.grownBy w.drew p := ⟨rfl, rfl, rfl, Nat.le_refl _, fun _ _ _ => rfl⟩
theorem grown_below {w w' : World} {B : Nat} {p : Nat} (hb : Below B w w') (hB : w.heap.size ≤ B) : w.grownBy w' (some p) :=
  ⟨hb.os, hb.tape, hb.output, hb.size, fun k hk _ => hb.block k (by omega)⟩
theorem grown_trans {a b c : World} {p : Nat} (h : a.grownBy b (some p)) (k : b.grownBy c (some p)) : a.grownBy c (some p) :=
  ⟨k.os.trans h.os, k.tape.trans h.tape, k.output.trans h.output, Nat.le_trans h.size k.size, fun i hi hne => (k.block i (Nat.lt_of_lt_of_le hi h.size) hne).trans (h.block i hi hne)⟩

theorem hrow_range_sums {w : World} {p : Nat} {V : List Nat} {r : List UInt8} {n : Nat} (h : rowC w p (hrow V r n) 44) : w.rangeAt p 1 (V.map u32V) := fun j v hv => by
  have hj : j < V.length := by
    have := (List.getElem?_eq_some_iff.1 hv).1
    simpa using this
  rw [rowC_cell h, hrow_sum r n hj, ← hv, List.getElem?_map, List.getElem?_eq_getElem hj, List.getD_eq_getElem?_getD, List.getElem?_eq_getElem hj]
  rfl
theorem hrow_range_rest {w : World} {p : Nat} {V : List Nat} {r : List UInt8} {n : Nat} (hV : V.length = 8) (h : rowC w p (hrow V r n) 44) : w.rangeAt p 9 (r.map byteV) := fun j v hv => by
  have hj : j < r.length := by
    have := (List.getElem?_eq_some_iff.1 hv).1
    simpa using this
  rw [rowC_cell h, hrow_rest n hV hj, ← hv, List.getElem?_map, List.getElem?_eq_getElem hj, List.getD_eq_getElem?_getD, List.getElem?_eq_getElem hj]
  rfl
/-- Bytes more, which fill no block. -/
theorem hash_less {a b r : List UInt8} (h1 : r.length = 64) (h2 : r.take (a.length % 64) = a.drop (64 * (a.length / 64))) (hb : a.length % 64 + b.length < 64) :
    sha_runN (a ++ b) ((a ++ b).length / 64) = sha_runN a (a.length / 64) ∧ (r.take (a.length % 64) ++ b ++ r.drop (a.length % 64 + b.length)).take ((a ++ b).length % 64) = (a ++ b).drop (64 * ((a ++ b).length / 64)) := by
  have e1 : (a ++ b).length / 64 = a.length / 64 := by rw [List.length_append]; omega
  have e2 : (a ++ b).length % 64 = a.length % 64 + b.length := by rw [List.length_append]; omega
  have e3 : (r.take (a.length % 64) ++ b).length = a.length % 64 + b.length := by rw [List.length_append, List.length_take, h1]; omega
  refine ⟨by rw [e1, runN_append _ _ _ (by omega)], ?_⟩
  rw [e1, e2, List.take_append_of_le_length (by omega), List.take_of_length_le (by omega), h2, List.drop_append_of_le_length (by omega)]
/-- Bytes more, which fill one. -/
theorem hash_full {a b r : List UInt8} (h1 : r.length = 64) (h2 : r.take (a.length % 64) = a.drop (64 * (a.length / 64))) (hb : a.length % 64 + b.length = 64) :
    (r.take (a.length % 64) ++ b ++ r.drop (a.length % 64 + b.length)) = r.take (a.length % 64) ++ b ∧ (r.take (a.length % 64) ++ b).length = 64 ∧ sha_runN (a ++ b) ((a ++ b).length / 64) = compN (sha_runN a (a.length / 64)) (r.take (a.length % 64) ++ b) ∧ (a ++ b).length % 64 = 0 := by
  have e1 : (a ++ b).length / 64 = a.length / 64 + 1 := by rw [List.length_append]; omega
  have e2 : (a ++ b).length % 64 = 0 := by rw [List.length_append]; omega
  have e3 : (r.take (a.length % 64) ++ b).length = 64 := by rw [List.length_append, List.length_take, h1]; omega
  refine ⟨by rw [hb, List.drop_of_length_le (by omega), List.append_nil], e3, ?_, e2⟩
  rw [e1, sha_runN, runN_append _ _ _ (by omega)]
  congr 1
  rw [List.drop_append_of_le_length (by omega), ← h2, List.take_of_length_le (by omega)]
theorem drop_str (x : List UInt8) (m : Nat) : (str x).extract m (str x).size = str (x.drop m) := by
  refine bytes_toList ?_
  rw [str_size]
  simp only [ByteArray.data_extract, Array.toList_extract, str, List.extract_eq_take_drop]
  rw [List.take_of_length_le (by rw [List.length_drop]; omega)]
theorem drop_empty {l : List UInt8} {k : Nat} (h : k < l.length) : (str (l.drop k)).toList.isEmpty = false := by
  rw [ByteArray.toList_eq, str_toList]
  cases e : l.drop k with
  | nil =>
    have := congrArg List.length e
    rw [List.length_drop] at this
    simp at this
    omega
  | cons x y => rfl
theorem toList_str (x : List UInt8) : (str x).toList = x := by rw [ByteArray.toList_eq, str_toList]

theorem isHash_less {w : World} {p : Nat} {a b r : List UInt8} {V : List Nat} (h1 : r.length = 64) (h2 : r.take (a.length % 64) = a.drop (64 * (a.length / 64))) (hV : V = (sha_runN a (a.length / 64)).list) (hb : a.length % 64 + b.length < 64)
    (hr : rowC w p (hrow V (r.take (a.length % 64) ++ b ++ r.drop (a.length % 64 + b.length)) a.length) 44) :
    IsHash (w.setCell ⟨p, 73, none⟩ (.int .i64 ((a.length : Int) + (b.length : Int)))) p (a ++ b) := by
  obtain ⟨e1, e2⟩ := hash_less h1 h2 hb
  have hl : (r.take (a.length % 64) ++ b ++ r.drop (a.length % 64 + b.length)).length = 64 := by
    rw [List.length_append, List.length_append, List.length_take, List.length_drop, h1]; omega
  refine ⟨_, hl, e2, ?_⟩
  have hs := rowC_set hr 73 (.int .i64 ((a.length : Int) + (b.length : Int)))
  rw [show (a.length : Int) + (b.length : Int) = (((a ++ b).length : Nat) : Int) by rw [List.length_append]; omega, hrow_setn _ _ (by rw [hV]; rfl) hl, hV, ← e1] at hs
  rw [show (a.length : Int) + (b.length : Int) = (((a ++ b).length : Nat) : Int) by rw [List.length_append]; omega]
  exact hs
theorem isHash_full {w : World} {p : Nat} {a b r : List UInt8} (h1 : r.length = 64) (h2 : r.take (a.length % 64) = a.drop (64 * (a.length / 64))) (hb : a.length % 64 + b.length = 64)
    (hr : rowC w p (hrow (compN (sha_runN a (a.length / 64)) (r.take (a.length % 64) ++ b)).list (r.take (a.length % 64) ++ b) (a.length + b.length)) 44) : IsHash w p (a ++ b) := by
  obtain ⟨_, e2, e3, e4⟩ := hash_full h1 h2 hb
  refine ⟨_, e2, ?_, ?_⟩
  · rw [e4, List.take_zero, List.drop_of_length_le (by rw [List.length_append] at e4 ⊢; omega)]
  · rw [e3, List.length_append]
    exact hr
theorem slice_rest (w : World) (p o : Nat) (h : o < 64) : (Instr.sliceAt 42 (.pointer (some ⟨p, 9, none⟩)) (some (.int .i64 (o : Int))) none none).run Tryd.prog w = .ok (.slice (some ⟨p, 9 + o, none⟩) (64 - o) (64 - o)) w := by
  have e1 : Tryd.prog.arrayLen 42 = 64 := by kernel_rfl
  have e2 : ∀ w, (sizeOf (Tryd.prog.elem 42)).run Tryd.prog w = .ok 1 w := fun _ => by kernel_rfl
  have hu : Tryd.prog.underlying 42 = some (.array (Tryd.prog.arrayLen 42) (Tryd.prog.elem 42)) := by kernel_rfl
  rw [run_sliceAt_array_l w _ _ hu _ _ (by omega) (by rw [e1]; omega), e2, e1]
  simp only [Result.andThen_ok, Int.toNat_natCast]
  unfold slicedAt
  rw [if_neg (by omega), Nat.mul_one, Addr.add_mid]
set_option maxRecDepth 100000 in
set_option maxHeartbeats 1000000 in
theorem sha_write_any (w : World) (p : Nat) (all : List UInt8) (s : ByteArray) (h : IsHash w p all) (L : Laid w) (hp : 2 ≤ p) (hb : all.length + s.size ≤ 1000000) :
    Calls Tryd.prog 16 #[.pointer (some ⟨p, 0, none⟩), .string s] w fun e w' => e = .returned (.int .i64 (s.size : Int)) ∧ IsHash w' p (all ++ s.data.toList) ∧ w.grownBy w' (some p) := by
  obtain ⟨l, hl⟩ : ∃ l, l = s.data.toList := ⟨_, rfl⟩
  have hls : l.length = s.size := by rw [hl]; simp
  have hsl : s = str l := by rw [hl, str_list]
  rw [← hl]
  clear hl
  have hmd := h.made
  have Hh := Lib.hid h
  have HL := Lib.hid L
  have Hs := Lib.hid hls
  have Hsl := Lib.hid hsl
  have hb2 : all.length + l.length ≤ 1000000 := by omega
  clear h L hls hsl
  go_enter Tryd.func16, Tryd.ntmps16
  go_wp2_with (go_at_call 21; ((with_reducible refine (none_no _ _ hmd).mono ?_); rintro e w' ⟨rfl, rfl⟩))
  go_loopw [5] (fun left wr => ∃ k : Nat, k ≤ l.length ∧ left = .string (str (l.drop k)) ∧ IsHash wr p (all ++ l.take k) ∧ w.grownBy wr (some p)) (fun left _ => match left with | .string u => u.size | _ => 0)
  case atStart => exact ⟨0, by omega, by rw [List.drop_zero, ← Hsl.out], by rw [List.take_zero, List.append_nil]; exact Hh.out, World.grownBy.refl w _⟩
  case round =>
    obtain ⟨k, hk, rfl, hh, hg⟩ := hrel
    by_cases hlt : k < l.length
    · have hne := drop_empty hlt
      have hsz := str_size (l.drop k)
      rw [List.length_drop] at hsz
      obtain ⟨a, ha⟩ : ∃ a, a = all ++ l.take k := ⟨_, rfl⟩
      have hal : a.length = all.length + k := by rw [ha, List.length_append, List.length_take]; omega
      rw [← ha] at hh
      have HA := Lib.hid ha
      have hn := hh.size
      obtain ⟨r, h1, h2, h3⟩ := hh
      obtain ⟨o, ho⟩ : ∃ o, o = a.length % 64 := ⟨_, rfl⟩
      have ho64 : o < 64 := by omega
      obtain ⟨m, hm⟩ : ∃ m, m = min (64 - o) (l.length - k) := ⟨_, rfl⟩
      obtain ⟨b, hbd⟩ : ∃ b, b = (l.drop k).take m := ⟨_, rfl⟩
      have hbl : b.length = m := by rw [hbd, List.length_take, List.length_drop]; omega
      have hm0 : 0 < m := by omega
      have hmk : k + m ≤ l.length := by omega
      have hom : o + m ≤ 64 := by omega
      obtain ⟨N, hN⟩ : ∃ N, N = a.length := ⟨_, rfl⟩
      have eo : (N : Int).tmod 64 = (o : Int) := by rw [Int.tmod_eq_emod_of_nonneg (by omega)]; omega
      have go : (o : Int) < 64 := by omega
      have hsl : ∀ w, (Instr.sliceAt 42 (.pointer (some ⟨p, 9, none⟩)) (some (.int .i64 (o : Int))) none none).run Tryd.prog w = .ok (.slice (some ⟨p, 9 + o, none⟩) (64 - o) (64 - o)) w := fun w => slice_rest w p o ho64
      have hcs : b = (str (l.drop k)).data.toList.take (Nat.min (str (l.drop k)).size (64 - o)) := by
        rw [str_toList, str_size, List.length_drop, hbd, hm, Nat.min_comm]
      obtain ⟨V, hV⟩ : ∃ V, V = (sha_runN a (a.length / 64)).list := ⟨_, rfl⟩
      have hV8 : V.length = 8 := by rw [hV]; rfl
      rw [← hV] at h3
      rw [← hN] at h3 hn
      have hfit : 9 + o + b.length ≤ (hrow V r N).size := by rw [hrow_size N hV8 h1, hbl]; omega
      have hR : ((hrow V r N).toList.take (9 + o) ++ b.map byteV ++ (hrow V r N).toList.drop (9 + o + (b.map byteV).length)).toArray = hrow V (r.take o ++ b ++ r.drop (o + b.length)) N := by
        unfold hrow
        rw [hcells_rest N o hV8 h1 (by omega)]
      generalize hH : hrow V r N = H at h3 hfit hR
      generalize hH2 : hrow V (r.take o ++ b ++ r.drop (o + b.length)) N = H2 at hR
      have hx := drop_str (l.drop k) m
      rw [List.drop_drop, hsz] at hx
      have HCS := Lib.hid hcs
      have HFIT := Lib.hid hfit
      have HRR := Lib.hid hR
      have HH2 := Lib.hid hH2
      have HX := Lib.hid hx
      have HBL := Lib.hid hbl
      have HN := Lib.hid hN
      have HAL := Lib.hid hal
      have HM := Lib.hid hm
      have HB := Lib.hid hbd
      have HO := Lib.hid ho
      have HV := Lib.hid hV
      have HV8 := Lib.hid hV8
      have H1 := Lib.hid h1
      have H2' := Lib.hid h2
      have hbN : N ≤ 1000000 := by omega
      clear hcs hfit hR hH hH2 hx hbl ha hN hal hm hbd ho hV hV8 h1 h2
      go_wp2
      refine wp_region_still_tail 10 (by kernel_rfl) (by kernel_rfl) ?_
      simp only [List.take_succ_cons, List.take_zero, List.drop_succ_cons, List.drop_zero]
      repeat still_step
      refine wpStill_nil ?_
      change wpList _ _ _ _ _ wr.drew
      refine sha_wpList_copy_str rfl (.tmp 20) (.tmp 21) 45 9 rfl 5 Tryd.underlying45 (by kernel_rfl) p (9 + o) (64 - o) (64 - o) (str (l.drop k)) rfl rfl H H2 44 (rowC_drew h3) b HCS.out HFIT.out HRR.out ?_
      rw [HBL.out]
      have g2 : w.grownBy (wr.drew.setRow p H2) (some p) := grown_trans (grown_trans hg (grown_drew wr _)) (grown_setRow _ _ _)
      have r2 : rowC (wr.drew.setRow p H2) p H2 44 := rowC_setRow (rowC_drew h3) H2
      clear hn hsl eo go
      generalize wr.drew.setRow p H2 = w2 at g2 r2 ⊢
      clear h3
      have n2 : w2.cell? ⟨p, 73, none⟩ = some (.int .i64 (N : Int)) := by
        rw [rowC_cell r2, ← HH2.out, hrow_n _ HV8.out (by rw [List.length_append, List.length_append, List.length_take, List.length_drop, H1.out, HBL.out]; omega)]
      have f2 := rowC_free r2 73
      have hx := HX.out
      have hab := Lib.hid (show all ++ l.take (k + m) = a ++ b by rw [HA.out, HB.out, List.append_assoc, ← List.take_add])
      have hmz : (m : Int) ≤ ((l.length - k : Nat) : Int) := by omega
      have hsz2 := Lib.hid (str_size (l.drop (k + m)))
      by_cases hfu : o + m < 64
      · have hz : (((N : Int) + (m : Int)) % 64 == 0) = false := beq_eq_false_iff_ne.2 (by have := HO.out; rw [← HN.out] at this; omega)
        go_wp2
        go_roundw
        case rel =>
          refine ⟨k + m, hmk, rfl, ?_, grown_trans g2 (grown_setCell _ _ _ _)⟩
          rw [hab.out, HN.out, ← HBL.out]
          refine isHash_less H1.out H2'.out HV.out (by rw [HBL.out, ← HO.out]; exact hfu) ?_
          rw [HBL.out, ← HO.out, ← HN.out, ← HBL.out, HH2.out]
          exact r2
        case measure => simp only [hsz2.out, hsz, List.length_drop]; omega
      · have hz : (((N : Int) + (m : Int)) % 64 == 0) = true := beq_iff_eq.2 (by have := HO.out; rw [← HN.out] at this; omega)
        have hob : a.length % 64 + b.length = 64 := by rw [HBL.out, ← HO.out]; omega
        obtain ⟨q1, q2, _, _⟩ := hash_full H1.out H2'.out hob
        rw [← HO.out] at q1 q2
        obtain ⟨c, hc⟩ : ∃ c, c = r.take o ++ b := ⟨_, rfl⟩
        rw [← hc] at q2
        have r4 := rowC_set r2 73 (.int .i64 ((N + m : Nat) : Int))
        rw [← HH2.out, q1, ← hc, hrow_setn _ _ HV8.out q2] at r4
        have HC := Lib.hid hc
        obtain ⟨v, hv⟩ : ∃ v, v = sha_runN a (a.length / 64) := ⟨_, rfl⟩
        have hvV : v.list = V := by rw [hv, ← HV.out]
        have hvo : v.ok := by rw [hv]; exact runN_ok _ _
        obtain ⟨R, hR⟩ : ∃ R, R = compN v c := ⟨_, rfl⟩
        have CB : ∀ w, Laid w → Calls Tryd.prog 22 #[.agg (V.map u32V).toArray, .agg (c.map byteV).toArray] w fun e w' => e = .returned (.agg (cells32 R.list)) ∧ Below w.heap.size w w' := fun w L => by
          rw [hR, ← hvV]
          exact sha_behind_any v c w L hvo q2
        have HRR2 := Lib.hid hR
        have Hv := Lib.hid hv
        have Q2 := Lib.hid q2
        clear hc hvV hvo hR hv q1 q2 hob
        go_wp2
        rw [show (N : Int) + (m : Int) = ((N + m : Nat) : Int) by omega]
        have g4 : w.grownBy (w2.setCell ⟨p, 73, none⟩ (.int .i64 ((N + m : Nat) : Int))) (some p) := grown_trans g2 (grown_setCell _ _ _ _)
        generalize World.setCell w2 _ _ = w4 at r4 g4 ⊢
        clear n2 f2 r2 g2 hx
        have s1 := hrow_range_sums (rowC_drew r4)
        have s2 := hrow_range_rest HV8.out (rowC_drew r4)
        have L4 : Laid w4.drew := HL.out.grown hp (grown_trans g4 (grown_drew w4 _))
        have hi1 : (Tryd.prog.info? 41).map (·.size) = some (V.map u32V).length := by rw [List.length_map, HV8.out]; kernel_rfl
        have hi2 : (Tryd.prog.info? 42).map (·.size) = some (c.map byteV).length := by rw [List.length_map, Q2.out]; kernel_rfl
        have S1 := Lib.hid s1
        have S2 := Lib.hid s2
        have HI1 := Lib.hid hi1
        have HI2 := Lib.hid hi2
        have R4 := Lib.hid r4
        have L4' := Lib.hid L4
        have HFT := Lib.hid (show 1 + (cells32 R.list).size ≤ (hrow V c (N + m)).size by rw [hrow_size _ HV8.out Q2.out, cells32_size, St.list_length]; decide)
        have HSG := Lib.hid (show ((hrow V c (N + m)).toList.take 1 ++ (cells32 R.list).toList ++ (hrow V c (N + m)).toList.drop (1 + (cells32 R.list).toList.length)).toArray = hrow R.list c (N + m) by
          unfold hrow cells32
          rw [hcells_sums c (N + m) HV8.out (St.list_length R)])
        clear s1 s2 hi1 hi2 r4 L4
        refine wp_region_any (by kernel_rfl) ?_
        change wpAny _ _ _ _ _ _ _ (World.drew _)
        refine wpAny_take (i := 0) (oi := ⟨some 40, .move (.tmp 0), 33, "sha.go:56", #[], none⟩) (v := ?_) rfl (by kernel_rfl) (by kernel_rfl) (by kernel_rfl) (fun _ _ _ h => h) (Or.inl ⟨by rfl, ?_⟩) ?_
        rotate_left
        · intro w
          go_simp
          try with_reducible rfl
        simp only [Act.put, List.setIfInBounds_toArray, List.set_cons_zero, List.set_cons_succ]
        refine wpAny_take (i := 1) (oi := ⟨some 41, .move (.tmp 0), 33, "sha.go:56", #[], none⟩) (v := ?_) rfl (by kernel_rfl) (by kernel_rfl) (by kernel_rfl) (fun _ _ _ h => h) (Or.inl ⟨by rfl, ?_⟩) ?_
        rotate_left
        · intro w
          go_simp
          try with_reducible rfl
        simp only [Act.put, List.setIfInBounds_toArray, List.set_cons_zero, List.set_cons_succ]
        refine wpAny_take (i := 2) (oi := ⟨some 42, .nilCheck (.tmp 41), 0, "sha.go:56", #[{ on := 1, ground := .data }], none⟩) (v := ?_) rfl (by kernel_rfl) (by kernel_rfl) (by kernel_rfl) (fun _ _ _ h => h) (Or.inl ⟨by rfl, ?_⟩) ?_
        rotate_left
        · intro w
          go_simp
          try with_reducible rfl
        simp only [Act.put, List.setIfInBounds_toArray, List.set_cons_zero, List.set_cons_succ]
        refine wpAny_take (i := 3) (oi := ⟨some 43, .fieldAddr 44 (.tmp 42) 1, 0, "sha.go:56", #[{ on := 2, ground := .data }], none⟩) (v := ?_) rfl (by kernel_rfl) (by kernel_rfl) (by kernel_rfl) (fun _ _ _ h => h) (Or.inl ⟨by rfl, ?_⟩) ?_
        rotate_left
        · intro w
          go_simp
          try with_reducible rfl
        simp only [Act.put, List.setIfInBounds_toArray, List.set_cons_zero, List.set_cons_succ]
        refine wpAny_take (i := 5) (oi := ⟨some 45, .move (.tmp 0), 33, "sha.go:56", #[], none⟩) (v := ?_) rfl (by kernel_rfl) (by kernel_rfl) (by kernel_rfl) (fun _ _ _ h => h) (Or.inl ⟨by rfl, ?_⟩) ?_
        rotate_left
        · intro w
          go_simp
          try with_reducible rfl
        simp only [Act.put, List.setIfInBounds_toArray, List.set_cons_zero, List.set_cons_succ]
        refine wpAny_take (i := 6) (oi := ⟨some 46, .nilCheck (.tmp 45), 0, "sha.go:56", #[{ on := 5, ground := .data }], none⟩) (v := ?_) rfl (by kernel_rfl) (by kernel_rfl) (by kernel_rfl) (fun _ _ _ h => h) (Or.inl ⟨by rfl, ?_⟩) ?_
        rotate_left
        · intro w
          go_simp
          try with_reducible rfl
        simp only [Act.put, List.setIfInBounds_toArray, List.set_cons_zero, List.set_cons_succ]
        refine wpAny_take (i := 7) (oi := ⟨some 47, .fieldAddr 44 (.tmp 46) 2, 0, "sha.go:56", #[{ on := 6, ground := .data }], none⟩) (v := ?_) rfl (by kernel_rfl) (by kernel_rfl) (by kernel_rfl) (fun _ _ _ h => h) (Or.inl ⟨by rfl, ?_⟩) ?_
        rotate_left
        · intro w
          go_simp
          try with_reducible rfl
        simp only [Act.put, List.setIfInBounds_toArray, List.set_cons_zero, List.set_cons_succ]
        refine wpAny_ready (rs := [4, 8]) (by kernel_rfl) (by simp) ?_
        refine AllReady.cons (o := ⟨some 44, .load 41 (.tmp 43), 41, "sha.go:56", #[{ on := 3, ground := .data }], none⟩) rfl (fun K hK => ?_) ?_
        case' refine_1 =>
          rw [if_pos (by rfl)]
          refine wp_load_mid 41 _ rfl p 1 rfl _ _ S1.out Tryd.underlying41 rfl HI1.out ?_
          refine hK _ _ ?_
          clear hK K
          simp only [Act.put, List.setIfInBounds_toArray, List.set_cons_zero, List.set_cons_succ]
          refine wpAny_ready (rs := [8]) (by kernel_rfl) (by simp) ?_
          refine AllReady.cons (o := ⟨some 48, .load 42 (.tmp 47), 42, "sha.go:56", #[{ on := 7, ground := .data }], none⟩) rfl (fun K hK => ?_) AllReady.nil
          rw [if_pos (by rfl)]
          refine wp_load_mid 42 _ rfl p 9 rfl _ _ S2.out Tryd.underlying42 rfl HI2.out ?_
          refine hK _ _ ?_
          clear hK K
          simp only [Act.put, List.setIfInBounds_toArray, List.set_cons_zero, List.set_cons_succ]
        case' refine_2 =>
          refine AllReady.cons (o := ⟨some 48, .load 42 (.tmp 47), 42, "sha.go:56", #[{ on := 7, ground := .data }], none⟩) rfl (fun K hK => ?_) AllReady.nil
          rw [if_pos (by rfl)]
          refine wp_load_mid 42 _ rfl p 9 rfl _ _ S2.out Tryd.underlying42 rfl HI2.out ?_
          refine hK _ _ ?_
          clear hK K
          simp only [Act.put, List.setIfInBounds_toArray, List.set_cons_zero, List.set_cons_succ]
          refine wpAny_ready (rs := [4]) (by kernel_rfl) (by simp) ?_
          refine AllReady.cons (o := ⟨some 44, .load 41 (.tmp 43), 41, "sha.go:56", #[{ on := 3, ground := .data }], none⟩) rfl (fun K hK => ?_) AllReady.nil
          rw [if_pos (by rfl)]
          refine wp_load_mid 41 _ rfl p 1 rfl _ _ S1.out Tryd.underlying41 rfl HI1.out ?_
          refine hK _ _ ?_
          clear hK K
          simp only [Act.put, List.setIfInBounds_toArray, List.set_cons_zero, List.set_cons_succ]
        all_goals
          refine wpAny_ready (rs := [9]) (by kernel_rfl) (by simp) ?_
          refine AllReady.cons (o := ⟨some 49, .call { callee := .value (.func 22), args := #[.tmp 44, .tmp 48], argTypes := #[41, 42] }, 41, "sha.go:56", #[{ on := 4, ground := .data }, { on := 8, ground := .data }], none⟩) rfl (fun K hK => ?_) AllReady.nil
          go_simp
          refine (CB _ L4'.out).mono ?_
          rintro e w5 ⟨rfl, hb5⟩
          refine hK _ _ ?_
          clear hK K
          refine wpAny_ready (rs := [10]) (by kernel_rfl) (by simp) ?_
          refine AllReady.cons (o := ⟨some 50, .nilCheck (.tmp 40), 0, "sha.go:56", #[{ on := 0, ground := .data }, { on := 0, ground := .phase }, { on := 1, ground := .phase }, { on := 2, ground := .phase }, { on := 3, ground := .phase }, { on := 4, ground := .phase }, { on := 5, ground := .phase }, { on := 6, ground := .phase }, { on := 7, ground := .phase }, { on := 8, ground := .phase }, { on := 9, ground := .phase }], none⟩) rfl (fun K hK => ?_) AllReady.nil
          go_simp
          refine hK _ _ ?_
          clear hK K
          refine wpAny_ready (rs := [11]) (by kernel_rfl) (by simp) ?_
          refine AllReady.cons (o := ⟨some 51, .fieldAddr 44 (.tmp 50) 1, 0, "sha.go:56", #[{ on := 10, ground := .data }, { on := 0, ground := .phase }, { on := 1, ground := .phase }, { on := 2, ground := .phase }, { on := 3, ground := .phase }, { on := 4, ground := .phase }, { on := 5, ground := .phase }, { on := 6, ground := .phase }, { on := 7, ground := .phase }, { on := 8, ground := .phase }, { on := 9, ground := .phase }], none⟩) rfl (fun K hK => ?_) AllReady.nil
          go_simp
          refine hK _ _ ?_
          clear hK K
          refine wpAny_ready (rs := [12]) (by kernel_rfl) (by simp) ?_
          refine AllReady.cons (o := ⟨none, .store 41 (.tmp 51) (.tmp 49), 0, "sha.go:56", #[{ on := 11, ground := .data }, { on := 9, ground := .data }, { on := 9, ground := .chain }, { on := 0, ground := .phase }, { on := 1, ground := .phase }, { on := 2, ground := .phase }, { on := 3, ground := .phase }, { on := 4, ground := .phase }, { on := 5, ground := .phase }, { on := 6, ground := .phase }, { on := 7, ground := .phase }, { on := 8, ground := .phase }, { on := 9, ground := .phase }], none⟩) rfl (fun K hK => ?_) AllReady.nil
          rw [if_pos (by rfl)]
          refine wp_store_seg 41 _ _ rfl p 1 (cells32 R.list) rfl rfl 44 (hrow V c (N + m)) (hrow R.list c (N + m)) (rowC_below (rowC_drew R4.out) hb5 (rowC_lt (rowC_drew R4.out))) (by kernel_rfl) HFT.out (cells32_one _) HSG.out ?_
          refine hK _ _ ?_
          clear hK K
          simp only [Act.put]
          refine wpAny_done (by kernel_rfl) ?_ _
          go_wp2
          go_roundw
          case rel =>
            refine ⟨k + m, hmk, rfl, ?_, grown_trans (grown_trans (grown_trans g4 (grown_drew w4 _)) (grown_below hb5 (Nat.le_refl _))) (grown_setRow _ _ _)⟩
            rw [hab.out]
            refine isHash_full H1.out H2'.out (by rw [HBL.out, ← HO.out]; omega) ?_
            rw [← HO.out, ← HC.out, ← Hv.out, ← HRR2.out, ← HN.out, HBL.out]
            exact rowC_setRow (rowC_below (rowC_drew R4.out) hb5 (rowC_lt (rowC_drew R4.out))) _
          case measure => simp only [hsz2.out, hsz, List.length_drop]; omega
    · obtain rfl : k = l.length := by omega
      have he : (str []).toList.isEmpty = true := by rw [toList_str]; rfl
      rw [List.take_length] at hh
      go_wp2
      go_ret
      exact ⟨rfl, hh, hg⟩
end Go.Proofs.YtemnfnmkhfgopaaDoor
