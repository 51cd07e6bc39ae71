/- Layer 4: Sum, Of. -/
import Derived.Test.YtemnfnmkhfgopaaDoorSbK
import Derived.Test.YtemnfnmkhfgopaaDoorSbE
namespace Go.Proofs.YtemnfnmkhfgopaaDoor
open Go.RowKit

theorem shift_byte (x : Nat) {j : Nat} (hj : j < 4) : Value.int .u8 ((x : Int) / 2 ^ (24 - 8 * j) % 256) = byteV (UInt8.ofNat (x / 256 ^ (3 - j))) := by
  rw [byteV_ofNat, show (256 : Nat) ^ (3 - j) = 2 ^ (24 - 8 * j) by rw [show (256 : Nat) = 2 ^ 8 from rfl, ← Nat.pow_mul]; congr 1; omega]
  simp
theorem rowC_grown {w w' : World} {b p : Nat} {cs : Array Value} {t : TypeId} (h : rowC w b cs t) (hg : w.grownBy w' (some p)) (hne : b ≠ p) : rowC w' b cs t := (hg.block b (rowC_lt h) (by simpa using hne)).trans h
theorem below_grown {a w w' : World} {B p : Nat} (h : Below B a w) (hg : w.grownBy w' (some p)) (hB : B ≤ w.heap.size) (hp : B ≤ p) : Below B a w' := h.grown hg hB (fun k hk => by simp at hk; omega)
theorem hash_of (all : List UInt8) : (all ++ padL all.length).length % 64 = 0 := by
  rw [List.length_append]; exact padded all.length

theorem IsHash.sums {w : World} {p : Nat} {all : List UInt8} (h : IsHash w p all) : ∃ v : St, v = sha_runN all (all.length / 64) ∧ w.rangeAt p 1 (v.list.map u32V) := by
  obtain ⟨r, _, _, h3⟩ := h
  exact ⟨_, rfl, hrow_range_sums h3⟩
/-- The memory of Sum, behind its two blocks. -/
structure SumM (W w : World) (all : List UInt8) : Prop where
  d : rowC w W.heap.size (cells8 (List.replicate 32 0)) 26
  h : IsHash w (W.heap.size + 1) all
  l : Laid w
  nx : Below W.heap.size W w
  lt : W.heap.size + 1 < w.heap.size
theorem SumM.below {W w w' : World} {all : List UInt8} (h : SumM W w all) (hb : Below w.heap.size w w') (hw : 2 ≤ W.heap.size) : SumM W w' all := by
  have := h.lt
  exact ⟨rowC_below h.d hb (by omega), h.h.below hb (by omega), h.l.below hb (by omega), h.nx.trans (hb.mono (by omega)), Nat.lt_of_lt_of_le h.lt hb.size⟩
theorem SumM.grown {W w w' : World} {all all' : List UInt8} (h : SumM W w all) (hg : w.grownBy w' (some (W.heap.size + 1))) (hh : IsHash w' (W.heap.size + 1) all') (hw : 2 ≤ W.heap.size) : SumM W w' all' := by
  have hlt := h.lt
  refine ⟨(hg.block W.heap.size (by omega) (by simp)).trans h.d, hh, h.l.grown (by omega) hg, h.nx.grown hg (by omega) (fun k hk => by simp at hk; omega), Nat.lt_of_lt_of_le h.lt hg.size⟩
set_option maxRecDepth 100000 in
set_option maxHeartbeats 1000000 in
theorem sha_sum_any (w : World) (p : Nat) (all : List UInt8) (h : IsHash w p all) (L : Laid w) (hb : all.length ≤ 900000) :
    Calls Tryd.prog 17 #[.pointer (some ⟨p, 0, none⟩)] w fun e w' => e = .returned (.agg (cells8 (hashL all))) ∧ Below w.heap.size w w' := by
  have hlt := h.lt
  have hmd := h.made
  have hsz := h.size
  have hw2 := L.lt
  obtain ⟨r, h1, h2, h3⟩ := h
  have hz := hrow_size (v := (sha_runN all (all.length / 64)).list) all.length rfl h1
  have HX : ∀ W : World, IsHash (W.alloc (.cells (hrow (sha_runN all (all.length / 64)).list r all.length) 44)) W.heap.size all := fun W => ⟨r, h1, h2, rowC_new _ _ _⟩
  have h1x : (hrow (sha_runN all (all.length / 64)).list r all.length).all (·.oneCell') = true := hrow_one _ _ _
  generalize hrow (sha_runN all (all.length / 64)).list r all.length = H at h3 hz HX h1x
  have hi : (Tryd.prog.info? 44).map (·.size) = some H.size := by rw [hz]; kernel_rfl
  have HI := Lib.hid hi
  have HZ := Lib.hid hz
  have HX' := Lib.hid HX
  have H1 := Lib.hid h1x
  have LH := Lib.hid L
  obtain ⟨D, hD⟩ : ∃ D, D = hashL all := ⟨_, rfl⟩
  rw [← hD]
  have HD := Lib.hid hD
  clear hi hz HX h1x h1 h2 L hD
  have hz0 := hzero_run
  have h3a := Lib.hid (rowC_alloc h3 (.cells (cells8 (List.replicate 32 0)) 26))
  have hs0 : SumM w ((w.alloc (.cells #[Value.int IntKind.u8 0, Value.int IntKind.u8 0, Value.int IntKind.u8 0, Value.int IntKind.u8 0, Value.int IntKind.u8 0, Value.int IntKind.u8 0, Value.int IntKind.u8 0, Value.int IntKind.u8 0, Value.int IntKind.u8 0, Value.int IntKind.u8 0, Value.int IntKind.u8 0, Value.int IntKind.u8 0, Value.int IntKind.u8 0, Value.int IntKind.u8 0, Value.int IntKind.u8 0, Value.int IntKind.u8 0, Value.int IntKind.u8 0, Value.int IntKind.u8 0, Value.int IntKind.u8 0, Value.int IntKind.u8 0, Value.int IntKind.u8 0, Value.int IntKind.u8 0, Value.int IntKind.u8 0, Value.int IntKind.u8 0, Value.int IntKind.u8 0, Value.int IntKind.u8 0, Value.int IntKind.u8 0, Value.int IntKind.u8 0, Value.int IntKind.u8 0, Value.int IntKind.u8 0, Value.int IntKind.u8 0, Value.int IntKind.u8 0] 26)).alloc (.cells H 44)) all := by
    have hx := HX'.out (w.alloc (.cells #[Value.int IntKind.u8 0, Value.int IntKind.u8 0, Value.int IntKind.u8 0, Value.int IntKind.u8 0, Value.int IntKind.u8 0, Value.int IntKind.u8 0, Value.int IntKind.u8 0, Value.int IntKind.u8 0, Value.int IntKind.u8 0, Value.int IntKind.u8 0, Value.int IntKind.u8 0, Value.int IntKind.u8 0, Value.int IntKind.u8 0, Value.int IntKind.u8 0, Value.int IntKind.u8 0, Value.int IntKind.u8 0, Value.int IntKind.u8 0, Value.int IntKind.u8 0, Value.int IntKind.u8 0, Value.int IntKind.u8 0, Value.int IntKind.u8 0, Value.int IntKind.u8 0, Value.int IntKind.u8 0, Value.int IntKind.u8 0, Value.int IntKind.u8 0, Value.int IntKind.u8 0, Value.int IntKind.u8 0, Value.int IntKind.u8 0, Value.int IntKind.u8 0, Value.int IntKind.u8 0, Value.int IntKind.u8 0, Value.int IntKind.u8 0] 26))
    rw [size_alloc] at hx
    have hnx : Below w.heap.size w ((w.alloc (.cells #[Value.int IntKind.u8 0, Value.int IntKind.u8 0, Value.int IntKind.u8 0, Value.int IntKind.u8 0, Value.int IntKind.u8 0, Value.int IntKind.u8 0, Value.int IntKind.u8 0, Value.int IntKind.u8 0, Value.int IntKind.u8 0, Value.int IntKind.u8 0, Value.int IntKind.u8 0, Value.int IntKind.u8 0, Value.int IntKind.u8 0, Value.int IntKind.u8 0, Value.int IntKind.u8 0, Value.int IntKind.u8 0, Value.int IntKind.u8 0, Value.int IntKind.u8 0, Value.int IntKind.u8 0, Value.int IntKind.u8 0, Value.int IntKind.u8 0, Value.int IntKind.u8 0, Value.int IntKind.u8 0, Value.int IntKind.u8 0, Value.int IntKind.u8 0, Value.int IntKind.u8 0, Value.int IntKind.u8 0, Value.int IntKind.u8 0, Value.int IntKind.u8 0, Value.int IntKind.u8 0, Value.int IntKind.u8 0, Value.int IntKind.u8 0] 26)).alloc (.cells H 44)) := ((Below.refl _ _).alloc (Nat.le_refl _) _).alloc (by simp) _
    exact ⟨rowC_alloc (rowC_new w (cells8 (List.replicate 32 0)) _) _, hx, LH.out.below hnx hw2, hnx, by simp⟩
  have HS0 := Lib.hid hs0
  have hp72 := padL_le all.length
  have hps := str_size (padL all.length)
  clear hs0
  have CF := fun w => filling_any all.length w (by omega)
  go_enter Tryd.func17, Tryd.ntmps17
  go_wp2_with (first
    | (go_at_call 21; ((with_reducible refine (none_no _ _ ?_).mono ?_); (exact cell_later (Below.alloc (Below.refl _ w) (Nat.le_refl _) _) hmd); rintro e w' ⟨rfl, rfl⟩))
    | (refine wpList_load_row rfl 44 _ rfl p rfl 44 _ (0, 0) _ h3a.out Tryd.underlying44 rfl HI.out ?_)
    | (refine wpList_store_last rfl 44 _ _ rfl (w.heap.size + 1) H rfl rfl 44 hzero (by simp) HI.out (by rw [HZ.out, hzero_size]) H1.out ?_)
    | (go_at_call 23; ((with_reducible refine (CF _).mono ?_); rintro e w1 ⟨rfl, hb1⟩))
    | (go_at_call 16; ((with_reducible refine (sha_write_any _ (w.heap.size + 1) all (str (padL all.length)) (HS0.out.below hb1 hw2).h (HS0.out.below hb1 hw2).l (by omega) (by omega)).mono ?_); rintro e w2 ⟨rfl, hh2, hg2⟩; obtain ⟨v, hv, hvs⟩ := hh2.sums; have Hv := Lib.hid hv; have Hvs := Lib.hid hvs; clear hv hvs))
    | (refine wpList_load_mid rfl 41 _ rfl (w.heap.size + 1) 1 rfl _ _ Hvs.out Tryd.underlying41 rfl (by rw [List.length_map, St.list_length]; kernel_rfl) ?_))
  have hDv : D = sha_digN v := by rw [HD.out, Hv.out, str_toList]; unfold hashL; rfl
  have hm := (HS0.out.below hb1 hw2).grown hg2 hh2 hw2
  have hrd : rowC w2 w.heap.size (cells8 (partL (sha_digN v) (fun p => decide (p < 4 * 0 + 0)))) 26 := by
    rw [partL_none _ _ (fun p _ => by simp)]
    exact hm.d
  have hnx := hm.nx
  have HDv := Lib.hid hDv
  clear hh2 hg2 hb1 hm hDv Hv Hvs HD CF
  have Hrd := Lib.hid hrd
  clear hrd
  go_loopw [21] (fun x wr => ∃ i : Nat, i ≤ 8 ∧ x = .int .i64 i ∧ rowC wr w.heap.size (cells8 (partL (sha_digN v) (fun p => decide (p < 4 * i + 0)))) 26 ∧ Below w.heap.size w wr) (fun x _ => 8 - (intOf x).toNat)
  case atStart => exact ⟨0, by omega, rfl, Hrd.out, hnx⟩
  case round =>
    clear hnx Hrd
    obtain ⟨i, hi, rfl, hr, hnx⟩ := hrel
    by_cases hlt8 : i < 8
    · have hix : ∀ w, (Instr.index 41 (.agg (v.list.map u32V).toArray) (.int .i64 (i : Int))).run Tryd.prog w = .ok (.int .u32 ((v.list.getD i 0 : Nat) : Int)) w :=
        run_index_arr (P := Tryd.prog) (t := 41) (e := 40) (cs := (v.list.map u32V).toArray) (k := .i64) Tryd.underlying41 (by kernel_rfl) (by kernel_rfl) hlt8 (cells32_get v.list i hlt8)
      have hdg := fun m (hm : m < 4) => digN_getD v hlt8 hm
      have HDG := Lib.hid hdg
      clear hdg
      generalize v.list.getD i 0 = x at hix HDG
      have Hr := Lib.hid hr
      clear hr
      go_wp2
      go_loopw [25] (fun y wr => ∃ j : Nat, j ≤ 4 ∧ y = .int .i64 j ∧ rowC wr w.heap.size (cells8 (partL (sha_digN v) (fun p => decide (p < 4 * i + j)))) 26 ∧ Below w.heap.size w wr) (fun y _ => 4 - (intOf y).toNat)
      case atStart => exact ⟨0, by omega, rfl, Hr.out, hnx⟩
      case round =>
        clear Hr hnx
        obtain ⟨j, hj, rfl, hr, hnx⟩ := hrel
        by_cases hlj : j < 4
        · obtain ⟨ob, hob⟩ : ∃ ob, wr.cell? ⟨w.heap.size, 4 * i + j, none⟩ = some ob := ⟨_, by rw [rowC_cell hr, cells8_get _ _ (by rw [partL_length]; omega)]⟩
          have hfz := rowC_free hr (4 * i + j)
          have hbb := Lib.hid (HDG.out j hlj)
          have hsb := Lib.hid (shift_byte x hlj)
          have hst := Lib.hid (partL_set (sha_digN v) (fun p => decide (p < 4 * i + j)) (fun p => decide (p < 4 * i + (j + 1))) (4 * i + j) (fun p _ => by
            rw [Bool.eq_iff_iff]; simp only [decide_eq_true_eq, Bool.or_eq_true, beq_iff_eq]; omega))
          have Hr := Lib.hid hr
          clear hr
          have eb : ((4 * i + j : Nat) : Int) < 32 := by omega
          go_wp2
          go_roundw
          case rel => exact ⟨j + 1, by omega, by go_num, by rw [hsb.out, ← hst.out, hbb.out, ← cells8_set]; exact rowC_set Hr.out _ _, hnx.setCell (p := ⟨w.heap.size, 4 * i + j, none⟩) (Nat.le_refl _) _⟩
          case measure => simp [intOf]; omega
        · obtain rfl : j = 4 := by omega
          have Hr := Lib.hid hr
          clear hr
          go_wp2
          go_roundw
          case rel => exact ⟨i + 1, by omega, by go_num, by rw [partL_same _ _ (fun p => decide (p < 4 * i + 4)) (fun p _ => by rw [Nat.add_zero, Nat.mul_add])]; exact Hr.out, hnx⟩
          case measure => simp [intOf]; omega
    · obtain rfl : i = 8 := by omega
      rw [partL_all _ _ (digN_length v) (fun p hp => by simp; omega), ← HDv.out] at hr
      have hsz : (cells8 D).size = 32 := by rw [cells8_size, HDv.out, digN_length]
      have h32 : (Tryd.prog.info? 26).map (·.size) = some (cells8 D).size := by rw [hsz]; kernel_rfl
      have H32 := Lib.hid h32
      clear hsz h32 HDv
      go_wp2_with (first | (refine wpList_load_row rfl 26 _ rfl w.heap.size rfl 26 _ (0, 0) _ hr Tryd.underlying26 rfl H32.out ?_) | (refine wpList_store_row rfl 26 _ _ rfl w.heap.size (cells8 D) rfl rfl 26 _ hr H32.out rfl (cells8_one _) ?_))
      exact bodyPost_ret (results_cell_row rfl _ _ w.heap.size 26 (cells8 D) (0, 0) _ rfl (setRow_heap _ _ _ _ _ _ hr) Tryd.underlying26 rfl H32.out) rfl ⟨rfl, below_setRow hnx (Nat.le_refl _) _⟩

end Go.Proofs.YtemnfnmkhfgopaaDoor
