/- Merged: DxE, DpA, DpC, OdF, OcS, OdG. -/
import Derived.Test.YtlknngplnimdpaaGreatDoorM04
import Derived.Test.YtlknngplnimdpaaGreatDoorShelf
import Derived.Lib.OthersKept
import Derived.Test.YtlknngplnimdpaaGreatDoorM02
import Derived.Test.YtlknngplnimdpaaGreatDoorOcR
import Derived.Test.YtlknngplnimdpaaGreatDoorJsF
import Derived.Test.YtlknngplnimdpaaGreatDoorM01
/- Layer 5, for whoever stands on it: a text's digest, as the document has it. (Out of DigB, DigE.) -/
namespace Go.Proofs.YtlknngplnimdpaaGreatDoor
open Go.RowKit


/-- Two digests in memory, the one behind the other. -/
structure TwoM (W w : World) (l m : List UInt8) : Prop where
  r0 : rowC w W.heap.size (cells8 l) 24
  r1 : rowC w (W.heap.size + 1) (cells8 m) 24
  nx : Below W.heap.size W w
theorem TwoM.start (w : World) (l m : List UInt8) : TwoM w ((w.alloc (.cells (cells8 l) 24)).alloc (.cells (cells8 m) 24)) l m := by
  have h2 := rowC_new (w.alloc (.cells (cells8 l) 24)) (cells8 m) 24
  simp only [size_alloc] at h2
  exact ⟨rowC_alloc (rowC_new w _ _) _, h2, ((Below.refl _ _).alloc (Nat.le_refl _) _).alloc (by simp) _⟩
theorem TwoM.drewN {W w : World} {l m : List UInt8} (h : TwoM W w l m) (n : Nat) : TwoM W (w.drewN n) l m := ⟨h.r0, h.r1, below_drewN h.nx n⟩
theorem cells8_at {w : World} {b : Nat} {l : List UInt8} {t : TypeId} (h : rowC w b (cells8 l) t) {k : Nat} (hk : k < l.length) : w.cell? ⟨b, k, none⟩ = some (.int .u8 ((l.getD k 0).toNat : Int)) := by
  rw [rowC_cell h, cells8_get l k hk]; rfl

theorem TwoM.set1 {W w : World} {l m : List UInt8} (h : TwoM W w l m) (i : Nat) (b : UInt8) : TwoM W (w.setCell ⟨W.heap.size + 1, i, none⟩ (byteV b)) l (m.set i b) := by
  refine ⟨rowC_other h.r0 _ _ (by simp), ?_, h.nx.setCell (p := ⟨W.heap.size + 1, i, none⟩) (by simp) _⟩
  rw [← cells8_set]
  exact rowC_set h.r1 i _
theorem TwoM.lt {W w : World} {l m : List UInt8} (h : TwoM W w l m) : W.heap.size + 2 ≤ w.heap.size := rowC_lt h.r1
theorem TwoM.below {W w w' : World} {l m : List UInt8} (h : TwoM W w l m) (hb : Below w.heap.size w w') : TwoM W w' l m := by
  have := h.lt
  exact ⟨rowC_below h.r0 hb (by omega), rowC_below h.r1 hb (by omega), h.nx.trans (hb.mono (by omega))⟩
theorem TwoM.row0 {W w : World} {l m : List UInt8} (h : TwoM W w l m) (y : List UInt8) : TwoM W (w.setRow W.heap.size (cells8 y)) y m :=
  ⟨rowC_setRow h.r0 _, rowC_setRow_other h.r1 _ _ (by omega), below_setRow h.nx (by omega) _⟩
theorem pair_val (a b : UInt8) : byteV (pairB a b) = .int .u8 (16 * (valN a : Int) + (valN b : Int)) := by
  unfold byteV; rw [pairB_toNat]; simp
theorem manyD_spec (S : List UInt8) : manyD S ≤ 32 ∧ (∀ k, k < manyD S → 8 + 2 * k < S.length) ∧ (manyD S = 32 ∨ S.length ≤ 8 + 2 * manyD S) := by
  unfold manyD
  refine ⟨by omega, fun k hk => by omega, by omega⟩
set_option maxRecDepth 100000 in
set_option maxHeartbeats 2000000 in
theorem rparse_any (S : List UInt8) (w : World) (hs : S.length ≤ 1000000) :
    Calls Tryz.prog 88 #[.string (str S)] w fun e w' => e = .returned (.tuple #[.agg (cells8 (digL S)), .int .i64 (errL S)]) ∧ Below w.heap.size w w' := by
  have szs := str_size S
  have IX := Lib.hid (fun i x hx h => idx_str (str S) i x hx h)
  rw [str_toList] at IX
  obtain ⟨m1, m2, m3⟩ := manyD_spec S
  have hQ := Lib.hid (ref_is S)
  have hD := Lib.hid (show isText S = true → refD S (manyD S) = digL S from refD_text)
  obtain ⟨N, hN⟩ : ∃ N, N = manyD S := ⟨_, rfl⟩
  rw [← hN] at m1 m2 m3 hQ hD
  have M2 := Lib.hid m2
  clear hN m2
  go_enter Tryz.func88, Tryz.ntmps88
  go_wp2
  go_loopw [5] (fun i wr => ∃ k : Nat, k ≤ N ∧ i = .int .i64 k ∧ TwoM w wr zero32 (refD S k)) (fun i _ => N - (intOf i).toNat)
  case atStart => exact ⟨0, by omega, rfl, by rw [refD_zero]; exact TwoM.start w zero32 zero32⟩
  case round =>
    obtain ⟨k, hk, rfl, hm⟩ := hrel
    have M := Lib.hid hm
    by_cases hlt : k < N
    · have hl8 := M2.out k hlt
      have k32 : k < 32 := by omega
      have g1 : (k : Int) < 32 := by omega
      have g2 : 7 + 2 * (k : Int) + 1 < (S.length : Int) := by omega
      have p0 : (0 : Int) ≤ k := by omega
      have hst := Lib.hid (refD_set S k32)
      have hpv := Lib.hid (pair_val (S.getD (7 + 2 * k) 0) (S.getD (8 + 2 * k) 0))
      have j1 := IX.out (7 + 2 * k) (7 + 2 * (k : Int)) (by omega) (by rw [szs]; omega)
      have j2 := IX.out (8 + 2 * k) (8 + 2 * (k : Int)) (by omega) (by rw [szs]; omega)
      obtain ⟨a, ha⟩ : ∃ a, a = S.getD (7 + 2 * k) 0 := ⟨_, rfl⟩
      obtain ⟨b, hb⟩ : ∃ b, b = S.getD (8 + 2 * k) 0 := ⟨_, rfl⟩
      rw [← ha] at hst hpv j1
      rw [← hb] at hst hpv j2
      clear ha hb
      have c1 : ∀ w, Calls Tryz.prog 124 #[.int .u8 (a.toNat : Int)] w fun e w'' => e = .returned (.int .u8 (valN a : Nat)) ∧ w'' = w := fun w => (value_any _ w).mono fun _ _ ⟨h1, h2⟩ => ⟨h1, h2.symm⟩
      have c2 : ∀ w, Calls Tryz.prog 124 #[.int .u8 (b.toNat : Int)] w fun e w'' => e = .returned (.int .u8 (valN b : Nat)) ∧ w'' = w := fun w => (value_any _ w).mono fun _ _ ⟨h1, h2⟩ => ⟨h1, h2.symm⟩
      have v1 := valN_lt a
      have v2 := valN_lt b
      generalize valN a = x1 at hpv c1 v1
      generalize valN b = x2 at hpv c2 v2
      have hc : ∃ ob, wr.cell? ⟨w.heap.size + 1, k, none⟩ = some ob := ⟨_, by rw [rowC_cell hm.r1, cells8_get _ _ (by rw [refD_length]; exact k32)]⟩
      obtain ⟨ob, hc⟩ := hc
      have hf := rowC_free hm.r1 k
      clear hm
      have w1 : IntKind.i64.wrap (2 * (k : Int)) = 2 * (k : Int) := IntWalk.i64_in _ (by omega)
      have w2 : IntKind.i64.wrap (7 + 2 * (k : Int)) = 7 + 2 * (k : Int) := IntWalk.i64_in _ (by omega)
      have w3 : IntKind.i64.wrap (8 + 2 * (k : Int)) = 8 + 2 * (k : Int) := IntWalk.i64_in _ (by omega)
      go_wp2
      refine wp_region_still_tail 16 (by kernel_rfl) (by kernel_rfl) ?_
      simp only [List.take_succ_cons, List.take_zero, List.drop_succ_cons, List.drop_zero]
      repeat still_step
      still_call (c1 _)
      repeat still_step
      still_call (c2 _)
      repeat still_step
      refine wpStill_nil ?_
      change wpList _ _ _ _ _ wr.drew
      have hc' : wr.drew.cell? ⟨w.heap.size + 1, k, none⟩ = some ob := hc
      have hf' : wr.drew.frozen? ⟨w.heap.size + 1, k, none⟩ = false := hf
      have M3 := Lib.hid (M.out.drewN 1)
      clear hc hf M j1 j2 c1 c2
      replace M3 : Hid (TwoM w wr.drew zero32 (refD S k)) := M3
      generalize wr.drew = wq at *
      go_wp2
      go_roundw
      case rel => exact ⟨k + 1, by omega, by go_num, by rw [← hst.out]; have := M3.out.set1 k (pairB a b); rw [hpv.out] at this; exact this⟩
      case measure => simp [intOf]; omega
    · obtain rfl : k = N := by omega
      obtain ⟨D, hDD⟩ : ∃ D, D = refD S k := ⟨_, rfl⟩
      rw [← hDD] at hm M hQ hD
      have hDl : D.length = 32 := by rw [hDD, refD_length]
      have CT := fun w => rtext_any D w hDl
      have HI := Lib.hid (info_digest hDl)
      have HO := Lib.hid (show (cells8 zero32).size = (cells8 D).size by rw [cells8_size, cells8_size, hDl]; rfl)
      have HZ := Lib.hid (info_digest (l := zero32) rfl)
      have hqq := eq_texts (textL D) S
      rw [hQ.out] at hqq
      have hr1 := Lib.hid hm.r1
      have hmlt := hm.lt
      clear hDD hDl hm hlt hk
      have hg : ((k : Int) < 32) = False ∨ (((k : Int) < 32) = True ∧ (7 + 2 * (k : Int) + 1 < (S.length : Int)) = False) := by
        simp only [eq_iff_iff, iff_false, iff_true]
        omega
      have p0 : (0 : Int) ≤ k := by omega
      have p1 : (k : Int) ≤ 32 := by omega
      clear m3 m1
      by_cases hT : isText S = true
      · have HD := Lib.hid (hD.out hT)
        have HE := Lib.hid (show errL S = 0 by unfold errL; rw [if_pos hT])
        rw [hT] at hqq
        clear hT hQ hD
        rcases hg with hg | ⟨hg, hg2⟩
        all_goals
          go_wp2_with (first
            | (refine wpList_load_row rfl 24 _ rfl (w.heap.size + 1) rfl 24 (cells8 D) (0, 0) _ hr1.out Tryz.underlying24 rfl HI.out ?_)
            | (go_at_call 65; ((with_reducible refine (CT _).mono ?_); rintro e w3 ⟨rfl, hb3⟩))
            | (refine wpList_load_row rfl 24 _ rfl (w.heap.size + 1) rfl 24 (cells8 D) (0, 0) _ (M.out.below hb3).r1 Tryz.underlying24 rfl HI.out ?_)
            | (refine wpList_store_row rfl 24 _ _ rfl w.heap.size (cells8 D) rfl rfl 24 _ (M.out.below hb3).r0 HI.out HO.out (cells8_one _) ?_))
          have M5 := (M.out.below hb3).row0 D
          exact bodyPost_ret (results_row_tmp rfl _ _ w.heap.size 24 (cells8 D) _ rfl M5.r0 Tryz.underlying24 rfl HI.out (.int .i64 0) rfl) rfl ⟨by rw [HE.out, ← HD.out], M5.nx⟩
      · have hT' : isText S = false := by simpa using hT
        have HD := Lib.hid (show digL S = zero32 by unfold digL; rw [if_neg hT])
        have HE := Lib.hid (show errL S = 10 by unfold errL; rw [if_neg hT])
        rw [hT'] at hqq
        clear hT hT' hQ hD
        rcases hg with hg | ⟨hg, hg2⟩
        all_goals
          go_wp2_with (first
            | (refine wpList_load_row rfl 24 _ rfl (w.heap.size + 1) rfl 24 (cells8 D) (0, 0) _ hr1.out Tryz.underlying24 rfl HI.out ?_)
            | (go_at_call 65; ((with_reducible refine (CT _).mono ?_); rintro e w3 ⟨rfl, hb3⟩))
            | (refine wpList_build_as rfl 24 _ rfl (cells8 zero32) (by kernel_rfl) ?_)
            | (refine wpList_store_row rfl 24 _ _ rfl w.heap.size (cells8 zero32) rfl rfl 24 _ (M.out.below hb3).r0 HZ.out rfl (cells8_one _) ?_))
          have M5 := (M.out.below hb3).row0 zero32
          exact bodyPost_ret (results_row_tmp rfl _ _ w.heap.size 24 (cells8 zero32) _ rfl M5.r0 Tryz.underlying24 rfl HZ.out (.int .i64 10) rfl) rfl ⟨by rw [HE.out, HD.out], M5.nx⟩
end Go.Proofs.YtlknngplnimdpaaGreatDoor

/- Layer 5, for whoever stands on it: a digit, as the program has it. (Out of DigA.) -/
namespace Go.Proofs.YtlknngplnimdpaaGreatDoor
open Go.RowKit

/-- What the program's digit is of a rune. -/
def valR (r : Nat) : Nat := if 48 ≤ r ∧ r ≤ 57 then r - 48 else if 97 ≤ r ∧ r ≤ 102 then r - 87 else 0
def isR (r : Nat) : Bool := decide (48 ≤ r ∧ r ≤ 57) || decide (97 ≤ r ∧ r ≤ 102)
theorem dret2 {a b : Int} {c d : Bool} (h : a = b) (h' : c = d) : Ending.returned (.tuple #[.int .u8 a, .bool c]) = .returned (.tuple #[.int .u8 b, .bool d]) := by rw [h, h']
set_option maxHeartbeats 400000 in
theorem valueOf_any (r : Nat) (w : World) (hr : r ≤ 2147483647) :
    Calls Tryz.prog 171 #[.int .i32 (r : Int)] w fun e w' => e = .returned (.tuple #[.int .u8 (valR r : Nat), .bool (isR r)]) ∧ w = w' := by
  by_cases h1 : 48 ≤ r ∧ r ≤ 57
  · have HV := Lib.hid (show ((valR r : Nat) : Int) = (r : Int) - 48 ∧ isR r = true by unfold valR isR; rw [if_pos h1, decide_eq_true h1]; exact ⟨by omega, rfl⟩)
    obtain ⟨a1, a2⟩ := h1
    have b1 : (48 : Int) ≤ r := by omega
    have b2 : (r : Int) ≤ 57 := by omega
    go_enter Tryz.func171, Tryz.ntmps171
    go_wp2
    go_ret2
    exact ⟨dret2 (by rw [HV.out.1]; try omega) HV.out.2.symm, rfl⟩
  · by_cases h2 : 97 ≤ r ∧ r ≤ 102
    · have HV := Lib.hid (show ((valR r : Nat) : Int) = (r : Int) - 97 + 10 ∧ isR r = true by unfold valR isR; rw [if_neg h1, if_pos h2, decide_eq_true h2]; exact ⟨by omega, by simp⟩)
      obtain ⟨a1, a2⟩ := h2
      have b1 : (97 : Int) ≤ r := by omega
      have b2 : (r : Int) ≤ 102 := by omega
      clear h1
      go_enter Tryz.func171, Tryz.ntmps171
      go_wp2
      go_ret2
      exact ⟨dret2 (by rw [HV.out.1]; try omega) HV.out.2.symm, rfl⟩
    · have HV := Lib.hid (show ((valR r : Nat) : Int) = 0 ∧ isR r = false by unfold valR isR; rw [if_neg h1, if_neg h2, decide_eq_false h1, decide_eq_false h2]; exact ⟨rfl, rfl⟩)
      have h3 : r < 48 ∨ (58 ≤ r ∧ r < 97) ∨ 103 ≤ r := by omega
      clear h1 h2
      rcases h3 with h3 | ⟨h3, h4⟩ | h3
      · have b1 : (r : Int) < 48 := by omega
        go_enter Tryz.func171, Tryz.ntmps171
        go_wp2
        go_ret2
        exact ⟨dret2 (by rw [HV.out.1]) HV.out.2.symm, rfl⟩
      · have b1 : (58 : Int) ≤ r := by omega
        have b2 : (r : Int) < 97 := by omega
        go_enter Tryz.func171, Tryz.ntmps171
        go_wp2
        go_ret2
        exact ⟨dret2 (by rw [HV.out.1]) HV.out.2.symm, rfl⟩
      · have b1 : (103 : Int) ≤ r := by omega
        go_enter Tryz.func171, Tryz.ntmps171
        go_wp2
        go_ret2
        exact ⟨dret2 (by rw [HV.out.1]) HV.out.2.symm, rfl⟩
end Go.Proofs.YtlknngplnimdpaaGreatDoor

/- Layer 5, for whoever stands on it: a text's digest, as the program has it. (Out of DigF.) -/
namespace Go.Proofs.YtlknngplnimdpaaGreatDoor
open Go.RowKit

/-- Are these a digest's digits? -/
def isDs (T : List UInt8) : Bool := decide (T.length = 64) && T.all isD
def dsL (T : List UInt8) : List UInt8 := if isDs T = true then readD T else zero32
def dsE (T : List UInt8) : Int := if isDs T = true then 0 else 10
theorem dsL_length (T : List UInt8) : (dsL T).length = 32 := by
  unfold dsL
  split
  · rename_i h
    unfold isDs at h
    simp only [Bool.and_eq_true, decide_eq_true_eq] at h
    exact readD_length 32 _ (by omega)
  · rfl
/-- The memory of its parsing: the answer to be, the row, and where the text stands. -/
structure PdM (W w : World) (T : List UInt8) (i : Nat) : Prop where
  m : TwoM W w zero32 (partD T i)
  it : w.heap[W.heap.size + 2]? = some (.stringIter (str T) i)
theorem PdM.start (W : World) (T : List UInt8) : PdM W ((((W.alloc (.cells (cells8 zero32) 24)).alloc (.cells (cells8 zero32) 24))).iter (str T) 0) T 0 := by
  have h0 := TwoM.start W zero32 zero32
  have h1 := World.iter_heap ((W.alloc (.cells (cells8 zero32) 24)).alloc (.cells (cells8 zero32) 24)) (str T) 0
  simp only [size_alloc] at h1
  refine ⟨?_, h1⟩
  rw [partD_zero]
  exact h0.below ((Below.refl _ _).alloc (Nat.le_refl _) _)
theorem PdM.iterAt {W w : World} {T : List UInt8} {i : Nat} (h : PdM W w T i) (j : Nat) : TwoM W (w.iterAt (W.heap.size + 2) (str T) j) zero32 (partD T i) ∧ (w.iterAt (W.heap.size + 2) (str T) j).heap[W.heap.size + 2]? = some (.stringIter (str T) j) :=
  ⟨⟨(Lib.iterAt_other w _ _ (str T) j (by omega)).trans h.m.r0, (Lib.iterAt_other w _ _ (str T) j (by omega)).trans h.m.r1, Lib.below_iterAt h.m.nx (by omega) (str T) j⟩, Lib.iterAt_heap w _ (str T) i j h.it⟩
theorem PdM.put {W w : World} {T : List UInt8} {k : Nat} (h : TwoM W w zero32 (partD T k)) (hi : w.heap[W.heap.size + 2]? = some (.stringIter (str T) (k + 1))) (hk : k < 64) :
    PdM W (w.setCell ⟨W.heap.size + 1, k / 2, none⟩ (byteV (UInt8.ofNat (((partD T k).getD (k / 2) 0).toNat * 16 % 256 ||| valN (T.getD k 0))))) T (k + 1) := by
  refine ⟨?_, ?_⟩
  · rw [← partD_set T hk]
    exact h.set1 _ _
  · rw [heap_setCell_other w ⟨W.heap.size + 1, k / 2, none⟩ _ _ (by simp)]
    exact hi
theorem valR_isD {c : UInt8} : valR c.toNat = valN c ∧ isR c.toNat = isD c := ⟨rfl, rfl⟩
theorem isR_high {r : Nat} (h : 128 ≤ r) : isR r = false ∧ valR r = 0 := by
  unfold isR valR
  rw [if_neg (by omega), if_neg (by omega), decide_eq_false (by omega), decide_eq_false (by omega)]
  exact ⟨rfl, rfl⟩
theorem isD_low {c : UInt8} (h : isD c = true) : c.toNat < 128 := by
  unfold isD at h
  simp only [Bool.or_eq_true, decide_eq_true_eq] at h
  omega
theorem or_val {x v : Nat} (hv : v < 16) : bits BinOp.or IntKind.u8 ((x : Int) * 16 % 256) (v : Int) = ((x * 16 % 256 ||| v : Nat) : Int) := by
  have := u8_or_nat (x * 16 % 256) v (by omega) (by omega)
  rw [← this]
  congr 1
theorem or_byte {x v : Nat} (hv : v < 16) : byteV (UInt8.ofNat (x * 16 % 256 ||| v)) = .int .u8 ((x * 16 % 256 ||| v : Nat) : Int) := by
  rw [byteV_ofNat, shl_or hv]
  congr 1
  omega
/-- What the next rune of a text is, where it is no digit. -/
theorem next_bad (T : List UInt8) (k : Nat) (hk : k < T.length) (hd : isD (T.getD k 0) = false) :
    ∃ r n : Nat, Utf8.decode (str T) k = (r, n) ∧ r ≤ 2147483647 ∧ isR r = false ∧ valR r = 0 := by
  have hs : k < (str T).size := by rw [str_size]; exact hk
  have hc : (str T)[k] = T.getD k 0 := by
    rw [List.getD_eq_getElem?_getD, List.getElem?_eq_getElem hk]; rfl
  refine ⟨(Utf8.decode (str T) k).1, (Utf8.decode (str T) k).2, rfl, decode_le _ _, ?_⟩
  by_cases h : (T.getD k 0).toNat < 128
  · rw [decode_ascii (str T) k hs (by rw [hc]; exact h), hc]
    refine ⟨hd, ?_⟩
    exact valN_none hd
  · exact isR_high (decode_high (str T) k hs (by rw [hc]; omega)).1
set_option maxRecDepth 100000 in
set_option maxHeartbeats 2000000 in
theorem parseDigits_any (T : List UInt8) (w : World) :
    Calls Tryz.prog 150 #[.string (str T)] w fun e w' => e = .returned (.tuple #[.agg (cells8 (dsL T)), .int .i64 (dsE T)]) ∧ Below w.heap.size w w' := by
  have szs := str_size T
  have M0 := Lib.hid (TwoM.start w zero32 zero32)
  have HZ := Lib.hid (info_digest (l := zero32) rfl)
  by_cases hl : T.length = 64
  · have M1 := Lib.hid (PdM.start w T)
    have HL := Lib.hid hl
    rw [hl] at szs
    clear hl M0
    go_enter Tryz.func150, Tryz.ntmps150
    go_wp2
    go_loopw [5] (fun _ wr => ∃ k : Nat, k ≤ 64 ∧ PdM w wr T k ∧ ∀ j, j < k → isD (T.getD j 0) = true) (fun _ wr => 64 - wr.iterPos (w.heap.size + 2))
    case atStart => exact ⟨0, by omega, M1.out, fun j hj => by omega⟩
    case round =>
      obtain ⟨k, hk, hm, hj⟩ := hrel
      have HJ := Lib.hid hj
      have hpos : wr.iterPos (w.heap.size + 2) = k := by unfold World.iterPos; rw [hm.it]
      have HP := Lib.hid hpos
      clear hj hpos
      by_cases hlt : k < 64
      · obtain ⟨c, hc⟩ : ∃ c, c = T.getD k 0 := ⟨_, rfl⟩
        have h64 : k < T.length := by rw [HL.out]; exact hlt
        have hcs : (str T)[k]'(by rw [str_size]; exact h64) = c := by
          rw [hc, List.getD_eq_getElem?_getD, List.getElem?_eq_getElem h64]; rfl
        by_cases hd : isD c = true
        · obtain ⟨i1, i2⟩ := hm.iterAt (k + 1)
          have hnx := fun ty => Lib.run_next_ascii_at (P := Tryz.prog) wr _ _ _ ty hm.it (by rw [str_size]; exact h64) (by rw [hcs]; exact isD_low hd)
          rw [hcs] at hnx
          have HF := Lib.hid (PdM.put i1 i2 hlt)
          rw [← hc] at HF
          obtain ⟨x, hx⟩ : ∃ x, x = ((partD T k).getD (k / 2) 0).toNat := ⟨_, rfl⟩
          have c1 := cells8_at i1.r1 (k := k / 2) (by rw [partD_length]; omega)
          have f1 := rowC_free i1.r1 (k / 2)
          have hx2 : x < 256 := by rw [hx]; exact UInt8.toNat_lt _
          rw [← hx] at c1 HF
          have hv := valN_lt c
          have ov := or_val (x := x) hv
          have HB := Lib.hid (or_byte (x := x) hv)
          have CV := fun w => valueOf_any c.toNat w (by have := c.toNat_lt; omega)
          rw [valR_isD.1, valR_isD.2, hd] at CV
          have HD := Lib.hid (show isD (T.getD k 0) = true by rw [← hc]; exact hd)
          generalize valN c = v at hv ov HB CV HF
          clear hd hcs hc i1 i2 hm hx
          generalize wr.iterAt (w.heap.size + 2) (str T) (k + 1) = wq at *
          have k0 : (0 : Int) ≤ k := by omega
          have k1 : (k : Int) / 2 < 32 := by omega
          have k2 : ((k : Int) / 2).toNat = k / 2 := by omega
          go_wp2_with (go_at_call 171; ((with_reducible refine (CV _).mono ?_); rintro e w' ⟨rfl, rfl⟩))
          have hput := HF.out
          rw [HB.out] at hput
          have hp2 : (wq.setCell ⟨w.heap.size + 1, k / 2, none⟩ (.int .u8 ((x * 16 % 256 ||| v : Nat) : Int))).iterPos (w.heap.size + 2) = k + 1 := by unfold World.iterPos; rw [hput.it]
          go_roundw
          case rel => exact ⟨k + 1, by omega, hput, fun j hj => by
            by_cases hjk : j = k
            · subst hjk; exact HD.out
            · exact HJ.out j (by omega)⟩
          case measure => rw [hp2, HP.out]; omega
        · have hd' : isD c = false := by simpa using hd
          obtain ⟨r, n, hr1, hr2, hr3, hr4⟩ := next_bad T k h64 (by rw [← hc]; exact hd')
          obtain ⟨i1, i2⟩ := hm.iterAt (k + n)
          have hnx := fun ty => Lib.run_next_any_at (P := Tryz.prog) wr _ _ _ ty hm.it (by rw [str_size]; exact h64)
          rw [hr1] at hnx
          have CV := fun w => valueOf_any r w hr2
          rw [hr3, hr4] at CV
          have HD := Lib.hid (show dsL T = zero32 ∧ dsE T = 10 by
            have e : isDs T = false := by
              unfold isDs
              rw [Bool.and_eq_false_iff]
              refine .inr (List.all_eq_false.2 ⟨c, ?_, by rw [hd']; decide⟩)
              rw [hc, List.getD_eq_getElem?_getD, List.getElem?_eq_getElem h64]
              exact List.getElem_mem _
            unfold dsL dsE
            rw [e]; exact ⟨rfl, rfl⟩)
          have I1 := Lib.hid i1
          have HR := Lib.hid (show (cells8 zero32).size = (cells8 zero32).size from rfl)
          clear hd hd' hcs hc i1 i2 hm hr1 hr3 hr4
          dsimp only at hnx
          generalize wr.iterAt (w.heap.size + 2) (str T) (k + n) = wq at *
          go_wp2_with (first
            | (go_at_call 171; ((with_reducible refine (CV _).mono ?_); rintro e w' ⟨rfl, rfl⟩))
            | (refine wpList_build_as rfl 24 _ rfl (cells8 zero32) (by kernel_rfl) ?_)
            | (refine wpList_store_row rfl 24 _ _ rfl w.heap.size (cells8 zero32) rfl rfl 24 (cells8 zero32) I1.out.r0 HZ.out rfl (cells8_one _) ?_))
          have M5 := I1.out.row0 zero32
          exact bodyPost_ret (results_row_tmp rfl _ _ w.heap.size 24 (cells8 zero32) _ rfl M5.r0 Tryz.underlying24 rfl HZ.out (.int .i64 10) rfl) rfl ⟨by rw [HD.out.1, HD.out.2], M5.nx⟩
      · obtain rfl : k = 64 := by omega
        have hnx := fun ty => Lib.run_next_end_at (P := Tryz.prog) wr _ _ _ ty hm.it (by rw [szs]; omega)
        have HD := Lib.hid (show dsL T = readD T ∧ dsE T = 0 by
          have e : isDs T = true := by
            unfold isDs
            rw [HL.out, Bool.and_eq_true, decide_eq_true_eq, List.all_eq_true]
            refine ⟨rfl, fun c hc => ?_⟩
            obtain ⟨j, hj, rfl⟩ := List.mem_iff_getElem.1 hc
            have := HJ.out j (by rw [HL.out] at hj; exact hj)
            rwa [List.getD_eq_getElem?_getD, List.getElem?_eq_getElem hj] at this
          unfold dsL dsE
          rw [e]; exact ⟨rfl, rfl⟩)
        have hmm := hm.m
        rw [partD_all HL.out] at hmm
        obtain ⟨D, hDD⟩ : ∃ D, D = readD T := ⟨_, rfl⟩
        have hDl : D.length = 32 := by rw [hDD]; exact readD_length 32 _ (by rw [HL.out])
        rw [← hDD] at hmm HD
        have HI := Lib.hid (info_digest hDl)
        have HO := Lib.hid (show (cells8 zero32).size = (cells8 D).size by rw [cells8_size, cells8_size, hDl]; rfl)
        have M := Lib.hid hmm
        clear hmm hm hDD hDl hlt hk
        go_wp2_with (first
          | (refine wpList_load_row rfl 24 _ rfl (w.heap.size + 1) rfl 24 (cells8 D) (0, 0) _ M.out.r1 Tryz.underlying24 rfl HI.out ?_)
          | (refine wpList_store_row rfl 24 _ _ rfl w.heap.size (cells8 D) rfl rfl 24 (cells8 zero32) M.out.r0 HI.out HO.out (cells8_one _) ?_))
        have M5 := M.out.row0 D
        exact bodyPost_ret (results_row_tmp rfl _ _ w.heap.size 24 (cells8 D) _ rfl M5.r0 Tryz.underlying24 rfl HI.out (.int .i64 0) rfl) rfl ⟨by rw [HD.out.1, HD.out.2], M5.nx⟩
  · have HD := Lib.hid (show dsL T = zero32 ∧ dsE T = 10 by
      have e : isDs T = false := by unfold isDs; rw [decide_eq_false hl]; rfl
      unfold dsL dsE
      rw [e]; exact ⟨rfl, rfl⟩)
    have hl' : ((T.length : Int) != 64) = true := by simp; omega
    have hl2 : ((T.length : Int) == 64) = false := by simp; omega
    clear hl
    go_enter Tryz.func150, Tryz.ntmps150
    go_wp2_with (first
      | (refine wpList_build_as rfl 24 _ rfl (cells8 zero32) (by kernel_rfl) ?_)
      | (refine wpList_store_row rfl 24 _ _ rfl w.heap.size (cells8 zero32) rfl rfl 24 (cells8 zero32) M0.out.r0 HZ.out rfl (cells8_one _) ?_))
    have M5 := M0.out.row0 zero32
    exact bodyPost_ret (results_row_tmp rfl _ _ w.heap.size 24 (cells8 zero32) _ rfl M5.r0 Tryz.underlying24 rfl HZ.out (.int .i64 10) rfl) rfl ⟨by rw [HD.out.1, HD.out.2], M5.nx⟩
theorem prefix_take (S : List UInt8) : Lib.hasPrefix S nameL = decide (S.take 7 = nameL) := by
  unfold Lib.hasPrefix
  rw [Bool.eq_iff_iff, decide_eq_true_eq, List.isPrefixOf_iff_prefix]
  constructor
  · rintro ⟨t, rfl⟩; rfl
  · intro h; rw [← h]; exact List.take_prefix 7 S
theorem isText_parts {S : List UInt8} (h : S.take 7 = nameL) : isText S = isDs (S.drop 7) := by
  have hl : 7 ≤ S.length := by
    have := congrArg List.length h
    rw [List.length_take] at this
    have e : nameL.length = 7 := rfl
    omega
  unfold isText isDs
  rw [decide_eq_true h, Bool.true_and, List.length_drop]
  congr 1
  rw [decide_eq_decide]
  omega
set_option maxRecDepth 100000 in
set_option maxHeartbeats 1000000 in
theorem parse_any (S : List UInt8) (w : World) :
    Calls Tryz.prog 115 #[.string (str S)] w fun e w' => e = .returned (.tuple #[.agg (cells8 (digL S)), .int .i64 (errL S)]) ∧ Below w.heap.size w w' := by
  have HZ := Lib.hid (info_digest (l := zero32) rfl)
  have CP := fun w => Tryz.strings_CutPrefix (str S) ⟨#[115, 104, 97, 50, 53, 54, 58]⟩ w
  have ep : Lib.hasPrefix (str S).data.toList (ByteArray.mk #[115, 104, 97, 50, 53, 54, 58]).data.toList = decide (S.take 7 = nameL) := prefix_take S
  unfold Lib.trimPrefix at CP
  rw [ep] at CP
  clear ep
  have R0 := Lib.hid (rowC_new w (cells8 zero32) 24)
  by_cases h : S.take 7 = nameL
  · have HE := Lib.hid (isText_parts h)
    rw [decide_eq_true h] at CP
    rw [if_pos rfl] at CP
    have e2 : (⟨((str S).data.toList.drop (ByteArray.mk #[115, 104, 97, 50, 53, 54, 58]).data.toList.length).toArray⟩ : ByteArray) = str (S.drop 7) := rfl
    rw [e2] at CP
    have CD := fun w => parseDigits_any (S.drop 7) w
    have HR := Lib.hid (show digL S = dsL (S.drop 7) ∧ errL S = dsE (S.drop 7) by
      unfold digL errL dsL dsE
      rw [HE.out]; exact ⟨rfl, rfl⟩)
    obtain ⟨D, hD⟩ : ∃ D, D = dsL (S.drop 7) := ⟨_, rfl⟩
    have hDl : D.length = 32 := by rw [hD]; exact dsL_length _
    rw [← hD] at HR CD
    have HI := Lib.hid (info_digest hDl)
    have HO := Lib.hid (show (cells8 zero32).size = (cells8 D).size by rw [cells8_size, cells8_size, hDl]; rfl)
    obtain ⟨E, hE⟩ : ∃ E, E = dsE (S.drop 7) := ⟨_, rfl⟩
    rw [← hE] at HR CD
    clear h e2 hD hDl hE
    go_enter Tryz.func115, Tryz.ntmps115
    go_wp2_with (first
      | (go_at_call 149; ((with_reducible refine (CP _).mono ?_); rintro e w1 ⟨rfl, rfl⟩))
      | (go_at_call 150; ((with_reducible refine (CD _).mono ?_); rintro e w3 ⟨rfl, hb3⟩))
      | (refine wpList_store_row rfl 24 _ _ rfl w.heap.size (cells8 D) rfl rfl 24 (cells8 zero32) (rowC_below R0.out hb3 (by simp)) HI.out HO.out (cells8_one _) ?_))
    have M5 := rowC_setRow (rowC_below R0.out hb3 (by simp)) (cells8 D)
    exact bodyPost_ret (results_row_tmp rfl _ _ w.heap.size 24 (cells8 D) _ rfl M5 Tryz.underlying24 rfl HI.out (.int .i64 E) rfl) rfl ⟨by rw [HR.out.1, HR.out.2], below_setRow (((Below.refl _ _).alloc (Nat.le_refl _) _).trans (hb3.mono (by simp))) (Nat.le_refl _) _⟩
  · have HR := Lib.hid (show digL S = zero32 ∧ errL S = 10 by
      have e : isText S = false := by unfold isText; rw [decide_eq_false h]; rfl
      unfold digL errL
      rw [e]; exact ⟨rfl, rfl⟩)
    rw [decide_eq_false h] at CP
    rw [if_neg (by decide)] at CP
    clear h
    go_enter Tryz.func115, Tryz.ntmps115
    go_wp2_with (first
      | (go_at_call 149; ((with_reducible refine (CP _).mono ?_); rintro e w1 ⟨rfl, rfl⟩))
      | (refine wpList_build_as rfl 24 _ rfl (cells8 zero32) (by kernel_rfl) ?_)
      | (refine wpList_store_row rfl 24 _ _ rfl w.heap.size (cells8 zero32) rfl rfl 24 (cells8 zero32) R0.out HZ.out rfl (cells8_one _) ?_))
    have M5 := rowC_setRow R0.out (cells8 zero32)
    exact bodyPost_ret (results_row_tmp rfl _ _ w.heap.size 24 (cells8 zero32) _ rfl M5 Tryz.underlying24 rfl HZ.out (.int .i64 10) rfl) rfl ⟨by rw [HR.out.1, HR.out.2], below_setRow ((Below.refl _ _).alloc (Nat.le_refl _) _) (Nat.le_refl _) _⟩
end Go.Proofs.YtlknngplnimdpaaGreatDoor

/- Layer 13: what a function that reads a value answers. -/
namespace Go.Proofs.YtlknngplnimdpaaGreatDoor
open Go.RowKit

/-- How values of a type lie in memory. -/
structure En (α : Type) where
  at_ : World → (Nat → Prop) → α → Value → Prop
  zero : α
  chg : ∀ {s F : Nat → Prop} {w w' : World} {a : α} {t : Value}, at_ w F a t → Chg s w w' → (∀ k, F k → ¬ s k) → at_ w' F a t
  mono : ∀ {F G : Nat → Prop} {w : World} {a : α} {t : Value}, at_ w F a t → (∀ k, F k → k < w.heap.size → G k) → at_ w G a t
/-- Values that are all in their cells. -/
def En.plain {α : Type} (enc : α → Value) (good : α → Prop) (z : α) : En α :=
  ⟨fun _ _ a t => t = enc a ∧ good a, z, fun h _ _ => h, fun h _ => h⟩
def encP (p : Bs × Bs) : Array Value := #[.string (str p.1), .string (str p.2)]
def encD (d : DV) : Array Value := #[.string (str d.media)] ++ cells8 d.dig ++ #[.int .i64 d.size, .string (str d.os), .string (str d.arch)]
def eInt : En Int := En.plain (fun n => .int .i64 n) (fun _ => True) 0
def eTxt : En Bs := En.plain (fun s => .string (str s)) (fun s => s.length ≤ 281474976710656) []
def eDig : En Bs := En.plain (fun d => .agg (cells8 d)) (fun d => d.length = 32) zero32
def ePla : En (Bs × Bs) := En.plain (fun p => .agg (encP p)) (fun p => p.1.length ≤ 281474976710656 ∧ p.2.length ≤ 281474976710656) ([], [])
def goodD (d : DV) : Prop := d.dig.length = 32 ∧ d.media.length ≤ 281474976710656 ∧ d.os.length ≤ 281474976710656 ∧ d.arch.length ≤ 281474976710656
def zeroD : DV := ⟨[], zero32, 0, [], []⟩
def eDes : En DV := En.plain (fun d => .agg (encD d)) goodD zeroD
/-- What a reading answers. -/
def ReadP {α : Type} (E : En α) (w : World) (o : Option α) (e : Ending) (w' : World) : Prop :=
  ∃ a t ok, e = .returned (.tuple #[t, .bool ok]) ∧ E.at_ w' (fun k => w.heap.size ≤ k ∧ k < w'.heap.size) a t ∧ (o = some a ∧ ok = true ∨ o = none ∧ ok = false) ∧ Below w.heap.size w w'
/-- A value may be read: it is no longer, and no deeper, than memory takes. -/
def okR (v : JV) : Prop := okJ v ∧ hgJ v ≤ 65536
theorem getL_mem : ∀ {ks : List Bs} {xs : List JV} {key : Bs} {x : JV}, getL ks xs key = some x → x ∈ xs
  | [], _, _, _, h => by simp [getL] at h
  | _ :: _, [], _, _, h => by simp [getL] at h
  | k :: ks, y :: xs, key, x, h => by
    rw [getL] at h
    by_cases e : k = key
    · rw [if_pos e] at h
      injection h with h
      rw [h]
      simp
    · rw [if_neg e] at h
      exact List.mem_cons_of_mem _ (getL_mem h)
theorem okR.get {v x : JV} {key : Bs} (h : okR v) (hx : getV v key = some x) : okR x := by
  obtain ⟨k, t, items, keys⟩ := v
  unfold getV at hx
  split at hx
  · have hm : x ∈ items := getL_mem hx
    have h1 := h.1
    have h2 : hgL items ≤ 65536 := h.2
    rw [okJ] at h1
    have := hgL_mem hm
    exact ⟨okJL_mem h1.2.2 x hm, by omega⟩
  · cases hx
theorem okR.item {k : Int} {t : Bs} {items : List JV} {keys : List Bs} (h : okR (.mk k t items keys)) {x : JV} (hm : x ∈ items) : okR x := by
  have h1 := h.1
  have h2 : hgL items ≤ 65536 := h.2
  rw [okJ] at h1
  have := hgL_mem hm
  exact ⟨okJL_mem h1.2.2 x hm, by omega⟩
/-- A function that reads a value. -/
structure RdF {α : Type} (E : En α) (f : JV → Option α) (fn : FuncId) (lb : Array Value) (inv : World → Prop) : Prop where
  enter : ∀ args w1, (callFunc fn args).run Tryz.prog w1 = .ok (.enter fn args) w1
  stay : ∀ w w', inv w → Below w.heap.size w w' → inv w'
  call : ∀ (x : JV) (w : World) (y : Option Addr) (m : Nat) (z : Option Addr) (n : Nat), okR x → Env2 w → inv w → HoldsC w (fun k => k < w.heap.size) x (.int .i64 x.kind) (.string (str x.text)) (.slice y x.items.length m) (.slice z x.keys.length n) →
    Calls Tryz.prog fn (#[.agg #[.int .i64 x.kind, .string (str x.text), .slice y x.items.length m, .slice z x.keys.length n]] ++ lb) w fun e w' => ReadP E w (f x) e w'
theorem ReadP.out {α : Type} {E : En α} {w w0 : World} {o : Option α} {e : Ending} {w' : World} (h : ReadP E w o e w') (hb : Below w0.heap.size w0 w) (hs : w0.heap.size ≤ w.heap.size) : ReadP E w0 o e w' := by
  obtain ⟨a, t, ok, h1, h2, h3, h4⟩ := h
  exact ⟨a, t, ok, h1, E.mono h2 (fun k hk hlt => ⟨Nat.le_trans hs hk.1, hlt⟩), h3, hb.trans (h4.mono hs)⟩
/-- json.Int reads. -/
theorem enter_int (args : Array Value) (w : World) : (callFunc 74 args).run Tryz.prog w = .ok (.enter 74 args) w := by kernel_rfl
theorem enter_text (args : Array Value) (w : World) : (callFunc 81 args).run Tryz.prog w = .ok (.enter 81 args) w := by kernel_rfl
theorem rd_int : RdF eInt intV 74 #[] (fun _ => True) where
  enter := enter_int
  stay := fun _ _ _ _ => trivial
  call := fun x w y m z n ho hE _ _ => by
    refine (int_any x y x.items.length m z x.keys.length n (fun h3 => ?_) w hE).mono ?_
    · obtain ⟨k, t, items, keys⟩ := x
      have h1 := ho.1
      rw [okJ] at h1
      exact h1.1 h3
    · rintro e w' ⟨rfl, hb⟩
      cases h : intV x with
      | some n => exact ⟨n, _, true, rfl, ⟨rfl, trivial⟩, .inl ⟨rfl, rfl⟩, hb⟩
      | none => exact ⟨0, _, false, rfl, ⟨rfl, trivial⟩, .inr ⟨rfl, rfl⟩, hb⟩
theorem rd_text : RdF eTxt textV 81 #[] (fun _ => True) where
  enter := enter_text
  stay := fun _ _ _ _ => trivial
  call := fun x w y m z n _ _ _ hH => by
    have hl : x.text.length ≤ 281474976710656 := by
      obtain ⟨k, t, items, keys⟩ := x
      exact hH.opens.2.2.1
    refine (jtext_any x y x.items.length m z x.keys.length n w).mono ?_
    rintro e w' ⟨rfl, hb⟩
    unfold textV
    split
    · exact ⟨x.text, _, true, rfl, ⟨rfl, hl⟩, .inl ⟨rfl, rfl⟩, hb⟩
    · exact ⟨[], _, false, rfl, ⟨rfl, by simp⟩, .inr ⟨rfl, rfl⟩, hb⟩
end Go.Proofs.YtlknngplnimdpaaGreatDoor

/- Layer 13, plain: what is parsed may be read. -/
namespace Go.Proofs.YtlknngplnimdpaaGreatDoor
open Go.RowKit

mutual
theorem hg_deep : ∀ v : JV, may v → hgJ v ≤ deep v
  | .mk k t items keys, hm => by
    rw [hgJ, deep]
    by_cases h : k = 5 ∨ k = 6
    · rw [if_pos h]
      exact hg_deepL items (by rw [may] at hm; exact hm.1)
    · rw [if_neg h]
      rw [may] at hm
      rcases hm.2 with ⟨_, _, c, _⟩ | ⟨_, _, c, _⟩ | ⟨_, _, c, _⟩ | ⟨a, _⟩ | ⟨a, _⟩
      · subst c; rw [hgL]; omega
      · subst c; rw [hgL]; omega
      · subst c; rw [hgL]; omega
      · exact absurd (.inl a) h
      · exact absurd (.inr a) h
theorem hg_deepL : ∀ l : List JV, mayL l → hgL l ≤ deepL l + 1
  | [], _ => by rw [hgL]; omega
  | x :: l, hm => by
    rw [mayL] at hm
    have h1 := hg_deep x hm.1
    have h2 := hg_deepL l hm.2
    rw [hgL, deepL]
    omega
end
theorem okR_all {n : Nat} {l : Bs} {v : JV} {r : Bs} (hl : l.length ≤ 65536) (h : allP n l = some (.ok v r)) : okR v := by
  obtain ⟨h1, h2⟩ := all_ok h
  have := hg_deep v h1
  exact ⟨all_good hl h, by omega⟩
end Go.Proofs.YtlknngplnimdpaaGreatDoor

/- Layer 13: a part of an object, as it is read. -/
namespace Go.Proofs.YtlknngplnimdpaaGreatDoor
open Go.RowKit

/-- Rows of n cells, one behind the other. -/
def RowsE {α : Type} (enc : α → Array Value) (n : Nat) (good : α → Prop) (w : World) (F : Nat → Prop) (l : List α) (t : Value) : Prop :=
  (t = .slice none 0 0 ∧ l = []) ∨ ∃ (ad : Addr) (cap : Nat), t = .slice (some ad) l.length cap ∧ ∀ i d, l[i]? = some d → F ad.block ∧ good d ∧ ∀ j u, (enc d).toList[j]? = some u → w.cell? (ad.add (n * i + j)) = some u
def En.rows {α : Type} (enc : α → Array Value) (n : Nat) (good : α → Prop) (hn : ∀ d, good d → 0 < (enc d).size) : En (List α) where
  at_ := RowsE enc n good
  zero := []
  chg := fun {s F w w' l t} h hc hs => by
    rcases h with h | ⟨ad, cap, h1, h2⟩
    · exact .inl h
    · exact .inr ⟨ad, cap, h1, fun i d hi => ⟨(h2 i d hi).1, (h2 i d hi).2.1, fun j u hu => cell_chg hc ((h2 i d hi).2.2 j u hu) (by rw [add_block]; exact hs _ (h2 i d hi).1)⟩⟩
  mono := fun {F G w l t} h hs => by
    rcases h with h | ⟨ad, cap, h1, h2⟩
    · exact .inl h
    · refine .inr ⟨ad, cap, h1, fun i d hi => ⟨hs _ (h2 i d hi).1 ?_, (h2 i d hi).2⟩⟩
      have h0 := hn d (h2 i d hi).2.1
      have := World.block_lt_of_cell? w _ ((h2 i d hi).2.2 0 _ (by rw [Array.getElem?_toList]; exact Array.getElem?_eq_getElem h0))
      rwa [add_block] at this
theorem encD_size (d : DV) (h : goodD d) : (encD d).size = 36 := by
  unfold encD
  rw [Array.size_append, Array.size_append, cells8_size, h.1]
  rfl
theorem encD_one (d : DV) : (encD d).all (·.oneCell') = true := by
  unfold encD
  rw [Array.all_append, Array.all_append, cells8_one]
  simp [Value.oneCell']
theorem encP_one (p : Bs × Bs) : (encP p).all (·.oneCell') = true := by
  unfold encP
  simp [Value.oneCell']
def eDess : En (List DV) := En.rows encD 36 goodD (fun d h => by rw [encD_size d h]; decide)
def eDigs : En (List Bs) := En.rows cells8 32 (fun d => d.length = 32) (fun d h => by rw [cells8_size, h]; decide)
theorem info_D : (Tryz.prog.info? 28).map (·.size) = some 36 := by kernel_rfl
theorem info_P : (Tryz.prog.info? 26).map (·.size) = some 2 := by kernel_rfl
theorem info_G : (Tryz.prog.info? 24).map (·.size) = some 32 := by kernel_rfl
theorem partV_some {α : Type} {v x : JV} {key : Bs} {f : JV → Option α} (h : getV v key = some x) : partV v key f = f x := by unfold partV; rw [h]; rfl
theorem partV_none {α : Type} {v : JV} {key : Bs} {f : JV → Option α} (h : getV v key = none) : partV v key f = none := by unfold partV; rw [h]; rfl
set_option maxRecDepth 100000 in
set_option maxHeartbeats 8000000 in
theorem part_int {f : JV → Option (Int)} {fn : FuncId} {lb : Array Value} {inv : World → Prop} (R : RdF eInt f fn lb inv) {v : JV} (ho : okR v) (key : Bs) {w : World} {a b c d : Value} (hE : Env2 w) (hi : inv w) (hH : HoldsC w (fun k => k < w.heap.size) v a b c d) :
    Calls Tryz.prog 73 #[.agg #[a, b, c, d], .string (str key), .func (.func fn) #[] lb] w fun e w' => ReadP eInt w (partV v key f) e w' := by
  obtain ⟨rfl, rfl, ⟨x1, c1, rfl⟩, x2, c2, rfl⟩ := hH.form
  obtain ⟨W0, hW0⟩ : ∃ W0, W0 = w.alloc (.cells (row4 v.kind (str v.text) x1 v.items.length c1 x2 v.keys.length c2) 63) := ⟨_, rfl⟩
  have R0 : rowC W0 w.heap.size (row4 v.kind (str v.text) x1 v.items.length c1 x2 v.keys.length c2) 63 := by rw [hW0]; exact rowC_new w _ _
  have B0 : Below w.heap.size w W0 := by rw [hW0]; exact (Below.refl _ _).alloc (Nat.le_refl _) _
  have S0 : W0.heap.size = w.heap.size + 1 := by rw [hW0, size_alloc]
  have CG : Calls Tryz.prog 77 #[.agg (row4 v.kind (str v.text) x1 v.items.length c1 x2 v.keys.length c2), .string (str key)] W0 fun e w' => GetP W0 (getV v key) e w' := get_any ho.1 ho.2 key (w := W0) (HoldsC.mono (fun k hk _ => by show k < W0.heap.size; have hk : k < w.heap.size := hk; omega) _ _ _ _ _ (HoldsC.far hH B0))
  obtain ⟨o, ho_⟩ : ∃ o, o = partV v key f := ⟨_, rfl⟩
  rw [← ho_]
  have hEn := R.enter
  have HOO := Lib.hid ho_
  have HW0 := Lib.hid hW0
  have HR0 := Lib.hid R0
  have HB0 := Lib.hid B0
  have HI := Lib.hid info_V
  have HOR := Lib.hid ho
  have HE := Lib.hid hE
  have HINV := Lib.hid hi
  have HR := Lib.hid R
  clear hW0 R0 B0 ho hE hi R hH ho_
  go_enter Tryz.func73, Tryz.ntmps73
  go_upto_region 1 with (fail)
  rw [show w.alloc (.cells #[.int .i64 v.kind, .string (str v.text), .slice x1 v.items.length c1, .slice x2 v.keys.length c2] 63) = W0 from HW0.out.symm]
  go_upto_region 2 with (first
    | ((with_reducible show wpList _ _ _ (⟨some 10, .load _ _, _, _, _, _⟩ :: _) _ _); refine wpList_load_row rfl 63 _ rfl w.heap.size rfl 63 (row4 v.kind (str v.text) x1 v.items.length c1 x2 v.keys.length c2) (0, 0) _ HR0.out Tryz.underlying63 rfl HI.out ?_)
    | (go_at_call 77; ((with_reducible refine CG.mono ?_); rintro e w2 ⟨x, ok, y, m, z, n, rfl, hV, hor, hb2⟩; have HV := Lib.hid hV; have HB2 := Lib.hid hb2; have HX := Lib.hid hor; clear hV hb2 hor CG))
    | ((with_reducible show wpList _ _ _ (⟨none, .store _ (.tmp 8) _, _, _, _, _⟩ :: _) _ _); refine wpList_store_last rfl 63 _ _ rfl w2.heap.size (row4 x.kind (str x.text) y x.items.length m z x.keys.length n) rfl rfl 63 zeroV4 rfl HI.out rfl (row4_all _ _ _ _ _ _ _ _) ?_))
  obtain ⟨W2, hW2⟩ : ∃ W2, W2 = w2.alloc (.cells (row4 x.kind (str x.text) y x.items.length m z x.keys.length n) 63) := ⟨_, rfl⟩
  rw [← hW2]
  have R2 : Hid (rowC W2 w2.heap.size (row4 x.kind (str x.text) y x.items.length m z x.keys.length n) 63) := Lib.hid (by rw [hW2]; exact rowC_new _ _ _)
  have BB : Hid (Below w2.heap.size w2 W2) := Lib.hid (by rw [hW2]; exact (Below.refl _ _).alloc (Nat.le_refl _) _)
  have s2 := HB2.out.size
  have sb := BB.out.size
  have BT : Hid (Below w.heap.size w W2) := Lib.hid ((HB0.out.trans (HB2.out.mono (by omega))).trans (BB.out.mono (by omega)))
  clear hW2
  rcases HX.out with ⟨hx, hok⟩ | ⟨hx, hok, _⟩
  · subst hok
    have e0 : Hid (o = f x) := Lib.hid (by rw [HOO.out]; exact partV_some hx)
    have CR : Calls Tryz.prog fn (#[.agg (row4 x.kind (str x.text) y x.items.length m z x.keys.length n)] ++ lb) W2 fun e w' => ReadP eInt W2 (f x) e w' := HR.out.call x W2 y m z n (HOR.out.get hx) (HE.out.below BT.out) (HR.out.stay _ _ HINV.out BT.out) (HoldsC.mono (fun k hk hlt => hlt) _ _ _ _ _ (HoldsC.chg (Chg.of_below (s := no) BB.out) (fun _ _ h => h) _ _ _ _ _ HV.out))
    go_wp2_with (first
      | ((with_reducible show wpList _ _ _ (⟨some 19, .load _ _, _, _, _, _⟩ :: _) _ _); refine wpList_load_row rfl 63 _ rfl w2.heap.size rfl 63 (row4 x.kind (str x.text) y x.items.length m z x.keys.length n) (0, 0) _ R2.out Tryz.underlying63 rfl HI.out ?_)
      | ((with_reducible refine CR.mono ?_); rintro e w3 ⟨a3, t3, ok3, rfl, hA, hor3, hb3⟩))
    go_ret2
    rw [e0.out]
    exact (ReadP.out (E := eInt) ⟨a3, t3, ok3, rfl, hA, hor3, hb3⟩ BT.out (by omega))
  · subst hok
    have e0 : Hid (o = none) := Lib.hid (by rw [HOO.out]; exact partV_none hx)
    go_wp2
    go_ret2
    rw [e0.out]
    exact ⟨0, _, false, rfl, ⟨rfl, trivial⟩, .inr ⟨rfl, rfl⟩, BT.out⟩
set_option maxRecDepth 100000 in
set_option maxHeartbeats 8000000 in
theorem part_txt {f : JV → Option (Bs)} {fn : FuncId} {lb : Array Value} {inv : World → Prop} (R : RdF eTxt f fn lb inv) {v : JV} (ho : okR v) (key : Bs) {w : World} {a b c d : Value} (hE : Env2 w) (hi : inv w) (hH : HoldsC w (fun k => k < w.heap.size) v a b c d) :
    Calls Tryz.prog 80 #[.agg #[a, b, c, d], .string (str key), .func (.func fn) #[] lb] w fun e w' => ReadP eTxt w (partV v key f) e w' := by
  obtain ⟨rfl, rfl, ⟨x1, c1, rfl⟩, x2, c2, rfl⟩ := hH.form
  obtain ⟨W0, hW0⟩ : ∃ W0, W0 = w.alloc (.cells (row4 v.kind (str v.text) x1 v.items.length c1 x2 v.keys.length c2) 63) := ⟨_, rfl⟩
  have R0 : rowC W0 w.heap.size (row4 v.kind (str v.text) x1 v.items.length c1 x2 v.keys.length c2) 63 := by rw [hW0]; exact rowC_new w _ _
  have B0 : Below w.heap.size w W0 := by rw [hW0]; exact (Below.refl _ _).alloc (Nat.le_refl _) _
  have S0 : W0.heap.size = w.heap.size + 1 := by rw [hW0, size_alloc]
  have CG : Calls Tryz.prog 77 #[.agg (row4 v.kind (str v.text) x1 v.items.length c1 x2 v.keys.length c2), .string (str key)] W0 fun e w' => GetP W0 (getV v key) e w' := get_any ho.1 ho.2 key (w := W0) (HoldsC.mono (fun k hk _ => by show k < W0.heap.size; have hk : k < w.heap.size := hk; omega) _ _ _ _ _ (HoldsC.far hH B0))
  obtain ⟨o, ho_⟩ : ∃ o, o = partV v key f := ⟨_, rfl⟩
  rw [← ho_]
  have hEn := R.enter
  have HOO := Lib.hid ho_
  have HW0 := Lib.hid hW0
  have HR0 := Lib.hid R0
  have HB0 := Lib.hid B0
  have HI := Lib.hid info_V
  have HOR := Lib.hid ho
  have HE := Lib.hid hE
  have HINV := Lib.hid hi
  have HR := Lib.hid R
  clear hW0 R0 B0 ho hE hi R hH ho_
  go_enter Tryz.func80, Tryz.ntmps80
  go_upto_region 1 with (fail)
  rw [show w.alloc (.cells #[.int .i64 v.kind, .string (str v.text), .slice x1 v.items.length c1, .slice x2 v.keys.length c2] 63) = W0 from HW0.out.symm]
  go_upto_region 2 with (first
    | ((with_reducible show wpList _ _ _ (⟨some 10, .load _ _, _, _, _, _⟩ :: _) _ _); refine wpList_load_row rfl 63 _ rfl w.heap.size rfl 63 (row4 v.kind (str v.text) x1 v.items.length c1 x2 v.keys.length c2) (0, 0) _ HR0.out Tryz.underlying63 rfl HI.out ?_)
    | (go_at_call 77; ((with_reducible refine CG.mono ?_); rintro e w2 ⟨x, ok, y, m, z, n, rfl, hV, hor, hb2⟩; have HV := Lib.hid hV; have HB2 := Lib.hid hb2; have HX := Lib.hid hor; clear hV hb2 hor CG))
    | ((with_reducible show wpList _ _ _ (⟨none, .store _ (.tmp 8) _, _, _, _, _⟩ :: _) _ _); refine wpList_store_last rfl 63 _ _ rfl w2.heap.size (row4 x.kind (str x.text) y x.items.length m z x.keys.length n) rfl rfl 63 zeroV4 rfl HI.out rfl (row4_all _ _ _ _ _ _ _ _) ?_))
  obtain ⟨W2, hW2⟩ : ∃ W2, W2 = w2.alloc (.cells (row4 x.kind (str x.text) y x.items.length m z x.keys.length n) 63) := ⟨_, rfl⟩
  rw [← hW2]
  have R2 : Hid (rowC W2 w2.heap.size (row4 x.kind (str x.text) y x.items.length m z x.keys.length n) 63) := Lib.hid (by rw [hW2]; exact rowC_new _ _ _)
  have BB : Hid (Below w2.heap.size w2 W2) := Lib.hid (by rw [hW2]; exact (Below.refl _ _).alloc (Nat.le_refl _) _)
  have s2 := HB2.out.size
  have sb := BB.out.size
  have BT : Hid (Below w.heap.size w W2) := Lib.hid ((HB0.out.trans (HB2.out.mono (by omega))).trans (BB.out.mono (by omega)))
  clear hW2
  rcases HX.out with ⟨hx, hok⟩ | ⟨hx, hok, _⟩
  · subst hok
    have e0 : Hid (o = f x) := Lib.hid (by rw [HOO.out]; exact partV_some hx)
    have CR : Calls Tryz.prog fn (#[.agg (row4 x.kind (str x.text) y x.items.length m z x.keys.length n)] ++ lb) W2 fun e w' => ReadP eTxt W2 (f x) e w' := HR.out.call x W2 y m z n (HOR.out.get hx) (HE.out.below BT.out) (HR.out.stay _ _ HINV.out BT.out) (HoldsC.mono (fun k hk hlt => hlt) _ _ _ _ _ (HoldsC.chg (Chg.of_below (s := no) BB.out) (fun _ _ h => h) _ _ _ _ _ HV.out))
    go_wp2_with (first
      | ((with_reducible show wpList _ _ _ (⟨some 19, .load _ _, _, _, _, _⟩ :: _) _ _); refine wpList_load_row rfl 63 _ rfl w2.heap.size rfl 63 (row4 x.kind (str x.text) y x.items.length m z x.keys.length n) (0, 0) _ R2.out Tryz.underlying63 rfl HI.out ?_)
      | ((with_reducible refine CR.mono ?_); rintro e w3 ⟨a3, t3, ok3, rfl, hA, hor3, hb3⟩))
    go_ret2
    rw [e0.out]
    exact (ReadP.out (E := eTxt) ⟨a3, t3, ok3, rfl, hA, hor3, hb3⟩ BT.out (by omega))
  · subst hok
    have e0 : Hid (o = none) := Lib.hid (by rw [HOO.out]; exact partV_none hx)
    go_wp2
    go_ret2
    rw [e0.out]
    exact ⟨[], _, false, rfl, ⟨rfl, by simp⟩, .inr ⟨rfl, rfl⟩, BT.out⟩
set_option maxRecDepth 100000 in
set_option maxHeartbeats 8000000 in
theorem part_dess {f : JV → Option (List DV)} {fn : FuncId} {lb : Array Value} {inv : World → Prop} (R : RdF eDess f fn lb inv) {v : JV} (ho : okR v) (key : Bs) {w : World} {a b c d : Value} (hE : Env2 w) (hi : inv w) (hH : HoldsC w (fun k => k < w.heap.size) v a b c d) :
    Calls Tryz.prog 34 #[.agg #[a, b, c, d], .string (str key), .func (.func fn) #[] lb] w fun e w' => ReadP eDess w (partV v key f) e w' := by
  obtain ⟨rfl, rfl, ⟨x1, c1, rfl⟩, x2, c2, rfl⟩ := hH.form
  obtain ⟨W0, hW0⟩ : ∃ W0, W0 = w.alloc (.cells (row4 v.kind (str v.text) x1 v.items.length c1 x2 v.keys.length c2) 63) := ⟨_, rfl⟩
  have R0 : rowC W0 w.heap.size (row4 v.kind (str v.text) x1 v.items.length c1 x2 v.keys.length c2) 63 := by rw [hW0]; exact rowC_new w _ _
  have B0 : Below w.heap.size w W0 := by rw [hW0]; exact (Below.refl _ _).alloc (Nat.le_refl _) _
  have S0 : W0.heap.size = w.heap.size + 1 := by rw [hW0, size_alloc]
  have CG : Calls Tryz.prog 77 #[.agg (row4 v.kind (str v.text) x1 v.items.length c1 x2 v.keys.length c2), .string (str key)] W0 fun e w' => GetP W0 (getV v key) e w' := get_any ho.1 ho.2 key (w := W0) (HoldsC.mono (fun k hk _ => by show k < W0.heap.size; have hk : k < w.heap.size := hk; omega) _ _ _ _ _ (HoldsC.far hH B0))
  obtain ⟨o, ho_⟩ : ∃ o, o = partV v key f := ⟨_, rfl⟩
  rw [← ho_]
  have hEn := R.enter
  have HOO := Lib.hid ho_
  have HW0 := Lib.hid hW0
  have HR0 := Lib.hid R0
  have HB0 := Lib.hid B0
  have HI := Lib.hid info_V
  have HOR := Lib.hid ho
  have HE := Lib.hid hE
  have HINV := Lib.hid hi
  have HR := Lib.hid R
  clear hW0 R0 B0 ho hE hi R hH ho_
  go_enter Tryz.func34, Tryz.ntmps34
  go_upto_region 1 with (fail)
  rw [show w.alloc (.cells #[.int .i64 v.kind, .string (str v.text), .slice x1 v.items.length c1, .slice x2 v.keys.length c2] 63) = W0 from HW0.out.symm]
  go_upto_region 2 with (first
    | ((with_reducible show wpList _ _ _ (⟨some 10, .load _ _, _, _, _, _⟩ :: _) _ _); refine wpList_load_row rfl 63 _ rfl w.heap.size rfl 63 (row4 v.kind (str v.text) x1 v.items.length c1 x2 v.keys.length c2) (0, 0) _ HR0.out Tryz.underlying63 rfl HI.out ?_)
    | (go_at_call 77; ((with_reducible refine CG.mono ?_); rintro e w2 ⟨x, ok, y, m, z, n, rfl, hV, hor, hb2⟩; have HV := Lib.hid hV; have HB2 := Lib.hid hb2; have HX := Lib.hid hor; clear hV hb2 hor CG))
    | ((with_reducible show wpList _ _ _ (⟨none, .store _ (.tmp 8) _, _, _, _, _⟩ :: _) _ _); refine wpList_store_last rfl 63 _ _ rfl w2.heap.size (row4 x.kind (str x.text) y x.items.length m z x.keys.length n) rfl rfl 63 zeroV4 rfl HI.out rfl (row4_all _ _ _ _ _ _ _ _) ?_))
  obtain ⟨W2, hW2⟩ : ∃ W2, W2 = w2.alloc (.cells (row4 x.kind (str x.text) y x.items.length m z x.keys.length n) 63) := ⟨_, rfl⟩
  rw [← hW2]
  have R2 : Hid (rowC W2 w2.heap.size (row4 x.kind (str x.text) y x.items.length m z x.keys.length n) 63) := Lib.hid (by rw [hW2]; exact rowC_new _ _ _)
  have BB : Hid (Below w2.heap.size w2 W2) := Lib.hid (by rw [hW2]; exact (Below.refl _ _).alloc (Nat.le_refl _) _)
  have s2 := HB2.out.size
  have sb := BB.out.size
  have BT : Hid (Below w.heap.size w W2) := Lib.hid ((HB0.out.trans (HB2.out.mono (by omega))).trans (BB.out.mono (by omega)))
  clear hW2
  rcases HX.out with ⟨hx, hok⟩ | ⟨hx, hok, _⟩
  · subst hok
    have e0 : Hid (o = f x) := Lib.hid (by rw [HOO.out]; exact partV_some hx)
    have CR : Calls Tryz.prog fn (#[.agg (row4 x.kind (str x.text) y x.items.length m z x.keys.length n)] ++ lb) W2 fun e w' => ReadP eDess W2 (f x) e w' := HR.out.call x W2 y m z n (HOR.out.get hx) (HE.out.below BT.out) (HR.out.stay _ _ HINV.out BT.out) (HoldsC.mono (fun k hk hlt => hlt) _ _ _ _ _ (HoldsC.chg (Chg.of_below (s := no) BB.out) (fun _ _ h => h) _ _ _ _ _ HV.out))
    go_wp2_with (first
      | ((with_reducible show wpList _ _ _ (⟨some 19, .load _ _, _, _, _, _⟩ :: _) _ _); refine wpList_load_row rfl 63 _ rfl w2.heap.size rfl 63 (row4 x.kind (str x.text) y x.items.length m z x.keys.length n) (0, 0) _ R2.out Tryz.underlying63 rfl HI.out ?_)
      | ((with_reducible refine CR.mono ?_); rintro e w3 ⟨a3, t3, ok3, rfl, hA, hor3, hb3⟩))
    go_ret2
    rw [e0.out]
    exact (ReadP.out (E := eDess) ⟨a3, t3, ok3, rfl, hA, hor3, hb3⟩ BT.out (by omega))
  · subst hok
    have e0 : Hid (o = none) := Lib.hid (by rw [HOO.out]; exact partV_none hx)
    go_wp2
    go_ret2
    rw [e0.out]
    exact ⟨[], _, false, rfl, .inl ⟨rfl, rfl⟩, .inr ⟨rfl, rfl⟩, BT.out⟩
set_option maxRecDepth 100000 in
set_option maxHeartbeats 8000000 in
theorem part_digs {f : JV → Option (List Bs)} {fn : FuncId} {lb : Array Value} {inv : World → Prop} (R : RdF eDigs f fn lb inv) {v : JV} (ho : okR v) (key : Bs) {w : World} {a b c d : Value} (hE : Env2 w) (hi : inv w) (hH : HoldsC w (fun k => k < w.heap.size) v a b c d) :
    Calls Tryz.prog 44 #[.agg #[a, b, c, d], .string (str key), .func (.func fn) #[] lb] w fun e w' => ReadP eDigs w (partV v key f) e w' := by
  obtain ⟨rfl, rfl, ⟨x1, c1, rfl⟩, x2, c2, rfl⟩ := hH.form
  obtain ⟨W0, hW0⟩ : ∃ W0, W0 = w.alloc (.cells (row4 v.kind (str v.text) x1 v.items.length c1 x2 v.keys.length c2) 63) := ⟨_, rfl⟩
  have R0 : rowC W0 w.heap.size (row4 v.kind (str v.text) x1 v.items.length c1 x2 v.keys.length c2) 63 := by rw [hW0]; exact rowC_new w _ _
  have B0 : Below w.heap.size w W0 := by rw [hW0]; exact (Below.refl _ _).alloc (Nat.le_refl _) _
  have S0 : W0.heap.size = w.heap.size + 1 := by rw [hW0, size_alloc]
  have CG : Calls Tryz.prog 77 #[.agg (row4 v.kind (str v.text) x1 v.items.length c1 x2 v.keys.length c2), .string (str key)] W0 fun e w' => GetP W0 (getV v key) e w' := get_any ho.1 ho.2 key (w := W0) (HoldsC.mono (fun k hk _ => by show k < W0.heap.size; have hk : k < w.heap.size := hk; omega) _ _ _ _ _ (HoldsC.far hH B0))
  obtain ⟨o, ho_⟩ : ∃ o, o = partV v key f := ⟨_, rfl⟩
  rw [← ho_]
  have hEn := R.enter
  have HOO := Lib.hid ho_
  have HW0 := Lib.hid hW0
  have HR0 := Lib.hid R0
  have HB0 := Lib.hid B0
  have HI := Lib.hid info_V
  have HOR := Lib.hid ho
  have HE := Lib.hid hE
  have HINV := Lib.hid hi
  have HR := Lib.hid R
  clear hW0 R0 B0 ho hE hi R hH ho_
  go_enter Tryz.func44, Tryz.ntmps44
  go_upto_region 1 with (fail)
  rw [show w.alloc (.cells #[.int .i64 v.kind, .string (str v.text), .slice x1 v.items.length c1, .slice x2 v.keys.length c2] 63) = W0 from HW0.out.symm]
  go_upto_region 2 with (first
    | ((with_reducible show wpList _ _ _ (⟨some 10, .load _ _, _, _, _, _⟩ :: _) _ _); refine wpList_load_row rfl 63 _ rfl w.heap.size rfl 63 (row4 v.kind (str v.text) x1 v.items.length c1 x2 v.keys.length c2) (0, 0) _ HR0.out Tryz.underlying63 rfl HI.out ?_)
    | (go_at_call 77; ((with_reducible refine CG.mono ?_); rintro e w2 ⟨x, ok, y, m, z, n, rfl, hV, hor, hb2⟩; have HV := Lib.hid hV; have HB2 := Lib.hid hb2; have HX := Lib.hid hor; clear hV hb2 hor CG))
    | ((with_reducible show wpList _ _ _ (⟨none, .store _ (.tmp 8) _, _, _, _, _⟩ :: _) _ _); refine wpList_store_last rfl 63 _ _ rfl w2.heap.size (row4 x.kind (str x.text) y x.items.length m z x.keys.length n) rfl rfl 63 zeroV4 rfl HI.out rfl (row4_all _ _ _ _ _ _ _ _) ?_))
  obtain ⟨W2, hW2⟩ : ∃ W2, W2 = w2.alloc (.cells (row4 x.kind (str x.text) y x.items.length m z x.keys.length n) 63) := ⟨_, rfl⟩
  rw [← hW2]
  have R2 : Hid (rowC W2 w2.heap.size (row4 x.kind (str x.text) y x.items.length m z x.keys.length n) 63) := Lib.hid (by rw [hW2]; exact rowC_new _ _ _)
  have BB : Hid (Below w2.heap.size w2 W2) := Lib.hid (by rw [hW2]; exact (Below.refl _ _).alloc (Nat.le_refl _) _)
  have s2 := HB2.out.size
  have sb := BB.out.size
  have BT : Hid (Below w.heap.size w W2) := Lib.hid ((HB0.out.trans (HB2.out.mono (by omega))).trans (BB.out.mono (by omega)))
  clear hW2
  rcases HX.out with ⟨hx, hok⟩ | ⟨hx, hok, _⟩
  · subst hok
    have e0 : Hid (o = f x) := Lib.hid (by rw [HOO.out]; exact partV_some hx)
    have CR : Calls Tryz.prog fn (#[.agg (row4 x.kind (str x.text) y x.items.length m z x.keys.length n)] ++ lb) W2 fun e w' => ReadP eDigs W2 (f x) e w' := HR.out.call x W2 y m z n (HOR.out.get hx) (HE.out.below BT.out) (HR.out.stay _ _ HINV.out BT.out) (HoldsC.mono (fun k hk hlt => hlt) _ _ _ _ _ (HoldsC.chg (Chg.of_below (s := no) BB.out) (fun _ _ h => h) _ _ _ _ _ HV.out))
    go_wp2_with (first
      | ((with_reducible show wpList _ _ _ (⟨some 19, .load _ _, _, _, _, _⟩ :: _) _ _); refine wpList_load_row rfl 63 _ rfl w2.heap.size rfl 63 (row4 x.kind (str x.text) y x.items.length m z x.keys.length n) (0, 0) _ R2.out Tryz.underlying63 rfl HI.out ?_)
      | ((with_reducible refine CR.mono ?_); rintro e w3 ⟨a3, t3, ok3, rfl, hA, hor3, hb3⟩))
    go_ret2
    rw [e0.out]
    exact (ReadP.out (E := eDigs) ⟨a3, t3, ok3, rfl, hA, hor3, hb3⟩ BT.out (by omega))
  · subst hok
    have e0 : Hid (o = none) := Lib.hid (by rw [HOO.out]; exact partV_none hx)
    go_wp2
    go_ret2
    rw [e0.out]
    exact ⟨[], _, false, rfl, .inl ⟨rfl, rfl⟩, .inr ⟨rfl, rfl⟩, BT.out⟩
set_option maxRecDepth 100000 in
set_option maxHeartbeats 8000000 in
theorem part_dig {f : JV → Option (Bs)} {fn : FuncId} {lb : Array Value} {inv : World → Prop} (R : RdF eDig f fn lb inv) {v : JV} (ho : okR v) (key : Bs) {w : World} {a b c d : Value} (hE : Env2 w) (hi : inv w) (hH : HoldsC w (fun k => k < w.heap.size) v a b c d) :
    Calls Tryz.prog 82 #[.agg #[a, b, c, d], .string (str key), .func (.func fn) #[] lb] w fun e w' => ReadP eDig w (partV v key f) e w' := by
  obtain ⟨rfl, rfl, ⟨x1, c1, rfl⟩, x2, c2, rfl⟩ := hH.form
  obtain ⟨W0, hW0⟩ : ∃ W0, W0 = (w.alloc (.cells (row4 v.kind (str v.text) x1 v.items.length c1 x2 v.keys.length c2) 63)).alloc (.cells (cells8 zero32) 24) := ⟨_, rfl⟩
  have s1 := size_alloc w (.cells (row4 v.kind (str v.text) x1 v.items.length c1 x2 v.keys.length c2) 63)
  have Z0 : rowC W0 (w.heap.size + 1) (cells8 zero32) 24 := by rw [hW0, ← s1]; exact rowC_new _ _ _
  have R0 : rowC W0 w.heap.size (row4 v.kind (str v.text) x1 v.items.length c1 x2 v.keys.length c2) 63 := by rw [hW0]; exact rowC_alloc (rowC_new w _ _) _
  have B0 : Below w.heap.size w W0 := by rw [hW0]; exact ((Below.refl _ _).alloc (Nat.le_refl _) _).alloc (by omega) _
  have S0 : W0.heap.size = w.heap.size + 2 := by rw [hW0, size_alloc, s1]
  have CG : Calls Tryz.prog 77 #[.agg (row4 v.kind (str v.text) x1 v.items.length c1 x2 v.keys.length c2), .string (str key)] W0 fun e w' => GetP W0 (getV v key) e w' := get_any ho.1 ho.2 key (w := W0) (HoldsC.mono (fun k hk _ => by show k < W0.heap.size; have hk : k < w.heap.size := hk; omega) _ _ _ _ _ (HoldsC.far hH B0))
  obtain ⟨o, ho_⟩ : ∃ o, o = partV v key f := ⟨_, rfl⟩
  rw [← ho_]
  have hEn := R.enter
  have HOO := Lib.hid ho_
  have HW0 := Lib.hid hW0
  have HZ0 := Lib.hid Z0
  have HIT := Lib.hid info_G
  have HR0 := Lib.hid R0
  have HB0 := Lib.hid B0
  have HI := Lib.hid info_V
  have HOR := Lib.hid ho
  have HE := Lib.hid hE
  have HINV := Lib.hid hi
  have HR := Lib.hid R
  clear hW0 R0 B0 Z0 ho hE hi R hH ho_
  go_enter Tryz.func82, Tryz.ntmps82
  go_upto_region 1 with (fail)
  rw [show (w.alloc (.cells #[.int .i64 v.kind, .string (str v.text), .slice x1 v.items.length c1, .slice x2 v.keys.length c2] 63)).alloc (.cells #[.int .u8 0, .int .u8 0, .int .u8 0, .int .u8 0, .int .u8 0, .int .u8 0, .int .u8 0, .int .u8 0, .int .u8 0, .int .u8 0, .int .u8 0, .int .u8 0, .int .u8 0, .int .u8 0, .int .u8 0, .int .u8 0, .int .u8 0, .int .u8 0, .int .u8 0, .int .u8 0, .int .u8 0, .int .u8 0, .int .u8 0, .int .u8 0, .int .u8 0, .int .u8 0, .int .u8 0, .int .u8 0, .int .u8 0, .int .u8 0, .int .u8 0, .int .u8 0] 24) = W0 from HW0.out.symm]
  go_upto_region 2 with (first
    | ((with_reducible show wpList _ _ _ (⟨some 10, .load _ _, _, _, _, _⟩ :: _) _ _); refine wpList_load_row rfl 63 _ rfl w.heap.size rfl 63 (row4 v.kind (str v.text) x1 v.items.length c1 x2 v.keys.length c2) (0, 0) _ HR0.out Tryz.underlying63 rfl HI.out ?_)
    | (go_at_call 77; ((with_reducible refine CG.mono ?_); rintro e w2 ⟨x, ok, y, m, z, n, rfl, hV, hor, hb2⟩; have HV := Lib.hid hV; have HB2 := Lib.hid hb2; have HX := Lib.hid hor; clear hV hb2 hor CG))
    | ((with_reducible show wpList _ _ _ (⟨none, .store _ (.tmp 8) _, _, _, _, _⟩ :: _) _ _); refine wpList_store_last rfl 63 _ _ rfl w2.heap.size (row4 x.kind (str x.text) y x.items.length m z x.keys.length n) rfl rfl 63 zeroV4 rfl HI.out rfl (row4_all _ _ _ _ _ _ _ _) ?_))
  obtain ⟨W2, hW2⟩ : ∃ W2, W2 = w2.alloc (.cells (row4 x.kind (str x.text) y x.items.length m z x.keys.length n) 63) := ⟨_, rfl⟩
  rw [← hW2]
  have R2 : Hid (rowC W2 w2.heap.size (row4 x.kind (str x.text) y x.items.length m z x.keys.length n) 63) := Lib.hid (by rw [hW2]; exact rowC_new _ _ _)
  have BB : Hid (Below w2.heap.size w2 W2) := Lib.hid (by rw [hW2]; exact (Below.refl _ _).alloc (Nat.le_refl _) _)
  have s2 := HB2.out.size
  have sb := BB.out.size
  have BT : Hid (Below w.heap.size w W2) := Lib.hid ((HB0.out.trans (HB2.out.mono (by omega))).trans (BB.out.mono (by omega)))
  have HZ2 : Hid (rowC W2 (w.heap.size + 1) (cells8 zero32) 24) := Lib.hid (rowC_below (rowC_below HZ0.out HB2.out (by omega)) BB.out (by omega))
  clear hW2
  rcases HX.out with ⟨hx, hok⟩ | ⟨hx, hok, _⟩
  · subst hok
    have e0 : Hid (o = f x) := Lib.hid (by rw [HOO.out]; exact partV_some hx)
    have CR : Calls Tryz.prog fn (#[.agg (row4 x.kind (str x.text) y x.items.length m z x.keys.length n)] ++ lb) W2 fun e w' => ReadP eDig W2 (f x) e w' := HR.out.call x W2 y m z n (HOR.out.get hx) (HE.out.below BT.out) (HR.out.stay _ _ HINV.out BT.out) (HoldsC.mono (fun k hk hlt => hlt) _ _ _ _ _ (HoldsC.chg (Chg.of_below (s := no) BB.out) (fun _ _ h => h) _ _ _ _ _ HV.out))
    go_wp2_with (first
      | ((with_reducible show wpList _ _ _ (⟨some 19, .load _ _, _, _, _, _⟩ :: _) _ _); refine wpList_load_row rfl 63 _ rfl w2.heap.size rfl 63 (row4 x.kind (str x.text) y x.items.length m z x.keys.length n) (0, 0) _ R2.out Tryz.underlying63 rfl HI.out ?_)
      | ((with_reducible refine CR.mono ?_); rintro e w3 ⟨a3, t3, ok3, rfl, ⟨rfl, hA2⟩, hor3, hb3⟩; have HA := Lib.hid hA2; clear hA2; have HO3 := Lib.hid hor3; clear hor3; have HZ3 := Lib.hid (rowC_below HZ2.out hb3 (by omega)))
      | ((with_reducible show wpList _ _ _ (⟨none, .store _ (.tmp 6) _, _, _, _, _⟩ :: _) _ _); refine wpList_store_row rfl 24 _ _ rfl (w.heap.size + 1) (cells8 a3) rfl rfl 24 (cells8 zero32) HZ3.out (by rw [cells8_size, HA.out]; exact HIT.out) (by rw [cells8_size, cells8_size, HA.out]; rfl) (cells8_one _) ?_))
    refine bodyPost_ret (results_row_tmp rfl _ _ (w.heap.size + 1) 24 (cells8 a3) _ rfl (rowC_setRow HZ3.out _) Tryz.underlying24 rfl (by rw [cells8_size, HA.out]; exact HIT.out) (.bool ok3) rfl) rfl ?_
    rw [e0.out]
    exact ⟨a3, _, ok3, rfl, ⟨rfl, HA.out⟩, HO3.out, below_setRow (BT.out.trans (hb3.mono (by omega))) (by omega) _⟩
  · subst hok
    have e0 : Hid (o = none) := Lib.hid (by rw [HOO.out]; exact partV_none hx)
    go_wp2_with (first
      | ((with_reducible show wpList _ _ _ (⟨some 17, .load _ _, _, _, _, _⟩ :: _) _ _); refine wpList_load_row rfl 24 _ rfl (w.heap.size + 1) rfl 24 (cells8 zero32) (0, 0) _ HZ2.out Tryz.underlying24 rfl HIT.out ?_)
      | ((with_reducible show wpList _ _ _ (⟨none, .store _ (.tmp 6) _, _, _, _, _⟩ :: _) _ _); refine wpList_store_row rfl 24 _ _ rfl (w.heap.size + 1) (cells8 zero32) rfl rfl 24 (cells8 zero32) HZ2.out HIT.out rfl (cells8_one _) ?_))
    refine bodyPost_ret (results_row_tmp rfl _ _ (w.heap.size + 1) 24 (cells8 zero32) _ rfl (rowC_setRow HZ2.out _) Tryz.underlying24 rfl HIT.out (.bool false) rfl) rfl ?_
    rw [e0.out]
    exact ⟨zero32, _, false, rfl, ⟨rfl, rfl⟩, .inr ⟨rfl, rfl⟩, below_setRow BT.out (by omega) _⟩
set_option maxRecDepth 100000 in
set_option maxHeartbeats 8000000 in
theorem part_pla {f : JV → Option (Bs × Bs)} {fn : FuncId} {lb : Array Value} {inv : World → Prop} (R : RdF ePla f fn lb inv) {v : JV} (ho : okR v) (key : Bs) {w : World} {a b c d : Value} (hE : Env2 w) (hi : inv w) (hH : HoldsC w (fun k => k < w.heap.size) v a b c d) :
    Calls Tryz.prog 116 #[.agg #[a, b, c, d], .string (str key), .func (.func fn) #[] lb] w fun e w' => ReadP ePla w (partV v key f) e w' := by
  obtain ⟨rfl, rfl, ⟨x1, c1, rfl⟩, x2, c2, rfl⟩ := hH.form
  obtain ⟨W0, hW0⟩ : ∃ W0, W0 = (w.alloc (.cells (row4 v.kind (str v.text) x1 v.items.length c1 x2 v.keys.length c2) 63)).alloc (.cells (encP ([], [])) 26) := ⟨_, rfl⟩
  have s1 := size_alloc w (.cells (row4 v.kind (str v.text) x1 v.items.length c1 x2 v.keys.length c2) 63)
  have Z0 : rowC W0 (w.heap.size + 1) (encP ([], [])) 26 := by rw [hW0, ← s1]; exact rowC_new _ _ _
  have R0 : rowC W0 w.heap.size (row4 v.kind (str v.text) x1 v.items.length c1 x2 v.keys.length c2) 63 := by rw [hW0]; exact rowC_alloc (rowC_new w _ _) _
  have B0 : Below w.heap.size w W0 := by rw [hW0]; exact ((Below.refl _ _).alloc (Nat.le_refl _) _).alloc (by omega) _
  have S0 : W0.heap.size = w.heap.size + 2 := by rw [hW0, size_alloc, s1]
  have CG : Calls Tryz.prog 77 #[.agg (row4 v.kind (str v.text) x1 v.items.length c1 x2 v.keys.length c2), .string (str key)] W0 fun e w' => GetP W0 (getV v key) e w' := get_any ho.1 ho.2 key (w := W0) (HoldsC.mono (fun k hk _ => by show k < W0.heap.size; have hk : k < w.heap.size := hk; omega) _ _ _ _ _ (HoldsC.far hH B0))
  obtain ⟨o, ho_⟩ : ∃ o, o = partV v key f := ⟨_, rfl⟩
  rw [← ho_]
  have hEn := R.enter
  have HOO := Lib.hid ho_
  have HW0 := Lib.hid hW0
  have HZ0 := Lib.hid Z0
  have HIT := Lib.hid info_P
  have HR0 := Lib.hid R0
  have HB0 := Lib.hid B0
  have HI := Lib.hid info_V
  have HOR := Lib.hid ho
  have HE := Lib.hid hE
  have HINV := Lib.hid hi
  have HR := Lib.hid R
  clear hW0 R0 B0 Z0 ho hE hi R hH ho_
  go_enter Tryz.func116, Tryz.ntmps116
  go_upto_region 1 with (fail)
  rw [show (w.alloc (.cells #[.int .i64 v.kind, .string (str v.text), .slice x1 v.items.length c1, .slice x2 v.keys.length c2] 63)).alloc (.cells #[.string ⟨#[]⟩, .string ⟨#[]⟩] 26) = W0 from HW0.out.symm]
  go_upto_region 2 with (first
    | ((with_reducible show wpList _ _ _ (⟨some 10, .load _ _, _, _, _, _⟩ :: _) _ _); refine wpList_load_row rfl 63 _ rfl w.heap.size rfl 63 (row4 v.kind (str v.text) x1 v.items.length c1 x2 v.keys.length c2) (0, 0) _ HR0.out Tryz.underlying63 rfl HI.out ?_)
    | (go_at_call 77; ((with_reducible refine CG.mono ?_); rintro e w2 ⟨x, ok, y, m, z, n, rfl, hV, hor, hb2⟩; have HV := Lib.hid hV; have HB2 := Lib.hid hb2; have HX := Lib.hid hor; clear hV hb2 hor CG))
    | ((with_reducible show wpList _ _ _ (⟨none, .store _ (.tmp 8) _, _, _, _, _⟩ :: _) _ _); refine wpList_store_last rfl 63 _ _ rfl w2.heap.size (row4 x.kind (str x.text) y x.items.length m z x.keys.length n) rfl rfl 63 zeroV4 rfl HI.out rfl (row4_all _ _ _ _ _ _ _ _) ?_))
  obtain ⟨W2, hW2⟩ : ∃ W2, W2 = w2.alloc (.cells (row4 x.kind (str x.text) y x.items.length m z x.keys.length n) 63) := ⟨_, rfl⟩
  rw [← hW2]
  have R2 : Hid (rowC W2 w2.heap.size (row4 x.kind (str x.text) y x.items.length m z x.keys.length n) 63) := Lib.hid (by rw [hW2]; exact rowC_new _ _ _)
  have BB : Hid (Below w2.heap.size w2 W2) := Lib.hid (by rw [hW2]; exact (Below.refl _ _).alloc (Nat.le_refl _) _)
  have s2 := HB2.out.size
  have sb := BB.out.size
  have BT : Hid (Below w.heap.size w W2) := Lib.hid ((HB0.out.trans (HB2.out.mono (by omega))).trans (BB.out.mono (by omega)))
  have HZ2 : Hid (rowC W2 (w.heap.size + 1) (encP ([], [])) 26) := Lib.hid (rowC_below (rowC_below HZ0.out HB2.out (by omega)) BB.out (by omega))
  clear hW2
  rcases HX.out with ⟨hx, hok⟩ | ⟨hx, hok, _⟩
  · subst hok
    have e0 : Hid (o = f x) := Lib.hid (by rw [HOO.out]; exact partV_some hx)
    have CR : Calls Tryz.prog fn (#[.agg (row4 x.kind (str x.text) y x.items.length m z x.keys.length n)] ++ lb) W2 fun e w' => ReadP ePla W2 (f x) e w' := HR.out.call x W2 y m z n (HOR.out.get hx) (HE.out.below BT.out) (HR.out.stay _ _ HINV.out BT.out) (HoldsC.mono (fun k hk hlt => hlt) _ _ _ _ _ (HoldsC.chg (Chg.of_below (s := no) BB.out) (fun _ _ h => h) _ _ _ _ _ HV.out))
    go_wp2_with (first
      | ((with_reducible show wpList _ _ _ (⟨some 19, .load _ _, _, _, _, _⟩ :: _) _ _); refine wpList_load_row rfl 63 _ rfl w2.heap.size rfl 63 (row4 x.kind (str x.text) y x.items.length m z x.keys.length n) (0, 0) _ R2.out Tryz.underlying63 rfl HI.out ?_)
      | ((with_reducible refine CR.mono ?_); rintro e w3 ⟨a3, t3, ok3, rfl, ⟨rfl, hA2⟩, hor3, hb3⟩; have HA := Lib.hid hA2; clear hA2; have HO3 := Lib.hid hor3; clear hor3; have HZ3 := Lib.hid (rowC_below HZ2.out hb3 (by omega)))
      | ((with_reducible show wpList _ _ _ (⟨none, .store _ (.tmp 6) _, _, _, _, _⟩ :: _) _ _); refine wpList_store_row rfl 26 _ _ rfl (w.heap.size + 1) (encP a3) rfl rfl 26 (encP ([], [])) HZ3.out (by rw [show (encP a3).size = 2 from rfl]; exact HIT.out) (by rw [show (encP a3).size = 2 from rfl]; rfl) (encP_one _) ?_))
    refine bodyPost_ret (results_row_tmp rfl _ _ (w.heap.size + 1) 26 (encP a3) _ rfl (rowC_setRow HZ3.out _) Tryz.underlying26 rfl (by rw [show (encP a3).size = 2 from rfl]; exact HIT.out) (.bool ok3) rfl) rfl ?_
    rw [e0.out]
    exact ⟨a3, _, ok3, rfl, ⟨rfl, HA.out⟩, HO3.out, below_setRow (BT.out.trans (hb3.mono (by omega))) (by omega) _⟩
  · subst hok
    have e0 : Hid (o = none) := Lib.hid (by rw [HOO.out]; exact partV_none hx)
    go_wp2_with (first
      | ((with_reducible show wpList _ _ _ (⟨some 17, .load _ _, _, _, _, _⟩ :: _) _ _); refine wpList_load_row rfl 26 _ rfl (w.heap.size + 1) rfl 26 (encP ([], [])) (0, 0) _ HZ2.out Tryz.underlying26 rfl HIT.out ?_)
      | ((with_reducible show wpList _ _ _ (⟨none, .store _ (.tmp 6) _, _, _, _, _⟩ :: _) _ _); refine wpList_store_row rfl 26 _ _ rfl (w.heap.size + 1) (encP ([], [])) rfl rfl 26 (encP ([], [])) HZ2.out HIT.out rfl (encP_one _) ?_))
    refine bodyPost_ret (results_row_tmp rfl _ _ (w.heap.size + 1) 26 (encP ([], [])) _ rfl (rowC_setRow HZ2.out _) Tryz.underlying26 rfl HIT.out (.bool false) rfl) rfl ?_
    rw [e0.out]
    exact ⟨([], []), _, false, rfl, ⟨rfl, by simp⟩, .inr ⟨rfl, rfl⟩, below_setRow BT.out (by omega) _⟩
set_option maxRecDepth 100000 in
set_option maxHeartbeats 8000000 in
theorem part_des {f : JV → Option (DV)} {fn : FuncId} {lb : Array Value} {inv : World → Prop} (R : RdF eDes f fn lb inv) {v : JV} (ho : okR v) (key : Bs) {w : World} {a b c d : Value} (hE : Env2 w) (hi : inv w) (hH : HoldsC w (fun k => k < w.heap.size) v a b c d) :
    Calls Tryz.prog 32 #[.agg #[a, b, c, d], .string (str key), .func (.func fn) #[] lb] w fun e w' => ReadP eDes w (partV v key f) e w' := by
  obtain ⟨rfl, rfl, ⟨x1, c1, rfl⟩, x2, c2, rfl⟩ := hH.form
  obtain ⟨W0, hW0⟩ : ∃ W0, W0 = (w.alloc (.cells (row4 v.kind (str v.text) x1 v.items.length c1 x2 v.keys.length c2) 63)).alloc (.cells (encD zeroD) 28) := ⟨_, rfl⟩
  have s1 := size_alloc w (.cells (row4 v.kind (str v.text) x1 v.items.length c1 x2 v.keys.length c2) 63)
  have Z0 : rowC W0 (w.heap.size + 1) (encD zeroD) 28 := by rw [hW0, ← s1]; exact rowC_new _ _ _
  have R0 : rowC W0 w.heap.size (row4 v.kind (str v.text) x1 v.items.length c1 x2 v.keys.length c2) 63 := by rw [hW0]; exact rowC_alloc (rowC_new w _ _) _
  have B0 : Below w.heap.size w W0 := by rw [hW0]; exact ((Below.refl _ _).alloc (Nat.le_refl _) _).alloc (by omega) _
  have S0 : W0.heap.size = w.heap.size + 2 := by rw [hW0, size_alloc, s1]
  have CG : Calls Tryz.prog 77 #[.agg (row4 v.kind (str v.text) x1 v.items.length c1 x2 v.keys.length c2), .string (str key)] W0 fun e w' => GetP W0 (getV v key) e w' := get_any ho.1 ho.2 key (w := W0) (HoldsC.mono (fun k hk _ => by show k < W0.heap.size; have hk : k < w.heap.size := hk; omega) _ _ _ _ _ (HoldsC.far hH B0))
  obtain ⟨o, ho_⟩ : ∃ o, o = partV v key f := ⟨_, rfl⟩
  rw [← ho_]
  have hEn := R.enter
  have HOO := Lib.hid ho_
  have HW0 := Lib.hid hW0
  have HZ0 := Lib.hid Z0
  have HIT := Lib.hid info_D
  have HR0 := Lib.hid R0
  have HB0 := Lib.hid B0
  have HI := Lib.hid info_V
  have HOR := Lib.hid ho
  have HE := Lib.hid hE
  have HINV := Lib.hid hi
  have HR := Lib.hid R
  clear hW0 R0 B0 Z0 ho hE hi R hH ho_
  go_enter Tryz.func32, Tryz.ntmps32
  go_upto_region 1 with (fail)
  rw [show (w.alloc (.cells #[.int .i64 v.kind, .string (str v.text), .slice x1 v.items.length c1, .slice x2 v.keys.length c2] 63)).alloc (.cells #[.string ⟨#[]⟩, .int .u8 0, .int .u8 0, .int .u8 0, .int .u8 0, .int .u8 0, .int .u8 0, .int .u8 0, .int .u8 0, .int .u8 0, .int .u8 0, .int .u8 0, .int .u8 0, .int .u8 0, .int .u8 0, .int .u8 0, .int .u8 0, .int .u8 0, .int .u8 0, .int .u8 0, .int .u8 0, .int .u8 0, .int .u8 0, .int .u8 0, .int .u8 0, .int .u8 0, .int .u8 0, .int .u8 0, .int .u8 0, .int .u8 0, .int .u8 0, .int .u8 0, .int .u8 0, .int .i64 0, .string ⟨#[]⟩, .string ⟨#[]⟩] 28) = W0 from HW0.out.symm]
  go_upto_region 2 with (first
    | ((with_reducible show wpList _ _ _ (⟨some 10, .load _ _, _, _, _, _⟩ :: _) _ _); refine wpList_load_row rfl 63 _ rfl w.heap.size rfl 63 (row4 v.kind (str v.text) x1 v.items.length c1 x2 v.keys.length c2) (0, 0) _ HR0.out Tryz.underlying63 rfl HI.out ?_)
    | (go_at_call 77; ((with_reducible refine CG.mono ?_); rintro e w2 ⟨x, ok, y, m, z, n, rfl, hV, hor, hb2⟩; have HV := Lib.hid hV; have HB2 := Lib.hid hb2; have HX := Lib.hid hor; clear hV hb2 hor CG))
    | ((with_reducible show wpList _ _ _ (⟨none, .store _ (.tmp 8) _, _, _, _, _⟩ :: _) _ _); refine wpList_store_last rfl 63 _ _ rfl w2.heap.size (row4 x.kind (str x.text) y x.items.length m z x.keys.length n) rfl rfl 63 zeroV4 rfl HI.out rfl (row4_all _ _ _ _ _ _ _ _) ?_))
  obtain ⟨W2, hW2⟩ : ∃ W2, W2 = w2.alloc (.cells (row4 x.kind (str x.text) y x.items.length m z x.keys.length n) 63) := ⟨_, rfl⟩
  rw [← hW2]
  have R2 : Hid (rowC W2 w2.heap.size (row4 x.kind (str x.text) y x.items.length m z x.keys.length n) 63) := Lib.hid (by rw [hW2]; exact rowC_new _ _ _)
  have BB : Hid (Below w2.heap.size w2 W2) := Lib.hid (by rw [hW2]; exact (Below.refl _ _).alloc (Nat.le_refl _) _)
  have s2 := HB2.out.size
  have sb := BB.out.size
  have BT : Hid (Below w.heap.size w W2) := Lib.hid ((HB0.out.trans (HB2.out.mono (by omega))).trans (BB.out.mono (by omega)))
  have HZ2 : Hid (rowC W2 (w.heap.size + 1) (encD zeroD) 28) := Lib.hid (rowC_below (rowC_below HZ0.out HB2.out (by omega)) BB.out (by omega))
  clear hW2
  rcases HX.out with ⟨hx, hok⟩ | ⟨hx, hok, _⟩
  · subst hok
    have e0 : Hid (o = f x) := Lib.hid (by rw [HOO.out]; exact partV_some hx)
    have CR : Calls Tryz.prog fn (#[.agg (row4 x.kind (str x.text) y x.items.length m z x.keys.length n)] ++ lb) W2 fun e w' => ReadP eDes W2 (f x) e w' := HR.out.call x W2 y m z n (HOR.out.get hx) (HE.out.below BT.out) (HR.out.stay _ _ HINV.out BT.out) (HoldsC.mono (fun k hk hlt => hlt) _ _ _ _ _ (HoldsC.chg (Chg.of_below (s := no) BB.out) (fun _ _ h => h) _ _ _ _ _ HV.out))
    go_wp2_with (first
      | ((with_reducible show wpList _ _ _ (⟨some 19, .load _ _, _, _, _, _⟩ :: _) _ _); refine wpList_load_row rfl 63 _ rfl w2.heap.size rfl 63 (row4 x.kind (str x.text) y x.items.length m z x.keys.length n) (0, 0) _ R2.out Tryz.underlying63 rfl HI.out ?_)
      | ((with_reducible refine CR.mono ?_); rintro e w3 ⟨a3, t3, ok3, rfl, ⟨rfl, hA2⟩, hor3, hb3⟩; have HA := Lib.hid hA2; clear hA2; have HO3 := Lib.hid hor3; clear hor3; have HZ3 := Lib.hid (rowC_below HZ2.out hb3 (by omega)))
      | ((with_reducible show wpList _ _ _ (⟨none, .store _ (.tmp 6) _, _, _, _, _⟩ :: _) _ _); refine wpList_store_row rfl 28 _ _ rfl (w.heap.size + 1) (encD a3) rfl rfl 28 (encD zeroD) HZ3.out (by rw [encD_size a3 HA.out]; exact HIT.out) (by rw [encD_size a3 HA.out]; rfl) (encD_one _) ?_))
    refine bodyPost_ret (results_row_tmp rfl _ _ (w.heap.size + 1) 28 (encD a3) _ rfl (rowC_setRow HZ3.out _) Tryz.underlying28 rfl (by rw [encD_size a3 HA.out]; exact HIT.out) (.bool ok3) rfl) rfl ?_
    rw [e0.out]
    exact ⟨a3, _, ok3, rfl, ⟨rfl, HA.out⟩, HO3.out, below_setRow (BT.out.trans (hb3.mono (by omega))) (by omega) _⟩
  · subst hok
    have e0 : Hid (o = none) := Lib.hid (by rw [HOO.out]; exact partV_none hx)
    go_wp2_with (first
      | ((with_reducible show wpList _ _ _ (⟨some 17, .load _ _, _, _, _, _⟩ :: _) _ _); refine wpList_load_row rfl 28 _ rfl (w.heap.size + 1) rfl 28 (encD zeroD) (0, 0) _ HZ2.out Tryz.underlying28 rfl HIT.out ?_)
      | ((with_reducible show wpList _ _ _ (⟨none, .store _ (.tmp 6) _, _, _, _, _⟩ :: _) _ _); refine wpList_store_row rfl 28 _ _ rfl (w.heap.size + 1) (encD zeroD) rfl rfl 28 (encD zeroD) HZ2.out HIT.out rfl (encD_one _) ?_))
    refine bodyPost_ret (results_row_tmp rfl _ _ (w.heap.size + 1) 28 (encD zeroD) _ rfl (rowC_setRow HZ2.out _) Tryz.underlying28 rfl HIT.out (.bool false) rfl) rfl ?_
    rw [e0.out]
    exact ⟨zeroD, _, false, rfl, ⟨rfl, ⟨rfl, by simp [zeroD], by simp [zeroD], by simp [zeroD]⟩⟩, .inr ⟨rfl, rfl⟩, below_setRow BT.out (by omega) _⟩
end Go.Proofs.YtlknngplnimdpaaGreatDoor

