/- Merged: DxE, DpA, DpC. -/
import Derived.Test.YtnkencdibniagaaGreatDoorM10
import Derived.Test.YtnkencdibniagaaGreatDoorShelf
import Derived.Lib.OthersKept
/- Layer 5, for whoever stands on it: a text's digest, as the document has it. (Out of DigB, DigE.) -/
namespace Go.Proofs.YtnkencdibniagaaGreatDoor
open Go.RowKit


/-- Two digests in memory, the one behind the other. -/
structure TwoM (W w : World) (l m : List UInt8) : Prop where
  r0 : rowC w W.heap.size (cells8 l) 24
  r1 : rowC w (W.heap.size + 1) (cells8 m) 24
  nx : Below W.heap.size W w
theorem TwoM.start (w : World) (l m : List UInt8) : TwoM w ((w.alloc (.cells (cells8 l) 24)).alloc (.cells (cells8 m) 24)) l m := by
  have h2 := rowC_new (w.alloc (.cells (cells8 l) 24)) (cells8 m) 24
  simp only [size_alloc] at h2
  exact ⟨rowC_alloc (rowC_new w _ _) _, h2, ((Below.refl _ _).alloc (Nat.le_refl _) _).alloc (by simp) _⟩
theorem TwoM.drewN {W w : World} {l m : List UInt8} (h : TwoM W w l m) (n : Nat) : TwoM W (w.drewN n) l m := ⟨h.r0, h.r1, below_drewN h.nx n⟩
theorem cells8_at {w : World} {b : Nat} {l : List UInt8} {t : TypeId} (h : rowC w b (cells8 l) t) {k : Nat} (hk : k < l.length) : w.cell? ⟨b, k, none⟩ = some (.int .u8 ((l.getD k 0).toNat : Int)) := by
  rw [rowC_cell h, cells8_get l k hk]; rfl

theorem TwoM.set1 {W w : World} {l m : List UInt8} (h : TwoM W w l m) (i : Nat) (b : UInt8) : TwoM W (w.setCell ⟨W.heap.size + 1, i, none⟩ (byteV b)) l (m.set i b) := by
  refine ⟨rowC_other h.r0 _ _ (by simp), ?_, h.nx.setCell (p := ⟨W.heap.size + 1, i, none⟩) (by simp) _⟩
  rw [← cells8_set]
  exact rowC_set h.r1 i _
theorem TwoM.lt {W w : World} {l m : List UInt8} (h : TwoM W w l m) : W.heap.size + 2 ≤ w.heap.size := rowC_lt h.r1
theorem TwoM.below {W w w' : World} {l m : List UInt8} (h : TwoM W w l m) (hb : Below w.heap.size w w') : TwoM W w' l m := by
  have := h.lt
  exact ⟨rowC_below h.r0 hb (by omega), rowC_below h.r1 hb (by omega), h.nx.trans (hb.mono (by omega))⟩
theorem TwoM.row0 {W w : World} {l m : List UInt8} (h : TwoM W w l m) (y : List UInt8) : TwoM W (w.setRow W.heap.size (cells8 y)) y m :=
  ⟨rowC_setRow h.r0 _, rowC_setRow_other h.r1 _ _ (by omega), below_setRow h.nx (by omega) _⟩
end Go.Proofs.YtnkencdibniagaaGreatDoor

/- Layer 5, for whoever stands on it: a digit, as the program has it. (Out of DigA.) -/
namespace Go.Proofs.YtnkencdibniagaaGreatDoor
open Go.RowKit

/-- What the program's digit is of a rune. -/
def valR (r : Nat) : Nat := if 48 ≤ r ∧ r ≤ 57 then r - 48 else if 97 ≤ r ∧ r ≤ 102 then r - 87 else 0
def isR (r : Nat) : Bool := decide (48 ≤ r ∧ r ≤ 57) || decide (97 ≤ r ∧ r ≤ 102)
theorem dret2 {a b : Int} {c d : Bool} (h : a = b) (h' : c = d) : Ending.returned (.tuple #[.int .u8 a, .bool c]) = .returned (.tuple #[.int .u8 b, .bool d]) := by rw [h, h']
set_option maxHeartbeats 400000 in
theorem valueOf_any (r : Nat) (w : World) (hr : r ≤ 2147483647) :
    Calls Tryz.prog 171 #[.int .i32 (r : Int)] w fun e w' => e = .returned (.tuple #[.int .u8 (valR r : Nat), .bool (isR r)]) ∧ w = w' := by
  by_cases h1 : 48 ≤ r ∧ r ≤ 57
  · have HV := Lib.hid (show ((valR r : Nat) : Int) = (r : Int) - 48 ∧ isR r = true by unfold valR isR; rw [if_pos h1, decide_eq_true h1]; exact ⟨by omega, rfl⟩)
    obtain ⟨a1, a2⟩ := h1
    have b1 : (48 : Int) ≤ r := by omega
    have b2 : (r : Int) ≤ 57 := by omega
    go_enter Tryz.func171, Tryz.ntmps171
    go_wp2
    go_ret2
    exact ⟨dret2 (by rw [HV.out.1]; try omega) HV.out.2.symm, rfl⟩
  · by_cases h2 : 97 ≤ r ∧ r ≤ 102
    · have HV := Lib.hid (show ((valR r : Nat) : Int) = (r : Int) - 97 + 10 ∧ isR r = true by unfold valR isR; rw [if_neg h1, if_pos h2, decide_eq_true h2]; exact ⟨by omega, by simp⟩)
      obtain ⟨a1, a2⟩ := h2
      have b1 : (97 : Int) ≤ r := by omega
      have b2 : (r : Int) ≤ 102 := by omega
      clear h1
      go_enter Tryz.func171, Tryz.ntmps171
      go_wp2
      go_ret2
      exact ⟨dret2 (by rw [HV.out.1]; try omega) HV.out.2.symm, rfl⟩
    · have HV := Lib.hid (show ((valR r : Nat) : Int) = 0 ∧ isR r = false by unfold valR isR; rw [if_neg h1, if_neg h2, decide_eq_false h1, decide_eq_false h2]; exact ⟨rfl, rfl⟩)
      have h3 : r < 48 ∨ (58 ≤ r ∧ r < 97) ∨ 103 ≤ r := by omega
      clear h1 h2
      rcases h3 with h3 | ⟨h3, h4⟩ | h3
      · have b1 : (r : Int) < 48 := by omega
        go_enter Tryz.func171, Tryz.ntmps171
        go_wp2
        go_ret2
        exact ⟨dret2 (by rw [HV.out.1]) HV.out.2.symm, rfl⟩
      · have b1 : (58 : Int) ≤ r := by omega
        have b2 : (r : Int) < 97 := by omega
        go_enter Tryz.func171, Tryz.ntmps171
        go_wp2
        go_ret2
        exact ⟨dret2 (by rw [HV.out.1]) HV.out.2.symm, rfl⟩
      · have b1 : (103 : Int) ≤ r := by omega
        go_enter Tryz.func171, Tryz.ntmps171
        go_wp2
        go_ret2
        exact ⟨dret2 (by rw [HV.out.1]) HV.out.2.symm, rfl⟩
end Go.Proofs.YtnkencdibniagaaGreatDoor

/- Layer 5, for whoever stands on it: a text's digest, as the program has it. (Out of DigF.) -/
namespace Go.Proofs.YtnkencdibniagaaGreatDoor
open Go.RowKit

/-- Are these a digest's digits? -/
def isDs (T : List UInt8) : Bool := decide (T.length = 64) && T.all isD
def dsL (T : List UInt8) : List UInt8 := if isDs T = true then readD T else zero32
def dsE (T : List UInt8) : Int := if isDs T = true then 0 else 10
theorem dsL_length (T : List UInt8) : (dsL T).length = 32 := by
  unfold dsL
  split
  · rename_i h
    unfold isDs at h
    simp only [Bool.and_eq_true, decide_eq_true_eq] at h
    exact readD_length 32 _ (by omega)
  · rfl
/-- The memory of its parsing: the answer to be, the row, and where the text stands. -/
structure PdM (W w : World) (T : List UInt8) (i : Nat) : Prop where
  m : TwoM W w zero32 (partD T i)
  it : w.heap[W.heap.size + 2]? = some (.stringIter (str T) i)
theorem PdM.start (W : World) (T : List UInt8) : PdM W ((((W.alloc (.cells (cells8 zero32) 24)).alloc (.cells (cells8 zero32) 24))).iter (str T) 0) T 0 := by
  have h0 := TwoM.start W zero32 zero32
  have h1 := World.iter_heap ((W.alloc (.cells (cells8 zero32) 24)).alloc (.cells (cells8 zero32) 24)) (str T) 0
  simp only [size_alloc] at h1
  refine ⟨?_, h1⟩
  rw [partD_zero]
  exact h0.below ((Below.refl _ _).alloc (Nat.le_refl _) _)
theorem PdM.iterAt {W w : World} {T : List UInt8} {i : Nat} (h : PdM W w T i) (j : Nat) : TwoM W (w.iterAt (W.heap.size + 2) (str T) j) zero32 (partD T i) ∧ (w.iterAt (W.heap.size + 2) (str T) j).heap[W.heap.size + 2]? = some (.stringIter (str T) j) :=
  ⟨⟨(Lib.iterAt_other w _ _ (str T) j (by omega)).trans h.m.r0, (Lib.iterAt_other w _ _ (str T) j (by omega)).trans h.m.r1, Lib.below_iterAt h.m.nx (by omega) (str T) j⟩, Lib.iterAt_heap w _ (str T) i j h.it⟩
theorem PdM.put {W w : World} {T : List UInt8} {k : Nat} (h : TwoM W w zero32 (partD T k)) (hi : w.heap[W.heap.size + 2]? = some (.stringIter (str T) (k + 1))) (hk : k < 64) :
    PdM W (w.setCell ⟨W.heap.size + 1, k / 2, none⟩ (byteV (UInt8.ofNat (((partD T k).getD (k / 2) 0).toNat * 16 % 256 ||| valN (T.getD k 0))))) T (k + 1) := by
  refine ⟨?_, ?_⟩
  · rw [← partD_set T hk]
    exact h.set1 _ _
  · rw [heap_setCell_other w ⟨W.heap.size + 1, k / 2, none⟩ _ _ (by simp)]
    exact hi
theorem valR_isD {c : UInt8} : valR c.toNat = valN c ∧ isR c.toNat = isD c := ⟨rfl, rfl⟩
theorem isR_high {r : Nat} (h : 128 ≤ r) : isR r = false ∧ valR r = 0 := by
  unfold isR valR
  rw [if_neg (by omega), if_neg (by omega), decide_eq_false (by omega), decide_eq_false (by omega)]
  exact ⟨rfl, rfl⟩
theorem isD_low {c : UInt8} (h : isD c = true) : c.toNat < 128 := by
  unfold isD at h
  simp only [Bool.or_eq_true, decide_eq_true_eq] at h
  omega
theorem or_val {x v : Nat} (hv : v < 16) : bits BinOp.or IntKind.u8 ((x : Int) * 16 % 256) (v : Int) = ((x * 16 % 256 ||| v : Nat) : Int) := by
  have := u8_or_nat (x * 16 % 256) v (by omega) (by omega)
  rw [← this]
  congr 1
theorem or_byte {x v : Nat} (hv : v < 16) : byteV (UInt8.ofNat (x * 16 % 256 ||| v)) = .int .u8 ((x * 16 % 256 ||| v : Nat) : Int) := by
  rw [byteV_ofNat, shl_or hv]
  congr 1
  omega
/-- What the next rune of a text is, where it is no digit. -/
theorem next_bad (T : List UInt8) (k : Nat) (hk : k < T.length) (hd : isD (T.getD k 0) = false) :
    ∃ r n : Nat, Utf8.decode (str T) k = (r, n) ∧ r ≤ 2147483647 ∧ isR r = false ∧ valR r = 0 := by
  have hs : k < (str T).size := by rw [str_size]; exact hk
  have hc : (str T)[k] = T.getD k 0 := by
    rw [List.getD_eq_getElem?_getD, List.getElem?_eq_getElem hk]; rfl
  refine ⟨(Utf8.decode (str T) k).1, (Utf8.decode (str T) k).2, rfl, decode_le _ _, ?_⟩
  by_cases h : (T.getD k 0).toNat < 128
  · rw [decode_ascii (str T) k hs (by rw [hc]; exact h), hc]
    refine ⟨hd, ?_⟩
    exact valN_none hd
  · exact isR_high (decode_high (str T) k hs (by rw [hc]; omega)).1
set_option maxRecDepth 100000 in
set_option maxHeartbeats 2000000 in
theorem parseDigits_any (T : List UInt8) (w : World) :
    Calls Tryz.prog 150 #[.string (str T)] w fun e w' => e = .returned (.tuple #[.agg (cells8 (dsL T)), .int .i64 (dsE T)]) ∧ Below w.heap.size w w' := by
  have szs := str_size T
  have M0 := Lib.hid (TwoM.start w zero32 zero32)
  have HZ := Lib.hid (info_digest (l := zero32) rfl)
  by_cases hl : T.length = 64
  · have M1 := Lib.hid (PdM.start w T)
    have HL := Lib.hid hl
    rw [hl] at szs
    clear hl M0
    go_enter Tryz.func150, Tryz.ntmps150
    go_wp2
    go_loopw [5] (fun _ wr => ∃ k : Nat, k ≤ 64 ∧ PdM w wr T k ∧ ∀ j, j < k → isD (T.getD j 0) = true) (fun _ wr => 64 - wr.iterPos (w.heap.size + 2))
    case atStart => exact ⟨0, by omega, M1.out, fun j hj => by omega⟩
    case round =>
      obtain ⟨k, hk, hm, hj⟩ := hrel
      have HJ := Lib.hid hj
      have hpos : wr.iterPos (w.heap.size + 2) = k := by unfold World.iterPos; rw [hm.it]
      have HP := Lib.hid hpos
      clear hj hpos
      by_cases hlt : k < 64
      · obtain ⟨c, hc⟩ : ∃ c, c = T.getD k 0 := ⟨_, rfl⟩
        have h64 : k < T.length := by rw [HL.out]; exact hlt
        have hcs : (str T)[k]'(by rw [str_size]; exact h64) = c := by
          rw [hc, List.getD_eq_getElem?_getD, List.getElem?_eq_getElem h64]; rfl
        by_cases hd : isD c = true
        · obtain ⟨i1, i2⟩ := hm.iterAt (k + 1)
          have hnx := fun ty => Lib.run_next_ascii_at (P := Tryz.prog) wr _ _ _ ty hm.it (by rw [str_size]; exact h64) (by rw [hcs]; exact isD_low hd)
          rw [hcs] at hnx
          have HF := Lib.hid (PdM.put i1 i2 hlt)
          rw [← hc] at HF
          obtain ⟨x, hx⟩ : ∃ x, x = ((partD T k).getD (k / 2) 0).toNat := ⟨_, rfl⟩
          have c1 := cells8_at i1.r1 (k := k / 2) (by rw [partD_length]; omega)
          have f1 := rowC_free i1.r1 (k / 2)
          have hx2 : x < 256 := by rw [hx]; exact UInt8.toNat_lt _
          rw [← hx] at c1 HF
          have hv := valN_lt c
          have ov := or_val (x := x) hv
          have HB := Lib.hid (or_byte (x := x) hv)
          have CV := fun w => valueOf_any c.toNat w (by have := c.toNat_lt; omega)
          rw [valR_isD.1, valR_isD.2, hd] at CV
          have HD := Lib.hid (show isD (T.getD k 0) = true by rw [← hc]; exact hd)
          generalize valN c = v at hv ov HB CV HF
          clear hd hcs hc i1 i2 hm hx
          generalize wr.iterAt (w.heap.size + 2) (str T) (k + 1) = wq at *
          have k0 : (0 : Int) ≤ k := by omega
          have k1 : (k : Int) / 2 < 32 := by omega
          have k2 : ((k : Int) / 2).toNat = k / 2 := by omega
          go_wp2_with (go_at_call 171; ((with_reducible refine (CV _).mono ?_); rintro e w' ⟨rfl, rfl⟩))
          have hput := HF.out
          rw [HB.out] at hput
          have hp2 : (wq.setCell ⟨w.heap.size + 1, k / 2, none⟩ (.int .u8 ((x * 16 % 256 ||| v : Nat) : Int))).iterPos (w.heap.size + 2) = k + 1 := by unfold World.iterPos; rw [hput.it]
          go_roundw
          case rel => exact ⟨k + 1, by omega, hput, fun j hj => by
            by_cases hjk : j = k
            · subst hjk; exact HD.out
            · exact HJ.out j (by omega)⟩
          case measure => rw [hp2, HP.out]; omega
        · have hd' : isD c = false := by simpa using hd
          obtain ⟨r, n, hr1, hr2, hr3, hr4⟩ := next_bad T k h64 (by rw [← hc]; exact hd')
          obtain ⟨i1, i2⟩ := hm.iterAt (k + n)
          have hnx := fun ty => Lib.run_next_any_at (P := Tryz.prog) wr _ _ _ ty hm.it (by rw [str_size]; exact h64)
          rw [hr1] at hnx
          have CV := fun w => valueOf_any r w hr2
          rw [hr3, hr4] at CV
          have HD := Lib.hid (show dsL T = zero32 ∧ dsE T = 10 by
            have e : isDs T = false := by
              unfold isDs
              rw [Bool.and_eq_false_iff]
              refine .inr (List.all_eq_false.2 ⟨c, ?_, by rw [hd']; decide⟩)
              rw [hc, List.getD_eq_getElem?_getD, List.getElem?_eq_getElem h64]
              exact List.getElem_mem _
            unfold dsL dsE
            rw [e]; exact ⟨rfl, rfl⟩)
          have I1 := Lib.hid i1
          have HR := Lib.hid (show (cells8 zero32).size = (cells8 zero32).size from rfl)
          clear hd hd' hcs hc i1 i2 hm hr1 hr3 hr4
          dsimp only at hnx
          generalize wr.iterAt (w.heap.size + 2) (str T) (k + n) = wq at *
          go_wp2_with (first
            | (go_at_call 171; ((with_reducible refine (CV _).mono ?_); rintro e w' ⟨rfl, rfl⟩))
            | (refine wpList_build_as rfl 24 _ rfl (cells8 zero32) (by kernel_rfl) ?_)
            | (refine wpList_store_row rfl 24 _ _ rfl w.heap.size (cells8 zero32) rfl rfl 24 (cells8 zero32) I1.out.r0 HZ.out rfl (cells8_one _) ?_))
          have M5 := I1.out.row0 zero32
          exact bodyPost_ret (results_row_tmp rfl _ _ w.heap.size 24 (cells8 zero32) _ rfl M5.r0 Tryz.underlying24 rfl HZ.out (.int .i64 10) rfl) rfl ⟨by rw [HD.out.1, HD.out.2], M5.nx⟩
      · obtain rfl : k = 64 := by omega
        have hnx := fun ty => Lib.run_next_end_at (P := Tryz.prog) wr _ _ _ ty hm.it (by rw [szs]; omega)
        have HD := Lib.hid (show dsL T = readD T ∧ dsE T = 0 by
          have e : isDs T = true := by
            unfold isDs
            rw [HL.out, Bool.and_eq_true, decide_eq_true_eq, List.all_eq_true]
            refine ⟨rfl, fun c hc => ?_⟩
            obtain ⟨j, hj, rfl⟩ := List.mem_iff_getElem.1 hc
            have := HJ.out j (by rw [HL.out] at hj; exact hj)
            rwa [List.getD_eq_getElem?_getD, List.getElem?_eq_getElem hj] at this
          unfold dsL dsE
          rw [e]; exact ⟨rfl, rfl⟩)
        have hmm := hm.m
        rw [partD_all HL.out] at hmm
        obtain ⟨D, hDD⟩ : ∃ D, D = readD T := ⟨_, rfl⟩
        have hDl : D.length = 32 := by rw [hDD]; exact readD_length 32 _ (by rw [HL.out])
        rw [← hDD] at hmm HD
        have HI := Lib.hid (info_digest hDl)
        have HO := Lib.hid (show (cells8 zero32).size = (cells8 D).size by rw [cells8_size, cells8_size, hDl]; rfl)
        have M := Lib.hid hmm
        clear hmm hm hDD hDl hlt hk
        go_wp2_with (first
          | (refine wpList_load_row rfl 24 _ rfl (w.heap.size + 1) rfl 24 (cells8 D) (0, 0) _ M.out.r1 Tryz.underlying24 rfl HI.out ?_)
          | (refine wpList_store_row rfl 24 _ _ rfl w.heap.size (cells8 D) rfl rfl 24 (cells8 zero32) M.out.r0 HI.out HO.out (cells8_one _) ?_))
        have M5 := M.out.row0 D
        exact bodyPost_ret (results_row_tmp rfl _ _ w.heap.size 24 (cells8 D) _ rfl M5.r0 Tryz.underlying24 rfl HI.out (.int .i64 0) rfl) rfl ⟨by rw [HD.out.1, HD.out.2], M5.nx⟩
  · have HD := Lib.hid (show dsL T = zero32 ∧ dsE T = 10 by
      have e : isDs T = false := by unfold isDs; rw [decide_eq_false hl]; rfl
      unfold dsL dsE
      rw [e]; exact ⟨rfl, rfl⟩)
    have hl' : ((T.length : Int) != 64) = true := by simp; omega
    have hl2 : ((T.length : Int) == 64) = false := by simp; omega
    clear hl
    go_enter Tryz.func150, Tryz.ntmps150
    go_wp2_with (first
      | (refine wpList_build_as rfl 24 _ rfl (cells8 zero32) (by kernel_rfl) ?_)
      | (refine wpList_store_row rfl 24 _ _ rfl w.heap.size (cells8 zero32) rfl rfl 24 (cells8 zero32) M0.out.r0 HZ.out rfl (cells8_one _) ?_))
    have M5 := M0.out.row0 zero32
    exact bodyPost_ret (results_row_tmp rfl _ _ w.heap.size 24 (cells8 zero32) _ rfl M5.r0 Tryz.underlying24 rfl HZ.out (.int .i64 10) rfl) rfl ⟨by rw [HD.out.1, HD.out.2], M5.nx⟩
theorem prefix_take (S : List UInt8) : Lib.hasPrefix S nameL = decide (S.take 7 = nameL) := by
  unfold Lib.hasPrefix
  rw [Bool.eq_iff_iff, decide_eq_true_eq, List.isPrefixOf_iff_prefix]
  constructor
  · rintro ⟨t, rfl⟩; rfl
  · intro h; rw [← h]; exact List.take_prefix 7 S
theorem isText_parts {S : List UInt8} (h : S.take 7 = nameL) : isText S = isDs (S.drop 7) := by
  have hl : 7 ≤ S.length := by
    have := congrArg List.length h
    rw [List.length_take] at this
    have e : nameL.length = 7 := rfl
    omega
  unfold isText isDs
  rw [decide_eq_true h, Bool.true_and, List.length_drop]
  congr 1
  rw [decide_eq_decide]
  omega
set_option maxRecDepth 100000 in
set_option maxHeartbeats 1000000 in
theorem parse_any (S : List UInt8) (w : World) :
    Calls Tryz.prog 115 #[.string (str S)] w fun e w' => e = .returned (.tuple #[.agg (cells8 (digL S)), .int .i64 (errL S)]) ∧ Below w.heap.size w w' := by
  have HZ := Lib.hid (info_digest (l := zero32) rfl)
  have CP := fun w => Tryz.strings_CutPrefix (str S) ⟨#[115, 104, 97, 50, 53, 54, 58]⟩ w
  have ep : Lib.hasPrefix (str S).data.toList (ByteArray.mk #[115, 104, 97, 50, 53, 54, 58]).data.toList = decide (S.take 7 = nameL) := prefix_take S
  unfold Lib.trimPrefix at CP
  rw [ep] at CP
  clear ep
  have R0 := Lib.hid (rowC_new w (cells8 zero32) 24)
  by_cases h : S.take 7 = nameL
  · have HE := Lib.hid (isText_parts h)
    rw [decide_eq_true h] at CP
    rw [if_pos rfl] at CP
    have e2 : (⟨((str S).data.toList.drop (ByteArray.mk #[115, 104, 97, 50, 53, 54, 58]).data.toList.length).toArray⟩ : ByteArray) = str (S.drop 7) := rfl
    rw [e2] at CP
    have CD := fun w => parseDigits_any (S.drop 7) w
    have HR := Lib.hid (show digL S = dsL (S.drop 7) ∧ errL S = dsE (S.drop 7) by
      unfold digL errL dsL dsE
      rw [HE.out]; exact ⟨rfl, rfl⟩)
    obtain ⟨D, hD⟩ : ∃ D, D = dsL (S.drop 7) := ⟨_, rfl⟩
    have hDl : D.length = 32 := by rw [hD]; exact dsL_length _
    rw [← hD] at HR CD
    have HI := Lib.hid (info_digest hDl)
    have HO := Lib.hid (show (cells8 zero32).size = (cells8 D).size by rw [cells8_size, cells8_size, hDl]; rfl)
    obtain ⟨E, hE⟩ : ∃ E, E = dsE (S.drop 7) := ⟨_, rfl⟩
    rw [← hE] at HR CD
    clear h e2 hD hDl hE
    go_enter Tryz.func115, Tryz.ntmps115
    go_wp2_with (first
      | (go_at_call 149; ((with_reducible refine (CP _).mono ?_); rintro e w1 ⟨rfl, rfl⟩))
      | (go_at_call 150; ((with_reducible refine (CD _).mono ?_); rintro e w3 ⟨rfl, hb3⟩))
      | (refine wpList_store_row rfl 24 _ _ rfl w.heap.size (cells8 D) rfl rfl 24 (cells8 zero32) (rowC_below R0.out hb3 (by simp)) HI.out HO.out (cells8_one _) ?_))
    have M5 := rowC_setRow (rowC_below R0.out hb3 (by simp)) (cells8 D)
    exact bodyPost_ret (results_row_tmp rfl _ _ w.heap.size 24 (cells8 D) _ rfl M5 Tryz.underlying24 rfl HI.out (.int .i64 E) rfl) rfl ⟨by rw [HR.out.1, HR.out.2], below_setRow (((Below.refl _ _).alloc (Nat.le_refl _) _).trans (hb3.mono (by simp))) (Nat.le_refl _) _⟩
  · have HR := Lib.hid (show digL S = zero32 ∧ errL S = 10 by
      have e : isText S = false := by unfold isText; rw [decide_eq_false h]; rfl
      unfold digL errL
      rw [e]; exact ⟨rfl, rfl⟩)
    rw [decide_eq_false h] at CP
    rw [if_neg (by decide)] at CP
    clear h
    go_enter Tryz.func115, Tryz.ntmps115
    go_wp2_with (first
      | (go_at_call 149; ((with_reducible refine (CP _).mono ?_); rintro e w1 ⟨rfl, rfl⟩))
      | (refine wpList_build_as rfl 24 _ rfl (cells8 zero32) (by kernel_rfl) ?_)
      | (refine wpList_store_row rfl 24 _ _ rfl w.heap.size (cells8 zero32) rfl rfl 24 (cells8 zero32) R0.out HZ.out rfl (cells8_one _) ?_))
    have M5 := rowC_setRow R0.out (cells8 zero32)
    exact bodyPost_ret (results_row_tmp rfl _ _ w.heap.size 24 (cells8 zero32) _ rfl M5 Tryz.underlying24 rfl HZ.out (.int .i64 10) rfl) rfl ⟨by rw [HR.out.1, HR.out.2], below_setRow ((Below.refl _ _).alloc (Nat.le_refl _) _) (Nat.le_refl _) _⟩
end Go.Proofs.YtnkencdibniagaaGreatDoor

