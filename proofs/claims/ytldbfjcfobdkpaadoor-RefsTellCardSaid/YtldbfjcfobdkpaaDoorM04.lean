/- Merged: DpC, RpV, RpW, RpX. -/
import Derived.Test.YtldbfjcfobdkpaaDoorM03
import Derived.Test.YtldbfjcfobdkpaaDoorShelf
import Derived.Lib.OthersKept
import Derived.Test.YtldbfjcfobdkpaaDoorRfP
import Derived.Test.YtldbfjcfobdkpaaDoorRows
import Derived.ProofKit
import Derived.LaidMore
import Derived.LaidLaws
import Derived.LaidHandle
import Derived.Lib.LaidU8T
import Derived.OpenShut
import Derived.Stop.Joined
/- Layer 5, for whoever stands on it: a text's digest, as the program has it. (Out of DigF.) -/
namespace Go.Proofs.YtldbfjcfobdkpaaDoor
open Go.RowKit

/-- Are these a digest's digits? -/
def isDs (T : List UInt8) : Bool := decide (T.length = 64) && T.all isD
def dsL (T : List UInt8) : List UInt8 := if isDs T = true then readD T else zero32
def dsE (T : List UInt8) : Int := if isDs T = true then 0 else 10
theorem dsL_length (T : List UInt8) : (dsL T).length = 32 := by
  unfold dsL
  split
  · rename_i h
    unfold isDs at h
    simp only [Bool.and_eq_true, decide_eq_true_eq] at h
    exact readD_length 32 _ (by omega)
  · rfl
/-- The memory of its parsing: the answer to be, the row, and where the text stands. -/
structure PdM (W w : World) (T : List UInt8) (i : Nat) : Prop where
  m : TwoM W w zero32 (partD T i)
  it : w.heap[W.heap.size + 2]? = some (.stringIter (str T) i)
theorem PdM.start (W : World) (T : List UInt8) : PdM W ((((W.alloc (.cells (cells8 zero32) 24)).alloc (.cells (cells8 zero32) 24))).iter (str T) 0) T 0 := by
  have h0 := TwoM.start W zero32 zero32
  have h1 := World.iter_heap ((W.alloc (.cells (cells8 zero32) 24)).alloc (.cells (cells8 zero32) 24)) (str T) 0
  simp only [size_alloc] at h1
  refine ⟨?_, h1⟩
  rw [partD_zero]
  exact h0.below ((Below.refl _ _).alloc (Nat.le_refl _) _)
theorem PdM.iterAt {W w : World} {T : List UInt8} {i : Nat} (h : PdM W w T i) (j : Nat) : TwoM W (w.iterAt (W.heap.size + 2) (str T) j) zero32 (partD T i) ∧ (w.iterAt (W.heap.size + 2) (str T) j).heap[W.heap.size + 2]? = some (.stringIter (str T) j) :=
  ⟨⟨(Lib.iterAt_other w _ _ (str T) j (by omega)).trans h.m.r0, (Lib.iterAt_other w _ _ (str T) j (by omega)).trans h.m.r1, Lib.below_iterAt h.m.nx (by omega) (str T) j⟩, Lib.iterAt_heap w _ (str T) i j h.it⟩
theorem PdM.put {W w : World} {T : List UInt8} {k : Nat} (h : TwoM W w zero32 (partD T k)) (hi : w.heap[W.heap.size + 2]? = some (.stringIter (str T) (k + 1))) (hk : k < 64) :
    PdM W (w.setCell ⟨W.heap.size + 1, k / 2, none⟩ (byteV (UInt8.ofNat (((partD T k).getD (k / 2) 0).toNat * 16 % 256 ||| valN (T.getD k 0))))) T (k + 1) := by
  refine ⟨?_, ?_⟩
  · rw [← partD_set T hk]
    exact h.set1 _ _
  · rw [heap_setCell_other w ⟨W.heap.size + 1, k / 2, none⟩ _ _ (by simp)]
    exact hi
theorem valR_isD {c : UInt8} : valR c.toNat = valN c ∧ isR c.toNat = isD c := ⟨rfl, rfl⟩
theorem isR_high {r : Nat} (h : 128 ≤ r) : isR r = false ∧ valR r = 0 := by
  unfold isR valR
  rw [if_neg (by omega), if_neg (by omega), decide_eq_false (by omega), decide_eq_false (by omega)]
  exact ⟨rfl, rfl⟩
theorem isD_low {c : UInt8} (h : isD c = true) : c.toNat < 128 := by
  unfold isD at h
  simp only [Bool.or_eq_true, decide_eq_true_eq] at h
  omega
theorem or_val {x v : Nat} (hv : v < 16) : bits BinOp.or IntKind.u8 ((x : Int) * 16 % 256) (v : Int) = ((x * 16 % 256 ||| v : Nat) : Int) := by
  have := u8_or_nat (x * 16 % 256) v (by omega) (by omega)
  rw [← this]
  congr 1
theorem or_byte {x v : Nat} (hv : v < 16) : byteV (UInt8.ofNat (x * 16 % 256 ||| v)) = .int .u8 ((x * 16 % 256 ||| v : Nat) : Int) := by
  rw [byteV_ofNat, shl_or hv]
  congr 1
  omega
/-- What the next rune of a text is, where it is no digit. -/
theorem next_bad (T : List UInt8) (k : Nat) (hk : k < T.length) (hd : isD (T.getD k 0) = false) :
    ∃ r n : Nat, Utf8.decode (str T) k = (r, n) ∧ r ≤ 2147483647 ∧ isR r = false ∧ valR r = 0 := by
  have hs : k < (str T).size := by rw [str_size]; exact hk
  have hc : (str T)[k] = T.getD k 0 := by
    rw [List.getD_eq_getElem?_getD, List.getElem?_eq_getElem hk]; rfl
  refine ⟨(Utf8.decode (str T) k).1, (Utf8.decode (str T) k).2, rfl, decode_le _ _, ?_⟩
  by_cases h : (T.getD k 0).toNat < 128
  · rw [decode_ascii (str T) k hs (by rw [hc]; exact h), hc]
    refine ⟨hd, ?_⟩
    exact valN_none hd
  · exact isR_high (decode_high (str T) k hs (by rw [hc]; omega)).1
set_option maxRecDepth 100000 in
set_option maxHeartbeats 2000000 in
theorem parseDigits_any (T : List UInt8) (w : World) :
    Calls Tryd.prog 52 #[.string (str T)] w fun e w' => e = .returned (.tuple #[.agg (cells8 (dsL T)), .int .i64 (dsE T)]) ∧ Below w.heap.size w w' := by
  have szs := str_size T
  have M0 := Lib.hid (TwoM.start w zero32 zero32)
  have HZ := Lib.hid (info_digest (l := zero32) rfl)
  by_cases hl : T.length = 64
  · have M1 := Lib.hid (PdM.start w T)
    have HL := Lib.hid hl
    rw [hl] at szs
    clear hl M0
    go_enter Tryd.func52, Tryd.ntmps52
    go_wp2
    go_loopw [5] (fun _ wr => ∃ k : Nat, k ≤ 64 ∧ PdM w wr T k ∧ ∀ j, j < k → isD (T.getD j 0) = true) (fun _ wr => 64 - wr.iterPos (w.heap.size + 2))
    case atStart => exact ⟨0, by omega, M1.out, fun j hj => by omega⟩
    case round =>
      obtain ⟨k, hk, hm, hj⟩ := hrel
      have HJ := Lib.hid hj
      have hpos : wr.iterPos (w.heap.size + 2) = k := by unfold World.iterPos; rw [hm.it]
      have HP := Lib.hid hpos
      clear hj hpos
      by_cases hlt : k < 64
      · obtain ⟨c, hc⟩ : ∃ c, c = T.getD k 0 := ⟨_, rfl⟩
        have h64 : k < T.length := by rw [HL.out]; exact hlt
        have hcs : (str T)[k]'(by rw [str_size]; exact h64) = c := by
          rw [hc, List.getD_eq_getElem?_getD, List.getElem?_eq_getElem h64]; rfl
        by_cases hd : isD c = true
        · obtain ⟨i1, i2⟩ := hm.iterAt (k + 1)
          have hnx := fun ty => Lib.run_next_ascii_at (P := Tryd.prog) wr _ _ _ ty hm.it (by rw [str_size]; exact h64) (by rw [hcs]; exact isD_low hd)
          rw [hcs] at hnx
          have HF := Lib.hid (PdM.put i1 i2 hlt)
          rw [← hc] at HF
          obtain ⟨x, hx⟩ : ∃ x, x = ((partD T k).getD (k / 2) 0).toNat := ⟨_, rfl⟩
          have c1 := cells8_at i1.r1 (k := k / 2) (by rw [partD_length]; omega)
          have f1 := rowC_free i1.r1 (k / 2)
          have hx2 : x < 256 := by rw [hx]; exact UInt8.toNat_lt _
          rw [← hx] at c1 HF
          have hv := valN_lt c
          have ov := or_val (x := x) hv
          have HB := Lib.hid (or_byte (x := x) hv)
          have CV := fun w => valueOf_any c.toNat w (by have := c.toNat_lt; omega)
          rw [valR_isD.1, valR_isD.2, hd] at CV
          have HD := Lib.hid (show isD (T.getD k 0) = true by rw [← hc]; exact hd)
          generalize valN c = v at hv ov HB CV HF
          clear hd hcs hc i1 i2 hm hx
          generalize wr.iterAt (w.heap.size + 2) (str T) (k + 1) = wq at *
          have k0 : (0 : Int) ≤ k := by omega
          have k1 : (k : Int) / 2 < 32 := by omega
          have k2 : ((k : Int) / 2).toNat = k / 2 := by omega
          go_wp2_with (go_at_call 66; ((with_reducible refine (CV _).mono ?_); rintro e w' ⟨rfl, rfl⟩))
          have hput := HF.out
          rw [HB.out] at hput
          have hp2 : (wq.setCell ⟨w.heap.size + 1, k / 2, none⟩ (.int .u8 ((x * 16 % 256 ||| v : Nat) : Int))).iterPos (w.heap.size + 2) = k + 1 := by unfold World.iterPos; rw [hput.it]
          go_roundw
          case rel => exact ⟨k + 1, by omega, hput, fun j hj => by
            by_cases hjk : j = k
            · subst hjk; exact HD.out
            · exact HJ.out j (by omega)⟩
          case measure => rw [hp2, HP.out]; omega
        · have hd' : isD c = false := by simpa using hd
          obtain ⟨r, n, hr1, hr2, hr3, hr4⟩ := next_bad T k h64 (by rw [← hc]; exact hd')
          obtain ⟨i1, i2⟩ := hm.iterAt (k + n)
          have hnx := fun ty => Lib.run_next_any_at (P := Tryd.prog) wr _ _ _ ty hm.it (by rw [str_size]; exact h64)
          rw [hr1] at hnx
          have CV := fun w => valueOf_any r w hr2
          rw [hr3, hr4] at CV
          have HD := Lib.hid (show dsL T = zero32 ∧ dsE T = 10 by
            have e : isDs T = false := by
              unfold isDs
              rw [Bool.and_eq_false_iff]
              refine .inr (List.all_eq_false.2 ⟨c, ?_, by rw [hd']; decide⟩)
              rw [hc, List.getD_eq_getElem?_getD, List.getElem?_eq_getElem h64]
              exact List.getElem_mem _
            unfold dsL dsE
            rw [e]; exact ⟨rfl, rfl⟩)
          have I1 := Lib.hid i1
          have HR := Lib.hid (show (cells8 zero32).size = (cells8 zero32).size from rfl)
          clear hd hd' hcs hc i1 i2 hm hr1 hr3 hr4
          dsimp only at hnx
          generalize wr.iterAt (w.heap.size + 2) (str T) (k + n) = wq at *
          go_wp2_with (first
            | (go_at_call 66; ((with_reducible refine (CV _).mono ?_); rintro e w' ⟨rfl, rfl⟩))
            | (refine wpList_build_as rfl 24 _ rfl (cells8 zero32) (by kernel_rfl) ?_)
            | (refine wpList_store_row rfl 24 _ _ rfl w.heap.size (cells8 zero32) rfl rfl 24 (cells8 zero32) I1.out.r0 HZ.out rfl (cells8_one _) ?_))
          have M5 := I1.out.row0 zero32
          exact bodyPost_ret (results_row_tmp rfl _ _ w.heap.size 24 (cells8 zero32) _ rfl M5.r0 Tryd.underlying24 rfl HZ.out (.int .i64 10) rfl) rfl ⟨by rw [HD.out.1, HD.out.2], M5.nx⟩
      · obtain rfl : k = 64 := by omega
        have hnx := fun ty => Lib.run_next_end_at (P := Tryd.prog) wr _ _ _ ty hm.it (by rw [szs]; omega)
        have HD := Lib.hid (show dsL T = readD T ∧ dsE T = 0 by
          have e : isDs T = true := by
            unfold isDs
            rw [HL.out, Bool.and_eq_true, decide_eq_true_eq, List.all_eq_true]
            refine ⟨rfl, fun c hc => ?_⟩
            obtain ⟨j, hj, rfl⟩ := List.mem_iff_getElem.1 hc
            have := HJ.out j (by rw [HL.out] at hj; exact hj)
            rwa [List.getD_eq_getElem?_getD, List.getElem?_eq_getElem hj] at this
          unfold dsL dsE
          rw [e]; exact ⟨rfl, rfl⟩)
        have hmm := hm.m
        rw [partD_all HL.out] at hmm
        obtain ⟨D, hDD⟩ : ∃ D, D = readD T := ⟨_, rfl⟩
        have hDl : D.length = 32 := by rw [hDD]; exact readD_length 32 _ (by rw [HL.out])
        rw [← hDD] at hmm HD
        have HI := Lib.hid (info_digest hDl)
        have HO := Lib.hid (show (cells8 zero32).size = (cells8 D).size by rw [cells8_size, cells8_size, hDl]; rfl)
        have M := Lib.hid hmm
        clear hmm hm hDD hDl hlt hk
        go_wp2_with (first
          | (refine wpList_load_row rfl 24 _ rfl (w.heap.size + 1) rfl 24 (cells8 D) (0, 0) _ M.out.r1 Tryd.underlying24 rfl HI.out ?_)
          | (refine wpList_store_row rfl 24 _ _ rfl w.heap.size (cells8 D) rfl rfl 24 (cells8 zero32) M.out.r0 HI.out HO.out (cells8_one _) ?_))
        have M5 := M.out.row0 D
        exact bodyPost_ret (results_row_tmp rfl _ _ w.heap.size 24 (cells8 D) _ rfl M5.r0 Tryd.underlying24 rfl HI.out (.int .i64 0) rfl) rfl ⟨by rw [HD.out.1, HD.out.2], M5.nx⟩
  · have HD := Lib.hid (show dsL T = zero32 ∧ dsE T = 10 by
      have e : isDs T = false := by unfold isDs; rw [decide_eq_false hl]; rfl
      unfold dsL dsE
      rw [e]; exact ⟨rfl, rfl⟩)
    have hl' : ((T.length : Int) != 64) = true := by simp; omega
    have hl2 : ((T.length : Int) == 64) = false := by simp; omega
    clear hl
    go_enter Tryd.func52, Tryd.ntmps52
    go_wp2_with (first
      | (refine wpList_build_as rfl 24 _ rfl (cells8 zero32) (by kernel_rfl) ?_)
      | (refine wpList_store_row rfl 24 _ _ rfl w.heap.size (cells8 zero32) rfl rfl 24 (cells8 zero32) M0.out.r0 HZ.out rfl (cells8_one _) ?_))
    have M5 := M0.out.row0 zero32
    exact bodyPost_ret (results_row_tmp rfl _ _ w.heap.size 24 (cells8 zero32) _ rfl M5.r0 Tryd.underlying24 rfl HZ.out (.int .i64 10) rfl) rfl ⟨by rw [HD.out.1, HD.out.2], M5.nx⟩
theorem prefix_take (S : List UInt8) : Lib.hasPrefix S nameL = decide (S.take 7 = nameL) := by
  unfold Lib.hasPrefix
  rw [Bool.eq_iff_iff, decide_eq_true_eq, List.isPrefixOf_iff_prefix]
  constructor
  · rintro ⟨t, rfl⟩; rfl
  · intro h; rw [← h]; exact List.take_prefix 7 S
theorem isText_parts {S : List UInt8} (h : S.take 7 = nameL) : isText S = isDs (S.drop 7) := by
  have hl : 7 ≤ S.length := by
    have := congrArg List.length h
    rw [List.length_take] at this
    have e : nameL.length = 7 := rfl
    omega
  unfold isText isDs
  rw [decide_eq_true h, Bool.true_and, List.length_drop]
  congr 1
  rw [decide_eq_decide]
  omega
set_option maxRecDepth 100000 in
set_option maxHeartbeats 1000000 in
theorem parse_any (S : List UInt8) (w : World) :
    Calls Tryd.prog 35 #[.string (str S)] w fun e w' => e = .returned (.tuple #[.agg (cells8 (digL S)), .int .i64 (errL S)]) ∧ Below w.heap.size w w' := by
  have HZ := Lib.hid (info_digest (l := zero32) rfl)
  have CP := fun w => Tryd.strings_CutPrefix (str S) ⟨#[115, 104, 97, 50, 53, 54, 58]⟩ w
  have ep : Lib.hasPrefix (str S).data.toList (ByteArray.mk #[115, 104, 97, 50, 53, 54, 58]).data.toList = decide (S.take 7 = nameL) := prefix_take S
  unfold Lib.trimPrefix at CP
  rw [ep] at CP
  clear ep
  have R0 := Lib.hid (rowC_new w (cells8 zero32) 24)
  by_cases h : S.take 7 = nameL
  · have HE := Lib.hid (isText_parts h)
    rw [decide_eq_true h] at CP
    rw [if_pos rfl] at CP
    have e2 : (⟨((str S).data.toList.drop (ByteArray.mk #[115, 104, 97, 50, 53, 54, 58]).data.toList.length).toArray⟩ : ByteArray) = str (S.drop 7) := rfl
    rw [e2] at CP
    have CD := fun w => parseDigits_any (S.drop 7) w
    have HR := Lib.hid (show digL S = dsL (S.drop 7) ∧ errL S = dsE (S.drop 7) by
      unfold digL errL dsL dsE
      rw [HE.out]; exact ⟨rfl, rfl⟩)
    obtain ⟨D, hD⟩ : ∃ D, D = dsL (S.drop 7) := ⟨_, rfl⟩
    have hDl : D.length = 32 := by rw [hD]; exact dsL_length _
    rw [← hD] at HR CD
    have HI := Lib.hid (info_digest hDl)
    have HO := Lib.hid (show (cells8 zero32).size = (cells8 D).size by rw [cells8_size, cells8_size, hDl]; rfl)
    obtain ⟨E, hE⟩ : ∃ E, E = dsE (S.drop 7) := ⟨_, rfl⟩
    rw [← hE] at HR CD
    clear h e2 hD hDl hE
    go_enter Tryd.func35, Tryd.ntmps35
    go_wp2_with (first
      | (go_at_call 26; ((with_reducible refine (CP _).mono ?_); rintro e w1 ⟨rfl, rfl⟩))
      | (go_at_call 52; ((with_reducible refine (CD _).mono ?_); rintro e w3 ⟨rfl, hb3⟩))
      | (refine wpList_store_row rfl 24 _ _ rfl w.heap.size (cells8 D) rfl rfl 24 (cells8 zero32) (rowC_below R0.out hb3 (by simp)) HI.out HO.out (cells8_one _) ?_))
    have M5 := rowC_setRow (rowC_below R0.out hb3 (by simp)) (cells8 D)
    exact bodyPost_ret (results_row_tmp rfl _ _ w.heap.size 24 (cells8 D) _ rfl M5 Tryd.underlying24 rfl HI.out (.int .i64 E) rfl) rfl ⟨by rw [HR.out.1, HR.out.2], below_setRow (((Below.refl _ _).alloc (Nat.le_refl _) _).trans (hb3.mono (by simp))) (Nat.le_refl _) _⟩
  · have HR := Lib.hid (show digL S = zero32 ∧ errL S = 10 by
      have e : isText S = false := by unfold isText; rw [decide_eq_false h]; rfl
      unfold digL errL
      rw [e]; exact ⟨rfl, rfl⟩)
    rw [decide_eq_false h] at CP
    rw [if_neg (by decide)] at CP
    clear h
    go_enter Tryd.func35, Tryd.ntmps35
    go_wp2_with (first
      | (go_at_call 26; ((with_reducible refine (CP _).mono ?_); rintro e w1 ⟨rfl, rfl⟩))
      | (refine wpList_build_as rfl 24 _ rfl (cells8 zero32) (by kernel_rfl) ?_)
      | (refine wpList_store_row rfl 24 _ _ rfl w.heap.size (cells8 zero32) rfl rfl 24 (cells8 zero32) R0.out HZ.out rfl (cells8_one _) ?_))
    have M5 := rowC_setRow R0.out (cells8 zero32)
    exact bodyPost_ret (results_row_tmp rfl _ _ w.heap.size 24 (cells8 zero32) _ rfl M5 Tryd.underlying24 rfl HZ.out (.int .i64 10) rfl) rfl ⟨by rw [HR.out.1, HR.out.2], below_setRow ((Below.refl _ _).alloc (Nat.le_refl _) _) (Nat.le_refl _) _⟩
end Go.Proofs.YtldbfjcfobdkpaaDoor

/- Layer 12: a text read, as the program does it. -/
namespace Go.Proofs.YtldbfjcfobdkpaaDoor
open Go.RowKit

/-- A name that is being made, in memory. -/
structure OM (W w : World) (r : RR) : Prop where
  b : Below W.heap.size W w
  r : refAt w W.heap.size r
theorem OM.start (W : World) : OM W (W.alloc (.cells #[.string ⟨#[]⟩, .string ⟨#[]⟩, .string ⟨#[]⟩, .int .u8 0, .int .u8 0, .int .u8 0, .int .u8 0, .int .u8 0, .int .u8 0, .int .u8 0, .int .u8 0, .int .u8 0, .int .u8 0, .int .u8 0, .int .u8 0, .int .u8 0, .int .u8 0, .int .u8 0, .int .u8 0, .int .u8 0, .int .u8 0, .int .u8 0, .int .u8 0, .int .u8 0, .int .u8 0, .int .u8 0, .int .u8 0, .int .u8 0, .int .u8 0, .int .u8 0, .int .u8 0, .int .u8 0, .int .u8 0, .int .u8 0, .int .u8 0, .bool false] 26)) zeroR := by
  rw [← zero_lit]
  exact ⟨(Below.refl _ _).alloc (Nat.le_refl _) _, rowC_new W _ _⟩
theorem OM.below {W w w' : World} {r : RR} (h : OM W w r) (hb : Below w.heap.size w w') : OM W w' r := ⟨h.b.trans (hb.mono h.b.size), h.r.below hb⟩
theorem OM.dom {W w : World} {r : RR} (h : OM W w r) (d : List UInt8) : OM W (w.setCell ⟨W.heap.size, 0, none⟩ (.string (str d))) { r with dom := d } :=
  ⟨h.b.setCell (p := ⟨W.heap.size, 0, none⟩) (by simp) _, by unfold refAt; rw [← refC_dom]; exact rowC_set h.r 0 _⟩
theorem OM.path {W w : World} {r : RR} (h : OM W w r) (d : List UInt8) : OM W (w.setCell ⟨W.heap.size, 1, none⟩ (.string (str d))) { r with path := d } :=
  ⟨h.b.setCell (p := ⟨W.heap.size, 1, none⟩) (by simp) _, by unfold refAt; rw [← refC_path]; exact rowC_set h.r 1 _⟩
theorem OM.tag {W w : World} {r : RR} (h : OM W w r) (d : List UInt8) : OM W (w.setCell ⟨W.heap.size, 2, none⟩ (.string (str d))) { r with tag := d } :=
  ⟨h.b.setCell (p := ⟨W.heap.size, 2, none⟩) (by simp) _, by unfold refAt; rw [← refC_tag]; exact rowC_set h.r 2 _⟩
theorem OM.pin {W w : World} {r : RR} (h : OM W w r) (hd : r.dig.length = 32) (b : Bool) : OM W (w.setCell ⟨W.heap.size, 35, none⟩ (.bool b)) { r with pin := b } :=
  ⟨h.b.setCell (p := ⟨W.heap.size, 35, none⟩) (by simp) _, by unfold refAt; rw [← refC_pin r b hd]; exact rowC_set h.r 35 _⟩
theorem OM.dig {W w : World} {r : RR} (h : OM W w r) (hr : r.dig.length = 32) (d : List UInt8) (hd : d.length = 32) : OM W (w.setCells W.heap.size 3 (d.map byteV)) { r with dig := d } := by
  refine ⟨below_setCells (Nat.le_refl _) _ _ h.b, ?_⟩
  unfold refAt refC
  rw [← refL_dig r d hr hd]
  exact rowC_setCells _ 3 h.r (by unfold refL; simp [hr, hd])
theorem OM.res {W w : World} {r : RR} (h : OM W w r) (x : RR) : OM W (w.setRow W.heap.size (refC x)) x :=
  ⟨below_setRow h.b (Nat.le_refl _) _, rowC_setRow h.r _⟩
theorem OM.cells {W w : World} {r : RR} (h : OM W w r) (ho : r.ok) :
    (w.cell? ⟨W.heap.size, 0, none⟩ = some (.string (str r.dom)) ∧ w.cell? ⟨W.heap.size, 1, none⟩ = some (.string (str r.path)) ∧ w.cell? ⟨W.heap.size, 2, none⟩ = some (.string (str r.tag)) ∧ w.cell? ⟨W.heap.size, 35, none⟩ = some (.bool r.pin)) ∧
    (w.frozen? ⟨W.heap.size, 0, none⟩ = false ∧ w.frozen? ⟨W.heap.size, 1, none⟩ = false ∧ w.frozen? ⟨W.heap.size, 2, none⟩ = false ∧ w.frozen? ⟨W.heap.size, 35, none⟩ = false) :=
  ⟨h.r.cells ho, rowC_free h.r 0, rowC_free h.r 1, rowC_free h.r 2, rowC_free h.r 35⟩
theorem OM.there {W w : World} {r : RR} (h : OM W w r) (ho : r.ok) : w.there W.heap.size 3 32 := fun j hj => by
  refine ⟨?_, rowC_free h.r _⟩
  rw [rowC_cell h.r (3 + j), Array.getElem?_eq_getElem (by rw [refC_size ho]; omega)]
  rfl
set_option maxHeartbeats 1000000 in
theorem clone_any (s : List UInt8) (hl : s.length ≤ 1000000) (w : World) :
    Calls Tryd.prog 37 #[.string (str s)] w fun e w' => e = .returned (.string (str s)) ∧ Below w.heap.size w w' := by
  have C := fun w => Tryd.stringslite_Clone (str s) w (by rw [str_size]; omega)
  generalize str s = S at *
  go_enter Tryd.func37, Tryd.ntmps37
  go_wp2_with (go_at_call 53; ((with_reducible refine (C _).mono ?_); rintro e w1 ⟨rfl, b1⟩))
  go_ret
  exact ⟨rfl, b1⟩
/-- What the program's reading tells: a text's name, or none. -/
def wrongR (s : List UInt8) : Bool := (tagged ((cutL s 64).getD 0 []) && decide (lastR ((cutL s 64).getD 0 []) = [])) || (pinR s && !isText (digR s))
theorem tagC_le (n : List UInt8) : (tagC n).length ≤ n.length := by
  unfold tagC
  split
  · rename_i h
    exact Nat.le_of_lt (tagged_lt h)
  · exact Nat.zero_le _
theorem tagC_none (n : List UInt8) : decide (tagC n = []) = (!tagged n || decide (lastR n = [])) := by
  unfold tagC
  cases tagged n <;> simp
set_option maxRecDepth 100000 in
set_option maxHeartbeats 8000000 in
theorem read_u1 (s : List UInt8) (hl : s.length ≤ 300) (hm : (64 : UInt8) ∉ s) (ht : tagged s = true) (hn : tagC s = []) (w : World) :
    Calls Tryd.prog 18 #[.string (str s)] w fun e w' => e = .returned (.tuple #[.agg (refC zeroR), .bool false]) ∧ Below w.heap.size w w' := by
  have CC := fun w => cut_miss hm w
  have CT := fun w => cutTag_any s (by omega) w
  have he := eq_none (tagC s)
  have he2 := empty_lit (tagC s)
  rw [ht] at CT
  rw [decide_eq_true hn] at he he2
  clear hn ht hm
  generalize tagC s = T at *
  have HI := Lib.hid (info_ref zero_ok)
  have M := Lib.hid (OM.start w)
  go_enter Tryd.func18, Tryd.ntmps18
  go_wp2_with (first
        | (go_at_call 33; ((with_reducible refine (CC _).mono ?_); rintro e wn ⟨rfl, bn⟩); replace M := Lib.hid (M.out.below bn); clear bn CC)
        | (go_at_call 34; ((with_reducible refine (CT _).mono ?_); rintro e wn ⟨rfl, bn⟩); replace M := Lib.hid (M.out.below bn); clear bn CT)
        | ((with_reducible show wpList _ _ _ (⟨some 29, _, _, _, _, _⟩ :: _) _ _); refine wpList_build_as (o := ⟨some 29, _, _, _, _, _⟩) rfl 26 _ rfl (refC zeroR) ?_ ?_; kernel_rfl)
        | ((with_reducible show wpList _ _ _ (⟨none, .store _ (.tmp 2) (.tmp 29), _, _, _, _⟩ :: _) _ _); refine wpList_store_row rfl 26 _ _ rfl w.heap.size (refC zeroR) rfl rfl 26 (refC zeroR) M.out.r HI.out rfl (refC_all _) ?_; replace M := Lib.hid (M.out.res zeroR); generalize World.setRow _ _ _ = wz at *))
  exact bodyPost_ret (results_row_tmp rfl _ _ w.heap.size 26 (refC zeroR) _ rfl M.out.r Tryd.underlying26 rfl HI.out _ rfl) rfl ⟨rfl, M.out.b⟩
set_option maxRecDepth 100000 in
set_option maxHeartbeats 8000000 in
theorem read_p1 (s a b : List UInt8) (hs : s = a ++ 64 :: b) (hl : s.length ≤ 300) (hm : (64 : UInt8) ∉ a) (ht : tagged a = true) (hn : tagC a = []) (w : World) :
    Calls Tryd.prog 18 #[.string (str s)] w fun e w' => e = .returned (.tuple #[.agg (refC zeroR), .bool false]) ∧ Below w.heap.size w w' := by
  have CC : ∀ w, Calls Tryd.prog 33 #[.string (str s), .string ⟨#[64]⟩] w fun e w' => e = .returned (.tuple #[.string (str a), .string (str b), .bool true]) ∧ Below w.heap.size w w' := by rw [hs] at hl ⊢; exact fun w => cut_hit a b 64 hm (by omega) w
  have hab : a.length ≤ 300 ∧ b.length ≤ 300 := by rw [hs, List.length_append, List.length_cons] at hl; omega
  obtain ⟨ha, hb⟩ := hab
  have CT := fun w => cutTag_any a (by omega) w
  have he := eq_none (tagC a)
  have he2 := empty_lit (tagC a)
  rw [ht] at CT
  rw [decide_eq_true hn] at he he2
  clear hn ht hm hs
  generalize tagC a = T at *
  have HI := Lib.hid (info_ref zero_ok)
  have M := Lib.hid (OM.start w)
  go_enter Tryd.func18, Tryd.ntmps18
  go_wp2_with (first
        | (go_at_call 33; ((with_reducible refine (CC _).mono ?_); rintro e wn ⟨rfl, bn⟩); replace M := Lib.hid (M.out.below bn); clear bn CC)
        | (go_at_call 34; ((with_reducible refine (CT _).mono ?_); rintro e wn ⟨rfl, bn⟩); replace M := Lib.hid (M.out.below bn); clear bn CT)
        | ((with_reducible show wpList _ _ _ (⟨some 29, _, _, _, _, _⟩ :: _) _ _); refine wpList_build_as (o := ⟨some 29, _, _, _, _, _⟩) rfl 26 _ rfl (refC zeroR) ?_ ?_; kernel_rfl)
        | ((with_reducible show wpList _ _ _ (⟨none, .store _ (.tmp 2) (.tmp 29), _, _, _, _⟩ :: _) _ _); refine wpList_store_row rfl 26 _ _ rfl w.heap.size (refC zeroR) rfl rfl 26 (refC zeroR) M.out.r HI.out rfl (refC_all _) ?_; replace M := Lib.hid (M.out.res zeroR); generalize World.setRow _ _ _ = wz at *))
  exact bodyPost_ret (results_row_tmp rfl _ _ w.heap.size 26 (refC zeroR) _ rfl M.out.r Tryd.underlying26 rfl HI.out _ rfl) rfl ⟨rfl, M.out.b⟩
set_option maxRecDepth 100000 in
set_option maxHeartbeats 8000000 in
theorem read_p2 (s a b : List UInt8) (hs : s = a ++ 64 :: b) (hl : s.length ≤ 300) (hm : (64 : UInt8) ∉ a) (ht : tagged a = true) (hn : tagC a ≠ []) (hd : isText b = false) (w : World) :
    Calls Tryd.prog 18 #[.string (str s)] w fun e w' => e = .returned (.tuple #[.agg (refC zeroR), .bool false]) ∧ Below w.heap.size w w' := by
  have CC : ∀ w, Calls Tryd.prog 33 #[.string (str s), .string ⟨#[64]⟩] w fun e w' => e = .returned (.tuple #[.string (str a), .string (str b), .bool true]) ∧ Below w.heap.size w w' := by rw [hs] at hl ⊢; exact fun w => cut_hit a b 64 hm (by omega) w
  have hab : a.length ≤ 300 ∧ b.length ≤ 300 := by rw [hs, List.length_append, List.length_cons] at hl; omega
  obtain ⟨ha, hb⟩ := hab
  have CT := fun w => cutTag_any a (by omega) w
  have he := eq_none (tagC a)
  have he2 := empty_lit (tagC a)
  rw [ht] at CT
  rw [decide_eq_false hn] at he he2
  have CD := fun w => parse_any b w
  have hE : errL b = 10 := by unfold errL; rw [hd]; rfl
  rw [hE] at CD
  have hDl : (digL b).length = 32 := digL_length _
  obtain ⟨D, hD⟩ : ∃ D, D = digL b := ⟨_, rfl⟩
  rw [← hD] at CD hDl
  have HDI := Lib.hid (info_digest hDl)
  have HSZ := Lib.hid (show (cells8 zero32).size = (cells8 D).size by rw [cells8_size, cells8_size, hDl]; rfl)
  have HSD := Lib.hid (show (cells8 D).size = 32 by rw [cells8_size, hDl])
  have HD32 := Lib.hid hDl
  clear hm hs hE hD hDl hd ht hn
  generalize tagC a = T at *
  have HI := Lib.hid (info_ref zero_ok)
  have M := Lib.hid (OM.start w)
  go_enter Tryd.func18, Tryd.ntmps18
  go_wp2_with (first
        | (go_at_call 33; ((with_reducible refine (CC _).mono ?_); rintro e wn ⟨rfl, bn⟩); replace M := Lib.hid (M.out.below bn); clear bn CC)
        | (go_at_call 34; ((with_reducible refine (CT _).mono ?_); rintro e wn ⟨rfl, bn⟩); replace M := Lib.hid (M.out.below bn); clear bn CT)
        | (go_at_call 35; ((with_reducible refine (CD _).mono ?_); rintro e w4 ⟨rfl, b4⟩); replace M := Lib.hid (M.out.below b4); have HA4 := Lib.hid ((Below.refl w4.heap.size w4).alloc (Nat.le_refl _) (.cells (cells8 zero32) 24)); replace M := Lib.hid (M.out.below (below_setRow HA4.out (Nat.le_refl _) (cells8 D))); have HRD := Lib.hid (rowC_setRow (rowC_new w4 (cells8 zero32) 24) (cells8 D)); clear b4 CD)
        | ((with_reducible show wpList _ _ _ (⟨none, .store _ (.tmp 8) _, _, _, _, _⟩ :: _) _ _); refine wpList_store_row rfl 24 _ _ rfl w4.heap.size (cells8 D) rfl rfl 24 (cells8 zero32) (rowC_new w4 _ _) HDI.out HSZ.out (cells8_one _) ?_; change wpList _ _ _ _ _ ((w4.alloc (.cells (cells8 zero32) 24)).setRow w4.heap.size (cells8 D)); generalize World.setRow _ _ _ = w5 at *)
        | ((with_reducible show wpList _ _ _ (⟨some 38, _, _, _, _, _⟩ :: _) _ _); refine wpList_build_as (o := ⟨some 38, _, _, _, _, _⟩) rfl 26 _ rfl (refC zeroR) ?_ ?_; kernel_rfl)
        | ((with_reducible show wpList _ _ _ (⟨none, .store _ (.tmp 2) (.tmp 38), _, _, _, _⟩ :: _) _ _); refine wpList_store_row rfl 26 _ _ rfl w.heap.size (refC zeroR) rfl rfl 26 (refC zeroR) M.out.r HI.out rfl (refC_all _) ?_; replace M := Lib.hid (M.out.res zeroR); generalize World.setRow _ _ _ = wz at *))
  exact bodyPost_ret (results_row_tmp rfl _ _ w.heap.size 26 (refC zeroR) _ rfl M.out.r Tryd.underlying26 rfl HI.out _ rfl) rfl ⟨rfl, M.out.b⟩
set_option maxRecDepth 100000 in
set_option maxHeartbeats 8000000 in
theorem read_p3 (s a b : List UInt8) (hs : s = a ++ 64 :: b) (hl : s.length ≤ 300) (hm : (64 : UInt8) ∉ a) (ht : tagged a = false) (hd : isText b = false) (w : World) :
    Calls Tryd.prog 18 #[.string (str s)] w fun e w' => e = .returned (.tuple #[.agg (refC zeroR), .bool false]) ∧ Below w.heap.size w w' := by
  have CC : ∀ w, Calls Tryd.prog 33 #[.string (str s), .string ⟨#[64]⟩] w fun e w' => e = .returned (.tuple #[.string (str a), .string (str b), .bool true]) ∧ Below w.heap.size w w' := by rw [hs] at hl ⊢; exact fun w => cut_hit a b 64 hm (by omega) w
  have hab : a.length ≤ 300 ∧ b.length ≤ 300 := by rw [hs, List.length_append, List.length_cons] at hl; omega
  obtain ⟨ha, hb⟩ := hab
  have CT := fun w => cutTag_any a (by omega) w
  have he := eq_none (tagC a)
  have he2 := empty_lit (tagC a)
  rw [ht] at CT
  have CD := fun w => parse_any b w
  have hE : errL b = 10 := by unfold errL; rw [hd]; rfl
  rw [hE] at CD
  have hDl : (digL b).length = 32 := digL_length _
  obtain ⟨D, hD⟩ : ∃ D, D = digL b := ⟨_, rfl⟩
  rw [← hD] at CD hDl
  have HDI := Lib.hid (info_digest hDl)
  have HSZ := Lib.hid (show (cells8 zero32).size = (cells8 D).size by rw [cells8_size, cells8_size, hDl]; rfl)
  have HSD := Lib.hid (show (cells8 D).size = 32 by rw [cells8_size, hDl])
  have HD32 := Lib.hid hDl
  clear hm hs hE hD hDl hd ht
  generalize tagC a = T at *
  have HI := Lib.hid (info_ref zero_ok)
  have M := Lib.hid (OM.start w)
  go_enter Tryd.func18, Tryd.ntmps18
  go_wp2_with (first
        | (go_at_call 33; ((with_reducible refine (CC _).mono ?_); rintro e wn ⟨rfl, bn⟩); replace M := Lib.hid (M.out.below bn); clear bn CC)
        | (go_at_call 34; ((with_reducible refine (CT _).mono ?_); rintro e wn ⟨rfl, bn⟩); replace M := Lib.hid (M.out.below bn); clear bn CT)
        | (go_at_call 35; ((with_reducible refine (CD _).mono ?_); rintro e w4 ⟨rfl, b4⟩); replace M := Lib.hid (M.out.below b4); have HA4 := Lib.hid ((Below.refl w4.heap.size w4).alloc (Nat.le_refl _) (.cells (cells8 zero32) 24)); replace M := Lib.hid (M.out.below (below_setRow HA4.out (Nat.le_refl _) (cells8 D))); have HRD := Lib.hid (rowC_setRow (rowC_new w4 (cells8 zero32) 24) (cells8 D)); clear b4 CD)
        | ((with_reducible show wpList _ _ _ (⟨none, .store _ (.tmp 8) _, _, _, _, _⟩ :: _) _ _); refine wpList_store_row rfl 24 _ _ rfl w4.heap.size (cells8 D) rfl rfl 24 (cells8 zero32) (rowC_new w4 _ _) HDI.out HSZ.out (cells8_one _) ?_; change wpList _ _ _ _ _ ((w4.alloc (.cells (cells8 zero32) 24)).setRow w4.heap.size (cells8 D)); generalize World.setRow _ _ _ = w5 at *)
        | ((with_reducible show wpList _ _ _ (⟨some 38, _, _, _, _, _⟩ :: _) _ _); refine wpList_build_as (o := ⟨some 38, _, _, _, _, _⟩) rfl 26 _ rfl (refC zeroR) ?_ ?_; kernel_rfl)
        | ((with_reducible show wpList _ _ _ (⟨none, .store _ (.tmp 2) (.tmp 38), _, _, _, _⟩ :: _) _ _); refine wpList_store_row rfl 26 _ _ rfl w.heap.size (refC zeroR) rfl rfl 26 (refC zeroR) M.out.r HI.out rfl (refC_all _) ?_; replace M := Lib.hid (M.out.res zeroR); generalize World.setRow _ _ _ = wz at *))
  exact bodyPost_ret (results_row_tmp rfl _ _ w.heap.size 26 (refC zeroR) _ rfl M.out.r Tryd.underlying26 rfl HI.out _ rfl) rfl ⟨rfl, M.out.b⟩
set_option maxRecDepth 100000 in
set_option maxHeartbeats 8000000 in
theorem read_u2 (s : List UInt8) (hl : s.length ≤ 300) (hm : (64 : UInt8) ∉ s) (ht : tagged s = true) (hn : tagC s ≠ []) (w : World) :
    Calls Tryd.prog 18 #[.string (str s)] w fun e w' => e = .returned (.tuple #[.agg (refC (⟨domR (nameR s), pathR (nameR s), tagC s, zero32, false⟩ : RR)), .bool true]) ∧ Below w.heap.size w w' := by
  have CC := fun w => cut_miss hm w
  have CT := fun w => cutTag_any s (by omega) w
  have he := eq_none (tagC s)
  have he2 := empty_lit (tagC s)
  rw [ht] at CT
  rw [decide_eq_false hn] at he he2
  have htl := tagC_le s
  clear hn ht hm
  have hnl := nameR_le s
  have hdl := domR_le (nameR s)
  have hpl := pathR_le (nameR s)
  have CP := fun w => place_any (nameR s) (by omega) w
  have CL1 := fun w => clone_any (domR (nameR s)) (by omega) w
  have CL2 := fun w => clone_any (pathR (nameR s)) (by omega) w
  have CL3 := fun w => clone_any (tagC s) (by omega) w
  have HOK := Lib.hid (show RR.ok ⟨[], [], [], zero32, false⟩ from ⟨Nat.zero_le _, Nat.zero_le _, Nat.zero_le _, rfl⟩)
  have HOF := Lib.hid (show RR.ok ⟨domR (nameR s), pathR (nameR s), tagC s, zero32, false⟩ from ⟨by show (domR _).length ≤ 1000; omega, by show (pathR _).length ≤ 1000; omega, by show (tagC s).length ≤ 1000; omega, rfl⟩)
  have HIF := Lib.hid (info_ref HOF.out)
  clear hnl hdl hpl
  generalize domR (nameR s) = DD at *
  generalize pathR (nameR s) = PP at *
  generalize nameR s = NN at *
  generalize tagC s = T at *
  have HI := Lib.hid (info_ref zero_ok)
  have M := Lib.hid (OM.start w)
  go_enter Tryd.func18, Tryd.ntmps18
  go_wp2_with (first
        | (go_at_call 33; ((with_reducible refine (CC _).mono ?_); rintro e wn ⟨rfl, bn⟩); replace M := Lib.hid (M.out.below bn); clear bn CC)
        | (go_at_call 34; ((with_reducible refine (CT _).mono ?_); rintro e wn ⟨rfl, bn⟩); replace M := Lib.hid (M.out.below bn); clear bn CT)
        | (go_at_call 36; ((with_reducible refine (CP _).mono ?_); rintro e wn ⟨rfl, bn⟩); replace M := Lib.hid (M.out.below bn); clear bn CP)
        | (go_at_call 37; ((with_reducible refine (CL1 _).mono ?_); rintro e wn ⟨rfl, bn⟩); replace M := Lib.hid (M.out.below bn); clear bn CL1)
        | (go_at_call 37; ((with_reducible refine (CL2 _).mono ?_); rintro e wn ⟨rfl, bn⟩); replace M := Lib.hid (M.out.below bn); clear bn CL2)
        | (go_at_call 37; ((with_reducible refine (CL3 _).mono ?_); rintro e wn ⟨rfl, bn⟩); replace M := Lib.hid (M.out.below bn); clear bn CL3; obtain ⟨⟨k0, k1, k2, k3⟩, ⟨l0, l1, l2, l3⟩⟩ := M.out.cells HOK.out)
        | ((with_reducible show wpList _ _ _ (⟨some 58, _, _, _, _, _⟩ :: _) _ _); replace M := Lib.hid (((M.out.dom DD).path PP).tag T); generalize World.setCell _ _ _ = wf at *; refine wpList_load_rowG rfl 26 (.tmp 2) rfl w.heap.size rfl 26 (refC ⟨DD, PP, T, zero32, false⟩) _ M.out.r Tryd.underlying26 rfl HIF.out ?_)
        | ((with_reducible show wpList _ _ _ (⟨none, .store _ (.tmp 2) (.tmp 58), _, _, _, _⟩ :: _) _ _); refine wpList_store_row rfl 26 _ _ rfl w.heap.size (refC ⟨DD, PP, T, zero32, false⟩) rfl rfl 26 (refC ⟨DD, PP, T, zero32, false⟩) M.out.r HIF.out rfl (refC_all _) ?_; replace M := Lib.hid (M.out.res ⟨DD, PP, T, zero32, false⟩); generalize World.setRow _ _ _ = wz at *))
  exact bodyPost_ret (results_row_tmp rfl _ _ w.heap.size 26 (refC ⟨DD, PP, T, zero32, false⟩) _ rfl M.out.r Tryd.underlying26 rfl HIF.out _ rfl) rfl ⟨rfl, M.out.b⟩
set_option maxRecDepth 100000 in
set_option maxHeartbeats 8000000 in
theorem read_u3 (s : List UInt8) (hl : s.length ≤ 300) (hm : (64 : UInt8) ∉ s) (ht : tagged s = false) (w : World) :
    Calls Tryd.prog 18 #[.string (str s)] w fun e w' => e = .returned (.tuple #[.agg (refC (⟨domR (nameR s), pathR (nameR s), latestB, zero32, false⟩ : RR)), .bool true]) ∧ Below w.heap.size w w' := by
  have CC := fun w => cut_miss hm w
  have CT := fun w => cutTag_any s (by omega) w
  rw [ht] at CT
  generalize tagC s = T at *
  clear ht hm
  have hnl := nameR_le s
  have hdl := domR_le (nameR s)
  have hpl := pathR_le (nameR s)
  have CP := fun w => place_any (nameR s) (by omega) w
  have CL1 := fun w => clone_any (domR (nameR s)) (by omega) w
  have CL2 := fun w => clone_any (pathR (nameR s)) (by omega) w
  have CL3 : ∀ w, Calls Tryd.prog 37 #[.string ⟨#[108, 97, 116, 101, 115, 116]⟩] w fun e w' => e = .returned (.string ⟨#[108, 97, 116, 101, 115, 116]⟩) ∧ Below w.heap.size w w' := fun w => clone_any (latestB) (by decide) w
  have HOK := Lib.hid (show RR.ok ⟨[], [], [], zero32, false⟩ from ⟨Nat.zero_le _, Nat.zero_le _, Nat.zero_le _, rfl⟩)
  have HOF := Lib.hid (show RR.ok ⟨domR (nameR s), pathR (nameR s), latestB, zero32, false⟩ from ⟨by show (domR _).length ≤ 1000; omega, by show (pathR _).length ≤ 1000; omega, by show (latestB).length ≤ 1000; decide, rfl⟩)
  have HIF := Lib.hid (info_ref HOF.out)
  clear hnl hdl hpl
  generalize domR (nameR s) = DD at *
  generalize pathR (nameR s) = PP at *
  generalize nameR s = NN at *
  have HI := Lib.hid (info_ref zero_ok)
  have M := Lib.hid (OM.start w)
  go_enter Tryd.func18, Tryd.ntmps18
  go_wp2_with (first
        | (go_at_call 33; ((with_reducible refine (CC _).mono ?_); rintro e wn ⟨rfl, bn⟩); replace M := Lib.hid (M.out.below bn); clear bn CC)
        | (go_at_call 34; ((with_reducible refine (CT _).mono ?_); rintro e wn ⟨rfl, bn⟩); replace M := Lib.hid (M.out.below bn); clear bn CT)
        | (go_at_call 36; ((with_reducible refine (CP _).mono ?_); rintro e wn ⟨rfl, bn⟩); replace M := Lib.hid (M.out.below bn); clear bn CP)
        | (go_at_call 37; ((with_reducible refine (CL1 _).mono ?_); rintro e wn ⟨rfl, bn⟩); replace M := Lib.hid (M.out.below bn); clear bn CL1)
        | (go_at_call 37; ((with_reducible refine (CL2 _).mono ?_); rintro e wn ⟨rfl, bn⟩); replace M := Lib.hid (M.out.below bn); clear bn CL2)
        | (go_at_call 37; ((with_reducible refine (CL3 _).mono ?_); rintro e wn ⟨rfl, bn⟩); replace M := Lib.hid (M.out.below bn); clear bn CL3; obtain ⟨⟨k0, k1, k2, k3⟩, ⟨l0, l1, l2, l3⟩⟩ := M.out.cells HOK.out)
        | ((with_reducible show wpList _ _ _ (⟨some 58, _, _, _, _, _⟩ :: _) _ _); replace M : Hid (OM w (((wn.setCell ⟨w.heap.size, 0, none⟩ (.string (str DD))).setCell ⟨w.heap.size, 1, none⟩ (.string (str PP))).setCell ⟨w.heap.size, 2, none⟩ (.string ⟨#[108, 97, 116, 101, 115, 116]⟩)) ⟨DD, PP, latestB, zero32, false⟩) := Lib.hid (((M.out.dom DD).path PP).tag latestB); generalize World.setCell _ _ _ = wf at *; refine wpList_load_rowG rfl 26 (.tmp 2) rfl w.heap.size rfl 26 (refC ⟨DD, PP, latestB, zero32, false⟩) _ M.out.r Tryd.underlying26 rfl HIF.out ?_)
        | ((with_reducible show wpList _ _ _ (⟨none, .store _ (.tmp 2) (.tmp 58), _, _, _, _⟩ :: _) _ _); refine wpList_store_row rfl 26 _ _ rfl w.heap.size (refC ⟨DD, PP, latestB, zero32, false⟩) rfl rfl 26 (refC ⟨DD, PP, latestB, zero32, false⟩) M.out.r HIF.out rfl (refC_all _) ?_; replace M := Lib.hid (M.out.res ⟨DD, PP, latestB, zero32, false⟩); generalize World.setRow _ _ _ = wz at *))
  exact bodyPost_ret (results_row_tmp rfl _ _ w.heap.size 26 (refC ⟨DD, PP, latestB, zero32, false⟩) _ rfl M.out.r Tryd.underlying26 rfl HIF.out _ rfl) rfl ⟨rfl, M.out.b⟩
set_option maxRecDepth 100000 in
set_option maxHeartbeats 8000000 in
theorem read_p4 (s a b : List UInt8) (hs : s = a ++ 64 :: b) (hl : s.length ≤ 300) (hm : (64 : UInt8) ∉ a) (ht : tagged a = true) (hn : tagC a ≠ []) (hd : isText b = true) (w : World) :
    Calls Tryd.prog 18 #[.string (str s)] w fun e w' => e = .returned (.tuple #[.agg (refC (⟨domR (nameR a), pathR (nameR a), tagC a, digL b, true⟩ : RR)), .bool true]) ∧ Below w.heap.size w w' := by
  have CC : ∀ w, Calls Tryd.prog 33 #[.string (str s), .string ⟨#[64]⟩] w fun e w' => e = .returned (.tuple #[.string (str a), .string (str b), .bool true]) ∧ Below w.heap.size w w' := by rw [hs] at hl ⊢; exact fun w => cut_hit a b 64 hm (by omega) w
  have hab : a.length ≤ 300 ∧ b.length ≤ 300 := by rw [hs, List.length_append, List.length_cons] at hl; omega
  obtain ⟨ha, hb⟩ := hab
  have CT := fun w => cutTag_any a (by omega) w
  have he := eq_none (tagC a)
  have he2 := empty_lit (tagC a)
  rw [ht] at CT
  rw [decide_eq_false hn] at he he2
  have CD := fun w => parse_any b w
  have hE : errL b = 0 := by unfold errL; rw [hd]; rfl
  rw [hE] at CD
  have hDl : (digL b).length = 32 := digL_length _
  obtain ⟨D, hD⟩ : ∃ D, D = digL b := ⟨_, rfl⟩
  rw [← hD] at CD hDl
  have HDI := Lib.hid (info_digest hDl)
  have HSZ := Lib.hid (show (cells8 zero32).size = (cells8 D).size by rw [cells8_size, cells8_size, hDl]; rfl)
  have HSD := Lib.hid (show (cells8 D).size = 32 by rw [cells8_size, hDl])
  have HD32 := Lib.hid hDl
  have HDE := Lib.hid hD
  have htl := tagC_le a
  clear hm hs hE hD hDl hd ht hn
  have hnl := nameR_le a
  have hdl := domR_le (nameR a)
  have hpl := pathR_le (nameR a)
  have CP := fun w => place_any (nameR a) (by omega) w
  have CL1 := fun w => clone_any (domR (nameR a)) (by omega) w
  have CL2 := fun w => clone_any (pathR (nameR a)) (by omega) w
  have CL3 := fun w => clone_any (tagC a) (by omega) w
  have HOK := Lib.hid (show RR.ok ⟨[], [], [], D, true⟩ from ⟨Nat.zero_le _, Nat.zero_le _, Nat.zero_le _, HD32.out⟩)
  have HOF := Lib.hid (show RR.ok ⟨domR (nameR a), pathR (nameR a), tagC a, D, true⟩ from ⟨by show (domR _).length ≤ 1000; omega, by show (pathR _).length ≤ 1000; omega, by show (tagC a).length ≤ 1000; omega, HD32.out⟩)
  have HIF := Lib.hid (info_ref HOF.out)
  clear hnl hdl hpl
  generalize domR (nameR a) = DD at *
  generalize pathR (nameR a) = PP at *
  generalize nameR a = NN at *
  generalize tagC a = T at *
  have HI := Lib.hid (info_ref zero_ok)
  have M := Lib.hid (OM.start w)
  go_enter Tryd.func18, Tryd.ntmps18
  go_wp2_with (first
        | (go_at_call 33; ((with_reducible refine (CC _).mono ?_); rintro e wn ⟨rfl, bn⟩); replace M := Lib.hid (M.out.below bn); clear bn CC)
        | (go_at_call 34; ((with_reducible refine (CT _).mono ?_); rintro e wn ⟨rfl, bn⟩); replace M := Lib.hid (M.out.below bn); clear bn CT)
        | (go_at_call 35; ((with_reducible refine (CD _).mono ?_); rintro e w4 ⟨rfl, b4⟩); replace M := Lib.hid (M.out.below b4); have HA4 := Lib.hid ((Below.refl w4.heap.size w4).alloc (Nat.le_refl _) (.cells (cells8 zero32) 24)); replace M := Lib.hid (M.out.below (below_setRow HA4.out (Nat.le_refl _) (cells8 D))); have HRD := Lib.hid (rowC_setRow (rowC_new w4 (cells8 zero32) 24) (cells8 D)); clear b4 CD)
        | ((with_reducible show wpList _ _ _ (⟨none, .store _ (.tmp 8) _, _, _, _, _⟩ :: _) _ _); refine wpList_store_row rfl 24 _ _ rfl w4.heap.size (cells8 D) rfl rfl 24 (cells8 zero32) (rowC_new w4 _ _) HDI.out HSZ.out (cells8_one _) ?_; change wpList _ _ _ _ _ ((w4.alloc (.cells (cells8 zero32) 24)).setRow w4.heap.size (cells8 D)); generalize World.setRow _ _ _ = w5 at *)
        | ((with_reducible show wpList _ _ _ (⟨some 39, _, _, _, _, _⟩ :: _) _ _); refine wpList_load_row rfl 24 _ rfl w4.heap.size rfl 24 (cells8 D) (0, 0) _ HRD.out Tryd.underlying24 rfl HDI.out ?_)
        | ((with_reducible show wpList _ _ _ (⟨none, .store _ (.tmp 40) _, _, _, _, _⟩ :: _) _ _); refine wpList_store_mid rfl 24 _ _ rfl w.heap.size 3 (cells8 D) rfl rfl (by rw [HSD.out]; exact M.out.there zero_ok) HDI.out (cells8_one _) ?_; replace M := Lib.hid (M.out.dig zero_ok.dig D HD32.out); change wpList _ _ _ _ _ (w5.setCells w.heap.size 3 (D.map byteV)); generalize World.setCells _ _ _ _ = w6 at *; obtain ⟨⟨k0, k1, k2, k3⟩, ⟨l0, l1, l2, l3⟩⟩ := M.out.cells ⟨Nat.zero_le _, Nat.zero_le _, Nat.zero_le _, HD32.out⟩; replace M := Lib.hid (M.out.pin HD32.out true))
        | (go_at_call 36; ((with_reducible refine (CP _).mono ?_); rintro e wn ⟨rfl, bn⟩); replace M := Lib.hid (M.out.below bn); clear bn CP)
        | (go_at_call 37; ((with_reducible refine (CL1 _).mono ?_); rintro e wn ⟨rfl, bn⟩); replace M := Lib.hid (M.out.below bn); clear bn CL1)
        | (go_at_call 37; ((with_reducible refine (CL2 _).mono ?_); rintro e wn ⟨rfl, bn⟩); replace M := Lib.hid (M.out.below bn); clear bn CL2)
        | (go_at_call 37; ((with_reducible refine (CL3 _).mono ?_); rintro e wn ⟨rfl, bn⟩); replace M := Lib.hid (M.out.below bn); clear bn CL3; obtain ⟨⟨k0, k1, k2, k3⟩, ⟨l0, l1, l2, l3⟩⟩ := M.out.cells HOK.out)
        | ((with_reducible show wpList _ _ _ (⟨some 58, _, _, _, _, _⟩ :: _) _ _); replace M := Lib.hid (((M.out.dom DD).path PP).tag T); generalize World.setCell _ _ _ = wf at *; refine wpList_load_rowG rfl 26 (.tmp 2) rfl w.heap.size rfl 26 (refC ⟨DD, PP, T, D, true⟩) _ M.out.r Tryd.underlying26 rfl HIF.out ?_)
        | ((with_reducible show wpList _ _ _ (⟨none, .store _ (.tmp 2) (.tmp 58), _, _, _, _⟩ :: _) _ _); refine wpList_store_row rfl 26 _ _ rfl w.heap.size (refC ⟨DD, PP, T, D, true⟩) rfl rfl 26 (refC ⟨DD, PP, T, D, true⟩) M.out.r HIF.out rfl (refC_all _) ?_; replace M := Lib.hid (M.out.res ⟨DD, PP, T, D, true⟩); generalize World.setRow _ _ _ = wz at *))
  exact bodyPost_ret (results_row_tmp rfl _ _ w.heap.size 26 (refC ⟨DD, PP, T, D, true⟩) _ rfl M.out.r Tryd.underlying26 rfl HIF.out _ rfl) rfl ⟨by rw [HDE.out]; rfl, M.out.b⟩
set_option maxRecDepth 100000 in
set_option maxHeartbeats 8000000 in
theorem read_p5 (s a b : List UInt8) (hs : s = a ++ 64 :: b) (hl : s.length ≤ 300) (hm : (64 : UInt8) ∉ a) (ht : tagged a = false) (hd : isText b = true) (w : World) :
    Calls Tryd.prog 18 #[.string (str s)] w fun e w' => e = .returned (.tuple #[.agg (refC (⟨domR (nameR a), pathR (nameR a), tagC a, digL b, true⟩ : RR)), .bool true]) ∧ Below w.heap.size w w' := by
  have CC : ∀ w, Calls Tryd.prog 33 #[.string (str s), .string ⟨#[64]⟩] w fun e w' => e = .returned (.tuple #[.string (str a), .string (str b), .bool true]) ∧ Below w.heap.size w w' := by rw [hs] at hl ⊢; exact fun w => cut_hit a b 64 hm (by omega) w
  have hab : a.length ≤ 300 ∧ b.length ≤ 300 := by rw [hs, List.length_append, List.length_cons] at hl; omega
  obtain ⟨ha, hb⟩ := hab
  have CT := fun w => cutTag_any a (by omega) w
  have he := eq_none (tagC a)
  have he2 := empty_lit (tagC a)
  rw [ht] at CT
  have CD := fun w => parse_any b w
  have hE : errL b = 0 := by unfold errL; rw [hd]; rfl
  rw [hE] at CD
  have hDl : (digL b).length = 32 := digL_length _
  obtain ⟨D, hD⟩ : ∃ D, D = digL b := ⟨_, rfl⟩
  rw [← hD] at CD hDl
  have HDI := Lib.hid (info_digest hDl)
  have HSZ := Lib.hid (show (cells8 zero32).size = (cells8 D).size by rw [cells8_size, cells8_size, hDl]; rfl)
  have HSD := Lib.hid (show (cells8 D).size = 32 by rw [cells8_size, hDl])
  have HD32 := Lib.hid hDl
  have HDE := Lib.hid hD
  have htl := tagC_le a
  clear hm hs hE hD hDl hd ht
  have hnl := nameR_le a
  have hdl := domR_le (nameR a)
  have hpl := pathR_le (nameR a)
  have CP := fun w => place_any (nameR a) (by omega) w
  have CL1 := fun w => clone_any (domR (nameR a)) (by omega) w
  have CL2 := fun w => clone_any (pathR (nameR a)) (by omega) w
  have CL3 := fun w => clone_any (tagC a) (by omega) w
  have HOK := Lib.hid (show RR.ok ⟨[], [], [], D, true⟩ from ⟨Nat.zero_le _, Nat.zero_le _, Nat.zero_le _, HD32.out⟩)
  have HOF := Lib.hid (show RR.ok ⟨domR (nameR a), pathR (nameR a), tagC a, D, true⟩ from ⟨by show (domR _).length ≤ 1000; omega, by show (pathR _).length ≤ 1000; omega, by show (tagC a).length ≤ 1000; omega, HD32.out⟩)
  have HIF := Lib.hid (info_ref HOF.out)
  clear hnl hdl hpl
  generalize domR (nameR a) = DD at *
  generalize pathR (nameR a) = PP at *
  generalize nameR a = NN at *
  generalize tagC a = T at *
  have HI := Lib.hid (info_ref zero_ok)
  have M := Lib.hid (OM.start w)
  go_enter Tryd.func18, Tryd.ntmps18
  go_wp2_with (first
        | (go_at_call 33; ((with_reducible refine (CC _).mono ?_); rintro e wn ⟨rfl, bn⟩); replace M := Lib.hid (M.out.below bn); clear bn CC)
        | (go_at_call 34; ((with_reducible refine (CT _).mono ?_); rintro e wn ⟨rfl, bn⟩); replace M := Lib.hid (M.out.below bn); clear bn CT)
        | (go_at_call 35; ((with_reducible refine (CD _).mono ?_); rintro e w4 ⟨rfl, b4⟩); replace M := Lib.hid (M.out.below b4); have HA4 := Lib.hid ((Below.refl w4.heap.size w4).alloc (Nat.le_refl _) (.cells (cells8 zero32) 24)); replace M := Lib.hid (M.out.below (below_setRow HA4.out (Nat.le_refl _) (cells8 D))); have HRD := Lib.hid (rowC_setRow (rowC_new w4 (cells8 zero32) 24) (cells8 D)); clear b4 CD)
        | ((with_reducible show wpList _ _ _ (⟨none, .store _ (.tmp 8) _, _, _, _, _⟩ :: _) _ _); refine wpList_store_row rfl 24 _ _ rfl w4.heap.size (cells8 D) rfl rfl 24 (cells8 zero32) (rowC_new w4 _ _) HDI.out HSZ.out (cells8_one _) ?_; change wpList _ _ _ _ _ ((w4.alloc (.cells (cells8 zero32) 24)).setRow w4.heap.size (cells8 D)); generalize World.setRow _ _ _ = w5 at *)
        | ((with_reducible show wpList _ _ _ (⟨some 39, _, _, _, _, _⟩ :: _) _ _); refine wpList_load_row rfl 24 _ rfl w4.heap.size rfl 24 (cells8 D) (0, 0) _ HRD.out Tryd.underlying24 rfl HDI.out ?_)
        | ((with_reducible show wpList _ _ _ (⟨none, .store _ (.tmp 40) _, _, _, _, _⟩ :: _) _ _); refine wpList_store_mid rfl 24 _ _ rfl w.heap.size 3 (cells8 D) rfl rfl (by rw [HSD.out]; exact M.out.there zero_ok) HDI.out (cells8_one _) ?_; replace M := Lib.hid (M.out.dig zero_ok.dig D HD32.out); change wpList _ _ _ _ _ (w5.setCells w.heap.size 3 (D.map byteV)); generalize World.setCells _ _ _ _ = w6 at *; obtain ⟨⟨k0, k1, k2, k3⟩, ⟨l0, l1, l2, l3⟩⟩ := M.out.cells ⟨Nat.zero_le _, Nat.zero_le _, Nat.zero_le _, HD32.out⟩; replace M := Lib.hid (M.out.pin HD32.out true))
        | (go_at_call 36; ((with_reducible refine (CP _).mono ?_); rintro e wn ⟨rfl, bn⟩); replace M := Lib.hid (M.out.below bn); clear bn CP)
        | (go_at_call 37; ((with_reducible refine (CL1 _).mono ?_); rintro e wn ⟨rfl, bn⟩); replace M := Lib.hid (M.out.below bn); clear bn CL1)
        | (go_at_call 37; ((with_reducible refine (CL2 _).mono ?_); rintro e wn ⟨rfl, bn⟩); replace M := Lib.hid (M.out.below bn); clear bn CL2)
        | (go_at_call 37; ((with_reducible refine (CL3 _).mono ?_); rintro e wn ⟨rfl, bn⟩); replace M := Lib.hid (M.out.below bn); clear bn CL3; obtain ⟨⟨k0, k1, k2, k3⟩, ⟨l0, l1, l2, l3⟩⟩ := M.out.cells HOK.out)
        | ((with_reducible show wpList _ _ _ (⟨some 58, _, _, _, _, _⟩ :: _) _ _); replace M := Lib.hid (((M.out.dom DD).path PP).tag T); generalize World.setCell _ _ _ = wf at *; refine wpList_load_rowG rfl 26 (.tmp 2) rfl w.heap.size rfl 26 (refC ⟨DD, PP, T, D, true⟩) _ M.out.r Tryd.underlying26 rfl HIF.out ?_)
        | ((with_reducible show wpList _ _ _ (⟨none, .store _ (.tmp 2) (.tmp 58), _, _, _, _⟩ :: _) _ _); refine wpList_store_row rfl 26 _ _ rfl w.heap.size (refC ⟨DD, PP, T, D, true⟩) rfl rfl 26 (refC ⟨DD, PP, T, D, true⟩) M.out.r HIF.out rfl (refC_all _) ?_; replace M := Lib.hid (M.out.res ⟨DD, PP, T, D, true⟩); generalize World.setRow _ _ _ = wz at *))
  exact bodyPost_ret (results_row_tmp rfl _ _ w.heap.size 26 (refC ⟨DD, PP, T, D, true⟩) _ rfl M.out.r Tryd.underlying26 rfl HIF.out _ rfl) rfl ⟨by rw [HDE.out]; rfl, M.out.b⟩
end Go.Proofs.YtldbfjcfobdkpaaDoor

/- Layer 12: Parse, as the program does it; the program keeps to what is asked. -/
namespace Go.Proofs.YtldbfjcfobdkpaaDoor
open Go.RowKit

theorem tagR_pin (n : List UInt8) : tagR n true = tagC n := by
  unfold tagR tagC
  split
  · rfl
  · rw [if_pos rfl]
theorem read_any (s : List UInt8) (hl : s.length ≤ 300) (w : World) :
    Calls Tryd.prog 18 #[.string (str s)] w fun e w' => e = .returned (.tuple #[.agg (refC (if wrongR s = true then zeroR else readR s)), .bool (!wrongR s)]) ∧ Below w.heap.size w w' := by
  by_cases hm : (64 : UInt8) ∈ s
  · obtain ⟨a, b, hs, hn⟩ := cut_first hm
    have h1 : (cutL s 64).getD 0 [] = a := by rw [hs]; exact cut_head b hn
    have h2 : pinR s = true := by
      unfold pinR
      rw [h1, decide_eq_true_eq, hs, List.length_append, List.length_cons]
      omega
    have h3 : digR s = b := by
      unfold digR
      rw [h1, hs, show a ++ 64 :: b = (a ++ [64]) ++ b by simp, show a.length + 1 = (a ++ [64]).length by simp, List.drop_left]
    have hR : readR s = ⟨domR (nameR a), pathR (nameR a), tagC a, digL b, true⟩ := by
      unfold readR
      simp only [h1, h2, h3, if_true, tagR_pin]
    have hW : wrongR s = ((tagged a && decide (lastR a = [])) || !isText b) := by
      unfold wrongR
      rw [h1, h2, h3, Bool.true_and]
    have hC := tagC_none a
    cases ht : tagged a
    · rw [ht] at hW hC
      cases hd : isText b
      · rw [hW, hd]
        exact read_p3 s a b hs hl hn ht hd w
      · rw [hW, hd, hR]
        exact read_p5 s a b hs hl hn ht hd w
    · rw [ht] at hW hC
      by_cases he : tagC a = []
      · have hl0 : decide (lastR a = []) = true := by rw [decide_eq_true he] at hC; simpa using hC.symm
        rw [hW, hl0]
        exact read_p1 s a b hs hl hn ht he w
      · have hl0 : decide (lastR a = []) = false := by rw [decide_eq_false he] at hC; simpa using hC.symm
        cases hd : isText b
        · rw [hW, hl0, hd]
          exact read_p2 s a b hs hl hn ht he hd w
        · rw [hW, hl0, hd, hR]
          exact read_p4 s a b hs hl hn ht he hd w
  · have h1 : (cutL s 64).getD 0 [] = s := cut_head1 hm
    have h2 : pinR s = false := by
      unfold pinR
      rw [h1, decide_eq_false_iff_not]
      omega
    have hR : readR s = ⟨domR (nameR s), pathR (nameR s), tagR s false, zero32, false⟩ := by
      unfold readR
      simp only [h1, h2, if_neg (show ¬ false = true by decide)]
    have hW : wrongR s = (tagged s && decide (lastR s = [])) := by
      unfold wrongR
      rw [h1, h2, Bool.false_and, Bool.or_false]
    have hC := tagC_none s
    cases ht : tagged s
    · rw [ht] at hW hC
      have e : tagR s false = latestB := by unfold tagR; rw [ht]; rfl
      rw [hW, hR, e]
      exact read_u3 s hl hm ht w
    · rw [ht] at hW hC
      by_cases he : tagC s = []
      · have hl0 : decide (lastR s = []) = true := by rw [decide_eq_true he] at hC; simpa using hC.symm
        rw [hW, hl0]
        exact read_u1 s hl hm ht he w
      · have hl0 : decide (lastR s = []) = false := by rw [decide_eq_false he] at hC; simpa using hC.symm
        have e : tagR s false = tagC s := by unfold tagR tagC; rw [ht]; rfl
        rw [hW, hl0, hR, e]
        exact read_u2 s hl hm ht he w
theorem parse_of {s : List UInt8} (h : ¬ 200 < s.length) : parseR s = if wrongR s = true then (zeroR, 10) else if mayR (readR s) = true then (readR s, 0) else (zeroR, 10) := by
  unfold wrongR
  by_cases hd : pinR s = true ∧ isText (digR s) = false
  · rw [parse_dig h hd.1 hd.2, hd.1, hd.2]
    simp
  · have hd' : (pinR s && !isText (digR s)) = false := by
      cases h1 : pinR s
      · rfl
      · cases h2 : isText (digR s)
        · exact absurd ⟨h1, h2⟩ hd
        · rfl
    rw [hd', Bool.or_false]
    by_cases ht : tagged ((cutL s 64).getD 0 []) = true ∧ lastR ((cutL s 64).getD 0 []) = []
    · rw [parse_tag h hd ht, ht.1, decide_eq_true ht.2]
      rfl
    · have ht' : (tagged ((cutL s 64).getD 0 []) && decide (lastR ((cutL s 64).getD 0 []) = [])) = false := by
        cases h1 : tagged ((cutL s 64).getD 0 [])
        · rfl
        · rw [Bool.true_and, decide_eq_false_iff_not]
          exact fun e => ht ⟨h1, e⟩
      rw [parse_end h hd ht, ht', if_neg (show ¬ false = true by decide)]
set_option maxRecDepth 100000 in
set_option maxHeartbeats 8000000 in
theorem parse_any_ref (s : List UInt8) (hl : s.length ≤ 1000) (w : World) :
    Calls Tryd.prog 9 #[.string (str s)] w fun e w' => e = .returned (.tuple #[.agg (refC (parseR s).1), .int .i64 (parseR s).2]) ∧ Below w.heap.size w w' := by
  have HI := Lib.hid (info_ref zero_ok)
  have M := Lib.hid (OM.start w)
  have hz := str_size s
  by_cases h2 : 200 < s.length
  · rw [parse_long h2]
    have h2' : (200 : Int) < (s.length : Int) := by omega
    clear h2
    go_enter Tryd.func9, Tryd.ntmps9
    go_wp2_with (first
        | ((with_reducible show wpList _ _ _ (⟨some 8, _, _, _, _, _⟩ :: _) _ _); refine wpList_build_as (o := ⟨some 8, _, _, _, _, _⟩) rfl 26 _ rfl (refC zeroR) ?_ ?_; kernel_rfl)
        | ((with_reducible show wpList _ _ _ (⟨none, .store _ (.tmp 2) (.tmp 8), _, _, _, _⟩ :: _) _ _); refine wpList_store_row rfl 26 _ _ rfl w.heap.size (refC zeroR) rfl rfl 26 (refC zeroR) M.out.r HI.out rfl (refC_all _) ?_; replace M := Lib.hid (M.out.res zeroR); generalize World.setRow _ _ _ = wz8 at *))
    exact bodyPost_ret (results_row_tmp rfl _ _ w.heap.size 26 (refC zeroR) _ rfl M.out.r Tryd.underlying26 rfl HI.out _ rfl) rfl ⟨rfl, M.out.b⟩
  · have h2' : ¬ (200 : Int) < (s.length : Int) := by omega
    have CR := fun w => read_any s (by omega) w
    have hok := read_ok (s := s) (by omega)
    have hP := parse_of h2
    clear h2
    cases hw : wrongR s
    · rw [hw] at CR hP
      rw [if_neg (by decide)] at hP
      rw [if_neg (show ¬ false = true by decide)] at CR
      have HIX := Lib.hid (info_ref hok)
      have HSX := Lib.hid (show (refC zeroR).size = (refC (readR s)).size by rw [refC_size hok, refC_size zero_ok])
      have HSZ := Lib.hid (show (refC (readR s)).size = (refC zeroR).size by rw [refC_size hok, refC_size zero_ok])
      have CM := fun w => mayBe_any (readR s) w hok
      clear hw hok
      cases hm : mayR (readR s)
      · rw [hm] at CM hP
        rw [if_neg (by decide)] at hP
        rw [hP]
        clear hP hm
        generalize readR s = X at *
        go_enter Tryd.func9, Tryd.ntmps9
        go_wp2_with (first
        | (go_at_call 18; ((with_reducible refine (CR _).mono ?_); rintro e wr ⟨rfl, bn⟩); replace M := Lib.hid (M.out.below bn); clear bn CR)
        | ((with_reducible show wpList _ _ _ (⟨none, .store _ (.tmp 2) (.tmp 12), _, _, _, _⟩ :: _) _ _); refine wpList_store_row rfl 26 _ _ rfl w.heap.size (refC X) rfl rfl 26 (refC zeroR) M.out.r HIX.out HSX.out (refC_all _) ?_; replace M := Lib.hid (M.out.res X); generalize World.setRow _ _ _ = wz12 at *)
        | ((with_reducible show wpList _ _ _ (⟨some 17, _, _, _, _, _⟩ :: _) _ _); refine wpList_load_rowG rfl 26 (.tmp 2) rfl w.heap.size rfl 26 (refC X) _ M.out.r Tryd.underlying26 rfl HIX.out ?_)
        | (go_at_call 19; ((with_reducible refine (CM _).mono ?_); rintro e wm ⟨rfl, bn⟩); replace M := Lib.hid (M.out.below bn); clear bn CM)
        | ((with_reducible show wpList _ _ _ (⟨some 21, _, _, _, _, _⟩ :: _) _ _); refine wpList_build_as (o := ⟨some 21, _, _, _, _, _⟩) rfl 26 _ rfl (refC zeroR) ?_ ?_; kernel_rfl)
        | ((with_reducible show wpList _ _ _ (⟨none, .store _ (.tmp 2) (.tmp 21), _, _, _, _⟩ :: _) _ _); refine wpList_store_row rfl 26 _ _ rfl w.heap.size (refC zeroR) rfl rfl 26 (refC X) M.out.r HI.out HSZ.out (refC_all _) ?_; replace M := Lib.hid (M.out.res zeroR); generalize World.setRow _ _ _ = wz21 at *))
        exact bodyPost_ret (results_row_tmp rfl _ _ w.heap.size 26 (refC zeroR) _ rfl M.out.r Tryd.underlying26 rfl HI.out _ rfl) rfl ⟨rfl, M.out.b⟩
      · rw [hm] at CM hP
        rw [if_pos rfl] at hP
        rw [hP]
        clear hP hm
        generalize readR s = X at *
        go_enter Tryd.func9, Tryd.ntmps9
        go_wp2_with (first
        | (go_at_call 18; ((with_reducible refine (CR _).mono ?_); rintro e wr ⟨rfl, bn⟩); replace M := Lib.hid (M.out.below bn); clear bn CR)
        | ((with_reducible show wpList _ _ _ (⟨none, .store _ (.tmp 2) (.tmp 12), _, _, _, _⟩ :: _) _ _); refine wpList_store_row rfl 26 _ _ rfl w.heap.size (refC X) rfl rfl 26 (refC zeroR) M.out.r HIX.out HSX.out (refC_all _) ?_; replace M := Lib.hid (M.out.res X); generalize World.setRow _ _ _ = wz12 at *)
        | ((with_reducible show wpList _ _ _ (⟨some 17, _, _, _, _, _⟩ :: _) _ _); refine wpList_load_rowG rfl 26 (.tmp 2) rfl w.heap.size rfl 26 (refC X) _ M.out.r Tryd.underlying26 rfl HIX.out ?_)
        | (go_at_call 19; ((with_reducible refine (CM _).mono ?_); rintro e wm ⟨rfl, bn⟩); replace M := Lib.hid (M.out.below bn); clear bn CM)
        | ((with_reducible show wpList _ _ _ (⟨some 22, _, _, _, _, _⟩ :: _) _ _); refine wpList_load_rowG rfl 26 (.tmp 2) rfl w.heap.size rfl 26 (refC X) _ M.out.r Tryd.underlying26 rfl HIX.out ?_)
        | ((with_reducible show wpList _ _ _ (⟨none, .store _ (.tmp 2) (.tmp 22), _, _, _, _⟩ :: _) _ _); refine wpList_store_row rfl 26 _ _ rfl w.heap.size (refC X) rfl rfl 26 (refC X) M.out.r HIX.out rfl (refC_all _) ?_; replace M := Lib.hid (M.out.res X); generalize World.setRow _ _ _ = wz22 at *))
        exact bodyPost_ret (results_row_tmp rfl _ _ w.heap.size 26 (refC X) _ rfl M.out.r Tryd.underlying26 rfl HIX.out _ rfl) rfl ⟨rfl, M.out.b⟩
    · rw [hw] at CR hP
      rw [if_pos rfl] at hP
      rw [if_pos rfl] at CR
      rw [hP]
      clear hP hw hok
      go_enter Tryd.func9, Tryd.ntmps9
      go_wp2_with (first
        | (go_at_call 18; ((with_reducible refine (CR _).mono ?_); rintro e wr ⟨rfl, bn⟩); replace M := Lib.hid (M.out.below bn); clear bn CR)
        | ((with_reducible show wpList _ _ _ (⟨none, .store _ (.tmp 2) (.tmp 12), _, _, _, _⟩ :: _) _ _); refine wpList_store_row rfl 26 _ _ rfl w.heap.size (refC zeroR) rfl rfl 26 (refC zeroR) M.out.r HI.out rfl (refC_all _) ?_; replace M := Lib.hid (M.out.res zeroR); generalize World.setRow _ _ _ = wz12 at *)
        | ((with_reducible show wpList _ _ _ (⟨some 21, _, _, _, _, _⟩ :: _) _ _); refine wpList_build_as (o := ⟨some 21, _, _, _, _, _⟩) rfl 26 _ rfl (refC zeroR) ?_ ?_; kernel_rfl)
        | ((with_reducible show wpList _ _ _ (⟨none, .store _ (.tmp 2) (.tmp 21), _, _, _, _⟩ :: _) _ _); refine wpList_store_row rfl 26 _ _ rfl w.heap.size (refC zeroR) rfl rfl 26 (refC zeroR) M.out.r HI.out rfl (refC_all _) ?_; replace M := Lib.hid (M.out.res zeroR); generalize World.setRow _ _ _ = wz21 at *))
      exact bodyPost_ret (results_row_tmp rfl _ _ w.heap.size 26 (refC zeroR) _ rfl M.out.r Tryd.underlying26 rfl HI.out _ rfl) rfl ⟨rfl, M.out.b⟩
/-- THE PROGRAM KEEPS TO WHAT IS ASKED. -/
theorem imp : Impl := ⟨fun s w h => parse_any_ref s h w, fun r w h => check_any r w h, fun r w h => show_any r w h, fun r w h => short_any r w h⟩
end Go.Proofs.YtldbfjcfobdkpaaDoor

/- Layer 12: what the variables that start-up laid give (nothing is asked of them). -/
namespace Go.Proofs.YtldbfjcfobdkpaaDoor
open Go.ChangeShapes Go.WideShapes Go.ChangeAt Go.WideElems Go.RowKit

theorem own : ownKnob Tryd.prog.godebug = none := by kernel_rfl
def laid2 : List (String × DataW Unit) := [("unicode/utf8.acceptRanges", Rows.laid_unicode_utf8_acceptRanges), ("unicode/utf8.first", Rows.laid_unicode_utf8_first)]
/-- The door's own heap, with the library's great table laid. -/
noncomputable def startW (os : Os) : World :=
  let w0 := World.doorLaid Tryd.prog 400 os
  { w0 with heap := w0.heap.modify 1 fun
      | .cells _ t frozen => .cells (Go.Pinned.utf8FirstZ.map fun (z : Nat) => Value.int .u8 (z : Int)).toArray t frozen
      | o => o }
theorem door_met (os : Os) (args : Array Value) : laidMetH Tryd.prog laid2 ((startW os).forCall (fun _ _ => 0) ⟨#[], args, []⟩).memory :=
  laidMetH_of_parts3 (fuel := 8) (laidMet_of_run' 8 (by kernel_rfl) (by kernel_rfl)) (by kernel_rfl) (by kernel_rfl)
theorem of_laid {W : World} (_h : laidMetH Tryd.prog laid2 W) : True := trivial
end Go.Proofs.YtldbfjcfobdkpaaDoor

