/- Merged: DpC, OdF, OcS. -/
import Derived.Test.YtnkencdibniagaaGreatDoorM22
import Derived.Test.YtnkencdibniagaaGreatDoorShelf
import Derived.Lib.OthersKept
import Derived.Test.YtnkencdibniagaaGreatDoorM17
import Derived.Test.YtnkencdibniagaaGreatDoorM20
import Derived.Test.YtnkencdibniagaaGreatDoorM05
import Derived.Test.YtnkencdibniagaaGreatDoorM02
import Derived.Test.YtnkencdibniagaaGreatDoorM16
/- Layer 5, for whoever stands on it: a text's digest, as the program has it. (Out of DigF.) -/
namespace Go.Proofs.YtnkencdibniagaaGreatDoor
open Go.RowKit

/-- Are these a digest's digits? -/
def isDs (T : List UInt8) : Bool := decide (T.length = 64) && T.all isD
def dsL (T : List UInt8) : List UInt8 := if isDs T = true then readD T else zero32
def dsE (T : List UInt8) : Int := if isDs T = true then 0 else 10
theorem dsL_length (T : List UInt8) : (dsL T).length = 32 := by
  unfold dsL
  split
  · rename_i h
    unfold isDs at h
    simp only [Bool.and_eq_true, decide_eq_true_eq] at h
    exact readD_length 32 _ (by omega)
  · rfl
/-- The memory of its parsing: the answer to be, the row, and where the text stands. -/
structure PdM (W w : World) (T : List UInt8) (i : Nat) : Prop where
  m : TwoM W w zero32 (partD T i)
  it : w.heap[W.heap.size + 2]? = some (.stringIter (str T) i)
theorem PdM.start (W : World) (T : List UInt8) : PdM W ((((W.alloc (.cells (cells8 zero32) 24)).alloc (.cells (cells8 zero32) 24))).iter (str T) 0) T 0 := by
  have h0 := TwoM.start W zero32 zero32
  have h1 := World.iter_heap ((W.alloc (.cells (cells8 zero32) 24)).alloc (.cells (cells8 zero32) 24)) (str T) 0
  simp only [size_alloc] at h1
  refine ⟨?_, h1⟩
  rw [partD_zero]
  exact h0.below ((Below.refl _ _).alloc (Nat.le_refl _) _)
theorem PdM.iterAt {W w : World} {T : List UInt8} {i : Nat} (h : PdM W w T i) (j : Nat) : TwoM W (w.iterAt (W.heap.size + 2) (str T) j) zero32 (partD T i) ∧ (w.iterAt (W.heap.size + 2) (str T) j).heap[W.heap.size + 2]? = some (.stringIter (str T) j) :=
  ⟨⟨(Lib.iterAt_other w _ _ (str T) j (by omega)).trans h.m.r0, (Lib.iterAt_other w _ _ (str T) j (by omega)).trans h.m.r1, Lib.below_iterAt h.m.nx (by omega) (str T) j⟩, Lib.iterAt_heap w _ (str T) i j h.it⟩
theorem PdM.put {W w : World} {T : List UInt8} {k : Nat} (h : TwoM W w zero32 (partD T k)) (hi : w.heap[W.heap.size + 2]? = some (.stringIter (str T) (k + 1))) (hk : k < 64) :
    PdM W (w.setCell ⟨W.heap.size + 1, k / 2, none⟩ (byteV (UInt8.ofNat (((partD T k).getD (k / 2) 0).toNat * 16 % 256 ||| valN (T.getD k 0))))) T (k + 1) := by
  refine ⟨?_, ?_⟩
  · rw [← partD_set T hk]
    exact h.set1 _ _
  · rw [heap_setCell_other w ⟨W.heap.size + 1, k / 2, none⟩ _ _ (by simp)]
    exact hi
theorem valR_isD {c : UInt8} : valR c.toNat = valN c ∧ isR c.toNat = isD c := ⟨rfl, rfl⟩
theorem isR_high {r : Nat} (h : 128 ≤ r) : isR r = false ∧ valR r = 0 := by
  unfold isR valR
  rw [if_neg (by omega), if_neg (by omega), decide_eq_false (by omega), decide_eq_false (by omega)]
  exact ⟨rfl, rfl⟩
theorem isD_low {c : UInt8} (h : isD c = true) : c.toNat < 128 := by
  unfold isD at h
  simp only [Bool.or_eq_true, decide_eq_true_eq] at h
  omega
theorem or_val {x v : Nat} (hv : v < 16) : bits BinOp.or IntKind.u8 ((x : Int) * 16 % 256) (v : Int) = ((x * 16 % 256 ||| v : Nat) : Int) := by
  have := u8_or_nat (x * 16 % 256) v (by omega) (by omega)
  rw [← this]
  congr 1
theorem or_byte {x v : Nat} (hv : v < 16) : byteV (UInt8.ofNat (x * 16 % 256 ||| v)) = .int .u8 ((x * 16 % 256 ||| v : Nat) : Int) := by
  rw [byteV_ofNat, shl_or hv]
  congr 1
  omega
/-- What the next rune of a text is, where it is no digit. -/
theorem next_bad (T : List UInt8) (k : Nat) (hk : k < T.length) (hd : isD (T.getD k 0) = false) :
    ∃ r n : Nat, Utf8.decode (str T) k = (r, n) ∧ r ≤ 2147483647 ∧ isR r = false ∧ valR r = 0 := by
  have hs : k < (str T).size := by rw [str_size]; exact hk
  have hc : (str T)[k] = T.getD k 0 := by
    rw [List.getD_eq_getElem?_getD, List.getElem?_eq_getElem hk]; rfl
  refine ⟨(Utf8.decode (str T) k).1, (Utf8.decode (str T) k).2, rfl, decode_le _ _, ?_⟩
  by_cases h : (T.getD k 0).toNat < 128
  · rw [decode_ascii (str T) k hs (by rw [hc]; exact h), hc]
    refine ⟨hd, ?_⟩
    exact valN_none hd
  · exact isR_high (decode_high (str T) k hs (by rw [hc]; omega)).1
set_option maxRecDepth 100000 in
set_option maxHeartbeats 2000000 in
theorem parseDigits_any (T : List UInt8) (w : World) :
    Calls Tryz.prog 150 #[.string (str T)] w fun e w' => e = .returned (.tuple #[.agg (cells8 (dsL T)), .int .i64 (dsE T)]) ∧ Below w.heap.size w w' := by
  have szs := str_size T
  have M0 := Lib.hid (TwoM.start w zero32 zero32)
  have HZ := Lib.hid (info_digest (l := zero32) rfl)
  by_cases hl : T.length = 64
  · have M1 := Lib.hid (PdM.start w T)
    have HL := Lib.hid hl
    rw [hl] at szs
    clear hl M0
    go_enter Tryz.func150, Tryz.ntmps150
    go_wp2
    go_loopw [5] (fun _ wr => ∃ k : Nat, k ≤ 64 ∧ PdM w wr T k ∧ ∀ j, j < k → isD (T.getD j 0) = true) (fun _ wr => 64 - wr.iterPos (w.heap.size + 2))
    case atStart => exact ⟨0, by omega, M1.out, fun j hj => by omega⟩
    case round =>
      obtain ⟨k, hk, hm, hj⟩ := hrel
      have HJ := Lib.hid hj
      have hpos : wr.iterPos (w.heap.size + 2) = k := by unfold World.iterPos; rw [hm.it]
      have HP := Lib.hid hpos
      clear hj hpos
      by_cases hlt : k < 64
      · obtain ⟨c, hc⟩ : ∃ c, c = T.getD k 0 := ⟨_, rfl⟩
        have h64 : k < T.length := by rw [HL.out]; exact hlt
        have hcs : (str T)[k]'(by rw [str_size]; exact h64) = c := by
          rw [hc, List.getD_eq_getElem?_getD, List.getElem?_eq_getElem h64]; rfl
        by_cases hd : isD c = true
        · obtain ⟨i1, i2⟩ := hm.iterAt (k + 1)
          have hnx := fun ty => Lib.run_next_ascii_at (P := Tryz.prog) wr _ _ _ ty hm.it (by rw [str_size]; exact h64) (by rw [hcs]; exact isD_low hd)
          rw [hcs] at hnx
          have HF := Lib.hid (PdM.put i1 i2 hlt)
          rw [← hc] at HF
          obtain ⟨x, hx⟩ : ∃ x, x = ((partD T k).getD (k / 2) 0).toNat := ⟨_, rfl⟩
          have c1 := cells8_at i1.r1 (k := k / 2) (by rw [partD_length]; omega)
          have f1 := rowC_free i1.r1 (k / 2)
          have hx2 : x < 256 := by rw [hx]; exact UInt8.toNat_lt _
          rw [← hx] at c1 HF
          have hv := valN_lt c
          have ov := or_val (x := x) hv
          have HB := Lib.hid (or_byte (x := x) hv)
          have CV := fun w => valueOf_any c.toNat w (by have := c.toNat_lt; omega)
          rw [valR_isD.1, valR_isD.2, hd] at CV
          have HD := Lib.hid (show isD (T.getD k 0) = true by rw [← hc]; exact hd)
          generalize valN c = v at hv ov HB CV HF
          clear hd hcs hc i1 i2 hm hx
          generalize wr.iterAt (w.heap.size + 2) (str T) (k + 1) = wq at *
          have k0 : (0 : Int) ≤ k := by omega
          have k1 : (k : Int) / 2 < 32 := by omega
          have k2 : ((k : Int) / 2).toNat = k / 2 := by omega
          go_wp2_with (go_at_call 171; ((with_reducible refine (CV _).mono ?_); rintro e w' ⟨rfl, rfl⟩))
          have hput := HF.out
          rw [HB.out] at hput
          have hp2 : (wq.setCell ⟨w.heap.size + 1, k / 2, none⟩ (.int .u8 ((x * 16 % 256 ||| v : Nat) : Int))).iterPos (w.heap.size + 2) = k + 1 := by unfold World.iterPos; rw [hput.it]
          go_roundw
          case rel => exact ⟨k + 1, by omega, hput, fun j hj => by
            by_cases hjk : j = k
            · subst hjk; exact HD.out
            · exact HJ.out j (by omega)⟩
          case measure => rw [hp2, HP.out]; omega
        · have hd' : isD c = false := by simpa using hd
          obtain ⟨r, n, hr1, hr2, hr3, hr4⟩ := next_bad T k h64 (by rw [← hc]; exact hd')
          obtain ⟨i1, i2⟩ := hm.iterAt (k + n)
          have hnx := fun ty => Lib.run_next_any_at (P := Tryz.prog) wr _ _ _ ty hm.it (by rw [str_size]; exact h64)
          rw [hr1] at hnx
          have CV := fun w => valueOf_any r w hr2
          rw [hr3, hr4] at CV
          have HD := Lib.hid (show dsL T = zero32 ∧ dsE T = 10 by
            have e : isDs T = false := by
              unfold isDs
              rw [Bool.and_eq_false_iff]
              refine .inr (List.all_eq_false.2 ⟨c, ?_, by rw [hd']; decide⟩)
              rw [hc, List.getD_eq_getElem?_getD, List.getElem?_eq_getElem h64]
              exact List.getElem_mem _
            unfold dsL dsE
            rw [e]; exact ⟨rfl, rfl⟩)
          have I1 := Lib.hid i1
          have HR := Lib.hid (show (cells8 zero32).size = (cells8 zero32).size from rfl)
          clear hd hd' hcs hc i1 i2 hm hr1 hr3 hr4
          dsimp only at hnx
          generalize wr.iterAt (w.heap.size + 2) (str T) (k + n) = wq at *
          go_wp2_with (first
            | (go_at_call 171; ((with_reducible refine (CV _).mono ?_); rintro e w' ⟨rfl, rfl⟩))
            | (refine wpList_build_as rfl 24 _ rfl (cells8 zero32) (by kernel_rfl) ?_)
            | (refine wpList_store_row rfl 24 _ _ rfl w.heap.size (cells8 zero32) rfl rfl 24 (cells8 zero32) I1.out.r0 HZ.out rfl (cells8_one _) ?_))
          have M5 := I1.out.row0 zero32
          exact bodyPost_ret (results_row_tmp rfl _ _ w.heap.size 24 (cells8 zero32) _ rfl M5.r0 Tryz.underlying24 rfl HZ.out (.int .i64 10) rfl) rfl ⟨by rw [HD.out.1, HD.out.2], M5.nx⟩
      · obtain rfl : k = 64 := by omega
        have hnx := fun ty => Lib.run_next_end_at (P := Tryz.prog) wr _ _ _ ty hm.it (by rw [szs]; omega)
        have HD := Lib.hid (show dsL T = readD T ∧ dsE T = 0 by
          have e : isDs T = true := by
            unfold isDs
            rw [HL.out, Bool.and_eq_true, decide_eq_true_eq, List.all_eq_true]
            refine ⟨rfl, fun c hc => ?_⟩
            obtain ⟨j, hj, rfl⟩ := List.mem_iff_getElem.1 hc
            have := HJ.out j (by rw [HL.out] at hj; exact hj)
            rwa [List.getD_eq_getElem?_getD, List.getElem?_eq_getElem hj] at this
          unfold dsL dsE
          rw [e]; exact ⟨rfl, rfl⟩)
        have hmm := hm.m
        rw [partD_all HL.out] at hmm
        obtain ⟨D, hDD⟩ : ∃ D, D = readD T := ⟨_, rfl⟩
        have hDl : D.length = 32 := by rw [hDD]; exact readD_length 32 _ (by rw [HL.out])
        rw [← hDD] at hmm HD
        have HI := Lib.hid (info_digest hDl)
        have HO := Lib.hid (show (cells8 zero32).size = (cells8 D).size by rw [cells8_size, cells8_size, hDl]; rfl)
        have M := Lib.hid hmm
        clear hmm hm hDD hDl hlt hk
        go_wp2_with (first
          | (refine wpList_load_row rfl 24 _ rfl (w.heap.size + 1) rfl 24 (cells8 D) (0, 0) _ M.out.r1 Tryz.underlying24 rfl HI.out ?_)
          | (refine wpList_store_row rfl 24 _ _ rfl w.heap.size (cells8 D) rfl rfl 24 (cells8 zero32) M.out.r0 HI.out HO.out (cells8_one _) ?_))
        have M5 := M.out.row0 D
        exact bodyPost_ret (results_row_tmp rfl _ _ w.heap.size 24 (cells8 D) _ rfl M5.r0 Tryz.underlying24 rfl HI.out (.int .i64 0) rfl) rfl ⟨by rw [HD.out.1, HD.out.2], M5.nx⟩
  · have HD := Lib.hid (show dsL T = zero32 ∧ dsE T = 10 by
      have e : isDs T = false := by unfold isDs; rw [decide_eq_false hl]; rfl
      unfold dsL dsE
      rw [e]; exact ⟨rfl, rfl⟩)
    have hl' : ((T.length : Int) != 64) = true := by simp; omega
    have hl2 : ((T.length : Int) == 64) = false := by simp; omega
    clear hl
    go_enter Tryz.func150, Tryz.ntmps150
    go_wp2_with (first
      | (refine wpList_build_as rfl 24 _ rfl (cells8 zero32) (by kernel_rfl) ?_)
      | (refine wpList_store_row rfl 24 _ _ rfl w.heap.size (cells8 zero32) rfl rfl 24 (cells8 zero32) M0.out.r0 HZ.out rfl (cells8_one _) ?_))
    have M5 := M0.out.row0 zero32
    exact bodyPost_ret (results_row_tmp rfl _ _ w.heap.size 24 (cells8 zero32) _ rfl M5.r0 Tryz.underlying24 rfl HZ.out (.int .i64 10) rfl) rfl ⟨by rw [HD.out.1, HD.out.2], M5.nx⟩
theorem prefix_take (S : List UInt8) : Lib.hasPrefix S nameL = decide (S.take 7 = nameL) := by
  unfold Lib.hasPrefix
  rw [Bool.eq_iff_iff, decide_eq_true_eq, List.isPrefixOf_iff_prefix]
  constructor
  · rintro ⟨t, rfl⟩; rfl
  · intro h; rw [← h]; exact List.take_prefix 7 S
theorem isText_parts {S : List UInt8} (h : S.take 7 = nameL) : isText S = isDs (S.drop 7) := by
  have hl : 7 ≤ S.length := by
    have := congrArg List.length h
    rw [List.length_take] at this
    have e : nameL.length = 7 := rfl
    omega
  unfold isText isDs
  rw [decide_eq_true h, Bool.true_and, List.length_drop]
  congr 1
  rw [decide_eq_decide]
  omega
set_option maxRecDepth 100000 in
set_option maxHeartbeats 1000000 in
theorem parse_any (S : List UInt8) (w : World) :
    Calls Tryz.prog 115 #[.string (str S)] w fun e w' => e = .returned (.tuple #[.agg (cells8 (digL S)), .int .i64 (errL S)]) ∧ Below w.heap.size w w' := by
  have HZ := Lib.hid (info_digest (l := zero32) rfl)
  have CP := fun w => Tryz.strings_CutPrefix (str S) ⟨#[115, 104, 97, 50, 53, 54, 58]⟩ w
  have ep : Lib.hasPrefix (str S).data.toList (ByteArray.mk #[115, 104, 97, 50, 53, 54, 58]).data.toList = decide (S.take 7 = nameL) := prefix_take S
  unfold Lib.trimPrefix at CP
  rw [ep] at CP
  clear ep
  have R0 := Lib.hid (rowC_new w (cells8 zero32) 24)
  by_cases h : S.take 7 = nameL
  · have HE := Lib.hid (isText_parts h)
    rw [decide_eq_true h] at CP
    rw [if_pos rfl] at CP
    have e2 : (⟨((str S).data.toList.drop (ByteArray.mk #[115, 104, 97, 50, 53, 54, 58]).data.toList.length).toArray⟩ : ByteArray) = str (S.drop 7) := rfl
    rw [e2] at CP
    have CD := fun w => parseDigits_any (S.drop 7) w
    have HR := Lib.hid (show digL S = dsL (S.drop 7) ∧ errL S = dsE (S.drop 7) by
      unfold digL errL dsL dsE
      rw [HE.out]; exact ⟨rfl, rfl⟩)
    obtain ⟨D, hD⟩ : ∃ D, D = dsL (S.drop 7) := ⟨_, rfl⟩
    have hDl : D.length = 32 := by rw [hD]; exact dsL_length _
    rw [← hD] at HR CD
    have HI := Lib.hid (info_digest hDl)
    have HO := Lib.hid (show (cells8 zero32).size = (cells8 D).size by rw [cells8_size, cells8_size, hDl]; rfl)
    obtain ⟨E, hE⟩ : ∃ E, E = dsE (S.drop 7) := ⟨_, rfl⟩
    rw [← hE] at HR CD
    clear h e2 hD hDl hE
    go_enter Tryz.func115, Tryz.ntmps115
    go_wp2_with (first
      | (go_at_call 149; ((with_reducible refine (CP _).mono ?_); rintro e w1 ⟨rfl, rfl⟩))
      | (go_at_call 150; ((with_reducible refine (CD _).mono ?_); rintro e w3 ⟨rfl, hb3⟩))
      | (refine wpList_store_row rfl 24 _ _ rfl w.heap.size (cells8 D) rfl rfl 24 (cells8 zero32) (rowC_below R0.out hb3 (by simp)) HI.out HO.out (cells8_one _) ?_))
    have M5 := rowC_setRow (rowC_below R0.out hb3 (by simp)) (cells8 D)
    exact bodyPost_ret (results_row_tmp rfl _ _ w.heap.size 24 (cells8 D) _ rfl M5 Tryz.underlying24 rfl HI.out (.int .i64 E) rfl) rfl ⟨by rw [HR.out.1, HR.out.2], below_setRow (((Below.refl _ _).alloc (Nat.le_refl _) _).trans (hb3.mono (by simp))) (Nat.le_refl _) _⟩
  · have HR := Lib.hid (show digL S = zero32 ∧ errL S = 10 by
      have e : isText S = false := by unfold isText; rw [decide_eq_false h]; rfl
      unfold digL errL
      rw [e]; exact ⟨rfl, rfl⟩)
    rw [decide_eq_false h] at CP
    rw [if_neg (by decide)] at CP
    clear h
    go_enter Tryz.func115, Tryz.ntmps115
    go_wp2_with (first
      | (go_at_call 149; ((with_reducible refine (CP _).mono ?_); rintro e w1 ⟨rfl, rfl⟩))
      | (refine wpList_build_as rfl 24 _ rfl (cells8 zero32) (by kernel_rfl) ?_)
      | (refine wpList_store_row rfl 24 _ _ rfl w.heap.size (cells8 zero32) rfl rfl 24 (cells8 zero32) R0.out HZ.out rfl (cells8_one _) ?_))
    have M5 := rowC_setRow R0.out (cells8 zero32)
    exact bodyPost_ret (results_row_tmp rfl _ _ w.heap.size 24 (cells8 zero32) _ rfl M5 Tryz.underlying24 rfl HZ.out (.int .i64 10) rfl) rfl ⟨by rw [HR.out.1, HR.out.2], below_setRow ((Below.refl _ _).alloc (Nat.le_refl _) _) (Nat.le_refl _) _⟩
end Go.Proofs.YtnkencdibniagaaGreatDoor

/- Layer 13: what a function that reads a value answers. -/
namespace Go.Proofs.YtnkencdibniagaaGreatDoor
open Go.RowKit

/-- How values of a type lie in memory. -/
structure En (α : Type) where
  at_ : World → (Nat → Prop) → α → Value → Prop
  zero : α
  chg : ∀ {s F : Nat → Prop} {w w' : World} {a : α} {t : Value}, at_ w F a t → Chg s w w' → (∀ k, F k → ¬ s k) → at_ w' F a t
  mono : ∀ {F G : Nat → Prop} {w : World} {a : α} {t : Value}, at_ w F a t → (∀ k, F k → k < w.heap.size → G k) → at_ w G a t
/-- Values that are all in their cells. -/
def En.plain {α : Type} (enc : α → Value) (good : α → Prop) (z : α) : En α :=
  ⟨fun _ _ a t => t = enc a ∧ good a, z, fun h _ _ => h, fun h _ => h⟩
def encP (p : Bs × Bs) : Array Value := #[.string (str p.1), .string (str p.2)]
def encD (d : DV) : Array Value := #[.string (str d.media)] ++ cells8 d.dig ++ #[.int .i64 d.size, .string (str d.os), .string (str d.arch)]
def eInt : En Int := En.plain (fun n => .int .i64 n) (fun _ => True) 0
def eTxt : En Bs := En.plain (fun s => .string (str s)) (fun s => s.length ≤ 281474976710656) []
def eDig : En Bs := En.plain (fun d => .agg (cells8 d)) (fun d => d.length = 32) zero32
def ePla : En (Bs × Bs) := En.plain (fun p => .agg (encP p)) (fun p => p.1.length ≤ 281474976710656 ∧ p.2.length ≤ 281474976710656) ([], [])
def goodD (d : DV) : Prop := d.dig.length = 32 ∧ d.media.length ≤ 281474976710656 ∧ d.os.length ≤ 281474976710656 ∧ d.arch.length ≤ 281474976710656
def zeroD : DV := ⟨[], zero32, 0, [], []⟩
def eDes : En DV := En.plain (fun d => .agg (encD d)) goodD zeroD
/-- What a reading answers. -/
def ReadP {α : Type} (E : En α) (w : World) (o : Option α) (e : Ending) (w' : World) : Prop :=
  ∃ a t ok, e = .returned (.tuple #[t, .bool ok]) ∧ E.at_ w' (fun k => w.heap.size ≤ k ∧ k < w'.heap.size) a t ∧ (o = some a ∧ ok = true ∨ o = none ∧ ok = false) ∧ Below w.heap.size w w'
/-- A value may be read: it is no longer, and no deeper, than memory takes. -/
def okR (v : JV) : Prop := okJ v ∧ hgJ v ≤ 65536
theorem getL_mem : ∀ {ks : List Bs} {xs : List JV} {key : Bs} {x : JV}, getL ks xs key = some x → x ∈ xs
  | [], _, _, _, h => by simp [getL] at h
  | _ :: _, [], _, _, h => by simp [getL] at h
  | k :: ks, y :: xs, key, x, h => by
    rw [getL] at h
    by_cases e : k = key
    · rw [if_pos e] at h
      injection h with h
      rw [h]
      simp
    · rw [if_neg e] at h
      exact List.mem_cons_of_mem _ (getL_mem h)
theorem okR.get {v x : JV} {key : Bs} (h : okR v) (hx : getV v key = some x) : okR x := by
  obtain ⟨k, t, items, keys⟩ := v
  unfold getV at hx
  split at hx
  · have hm : x ∈ items := getL_mem hx
    have h1 := h.1
    have h2 : hgL items ≤ 65536 := h.2
    rw [okJ] at h1
    have := hgL_mem hm
    exact ⟨okJL_mem h1.2.2 x hm, by omega⟩
  · cases hx
theorem okR.item {k : Int} {t : Bs} {items : List JV} {keys : List Bs} (h : okR (.mk k t items keys)) {x : JV} (hm : x ∈ items) : okR x := by
  have h1 := h.1
  have h2 : hgL items ≤ 65536 := h.2
  rw [okJ] at h1
  have := hgL_mem hm
  exact ⟨okJL_mem h1.2.2 x hm, by omega⟩
/-- A function that reads a value. -/
structure RdF {α : Type} (E : En α) (f : JV → Option α) (fn : FuncId) (lb : Array Value) (inv : World → Prop) : Prop where
  enter : ∀ args w1, (callFunc fn args).run Tryz.prog w1 = .ok (.enter fn args) w1
  stay : ∀ w w', inv w → Below w.heap.size w w' → inv w'
  call : ∀ (x : JV) (w : World) (y : Option Addr) (m : Nat) (z : Option Addr) (n : Nat), okR x → Env2 w → inv w → HoldsC w (fun k => k < w.heap.size) x (.int .i64 x.kind) (.string (str x.text)) (.slice y x.items.length m) (.slice z x.keys.length n) →
    Calls Tryz.prog fn (#[.agg #[.int .i64 x.kind, .string (str x.text), .slice y x.items.length m, .slice z x.keys.length n]] ++ lb) w fun e w' => ReadP E w (f x) e w'
theorem ReadP.out {α : Type} {E : En α} {w w0 : World} {o : Option α} {e : Ending} {w' : World} (h : ReadP E w o e w') (hb : Below w0.heap.size w0 w) (hs : w0.heap.size ≤ w.heap.size) : ReadP E w0 o e w' := by
  obtain ⟨a, t, ok, h1, h2, h3, h4⟩ := h
  exact ⟨a, t, ok, h1, E.mono h2 (fun k hk hlt => ⟨Nat.le_trans hs hk.1, hlt⟩), h3, hb.trans (h4.mono hs)⟩
/-- json.Int reads. -/
theorem enter_int (args : Array Value) (w : World) : (callFunc 74 args).run Tryz.prog w = .ok (.enter 74 args) w := by kernel_rfl
theorem enter_text (args : Array Value) (w : World) : (callFunc 81 args).run Tryz.prog w = .ok (.enter 81 args) w := by kernel_rfl
theorem rd_int : RdF eInt intV 74 #[] (fun _ => True) where
  enter := enter_int
  stay := fun _ _ _ _ => trivial
  call := fun x w y m z n ho hE _ _ => by
    refine (int_any x y x.items.length m z x.keys.length n (fun h3 => ?_) w hE).mono ?_
    · obtain ⟨k, t, items, keys⟩ := x
      have h1 := ho.1
      rw [okJ] at h1
      exact h1.1 h3
    · rintro e w' ⟨rfl, hb⟩
      cases h : intV x with
      | some n => exact ⟨n, _, true, rfl, ⟨rfl, trivial⟩, .inl ⟨rfl, rfl⟩, hb⟩
      | none => exact ⟨0, _, false, rfl, ⟨rfl, trivial⟩, .inr ⟨rfl, rfl⟩, hb⟩
theorem rd_text : RdF eTxt textV 81 #[] (fun _ => True) where
  enter := enter_text
  stay := fun _ _ _ _ => trivial
  call := fun x w y m z n _ _ _ hH => by
    have hl : x.text.length ≤ 281474976710656 := by
      obtain ⟨k, t, items, keys⟩ := x
      exact hH.opens.2.2.1
    refine (jtext_any x y x.items.length m z x.keys.length n w).mono ?_
    rintro e w' ⟨rfl, hb⟩
    unfold textV
    split
    · exact ⟨x.text, _, true, rfl, ⟨rfl, hl⟩, .inl ⟨rfl, rfl⟩, hb⟩
    · exact ⟨[], _, false, rfl, ⟨rfl, by simp⟩, .inr ⟨rfl, rfl⟩, hb⟩
end Go.Proofs.YtnkencdibniagaaGreatDoor

/- Layer 13, plain: what is parsed may be read. -/
namespace Go.Proofs.YtnkencdibniagaaGreatDoor
open Go.RowKit

mutual
theorem hg_deep : ∀ v : JV, may v → hgJ v ≤ deep v
  | .mk k t items keys, hm => by
    rw [hgJ, deep]
    by_cases h : k = 5 ∨ k = 6
    · rw [if_pos h]
      exact hg_deepL items (by rw [may] at hm; exact hm.1)
    · rw [if_neg h]
      rw [may] at hm
      rcases hm.2 with ⟨_, _, c, _⟩ | ⟨_, _, c, _⟩ | ⟨_, _, c, _⟩ | ⟨a, _⟩ | ⟨a, _⟩
      · subst c; rw [hgL]; omega
      · subst c; rw [hgL]; omega
      · subst c; rw [hgL]; omega
      · exact absurd (.inl a) h
      · exact absurd (.inr a) h
theorem hg_deepL : ∀ l : List JV, mayL l → hgL l ≤ deepL l + 1
  | [], _ => by rw [hgL]; omega
  | x :: l, hm => by
    rw [mayL] at hm
    have h1 := hg_deep x hm.1
    have h2 := hg_deepL l hm.2
    rw [hgL, deepL]
    omega
end
theorem okR_all {n : Nat} {l : Bs} {v : JV} {r : Bs} (hl : l.length ≤ 65536) (h : allP n l = some (.ok v r)) : okR v := by
  obtain ⟨h1, h2⟩ := all_ok h
  have := hg_deep v h1
  exact ⟨all_good hl h, by omega⟩
end Go.Proofs.YtnkencdibniagaaGreatDoor

