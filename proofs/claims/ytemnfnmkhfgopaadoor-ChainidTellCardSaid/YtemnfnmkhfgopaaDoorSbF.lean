/- Layer 4: a block's numbers, as the program makes them. -/
import Derived.Test.YtemnfnmkhfgopaaDoorSbB
import Derived.Test.YtemnfnmkhfgopaaDoorSbD
import Derived.ChangeKeysEq
namespace Go.Proofs.YtemnfnmkhfgopaaDoor
open Go.RowKit

/-- A part of an array by value. -/
theorem run_index_arr {P : Program} {t e : TypeId} {n : Nat} {cs : Array Value} {k : IntKind} (hu : P.underlying t = some (.array n e)) (he : P.plainKey e = true) (hs : (P.info? e).map (·.size) = some 1) {i : Nat} {v : Value} (hi : i < n) (hv : cs[i]? = some v) (w : World) :
    (Instr.index t (.agg cs) (.int k (i : Int))).run P w = .ok v w := by
  have hz : (sizeOf e).run P w = .ok 1 w := by
    cases hq : P.info? e with
    | none => simp [hq] at hs
    | some j =>
      have : j.size = 1 := by simpa [hq] using hs
      simp [sizeOf, typeInfo, hq, this]
  have hp := run_part_plain w he hv
  simp [Instr.index, asIntOf, run_underlying hu, hz, hp, hi]

/-- The first m bytes of a number, as one. -/
def preN (b : List UInt8) (p : Nat) : Nat → Nat
  | 0 => 0
  | m + 1 => preN b p m * 256 + (b.getD (4 * p + m) 0).toNat
theorem preN_lt (b : List UInt8) (p : Nat) : ∀ m, preN b p m < 256 ^ m
  | 0 => by simp [preN]
  | m + 1 => by
    have := preN_lt b p m
    have h := byte_lt (b.getD (4 * p + m) 0)
    rw [preN, Nat.pow_succ]
    omega
theorem preN_all (b : List UInt8) (p : Nat) : preN b p 4 = sha_wordN b p := by
  unfold sha_wordN
  simp only [preN, Nat.add_zero]
  omega
/-- The sixteen numbers behind i bytes. -/
def gotL (b : List UInt8) (i : Nat) : List Nat := (List.range 16).map fun p => preN b p (min 4 (i - 4 * p))
theorem gotL_length (b : List UInt8) (i : Nat) : (gotL b i).length = 16 := by simp [gotL]
theorem gotL_getD (b : List UInt8) {i : Nat} (h : i < 64) : (gotL b i).getD (i / 4) 0 = preN b (i / 4) (i % 4) := by
  unfold gotL
  rw [List.getD_eq_getElem?_getD, List.getElem?_map, List.getElem?_range (by omega), Option.map_some, Option.getD_some, show min 4 (i - 4 * (i / 4)) = i % 4 by omega]
theorem gotL_set (b : List UInt8) {i : Nat} (_h : i < 64) : (gotL b i).set (i / 4) (preN b (i / 4) (i % 4 + 1)) = gotL b (i + 1) := by
  refine List.ext_getElem? fun p => ?_
  by_cases hp : p < 16
  · rw [List.getElem?_set, gotL_length]
    by_cases e : i / 4 = p
    · rw [if_pos e, if_pos (by omega)]
      unfold gotL
      rw [List.getElem?_map, List.getElem?_range hp, Option.map_some, show min 4 (i + 1 - 4 * p) = i % 4 + 1 by omega, e]
    · rw [if_neg e]
      unfold gotL
      rw [List.getElem?_map, List.getElem?_map, List.getElem?_range hp, Option.map_some, Option.map_some, show min 4 (i + 1 - 4 * p) = min 4 (i - 4 * p) by omega]
  · rw [List.getElem?_eq_none (by rw [List.length_set, gotL_length]; omega), List.getElem?_eq_none (by rw [gotL_length]; omega)]
theorem gotL_none (b : List UInt8) : gotL b 0 = List.replicate 16 0 := by
  unfold gotL
  rw [List.map_congr_left (g := fun _ => (0 : Nat)) (fun p _ => by rw [show min 4 (0 - 4 * p) = 0 by omega, preN])]
  rfl
theorem gotL_all (b : List UInt8) : gotL b 64 = (List.range 16).map (wN b) := by
  unfold gotL
  refine List.map_congr_left fun p hp => ?_
  have := List.mem_range.1 hp
  rw [show min 4 (64 - 4 * p) = 4 by omega, preN_all, wN_first b this]
/-- A number moved up by eight places, and a byte. -/
theorem orI {x c : Nat} (hx : x < 16777216) (hc : c < 256) : bits .or .u32 ((x : Int) * 256) (c : Int) = ((x * 256 + c : Nat) : Int) := by
  rw [show (x : Int) * 256 = ((x * 256 : Nat) : Int) by omega, u32_or_nat _ _ (by omega) (by omega)]
  have e := Nat.two_pow_add_eq_or_of_lt (i := 8) (b := c) (by simpa using hc) x
  rw [show x * 256 = 2 ^ 8 * x by omega, ← e]

/-- The memory of words: the block's bytes, its numbers. -/
structure WdM (W w : World) (b : List UInt8) (x : List Nat) : Prop where
  r0 : rowC w W.heap.size (cells8 b) 42
  r1 : rowC w (W.heap.size + 1) (cells32 x) 53
  nx : Below W.heap.size W w
theorem WdM.start (w : World) (b : List UInt8) (x : List Nat) : WdM w ((w.alloc (.cells (cells8 b) 42)).alloc (.cells (cells32 x) 53)) b x := by
  have h2 := rowC_new (w.alloc (.cells (cells8 b) 42)) (cells32 x) 53
  simp only [size_alloc] at h2
  exact ⟨rowC_alloc (rowC_new w _ _) _, h2, ((Below.refl _ _).alloc (Nat.le_refl _) _).alloc (by simp) _⟩
theorem WdM.set {W w : World} {b : List UInt8} {x : List Nat} (h : WdM W w b x) (i n : Nat) : WdM W (w.setCell ⟨W.heap.size + 1, i, none⟩ (.int .u32 (n : Int))) b (x.set i n) := by
  refine ⟨rowC_other h.r0 _ _ (by simp), ?_, h.nx.setCell (p := ⟨W.heap.size + 1, i, none⟩) (by simp) _⟩
  rw [← cells32_set]
  exact rowC_set h.r1 i _

set_option maxRecDepth 100000 in
set_option maxHeartbeats 1000000 in
theorem sha_words_any (b : List UInt8) (w : World) (hb : b.length = 64) :
    Calls Tryd.prog 27 #[.agg (cells8 b)] w fun e w' => e = .returned (.agg (cells32 ((List.range 16).map (wN b)))) ∧ Below w.heap.size w w' := by
  obtain ⟨R, hR⟩ : ∃ R, R = (List.range 16).map (wN b) := ⟨_, rfl⟩
  rw [← hR]
  have HR := Lib.hid (hR.trans (gotL_all b).symm)
  clear hR
  have HB := Lib.hid hb
  have h64 : (Tryd.prog.info? 42).map (·.size) = some (cells8 b).size := by rw [cells8_size, hb]; kernel_rfl
  have H64 := Lib.hid h64
  clear hb h64
  go_enter Tryd.func27, Tryd.ntmps27
  go_wp2_with (refine wpList_load_row rfl 42 _ rfl w.heap.size rfl 42 _ (0, 0) _ (WdM.start w b (List.replicate 16 0)).r0 Tryd.underlying42 rfl H64.out ?_)
  have N := WdM.start w b (List.replicate 16 0)
  have N' := Lib.hid N
  clear N
  go_loopw [6] (fun x wr => ∃ i : Nat, i ≤ 64 ∧ x = .int .i64 i ∧ WdM w wr b (gotL b i)) (fun x _ => 64 - (intOf x).toNat)
  case atStart => exact ⟨0, by omega, rfl, by rw [gotL_none b]; exact N'.out⟩
  case round =>
    clear N'
    obtain ⟨i, hi, rfl, N⟩ := hrel
    by_cases hlt : i < 64
    · have hix := run_index_arr (P := Tryd.prog) (t := 42) (e := 5) (cs := cells8 b) (k := .i64) Tryd.underlying42 (by kernel_rfl) (by kernel_rfl) hlt (cells8_get b i (by rw [HB.out]; exact hlt))
      unfold byteV at hix
      have hc := byte_lt (b.getD i 0)
      have c1 : wr.cell? ⟨w.heap.size + 1, i / 4, none⟩ = some (.int .u32 (preN b (i / 4) (i % 4) : Nat)) := by
        rw [rowC_cell N.r1, cells32_get _ _ (by rw [gotL_length]; omega), gotL_getD b hlt]; rfl
      have f1 := rowC_free N.r1 (i / 4)
      have hs := Lib.hid (gotL_set b hlt)
      have hp := Lib.hid (show preN b (i / 4) (i % 4 + 1) = preN b (i / 4) (i % 4) * 256 + (b.getD i 0).toNat by
        rw [preN, show 4 * (i / 4) + i % 4 = i by omega])
      have hx : preN b (i / 4) (i % 4) < 16777216 := Nat.lt_of_lt_of_le (preN_lt b (i / 4) (i % 4)) (by
        have : 256 ^ (i % 4) ≤ 256 ^ 3 := Nat.pow_le_pow_right (by omega) (by omega)
        simpa using this)
      generalize preN b (i / 4) (i % 4 + 1) = y at hs hp
      generalize preN b (i / 4) (i % 4) = x at c1 hp hx
      generalize (b.getD i 0).toNat = c at hix hc hp
      obtain ⟨m, hm⟩ : ∃ m, m = i / 4 := ⟨_, rfl⟩
      rw [← hm] at c1 f1 hs
      have e4 : (i : Int) / 4 = (m : Int) := by omega
      have e5 : (m : Int) < 16 := by omega
      clear hm
      have ho := orI hx hc
      have N' := Lib.hid N
      clear N
      go_wp2
      go_roundw
      case rel => exact ⟨i + 1, by omega, by go_num, by rw [← hs.out, hp.out, show (x : Int) * 256 + (c : Int) = ((x * 256 + c : Nat) : Int) by omega]; exact N'.out.set m _⟩
      case measure => simp [intOf]; omega
    · obtain rfl : i = 64 := by omega
      rw [← HR.out] at N
      have h1 := N.r1
      have nx := N.nx
      have hl : R.length = 16 := by rw [HR.out, gotL_length]
      have h16 : (Tryd.prog.info? 53).map (·.size) = some (cells32 R).size := by rw [cells32_size, hl]; kernel_rfl
      have H16 := Lib.hid h16
      clear N h16 hl HR
      go_wp2_with (first | (refine wpList_load_row rfl 53 _ rfl (w.heap.size + 1) rfl 53 _ (0, 0) _ h1 Tryd.underlying53 rfl H16.out ?_) | (refine wpList_store_row rfl 53 _ _ rfl (w.heap.size + 1) (cells32 R) rfl rfl 53 _ h1 H16.out rfl (cells32_one _) ?_))
      exact bodyPost_ret (results_cell_row rfl _ _ (w.heap.size + 1) 53 (cells32 R) (0, 0) _ rfl (setRow_heap _ _ _ _ _ _ h1) Tryd.underlying53 rfl H16.out) rfl ⟨rfl, below_setRow nx (by omega) _⟩
end Go.Proofs.YtemnfnmkhfgopaaDoor
