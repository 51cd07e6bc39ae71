/- Layer 17: Top, and Shared, the program's and the document's; lists held against each other. -/
import Derived.Test.YtemnfnmkhfgopaaDoorChD
namespace Go.Proofs.YtemnfnmkhfgopaaDoor
open Go.RowKit
attribute [local go_sem] wide_fn round_fn

/-- The top chain ID. -/
def topD (l : List (List UInt8)) : List UInt8 := if l.length = 0 then List.replicate 32 0 else (chainsL l).getD (l.length - 1) []
theorem topD_length {l : List (List UInt8)} (h : ∀ d ∈ l, d.length = 32) : (topD l).length = 32 := by
  unfold topD
  split
  · rfl
  · have h1 : l.length - 1 < (chainsL l).length := by rw [chainsL_length]; omega
    rw [List.getD_eq_getElem?_getD, List.getElem?_eq_getElem h1]
    exact chainsL_mem h _ (List.getElem_mem h1)
set_option maxRecDepth 100000 in
set_option maxHeartbeats 8000000 in
theorem top_any (l : List (List UInt8)) (x : Option Addr) (c : Nat) (w : World) (L : Laid w) (hn : l.length ≤ 1000000) (h : DgE.At w x l) :
    Calls Tryd.prog 7 #[.slice x l.length c] w fun e w' => e = .returned (.tuple #[.agg (cells8 (topD l)), .bool (decide (0 < l.length))]) ∧ Below w.heap.size w w' := by
  have R0 : rowC (w.alloc (.cells #[Value.int IntKind.u8 0, Value.int IntKind.u8 0, Value.int IntKind.u8 0, Value.int IntKind.u8 0, Value.int IntKind.u8 0, Value.int IntKind.u8 0, Value.int IntKind.u8 0, Value.int IntKind.u8 0, Value.int IntKind.u8 0, Value.int IntKind.u8 0, Value.int IntKind.u8 0, Value.int IntKind.u8 0, Value.int IntKind.u8 0, Value.int IntKind.u8 0, Value.int IntKind.u8 0, Value.int IntKind.u8 0, Value.int IntKind.u8 0, Value.int IntKind.u8 0, Value.int IntKind.u8 0, Value.int IntKind.u8 0, Value.int IntKind.u8 0, Value.int IntKind.u8 0, Value.int IntKind.u8 0, Value.int IntKind.u8 0, Value.int IntKind.u8 0, Value.int IntKind.u8 0, Value.int IntKind.u8 0, Value.int IntKind.u8 0, Value.int IntKind.u8 0, Value.int IntKind.u8 0, Value.int IntKind.u8 0, Value.int IntKind.u8 0] 26)) w.heap.size (cells8 (List.replicate 32 0)) 26 := rowC_new _ _ _
  have B0 : Below w.heap.size w (w.alloc (.cells #[Value.int IntKind.u8 0, Value.int IntKind.u8 0, Value.int IntKind.u8 0, Value.int IntKind.u8 0, Value.int IntKind.u8 0, Value.int IntKind.u8 0, Value.int IntKind.u8 0, Value.int IntKind.u8 0, Value.int IntKind.u8 0, Value.int IntKind.u8 0, Value.int IntKind.u8 0, Value.int IntKind.u8 0, Value.int IntKind.u8 0, Value.int IntKind.u8 0, Value.int IntKind.u8 0, Value.int IntKind.u8 0, Value.int IntKind.u8 0, Value.int IntKind.u8 0, Value.int IntKind.u8 0, Value.int IntKind.u8 0, Value.int IntKind.u8 0, Value.int IntKind.u8 0, Value.int IntKind.u8 0, Value.int IntKind.u8 0, Value.int IntKind.u8 0, Value.int IntKind.u8 0, Value.int IntKind.u8 0, Value.int IntKind.u8 0, Value.int IntKind.u8 0, Value.int IntKind.u8 0, Value.int IntKind.u8 0, Value.int IntKind.u8 0] 26)) := (Below.refl _ _).alloc (Nat.le_refl _) _
  have CO := of_any l x c (w.alloc (.cells #[Value.int IntKind.u8 0, Value.int IntKind.u8 0, Value.int IntKind.u8 0, Value.int IntKind.u8 0, Value.int IntKind.u8 0, Value.int IntKind.u8 0, Value.int IntKind.u8 0, Value.int IntKind.u8 0, Value.int IntKind.u8 0, Value.int IntKind.u8 0, Value.int IntKind.u8 0, Value.int IntKind.u8 0, Value.int IntKind.u8 0, Value.int IntKind.u8 0, Value.int IntKind.u8 0, Value.int IntKind.u8 0, Value.int IntKind.u8 0, Value.int IntKind.u8 0, Value.int IntKind.u8 0, Value.int IntKind.u8 0, Value.int IntKind.u8 0, Value.int IntKind.u8 0, Value.int IntKind.u8 0, Value.int IntKind.u8 0, Value.int IntKind.u8 0, Value.int IntKind.u8 0, Value.int IntKind.u8 0, Value.int IntKind.u8 0, Value.int IntKind.u8 0, Value.int IntKind.u8 0, Value.int IntKind.u8 0, Value.int IntKind.u8 0] 26)) (L.below B0 L.lt) hn (h.far B0 (Nat.le_refl _))
  have HR0 := Lib.hid R0
  have HB0 := Lib.hid B0
  have HCO := Lib.hid CO
  have h32 := Lib.hid (topD_length h.ok)
  have HZ := Lib.hid (info_digest (l := List.replicate 32 0) rfl)
  have HI := Lib.hid (info_digest (l := topD l) h32.out)
  obtain ⟨N, hN⟩ : ∃ N, N = l.length := ⟨_, rfl⟩
  rw [← hN] at HCO hn ⊢
  have HN := Lib.hid hN
  have HT : Hid (N = 0 → topD l = List.replicate 32 0) := Lib.hid fun h0 => by unfold topD; rw [if_pos (by omega)]
  have HU : Hid (∀ m, N = m + 1 → topD l = (chainsL l).getD m []) := Lib.hid fun m h0 => by unfold topD; rw [if_neg (by omega), show l.length - 1 = m by omega]
  clear R0 B0 CO L h hN
  generalize topD l = D at *
  go_enter Tryd.func7, Tryd.ntmps7
  go_upto_region 2 with ((go_at_call 9; ((with_reducible refine (HCO.out).mono ?_); rintro e w1 ⟨v, rfl, ho, hb⟩)))
  obtain ⟨a, cap, hv⟩ := ho.form
  rw [chainsL_length, ← HN.out] at hv
  subst hv
  have HO := Lib.hid ho
  have HB : Hid (Below w.heap.size w w1) := Lib.hid (HB0.out.trans (hb.mono HB0.out.size))
  have HR : Hid (rowC w1 w.heap.size (cells8 (List.replicate 32 0)) 26) := Lib.hid (rowC_below HR0.out hb (rowC_lt HR0.out))
  clear ho hb HCO HB0 HR0
  by_cases h0 : N = 0
  · subst h0
    have HD := Lib.hid (HT.out rfl)
    go_wp2_with (first
      | ((with_reducible show wpList _ _ _ (⟨some 10, _, _, _, _, _⟩ :: _) _ _); refine wpList_load_row rfl 26 _ rfl w.heap.size rfl 26 (cells8 (List.replicate 32 0)) (0, 0) _ HR.out Tryd.underlying26 rfl HZ.out ?_)
      | ((with_reducible show wpList _ _ _ (⟨none, _, _, _, _, _⟩ :: _) _ _); refine wpList_store_row rfl 26 _ _ rfl w.heap.size (cells8 (List.replicate 32 0)) rfl rfl 26 _ HR.out HZ.out rfl (cells8_one _) ?_))
    exact bodyPost_ret (results_row_tmp rfl _ _ w.heap.size 26 (cells8 (List.replicate 32 0)) _ rfl (setRow_heap _ _ _ _ _ _ HR.out) Tryd.underlying26 rfl HZ.out (.bool false) rfl) rfl ⟨by rw [HD.out], below_setRow HB.out (Nat.le_refl _) _⟩
  · obtain ⟨m, rfl⟩ : ∃ m, N = m + 1 := ⟨N - 1, by omega⟩
    have HD := Lib.hid (HU.out m rfl)
    have hY : (chainsL l)[m]? = some D := by
      have h1 : m < (chainsL l).length := by rw [chainsL_length, ← HN.out]; omega
      rw [HD.out, List.getD_eq_getElem?_getD, List.getElem?_eq_getElem h1]; rfl
    obtain ⟨_, ad, rfl, hblk, hcell⟩ := HO.out.at m D hY
    have HC : Hid (∀ j v, (D.map byteV)[j]? = some v → w1.cell? ((ad.add (m * 32)).add j) = some v) := Lib.hid hcell
    have HI2 := Lib.hid (info_dig32 h32.out)
    have hm1 : ((m : Int) + 1 - 1) = (m : Int) := by omega
    have hm2 : (((m + 1 : Nat) : Int) == 0) = false := beq_eq_false_iff_ne.2 (by omega)
    clear hY hcell h0
    go_wp2_with (first
      | ((with_reducible show wpList _ _ _ (⟨some 16, _, _, _, _, _⟩ :: _) _ _); refine ls_wpList_load rfl 26 _ rfl (ad.add (m * 32)) rfl (D.map byteV) _ HC.out Tryd.underlying26 rfl HI2.out ?_)
      | ((with_reducible show wpList _ _ _ (⟨none, _, _, _, _, _⟩ :: _) _ _); refine wpList_store_row rfl 26 _ _ rfl w.heap.size (cells8 D) rfl rfl 26 _ HR.out HI.out (by rw [cells8_size, cells8_size, List.length_replicate, h32.out]) (cells8_one _) ?_))
    exact bodyPost_ret (results_row_tmp rfl _ _ w.heap.size 26 (cells8 D) _ rfl (setRow_heap _ _ _ _ _ _ HR.out) Tryd.underlying26 rfl HI.out (.bool true) rfl) rfl ⟨rfl, below_setRow HB.out (Nat.le_refl _) _⟩
end Go.Proofs.YtemnfnmkhfgopaaDoor
