/- Layer 4: the document's own hash. -/
import Derived.Test.YtemnfnmkhfgopaaDoorSbC
import Derived.Test.YtemnfnmkhfgopaaDoorSbD
import Derived.StillTailTactics
namespace Go.Proofs.YtemnfnmkhfgopaaDoor
open Go.RowKit

/-- The memory of the document's own Of: the answer to be, K, the eight numbers. -/
structure OfM (W w : World) (d : List UInt8) (kl x : List Nat) : Prop where
  r0 : rowC w W.heap.size (cells8 d) 26
  r1 : rowC w (W.heap.size + 1) (cells32 kl) 48
  r2 : rowC w (W.heap.size + 1 + 1) (cells32 x) 41
  nx : Below W.heap.size W w
theorem OfM.start (w : World) (d : List UInt8) (kl x : List Nat) : OfM w (((w.alloc (.cells (cells8 d) 26)).alloc (.cells (cells32 kl) 48)).alloc (.cells (cells32 x) 41)) d kl x := by
  have h2 := rowC_new (w.alloc (.cells (cells8 d) 26)) (cells32 kl) 48
  have h3 := rowC_new ((w.alloc (.cells (cells8 d) 26)).alloc (.cells (cells32 kl) 48)) (cells32 x) 41
  simp only [size_alloc] at h2 h3
  exact ⟨rowC_alloc (rowC_alloc (rowC_new w _ _) _) _, rowC_alloc h2 _, h3, (((Below.refl _ _).alloc (Nat.le_refl _) _).alloc (by simp) _).alloc (by simp; omega) _⟩
theorem OfM.drew {W w : World} {d : List UInt8} {kl x : List Nat} (h : OfM W w d kl x) : OfM W w.drew d kl x := ⟨h.r0, h.r1, h.r2, h.nx.drew⟩
theorem OfM.lt {W w : World} {d : List UInt8} {kl x : List Nat} (h : OfM W w d kl x) : W.heap.size + 3 ≤ w.heap.size := rowC_lt h.r2
theorem OfM.below {W w w' : World} {d : List UInt8} {kl x : List Nat} (h : OfM W w d kl x) (hb : Below w.heap.size w w') : OfM W w' d kl x := by
  have := h.lt
  exact ⟨rowC_below h.r0 hb (by omega), rowC_below h.r1 hb (by omega), rowC_below h.r2 hb (by omega), h.nx.trans (hb.mono (by omega))⟩
theorem OfM.row2 {W w : World} {d : List UInt8} {kl x : List Nat} (h : OfM W w d kl x) (y : List Nat) : OfM W (w.setRow (W.heap.size + 1 + 1) (cells32 y)) d kl y :=
  ⟨rowC_setRow_other h.r0 _ _ (by omega), rowC_setRow_other h.r1 _ _ (by omega), rowC_setRow h.r2 _, below_setRow h.nx (by omega) _⟩

/-- .. and behind it the bytes that are told. -/
structure OfN (W w : World) (G : Nat) (d : List UInt8) (kl x : List Nat) (e : List UInt8) : Prop where
  m : OfM W w d kl x
  rg : rowC w G (cells8 e) 26
  gt : W.heap.size + 3 ≤ G
theorem OfN.start {W w : World} {d : List UInt8} {kl x : List Nat} (h : OfM W w d kl x) (e : List UInt8) : OfN W (w.alloc (.cells (cells8 e) 26)) w.heap.size d kl x e := by
  have := h.lt
  exact ⟨⟨rowC_alloc h.r0 _, rowC_alloc h.r1 _, rowC_alloc h.r2 _, h.nx.alloc (by omega) _⟩, rowC_new _ _ _, h.lt⟩
theorem OfN.setG {W w : World} {G : Nat} {d : List UInt8} {kl x : List Nat} {e : List UInt8} (h : OfN W w G d kl x e) (i : Nat) (b : UInt8) : OfN W (w.setCell ⟨G, i, none⟩ (byteV b)) G d kl x (e.set i b) := by
  have gt := h.gt
  refine ⟨⟨rowC_other h.m.r0 _ _ (by simp; omega), rowC_other h.m.r1 _ _ (by simp; omega), rowC_other h.m.r2 _ _ (by simp; omega), h.m.nx.setCell (p := ⟨G, i, none⟩) (by simp; omega) _⟩, ?_, gt⟩
  rw [← cells8_set]
  exact rowC_set h.rg i _
theorem OfN.set2 {W w : World} {G : Nat} {d : List UInt8} {kl x : List Nat} {e : List UInt8} (h : OfN W w G d kl x e) (i n : Nat) : OfN W (w.setCell ⟨W.heap.size + 1 + 1, i, none⟩ (.int .u32 (n : Int))) G d kl (x.set i n) e := by
  have gt := h.gt
  refine ⟨⟨rowC_other h.m.r0 _ _ (by simp; omega), rowC_other h.m.r1 _ _ (by simp), ?_, h.m.nx.setCell (p := ⟨W.heap.size + 1 + 1, i, none⟩) (by simp; omega) _⟩, rowC_other h.rg _ _ (by simp; omega), gt⟩
  rw [← cells32_set]
  exact rowC_set h.m.r2 i _
/-- The eight numbers, of which the first i, and j bytes of the next, are told. -/
def leftL (X : List Nat) (i j : Nat) : List Nat := (List.range 8).map fun p => if p < i then 0 else if p = i then X.getD p 0 / 256 ^ j else X.getD p 0
theorem leftL_length (X : List Nat) (i j : Nat) : (leftL X i j).length = 8 := by simp [leftL]
theorem leftL_getD (X : List Nat) {i j : Nat} (h : i < 8) : (leftL X i j).getD i 0 = X.getD i 0 / 256 ^ j := by
  unfold leftL
  rw [List.getD_eq_getElem?_getD, List.getElem?_map, List.getElem?_range h, Option.map_some, Option.getD_some, if_neg (by omega), if_pos rfl]
theorem leftL_set (X : List Nat) {i j : Nat} (h : i < 8) : (leftL X i j).set i (X.getD i 0 / 256 ^ (j + 1)) = leftL X i (j + 1) := by
  refine List.ext_getElem? fun p => ?_
  by_cases hp : p < 8
  · rw [List.getElem?_set, leftL_length]
    by_cases e : i = p
    · subst e
      rw [if_pos rfl, if_pos hp]
      unfold leftL
      rw [List.getElem?_map, List.getElem?_range h, Option.map_some, if_neg (by omega), if_pos rfl]
    · rw [if_neg e]
      unfold leftL
      rw [List.getElem?_map, List.getElem?_map, List.getElem?_range hp, Option.map_some, Option.map_some]
      have e2 : ¬ p = i := fun e2 => e e2.symm
      simp only [e2, if_false]
  · rw [List.getElem?_eq_none (by rw [List.length_set, leftL_length]; omega), List.getElem?_eq_none (by rw [leftL_length]; omega)]
theorem leftL_next (X : List Nat) {i : Nat} (hX : X.getD i 0 < 4294967296) : leftL X i 4 = leftL X (i + 1) 0 := by
  unfold leftL
  refine List.map_congr_left fun p _ => ?_
  by_cases h1 : p < i
  · rw [if_pos h1, if_pos (by omega)]
  · rw [if_neg h1]
    by_cases h2 : p = i
    · subst h2
      rw [if_pos rfl, if_pos (by omega), show (256 : Nat) ^ 4 = 4294967296 from rfl]
      exact Nat.div_eq_of_lt hX
    · rw [if_neg h2, if_neg (by omega)]
      by_cases h3 : p = i + 1
      · subst h3
        rw [if_pos rfl, Nat.pow_zero, Nat.div_one]
      · rw [if_neg h3]
theorem leftL_zero (X : List Nat) (h : X.length = 8) : leftL X 0 0 = X := by
  refine List.ext_getElem? fun p => ?_
  by_cases hp : p < 8
  · unfold leftL
    rw [List.getElem?_map, List.getElem?_range hp, Option.map_some, if_neg (by omega), Nat.pow_zero, Nat.div_one]
    have hp2 : p < X.length := by omega
    rw [List.getElem?_eq_getElem hp2, List.getD_eq_getElem?_getD, List.getElem?_eq_getElem hp2]
    simp
  · rw [List.getElem?_eq_none (by rw [leftL_length]; omega), List.getElem?_eq_none (by omega)]
/-- Which bytes are told then. -/
def toldB (i j p : Nat) : Bool := decide (p / 4 < i ∨ (p / 4 = i ∧ 3 < p % 4 + j))
theorem toldB_next (i j p : Nat) (hj : j < 4) : toldB i (j + 1) p = (toldB i j p || p == 4 * i + 3 - j) := by
  unfold toldB
  rw [Bool.eq_iff_iff]
  simp only [decide_eq_true_eq, Bool.or_eq_true, beq_iff_eq]
  omega
theorem toldB_over (i p : Nat) : toldB i 4 p = toldB (i + 1) 0 p := by
  unfold toldB
  rw [Bool.eq_iff_iff]
  simp only [decide_eq_true_eq]
  omega
theorem toldB_none (p : Nat) : toldB 0 0 p = false := by
  unfold toldB
  rw [decide_eq_false_iff_not]
  omega
theorem toldB_all {p : Nat} (h : p < 32) : toldB 8 0 p = true := by
  unfold toldB
  rw [decide_eq_true_eq]
  omega
theorem told_byte (v : St) {i j : Nat} (hi : i < 8) (hj : j < 4) : (sha_digN v).getD (4 * i + 3 - j) 0 = UInt8.ofNat (v.list.getD i 0 / 256 ^ j) := by
  rw [show 4 * i + 3 - j = 4 * i + (3 - j) by omega, digN_getD v hi (by omega), show 3 - (3 - j) = j by omega]
theorem list_lt {v : St} (h : v.ok) {i : Nat} (hi : i < 8) : v.list.getD i 0 < 4294967296 := by
  obtain ⟨o1, o2, o3, o4, o5, o6, o7, o8⟩ := h
  rcases (show i = 0 ∨ i = 1 ∨ i = 2 ∨ i = 3 ∨ i = 4 ∨ i = 5 ∨ i = 6 ∨ i = 7 by omega) with rfl | rfl | rfl | rfl | rfl | rfl | rfl | rfl <;> simp only [St.list, List.getD_cons_zero, List.getD_cons_succ] <;> assumption
theorem extract_block (t : List UInt8) (q : Nat) (h : 64 * (q + 1) ≤ t.length) : ((str t).extract (64 * q) (64 * q + 64)).size = 64 ∧ ((str t).extract (64 * q) (64 * q + 64)).data.toList = (t.drop (64 * q)).take 64 := by
  have e : ((str t).extract (64 * q) (64 * q + 64)).data.toList = (t.drop (64 * q)).take 64 := by
    simp only [ByteArray.data_extract, Array.toList_extract, str, List.extract_eq_take_drop]
    congr 1
    omega
  refine ⟨?_, e⟩
  rw [ByteArray.size_extract, str_size]
  omega
theorem runN_succ (l : List UInt8) (q : Nat) : sha_runN l (q + 1) = compN (sha_runN l q) ((l.drop (64 * q)).take 64) := by
  rw [sha_runN]

set_option maxRecDepth 100000 in
set_option maxHeartbeats 1000000 in
theorem sha_rof_any (s : ByteArray) (w : World) (hs : s.size ≤ 1000000) :
    Calls Tryd.prog 18 #[.string s] w fun e w' => e = .returned (.agg (cells8 (hashL s.data.toList))) ∧ Below w.heap.size w w' := by
  have CF := fun w => rfilled_any s w hs
  obtain ⟨t, ht⟩ : ∃ t, t = s.data.toList ++ padL s.size := ⟨_, rfl⟩
  rw [← ht] at CF
  obtain ⟨Q, hQ⟩ : ∃ Q, t.length = 64 * Q := ⟨t.length / 64, by
    have h1 := padded s.size
    have h2 : t.length = s.size + (padL s.size).length := by rw [ht, List.length_append]; simp
    omega⟩
  have hQb : Q ≤ 20000 := by
    have h2 : t.length = s.size + (padL s.size).length := by rw [ht, List.length_append]; simp
    have := padL_le s.size
    omega
  have hres : hashL s.data.toList = sha_digN (sha_runN t Q) := by
    have e : s.data.toList.length = s.size := by simp
    unfold hashL
    rw [e, ← ht, hQ, Nat.mul_div_cancel_left _ (by decide)]
  obtain ⟨H, hH⟩ : ∃ H, H = hashL s.data.toList := ⟨_, rfl⟩
  rw [← hH] at hres ⊢
  clear hH
  have HR := Lib.hid hres
  have hts := str_size t
  rw [hQ] at hts
  have HQ := Lib.hid hQ
  clear hres ht hQ
  go_enter Tryd.func18, Tryd.ntmps18
  go_wp2_with (first
    | (refine wpList_build_as rfl 48 _ rfl (cells32 kL) (by kernel_rfl) ?_)
    | (refine wpList_build_as rfl 41 _ rfl (cells32 initN.list) (by kernel_rfl) ?_)
    | (refine wpList_store_last rfl 48 _ _ rfl (w.heap.size + 1) (cells32 kL) rfl rfl 48 _ (by simp) (by kernel_rfl) rfl (cells32_one _) ?_)
    | (refine wpList_store_last rfl 41 _ _ rfl (w.heap.size + 1 + 1) (cells32 initN.list) rfl rfl 41 _ (by simp) (by kernel_rfl) rfl (cells32_one _) ?_)
    | (go_at_call 24; ((with_reducible refine (CF _).mono ?_); rintro e w1 ⟨rfl, hb1⟩)))
  have O := OfM.below (OfM.start w (List.replicate 32 0) kL initN.list) hb1
  clear hb1 CF
  go_loopw [6] (fun i wr => ∃ q : Nat, q ≤ Q ∧ i = .int .i64 ((64 * q : Nat) : Int) ∧ OfM w wr (List.replicate 32 0) kL (sha_runN t q).list) (fun i _ => 64 * Q - (intOf i).toNat)
  case atStart => exact ⟨0, by omega, rfl, O⟩
  case round =>
    clear O
    obtain ⟨q, hq, rfl, O⟩ := hrel
    have e64 : ((64 * q : Nat) : Int) = 64 * (q : Int) := by omega
    by_cases hlt : q < Q
    · have hx := extract_block t q (by rw [HQ.out]; omega)
      have hok := runN_ok t q
      have CB := fun w => rblock_any (sha_runN t q) ((str t).extract (64 * q) (64 * q + 64)) w hok hx.1
      rw [hx.2] at CB
      obtain ⟨R, hR⟩ : ∃ R, R = sha_runN t (q + 1) := ⟨_, rfl⟩
      rw [← runN_succ t q, ← hR] at CB
      have HS := Lib.hid hR
      clear hR
      obtain ⟨v, hv⟩ : ∃ v, v = sha_runN t q := ⟨_, rfl⟩
      rw [← hv] at CB O hok
      clear hv hok
      have r1 := O.r1
      have r2 := O.r2
      have O' := Lib.hid O
      clear O hx
      have w0 : IntKind.i64.wrap (64 * (q : Int) + 64) = 64 * (q : Int) + 64 := IntWalk.i64_in _ (by omega)
      have hsl : ∀ w, (Instr.slice 9 (.string (str t)) (some (.int .i64 (64 * (q : Int)))) (some (.int .i64 (64 * (q : Int) + 64))) none).run Tryd.prog w = .ok (.string ((str t).extract (64 * q) (64 * q + 64))) w := by
        intro w
        rw [run_slice_string w _ _ _ _ _ _ Tryd.underlying9 (by omega) (by omega) (by rw [hts]; omega)]
        rw [show (64 * (q : Int)).toNat = 64 * q by omega, show (64 * (q : Int) + 64).toNat = 64 * q + 64 by omega]
      have hgt := (rowC_lt r2)
      go_wp2
      refine wp_region_still_tail 7 (by kernel_rfl) (by kernel_rfl) ?_
      simp only [List.take_succ_cons, List.take_zero, List.drop_succ_cons, List.drop_zero]
      refine wpStill_load_row rfl 41 _ rfl _ rfl _ _ _ (rowC_drew r2) Tryd.underlying41 rfl (by kernel_rfl) ?_
      refine wpStill_load_row rfl 48 _ rfl _ rfl _ _ _ (rowC_drew r1) Tryd.underlying48 rfl (by kernel_rfl) ?_
      repeat still_step
      refine wpStill_nil ?_
      change wpList _ _ _ _ _ wr.drew
      have O2 := Lib.hid (O'.out.drew)
      replace r2 : rowC wr.drew _ _ _ := r2
      clear O' r1
      generalize wr.drew = w2 at O2 r2 ⊢
      clear hsl w0 e64
      go_wp2_with (first
        | (go_at_call 25; ((with_reducible refine (CB _).mono ?_); rintro e w3 ⟨rfl, hb3⟩))
        | (refine wpList_store_row rfl 41 _ _ rfl (w.heap.size + 1 + 1) (cells32 R.list) rfl rfl 41 _ (rowC_below r2 hb3 (rowC_lt r2)) (by kernel_rfl) rfl (cells32_one _) ?_))
      go_roundw
      case rel => exact ⟨q + 1, by omega, by go_num, by rw [← HS.out]; exact (OfM.below O2.out hb3).row2 _⟩
      case measure => simp [intOf]; omega
    · obtain rfl : q = Q := by omega
      obtain ⟨v, hv⟩ : ∃ v, v = sha_runN t q := ⟨_, rfl⟩
      have hok := runN_ok t q
      have HR2 := HR.out
      rw [← hv] at O hok HR2
      clear HR hv
      have HR := Lib.hid HR2
      clear HR2
      have O' := Lib.hid O
      clear O e64
      go_wp2
      have hS : List.replicate 32 (0 : UInt8) = partL (sha_digN v) (toldB 0 0) := (partL_none _ _ (fun p _ => toldB_none p)).symm
      have N0 := OfN.start O'.out (List.replicate 32 0)
      have N : OfN w (wr.alloc (.cells #[Value.int IntKind.u8 0, Value.int IntKind.u8 0, Value.int IntKind.u8 0, Value.int IntKind.u8 0, Value.int IntKind.u8 0, Value.int IntKind.u8 0, Value.int IntKind.u8 0, Value.int IntKind.u8 0, Value.int IntKind.u8 0, Value.int IntKind.u8 0, Value.int IntKind.u8 0, Value.int IntKind.u8 0, Value.int IntKind.u8 0, Value.int IntKind.u8 0, Value.int IntKind.u8 0, Value.int IntKind.u8 0, Value.int IntKind.u8 0, Value.int IntKind.u8 0, Value.int IntKind.u8 0, Value.int IntKind.u8 0, Value.int IntKind.u8 0, Value.int IntKind.u8 0, Value.int IntKind.u8 0, Value.int IntKind.u8 0, Value.int IntKind.u8 0, Value.int IntKind.u8 0, Value.int IntKind.u8 0, Value.int IntKind.u8 0, Value.int IntKind.u8 0, Value.int IntKind.u8 0, Value.int IntKind.u8 0, Value.int IntKind.u8 0] 26)) wr.heap.size (List.replicate 32 0) kL (leftL v.list 0 0) (partL (sha_digN v) (toldB 0 0)) := by
        rw [leftL_zero _ (St.list_length v), ← hS]
        exact N0
      clear N0 hS O'
      generalize wr.alloc _ = w1 at N ⊢
      generalize wr.heap.size = G at N ⊢
      have N' := Lib.hid N
      clear N
      go_loopw [8, 9] (fun x y wx => ∃ i : Nat, i ≤ 8 ∧ x = .int .i64 i ∧ OfN w wx G (List.replicate 32 0) kL (leftL v.list i 0) (partL (sha_digN v) (toldB i 0))) (fun x _ _ => 8 - (intOf x).toNat)
      case atStart => exact ⟨0, by omega, rfl, N'.out⟩
      case round =>
        clear N'
        obtain ⟨i, hi, rfl, N⟩ := hrel
        have N' := Lib.hid N
        clear N
        by_cases hlt : i < 8
        · have hlv := list_lt hok hlt
          go_wp2
          go_loopw [9] (fun y wx => ∃ j : Nat, j ≤ 4 ∧ y = .int .i64 j ∧ OfN w wx G (List.replicate 32 0) kL (leftL v.list i j) (partL (sha_digN v) (toldB i j))) (fun y _ => 4 - (intOf y).toNat)
          case atStart => exact ⟨0, by omega, rfl, N'.out⟩
          case round =>
            clear N'
            obtain ⟨j, hj, rfl, N⟩ := hrel
            by_cases hlj : j < 4
            · have c2 : wr.cell? ⟨w.heap.size + 1 + 1, i, none⟩ = some (.int .u32 (v.list.getD i 0 / 256 ^ j : Nat)) := by
                rw [rowC_cell N.m.r2, cells32_get _ _ (by rw [leftL_length]; exact hlt), leftL_getD _ hlt]; rfl
              have f2 := rowC_free N.m.r2 i
              have cG : ∃ ob, wr.cell? ⟨G, 4 * i + 3 - j, none⟩ = some ob := ⟨_, by rw [rowC_cell N.rg, cells8_get _ _ (by rw [partL_length]; omega)]⟩
              obtain ⟨ob, cG⟩ := cG
              have fG := rowC_free N.rg (4 * i + 3 - j)
              have gt := N.gt
              have hb := Lib.hid (told_byte v hlt hlj)
              have hs1 := Lib.hid (partL_set (sha_digN v) (toldB i j) (toldB i (j + 1)) (4 * i + 3 - j) (fun p _ => toldB_next i j p hlj))
              have hs2 := Lib.hid (leftL_set v.list hlt (j := j))
              have hd := Lib.hid (show v.list.getD i 0 / 256 ^ j / 256 = v.list.getD i 0 / 256 ^ (j + 1) by rw [Nat.div_div_eq_div_mul, Nat.pow_succ])
              have hle : v.list.getD i 0 / 256 ^ j ≤ v.list.getD i 0 := Nat.div_le_self _ _
              generalize v.list.getD i 0 / 256 ^ (j + 1) = y at hs2 hd
              generalize v.list.getD i 0 / 256 ^ j = x at c2 hb hd hle
              have c3 : ∀ u, (wr.setCell ⟨G, 4 * i + 3 - j, none⟩ u).cell? ⟨w.heap.size + 1 + 1, i, none⟩ = some (.int .u32 (x : Nat)) := fun u => by
                rw [World.cell?_setCell_other _ _ _ _ (fun e => absurd (congrArg Addr.block e) (by simp; omega))]; exact c2
              have f3 : ∀ u, (wr.setCell ⟨G, 4 * i + 3 - j, none⟩ u).frozen? ⟨w.heap.size + 1 + 1, i, none⟩ = false := fun u => by
                rw [World.frozen?_setCell]; exact f2
              have N' := Lib.hid N
              clear N
              have e3 : 4 * (i : Int) + 3 - (j : Int) = ((4 * i + 3 - j : Nat) : Int) := by omega
              have e4 : ((4 * i + 3 - j : Nat) : Int) < 32 := by omega
              go_wp2
              go_roundw
              case rel => exact ⟨j + 1, by omega, by go_num, by rw [← byteV_ofNat, ← hs1.out, hb.out, ← hs2.out, ← hd.out, show (x : Int) / 256 = ((x / 256 : Nat) : Int) by omega]; exact (N'.out.setG _ _).set2 i _⟩
              case measure => simp [intOf]; omega
            · obtain rfl : j = 4 := by omega
              rw [leftL_next _ hlv, partL_same _ _ (toldB (i + 1) 0) (fun p _ => toldB_over i p)] at N
              have N' := Lib.hid N
              clear N
              go_wp2
              go_roundw
              case rel => exact ⟨i + 1, by omega, by go_num, N'.out⟩
              case measure => simp [intOf]; omega
        · obtain rfl : i = 8 := by omega
          have N := N'.out
          rw [partL_all _ _ (digN_length v) (fun p hp => toldB_all hp), ← HR.out] at N
          have hg : rowC wr G (cells8 H) 26 := N.rg
          have h0 := N.m.r0
          have nx := N.m.nx
          have hsz : (cells8 H).size = 32 := by rw [cells8_size, HR.out, digN_length]
          have h32 : (Tryd.prog.info? 26).map (·.size) = some (cells8 H).size := by rw [hsz]; kernel_rfl
          have HSZ := Lib.hid hsz
          have H32 := Lib.hid h32
          clear N N' HR hsz h32
          go_wp2_with (first | (refine wpList_load_row rfl 26 _ rfl G rfl 26 _ (0, 0) _ hg Tryd.underlying26 rfl H32.out ?_) | (refine wpList_store_row rfl 26 _ _ rfl w.heap.size (cells8 H) rfl rfl 26 _ h0 H32.out (by rw [HSZ.out, cells8_size]; rfl) (cells8_one _) ?_))
          exact bodyPost_ret (results_cell_row rfl _ _ w.heap.size 26 (cells8 H) (0, 0) _ rfl (setRow_heap _ _ _ _ _ _ h0) Tryd.underlying26 rfl H32.out) rfl ⟨rfl, below_setRow nx (Nat.le_refl _) _⟩
end Go.Proofs.YtemnfnmkhfgopaaDoor
