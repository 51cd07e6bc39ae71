/- Merged: UvR, UvK. -/
import Derived.Test.YtbjgmkjinnbokaaGreatDoorM29
import Derived.Test.YtbjgmkjinnbokaaGreatDoorM19
import Derived.Test.YtbjgmkjinnbokaaGreatDoorM12
/- Layer 16: the program's cloneAll. -/
namespace Go.Proofs.YtbjgmkjinnbokaaGreatDoor
open Go.RowKit

set_option maxRecDepth 100000 in
set_option maxHeartbeats 8000000 in
theorem clones_any (l : List Nd) (ad : Option Addr) (c : Nat) (hl : l.length ≤ 1000000) (hd : ∀ x ∈ l, x.path.length ≤ 1000000 ∧ x.data.length ≤ 1000000) (w : World) (h : NodesAt w ad l) :
    Calls Tryz.prog 22 #[.slice ad l.length c] w fun e w' => (∃ a2 c2, e = .returned (.slice a2 l.length c2) ∧ NodesAt w' a2 l) ∧ Below w.heap.size w w' := by
  have HN := Lib.hid h
  have HDD := Lib.hid hd
  have HI := Lib.hid info_nd4
  obtain ⟨i0, hi, hz0, hz1, hz2⟩ := info_parts info_nd
  have HX : Hid (∀ i, i < l.length → ∃ x, l[i]? = some x) := Lib.hid fun i hi => ⟨_, List.getElem?_eq_getElem hi⟩
  have HLT : Hid (∀ k, k ≤ l.length → (l.take k).length = k) := Lib.hid fun k hk => by rw [List.length_take]; omega
  have HFULL : Hid (l.take l.length = l) := Lib.hid (List.take_length ..)
  obtain ⟨N, hN⟩ : ∃ N, N = l.length := ⟨_, rfl⟩
  have HNL := Lib.hid hN
  rw [← hN] at hl HX HLT HFULL ⊢
  clear h hN hd
  go_enter Tryz.func22, Tryz.ntmps22
  go_upto_region 3 with (fail)
  go_loopw [3, 5, 8] (fun v _ i wr => ∃ (k : Nat) (a2 : Option Addr) (c2 : Nat), k ≤ N ∧ i = .int .i64 (k : Int) ∧ v = .slice a2 k c2 ∧ Hid (OwnsN wr w.heap.size (.slice a2 k c2) (l.take k)) ∧ Hid (Below w.heap.size w wr)) (fun _ _ i _ => N - (intOf i).toNat)
  case atStart => exact ⟨0, none, 0, Nat.zero_le _, rfl, rfl, Lib.hid (owns_noneN _ _), Lib.hid (Below.refl _ _)⟩
  case round =>
    obtain ⟨k, a2, c2, hk, rfl, rfl, hO, hB⟩ := hrel
    by_cases hlt : k < N
    · obtain ⟨x, hx⟩ := HX.out k hlt
      obtain ⟨ax, rfl, hax, hcx⟩ := HN.out k x hx
      have g1 : (k : Int) < (N : Int) := by omega
      have HCX : Hid (∀ j u, (ndV x)[j]? = some u → wr.cell? ((ax.add (k * 4)).add j) = some u) := Lib.hid fun j u hu => by
        rw [cell_far hB.out (by rw [add_blk, add_blk]; exact hax)]
        exact hcx j u hu
      have ui := Tryz.underlying41
      have HLK := Lib.hid (HLT.out k (by omega))
      have HTK : Hid (l.take (k + 1) = l.take k ++ [x]) := Lib.hid (by rw [List.take_add_one, hx]; rfl)
      have HONE := Lib.hid (ndA_one x)
      have HXZ := Lib.hid (HDD.out x (List.mem_of_getElem? hx))
      have CC := fun W => nclone_any x HXZ.out.1 HXZ.out.2 W
      obtain ⟨W2, hW2⟩ : ∃ W2, W2 = wr.alloc (.cells (ndA x) 41) := ⟨_, rfl⟩
      have HW2 := Lib.hid hW2
      have HB2 : Hid (Below w.heap.size w W2) := Lib.hid (by rw [hW2]; exact hB.out.alloc hB.out.size _)
      have HZ2 : Hid (rowC W2 wr.heap.size (ndA x) 41) := Lib.hid (by rw [hW2]; exact rowC_new wr _ _)
      have HO2 : Hid (OwnsN W2 w.heap.size (.slice a2 k c2) (l.take k)) := Lib.hid (by
        rw [hW2]
        exact World.ownsRow.alloc (show wr.ownsRow _ _ _ _ _ _ from hO.out) _)
      clear hx hcx hO hW2
      go_wp2_with (first
        | ((with_reducible show wpList _ _ _ (⟨some 11, .load _ _, _, _, _, _⟩ :: _) _ _); refine wpList_load_at rfl 41 _ rfl (ax.add (k * 4)) rfl (ndV x) _ HCX.out Tryz.underlying41 rfl HI.out ?_)
        | ((with_reducible show wpList _ _ _ (⟨none, .store _ (.tmp 5) _, _, _, _, _⟩ :: _) _ _); refine wpList_store_last rfl 41 _ _ rfl wr.heap.size (ndA x) rfl rfl 41 _ rfl HI.out rfl HONE.out ?_; rw [← HW2.out])
        | ((with_reducible show wpList _ _ _ (⟨some 13, .load _ (.tmp 5), _, _, _, _⟩ :: _) _ _); refine wpList_load_row rfl 41 _ rfl wr.heap.size rfl 41 #[.string (str x.path), .int .i64 x.kind, .int .i64 x.mode, .string (str x.data)] (0, 0) _ HZ2.out Tryz.underlying41 rfl HI.out ?_)
        | (go_at_call 27; (refine (CC _).mono ?_; rintro e w3 ⟨rfl, hB3⟩; have HBA : Hid (Below w.heap.size w (w3.alloc (.cells (ndA x) 41))) := Lib.hid ((HB2.out.trans (hB3.mono HB2.out.size)).alloc (HB2.out.trans (hB3.mono HB2.out.size)).size _); have HO4 : Hid ((w3.alloc (.cells (ndA x) 41)).ownsRow w.heap.size 41 4 (.slice a2 k c2) k (rowN (l.take k))) := Lib.hid (by have h1 : OwnsN w3 w.heap.size (.slice a2 k c2) (l.take k) := (Chg.of_below (s := fun _ => False) hB3).owns HO2.out (fun _ _ => id); have h2 := World.ownsRow.alloc h1 (.cells (ndA x) 41); rwa [HLK.out] at h2); have HNEW : Hid (∀ j u, (ndV x)[j]? = some u → (w3.alloc (.cells (ndA x) 41)).cell? ((⟨w3.heap.size, 0, none⟩ : Addr).add j) = some u) := Lib.hid (fun j u hu => by rw [show (⟨w3.heap.size, 0, none⟩ : Addr) = (⟨w3.heap.size, 0, none⟩ : Addr).add 0 from (addr_zero _).symm, add_add, Nat.zero_add, rowC_cell (rowC_new w3 (ndA x) 41) j, ← ndV_arr, List.getElem?_toArray]; exact hu); clear hB3))
        | ((with_reducible show wpList _ _ _ (⟨some 15, .buildSlice _ _ _, _, _, _, _⟩ :: _) _ _); refine wpList_oneR rfl 24 41 4 _ rfl (ndA x) rfl i0 _ Tryz.underlying24 hi hz0 hz1 rfl (by decide) (by decide) ?_)
        | ((with_reducible show wpList _ _ _ (⟨some 16, .call _, _, _, _, _⟩ :: _) _ _); refine wpList_append_lies _ rfl _ _ 24 rfl w.heap.size 41 i0 _ 4 48 Tryz.underlying24 hi hz0 hz1 hz2 rfl (by decide) (.slice a2 k c2) k (rowN (l.take k)) rfl HO4.out ⟨w3.heap.size, 0, none⟩ 1 1 (ndV x) rfl rfl HNEW.out (ndV_one _) (by decide) (by unfold maxLen; omega) (by omega) HBA.out.size _ rfl ?_; intro g5 c5 w5 ho5 hg5 _ _)
        | go_in)
      have hown5 := World.ownsRow.lt HO4.out
      have HBF : Hid (Below w.heap.size w w5) := Lib.hid (HBA.out.grown hg5 HBA.out.size (fun j hj => (hown5 j hj).1))
      have HOF : Hid (OwnsN w5 w.heap.size (.slice (some ⟨g5, 0, none⟩) (k + 1) c5) (l.take (k + 1))) := Lib.hid (by
        show w5.ownsRow _ _ _ _ _ _
        rw [HTK.out, List.length_append, rowN_app, HLK.out]
        have e : rowN [x] = ndV x := by simp [rowN]
        rw [e]
        exact ho5)
      clear ho5 hg5
      go_roundw
      case rel => exact ⟨k + 1, _, c5, by omega, by go_num, rfl, HOF, HBF⟩
      case measure => simp [intOf] <;> omega
    · obtain rfl : k = N := by omega
      have HE := Lib.hid (hO.out.nodes)
      rw [HFULL.out] at HE
      clear hO
      go_wp2
      go_ret
      exact ⟨⟨_, _, rfl, HE.out⟩, hB.out⟩

end Go.Proofs.YtbjgmkjinnbokaaGreatDoor

/- Layer 16: the program's Put. -/
namespace Go.Proofs.YtbjgmkjinnbokaaGreatDoor
open Go.RowKit
attribute [local go_sem] wide_fn round_fn

/-- The nodes' bytes. -/
def nodesW (l : List Nd) : List UInt8 := l.flatMap nodeW
def bytesK (l : List Nd) (k : Nat) : List UInt8 := putL l.length 2 ++ nodesW (l.take k)
theorem bytesK_zero (l : List Nd) : bytesK l 0 = putL l.length 2 := by simp [bytesK, nodesW]
theorem bytesK_step {l : List Nd} {k : Nat} {x : Nd} (h : l[k]? = some x) : bytesK l (k + 1) = bytesK l k ++ nodeW x := by
  unfold bytesK nodesW
  rw [List.take_add_one, h, Option.toList_some, List.flatMap_append, List.append_assoc]
  simp
theorem bytesK_mono (l : List Nd) (k m : Nat) : (bytesK l k).length ≤ (bytesK l (k + m)).length := by
  induction m with
  | zero => exact Nat.le_refl _
  | succ m ih =>
    refine Nat.le_trans ih ?_
    rw [← Nat.add_assoc]
    cases hx : l[k + m]? with
    | some x => rw [bytesK_step hx, List.length_append]; omega
    | none =>
      unfold bytesK
      rw [List.take_add_one, hx]
      simp
def put16 (l : List Nd) : List UInt8 × Int := if checkT l = 0 then (if 65000 < (bytesK l l.length).length then ([], 3) else (bytesK l l.length, 0)) else ([], checkT l)
theorem mayN_nums {x : Nd} (h : mayN x = true) : (0 ≤ x.kind ∧ x.kind ≤ 1000000) ∧ 0 ≤ x.mode ∧ x.mode ≤ 1000000 := by
  unfold mayN kindN at h
  simp only [Bool.and_eq_true, decide_eq_true_eq] at h
  obtain ⟨_, h1, h2, _, h3⟩ := h
  refine ⟨?_, h1, by omega⟩
  split at h3
  · omega
  · split at h3
    · omega
    · split at h3
      · omega
      · cases h3
set_option maxRecDepth 100000 in
set_option maxHeartbeats 8000000 in
theorem put16_any (l : List Nd) (ad : Option Addr) (c : Nat) (hl : l.length ≤ maxLen) (hlc : l.length ≤ c) (hp : ∀ x ∈ l, x.path.length ≤ 900000 ∧ x.data.length ≤ 900000) (w : World) (h : NodesAt w ad l) :
    Calls Tryz.prog 7 #[.slice ad l.length c] w fun e w' => e = .returned (.tuple #[.string (str (put16 l).1), .int .i64 (put16 l).2]) ∧ Below w.heap.size w w' := by
  have HI := Lib.hid info_nd4
  have HPT : Hid (put16 l = if checkT l = 0 then (if 65000 < (bytesK l l.length).length then ([], 3) else (bytesK l l.length, 0)) else ([], checkT l)) := Lib.hid rfl
  have CH := check_any l ad c hl hlc (fun x hx => (hp x hx).1) w h
  have HMAY : Hid (checkT l = 0 → l.length ≤ 400 ∧ ∀ x ∈ l, mayN x = true) := Lib.hid fun e => by
    unfold checkT at e
    split at e
    · cases e
    · split at e
      · rename_i h1 h2
        refine ⟨by omega, fun x hx => ?_⟩
        obtain ⟨k, hk⟩ := List.mem_iff_getElem?.1 hx
        exact ((treeB_iff l).1 h2 k x hk).1
      · cases e
  have HN := Lib.hid h
  have HP := Lib.hid hp
  have HX : Hid (∀ i, i < l.length → ∃ x, l[i]? = some x) := Lib.hid fun i hi => ⟨_, List.getElem?_eq_getElem hi⟩
  have HZ0 := Lib.hid (bytesK_zero l)
  obtain ⟨N, hN⟩ : ∃ N, N = l.length := ⟨_, rfl⟩
  have HNL := Lib.hid hN
  rw [← hN] at hl HX CH HMAY HPT HZ0 ⊢
  unfold maxLen at hl
  generalize hCT : checkT l = CT at *
  clear h hp hN hCT hlc
  go_enter Tryz.func7, Tryz.ntmps7
  go_upto_region 2 with (go_at_call 9; ((with_reducible refine CH.mono ?_); rintro e w1 ⟨rfl, hb1⟩))
  have HB1 := Lib.hid hb1
  clear hb1 CH
  by_cases hc0 : CT = 0
  rotate_left
  · have g : (CT == (0 : Int)) = false := by rw [beq_eq_false_iff_ne]; exact hc0
    have HR := Lib.hid (HPT.out.trans (if_neg hc0))
    clear hc0 HPT HMAY HX HZ0
    go_wp2
    go_ret2
    exact ⟨by rw [HR.out]; rfl, HB1.out⟩
  subst hc0
  have HMA := Lib.hid (HMAY.out rfl)
  have HPT2 := Lib.hid (HPT.out.trans (if_pos rfl))
  have hN400 := HMA.out.1
  clear HPT HMAY
  obtain ⟨W0, hW0⟩ : ∃ W0, W0 = w1.alloc (.cells #[.pointer none, .slice none 0 0] 50) := ⟨_, rfl⟩
  have HW0 := Lib.hid hW0
  have HS0 : Hid (BdS w1 w1.heap.size w1.heap.size [] W0) := Lib.hid (by rw [hW0]; exact ⟨bd_fresh w1, (Below.refl _ _).alloc (Nat.le_refl _) _, fun k o hk hkb ho => by
    rw [Below.heap_alloc w1 _ k (Array.getElem?_eq_some_iff.1 hk).1]; exact hk⟩)
  have HB0 : Hid (w1.heap.size < W0.heap.size) := Lib.hid (by rw [hW0, size_alloc]; omega)
  clear hW0
  go_upto_region 5 with (fail)
  rw [← HW0.out]
  go_upto_region 6 with (go_at_call 17; ((with_reducible refine (pn2 w1.heap.size w1.heap.size [] N (by omega) (by decide) _ (by have := HB0.out; omega) HS0.out.pr).mono ?_); rintro e W1 ⟨rfl, s1⟩; have HS1 := Lib.hid (HS0.out.trans s1); have HB2 : Hid (w1.heap.size < W1.heap.size) := Lib.hid (Nat.lt_of_lt_of_le HB0.out s1.size)))
  clear s1 HS0 HB0 HW0
  go_upto_region 7 with (fail)
  go_loopw [7, 18] (fun _ i wr => ∃ k : Nat, k ≤ N ∧ i = .int .i64 k ∧ Hid (BdS w1 w1.heap.size w1.heap.size (bytesK l k) wr) ∧ Hid (w1.heap.size < wr.heap.size) ∧ Hid ((bytesK l k).length ≤ 65000)) (fun _ i _ => N - (intOf i).toNat)
  case atStart => exact ⟨0, Nat.zero_le _, rfl, by rw [HZ0.out]; exact HS1, HB2, Lib.hid (by rw [HZ0.out, putL_length]; decide)⟩
  case round =>
    clear HS1 HB2 HZ0
    obtain ⟨k, hk, rfl, hS, hB, hL⟩ := hrel
    have HBW : Hid (Below w.heap.size w wr) := Lib.hid (HB1.out.trans (hS.out.bel.mono HB1.out.size))
    by_cases hlt : k < N
    · obtain ⟨x, hx⟩ := HX.out k hlt
      obtain ⟨ax, rfl, hax, hcx⟩ := HN.out k x hx
      have g1 : (k : Int) < (N : Int) := by omega
      have HCX : Hid (∀ j u, (ndV x)[j]? = some u → wr.cell? ((ax.add (k * 4)).add j) = some u) := Lib.hid fun j u hu => by
        rw [cell_far HBW.out (by rw [add_blk, add_blk]; exact hax)]
        exact hcx j u hu
      have hone := Lib.hid (ndA_one x)
      have hmem := List.mem_of_getElem? hx
      have HNM := Lib.hid (mayN_nums (HMA.out.2 x hmem))
      have HXZ := Lib.hid (HP.out x hmem)
      have HST := Lib.hid (bytesK_step hx)
      have HMO : Hid ((bytesK l (k + 1)).length ≤ (bytesK l N).length) := Lib.hid (by
        have := bytesK_mono l (k + 1) (N - (k + 1))
        rwa [show k + 1 + (N - (k + 1)) = N by omega] at this)
      obtain ⟨W2, hW2⟩ : ∃ W2, W2 = wr.alloc (.cells (ndA x) 41) := ⟨_, rfl⟩
      have HW2 := Lib.hid hW2
      have HS2 : Hid (BdS w1 w1.heap.size w1.heap.size (bytesK l k) W2) := Lib.hid (by rw [hW2]; exact hS.out.below (by have := hB.out; omega) ((Below.refl _ _).alloc (Nat.le_refl _) _))
      have HZ2 : Hid (rowC W2 wr.heap.size (ndA x) 41) := Lib.hid (by rw [hW2]; exact rowC_new wr _ _)
      have HB2 : Hid (w1.heap.size < W2.heap.size) := Lib.hid (by rw [hW2, size_alloc]; have := hB.out; omega)
      clear hx hcx hW2 hmem hax
      go_upto_region 10 with (first
        | ((with_reducible show wpList _ _ _ (⟨some 21, .load _ _, _, _, _, _⟩ :: _) _ _); refine wpList_load_at rfl 41 _ rfl (ax.add (k * 4)) rfl (ndV x) _ HCX.out Tryz.underlying41 rfl HI.out ?_)
        | ((with_reducible show wpList _ _ _ (⟨none, .store _ (.tmp 7) _, _, _, _, _⟩ :: _) _ _); refine wpList_store_last rfl 41 _ _ rfl wr.heap.size (ndA x) rfl rfl 41 _ rfl HI.out rfl hone.out ?_; rw [← HW2.out])
        | ((with_reducible show wpList _ _ _ (⟨some 22, .load _ (.tmp 7), _, _, _, _⟩ :: _) _ _); refine wpList_load_row rfl 41 _ rfl wr.heap.size rfl 41 #[.string (str x.path), .int .i64 x.kind, .int .i64 x.mode, .string (str x.data)] (0, 0) _ HZ2.out Tryz.underlying41 rfl HI.out ?_)
        | (go_at_call 18; ((with_reducible refine (putNode_any w1.heap.size w1.heap.size (bytesK l k) x HNM.out.1 HNM.out.2 (by have := HXZ.out; omega) (by have := HXZ.out; omega) (by have := hL.out; omega) _ (by have := HB2.out; omega) HS2.out.pr).mono ?_); rintro e W3 ⟨rfl, s3⟩; have HS3 : Hid (BdS w1 w1.heap.size w1.heap.size (bytesK l (k + 1)) W3) := Lib.hid (by rw [HST.out]; exact HS2.out.trans s3); have HB3 : Hid (w1.heap.size < W3.heap.size) := Lib.hid (Nat.lt_of_lt_of_le HB2.out s3.size)))
        | go_in)
      clear s3 HCX HZ2 HS2 HB2 HW2
      obtain ⟨L, hLL⟩ : ∃ L, L = (bytesK l (k + 1)).length := ⟨_, rfl⟩
      have CL := len_bd HS3.out.pr
      rw [← hLL] at CL HMO
      have HLL := Lib.hid hLL
      clear hLL
      by_cases hbig : 65000 < L
      · have g2 : (65000 : Int) < (L : Int) := by omega
        have HR := Lib.hid (HPT2.out.trans (if_pos (by have := HMO.out; omega)))
        have HBE : Hid (Below w.heap.size w W3) := Lib.hid (HB1.out.trans (HS3.out.bel.mono HB1.out.size))
        clear HMO hbig
        go_wp2_with (go_at_call 19; ((with_reducible refine CL.mono ?_); rintro e W4 ⟨rfl, rfl⟩))
        go_ret2
        exact ⟨by rw [HR.out]; rfl, HBE.out⟩
      · have g2 : ¬ (65000 : Int) < (L : Int) := by omega
        have HLE : Hid ((bytesK l (k + 1)).length ≤ 65000) := Lib.hid (by rw [← HLL.out]; omega)
        clear HMO hbig
        go_wp2_with (go_at_call 19; ((with_reducible refine CL.mono ?_); rintro e W4 ⟨rfl, rfl⟩))
        go_roundw
        case rel => exact ⟨k + 1, by omega, by go_num, HS3, HB3, HLE⟩
        case measure => simp [intOf] <;> omega
    · obtain rfl : k = N := by omega
      have HR := Lib.hid (HPT2.out.trans (if_neg (by have := hL.out; omega)))
      go_wp2_with (go_at_call 20; ((with_reducible refine (string_any hS.out.pr (by have := hB.out; omega)).mono ?_); rintro e W3 ⟨rfl, hb3⟩))
      go_ret2
      exact ⟨by rw [HR.out]; rfl, HB1.out.trans ((hS.out.bel.trans hb3).mono HB1.out.size)⟩
end Go.Proofs.YtbjgmkjinnbokaaGreatDoor

