/- Merged: UvK, TtY. -/
import Derived.Test.YtoallfcpnbhhiaaGreatDoorM27
import Derived.Test.YtoallfcpnbhhiaaGreatDoorM15
import Derived.Test.YtoallfcpnbhhiaaGreatDoorM23
/- Layer 16: the program's Put. -/
namespace Go.Proofs.YtoallfcpnbhhiaaGreatDoor
open Go.RowKit
attribute [local go_sem] wide_fn round_fn

/-- The nodes' bytes. -/
def nodesW (l : List Nd) : List UInt8 := l.flatMap nodeW
def bytesK (l : List Nd) (k : Nat) : List UInt8 := putL l.length 2 ++ nodesW (l.take k)
theorem bytesK_zero (l : List Nd) : bytesK l 0 = putL l.length 2 := by simp [bytesK, nodesW]
theorem bytesK_step {l : List Nd} {k : Nat} {x : Nd} (h : l[k]? = some x) : bytesK l (k + 1) = bytesK l k ++ nodeW x := by
  unfold bytesK nodesW
  rw [List.take_add_one, h, Option.toList_some, List.flatMap_append, List.append_assoc]
  simp
theorem bytesK_mono (l : List Nd) (k m : Nat) : (bytesK l k).length ≤ (bytesK l (k + m)).length := by
  induction m with
  | zero => exact Nat.le_refl _
  | succ m ih =>
    refine Nat.le_trans ih ?_
    rw [← Nat.add_assoc]
    cases hx : l[k + m]? with
    | some x => rw [bytesK_step hx, List.length_append]; omega
    | none =>
      unfold bytesK
      rw [List.take_add_one, hx]
      simp
def put16 (l : List Nd) : List UInt8 × Int := if checkT l = 0 then (if 65000 < (bytesK l l.length).length then ([], 3) else (bytesK l l.length, 0)) else ([], checkT l)
theorem mayN_nums {x : Nd} (h : mayN x = true) : (0 ≤ x.kind ∧ x.kind ≤ 1000000) ∧ 0 ≤ x.mode ∧ x.mode ≤ 1000000 := by
  unfold mayN kindN at h
  simp only [Bool.and_eq_true, decide_eq_true_eq] at h
  obtain ⟨_, h1, h2, _, h3⟩ := h
  refine ⟨?_, h1, by omega⟩
  split at h3
  · omega
  · split at h3
    · omega
    · split at h3
      · omega
      · cases h3
set_option maxRecDepth 100000 in
set_option maxHeartbeats 8000000 in
theorem put16_any (l : List Nd) (ad : Option Addr) (c : Nat) (hl : l.length ≤ maxLen) (hlc : l.length ≤ c) (hp : ∀ x ∈ l, x.path.length ≤ 900000 ∧ x.data.length ≤ 900000) (w : World) (h : NodesAt w ad l) :
    Calls Tryz.prog 8 #[.slice ad l.length c] w fun e w' => e = .returned (.tuple #[.string (str (put16 l).1), .int .i64 (put16 l).2]) ∧ Below w.heap.size w w' := by
  have HI := Lib.hid info_nd4
  have HPT : Hid (put16 l = if checkT l = 0 then (if 65000 < (bytesK l l.length).length then ([], 3) else (bytesK l l.length, 0)) else ([], checkT l)) := Lib.hid rfl
  have CH := check_any l ad c hl hlc (fun x hx => (hp x hx).1) w h
  have HMAY : Hid (checkT l = 0 → l.length ≤ 400 ∧ ∀ x ∈ l, mayN x = true) := Lib.hid fun e => by
    unfold checkT at e
    split at e
    · cases e
    · split at e
      · rename_i h1 h2
        refine ⟨by omega, fun x hx => ?_⟩
        obtain ⟨k, hk⟩ := List.mem_iff_getElem?.1 hx
        exact ((treeB_iff l).1 h2 k x hk).1
      · cases e
  have HN := Lib.hid h
  have HP := Lib.hid hp
  have HX : Hid (∀ i, i < l.length → ∃ x, l[i]? = some x) := Lib.hid fun i hi => ⟨_, List.getElem?_eq_getElem hi⟩
  have HZ0 := Lib.hid (bytesK_zero l)
  obtain ⟨N, hN⟩ : ∃ N, N = l.length := ⟨_, rfl⟩
  have HNL := Lib.hid hN
  rw [← hN] at hl HX CH HMAY HPT HZ0 ⊢
  unfold maxLen at hl
  generalize hCT : checkT l = CT at *
  clear h hp hN hCT hlc
  go_enter Tryz.func8, Tryz.ntmps8
  go_upto_region 2 with (go_at_call 12; ((with_reducible refine CH.mono ?_); rintro e w1 ⟨rfl, hb1⟩))
  have HB1 := Lib.hid hb1
  clear hb1 CH
  by_cases hc0 : CT = 0
  rotate_left
  · have g : (CT == (0 : Int)) = false := by rw [beq_eq_false_iff_ne]; exact hc0
    have HR := Lib.hid (HPT.out.trans (if_neg hc0))
    clear hc0 HPT HMAY HX HZ0
    go_wp2
    go_ret2
    exact ⟨by rw [HR.out]; rfl, HB1.out⟩
  subst hc0
  have HMA := Lib.hid (HMAY.out rfl)
  have HPT2 := Lib.hid (HPT.out.trans (if_pos rfl))
  have hN400 := HMA.out.1
  clear HPT HMAY
  obtain ⟨W0, hW0⟩ : ∃ W0, W0 = w1.alloc (.cells #[.pointer none, .slice none 0 0] 59) := ⟨_, rfl⟩
  have HW0 := Lib.hid hW0
  have HS0 : Hid (BdS w1 w1.heap.size w1.heap.size [] W0) := Lib.hid (by rw [hW0]; exact ⟨bd_fresh w1, (Below.refl _ _).alloc (Nat.le_refl _) _, fun k o hk hkb ho => by
    rw [Below.heap_alloc w1 _ k (Array.getElem?_eq_some_iff.1 hk).1]; exact hk⟩)
  have HB0 : Hid (w1.heap.size < W0.heap.size) := Lib.hid (by rw [hW0, size_alloc]; omega)
  clear hW0
  go_upto_region 5 with (fail)
  rw [← HW0.out]
  go_upto_region 6 with (go_at_call 23; ((with_reducible refine (pn2 w1.heap.size w1.heap.size [] N (by omega) (by decide) _ (by have := HB0.out; omega) HS0.out.pr).mono ?_); rintro e W1 ⟨rfl, s1⟩; have HS1 := Lib.hid (HS0.out.trans s1); have HB2 : Hid (w1.heap.size < W1.heap.size) := Lib.hid (Nat.lt_of_lt_of_le HB0.out s1.size)))
  clear s1 HS0 HB0 HW0
  go_upto_region 7 with (fail)
  go_loopw [7, 18] (fun _ i wr => ∃ k : Nat, k ≤ N ∧ i = .int .i64 k ∧ Hid (BdS w1 w1.heap.size w1.heap.size (bytesK l k) wr) ∧ Hid (w1.heap.size < wr.heap.size) ∧ Hid ((bytesK l k).length ≤ 65000)) (fun _ i _ => N - (intOf i).toNat)
  case atStart => exact ⟨0, Nat.zero_le _, rfl, by rw [HZ0.out]; exact HS1, HB2, Lib.hid (by rw [HZ0.out, putL_length]; decide)⟩
  case round =>
    clear HS1 HB2 HZ0
    obtain ⟨k, hk, rfl, hS, hB, hL⟩ := hrel
    have HBW : Hid (Below w.heap.size w wr) := Lib.hid (HB1.out.trans (hS.out.bel.mono HB1.out.size))
    by_cases hlt : k < N
    · obtain ⟨x, hx⟩ := HX.out k hlt
      obtain ⟨ax, rfl, hax, hcx⟩ := HN.out k x hx
      have g1 : (k : Int) < (N : Int) := by omega
      have HCX : Hid (∀ j u, (ndV x)[j]? = some u → wr.cell? ((ax.add (k * 4)).add j) = some u) := Lib.hid fun j u hu => by
        rw [cell_far HBW.out (by rw [add_blk, add_blk]; exact hax)]
        exact hcx j u hu
      have hone := Lib.hid (ndA_one x)
      have hmem := List.mem_of_getElem? hx
      have HNM := Lib.hid (mayN_nums (HMA.out.2 x hmem))
      have HXZ := Lib.hid (HP.out x hmem)
      have HST := Lib.hid (bytesK_step hx)
      have HMO : Hid ((bytesK l (k + 1)).length ≤ (bytesK l N).length) := Lib.hid (by
        have := bytesK_mono l (k + 1) (N - (k + 1))
        rwa [show k + 1 + (N - (k + 1)) = N by omega] at this)
      obtain ⟨W2, hW2⟩ : ∃ W2, W2 = wr.alloc (.cells (ndA x) 32) := ⟨_, rfl⟩
      have HW2 := Lib.hid hW2
      have HS2 : Hid (BdS w1 w1.heap.size w1.heap.size (bytesK l k) W2) := Lib.hid (by rw [hW2]; exact hS.out.below (by have := hB.out; omega) ((Below.refl _ _).alloc (Nat.le_refl _) _))
      have HZ2 : Hid (rowC W2 wr.heap.size (ndA x) 32) := Lib.hid (by rw [hW2]; exact rowC_new wr _ _)
      have HB2 : Hid (w1.heap.size < W2.heap.size) := Lib.hid (by rw [hW2, size_alloc]; have := hB.out; omega)
      clear hx hcx hW2 hmem hax
      go_upto_region 10 with (first
        | ((with_reducible show wpList _ _ _ (⟨some 21, .load _ _, _, _, _, _⟩ :: _) _ _); refine wpList_load_at rfl 32 _ rfl (ax.add (k * 4)) rfl (ndV x) _ HCX.out Tryz.underlying32 rfl HI.out ?_)
        | ((with_reducible show wpList _ _ _ (⟨none, .store _ (.tmp 7) _, _, _, _, _⟩ :: _) _ _); refine wpList_store_last rfl 32 _ _ rfl wr.heap.size (ndA x) rfl rfl 32 _ rfl HI.out rfl hone.out ?_; rw [← HW2.out])
        | ((with_reducible show wpList _ _ _ (⟨some 22, .load _ (.tmp 7), _, _, _, _⟩ :: _) _ _); refine wpList_load_row rfl 32 _ rfl wr.heap.size rfl 32 #[.string (str x.path), .int .i64 x.kind, .int .i64 x.mode, .string (str x.data)] (0, 0) _ HZ2.out Tryz.underlying32 rfl HI.out ?_)
        | (go_at_call 24; ((with_reducible refine (putNode_any w1.heap.size w1.heap.size (bytesK l k) x HNM.out.1 HNM.out.2 (by have := HXZ.out; omega) (by have := HXZ.out; omega) (by have := hL.out; omega) _ (by have := HB2.out; omega) HS2.out.pr).mono ?_); rintro e W3 ⟨rfl, s3⟩; have HS3 : Hid (BdS w1 w1.heap.size w1.heap.size (bytesK l (k + 1)) W3) := Lib.hid (by rw [HST.out]; exact HS2.out.trans s3); have HB3 : Hid (w1.heap.size < W3.heap.size) := Lib.hid (Nat.lt_of_lt_of_le HB2.out s3.size)))
        | go_in)
      clear s3 HCX HZ2 HS2 HB2 HW2
      obtain ⟨L, hLL⟩ : ∃ L, L = (bytesK l (k + 1)).length := ⟨_, rfl⟩
      have CL := len_bd HS3.out.pr
      rw [← hLL] at CL HMO
      have HLL := Lib.hid hLL
      clear hLL
      by_cases hbig : 65000 < L
      · have g2 : (65000 : Int) < (L : Int) := by omega
        have HR := Lib.hid (HPT2.out.trans (if_pos (by have := HMO.out; omega)))
        have HBE : Hid (Below w.heap.size w W3) := Lib.hid (HB1.out.trans (HS3.out.bel.mono HB1.out.size))
        clear HMO hbig
        go_wp2_with (go_at_call 25; ((with_reducible refine CL.mono ?_); rintro e W4 ⟨rfl, rfl⟩))
        go_ret2
        exact ⟨by rw [HR.out]; rfl, HBE.out⟩
      · have g2 : ¬ (65000 : Int) < (L : Int) := by omega
        have HLE : Hid ((bytesK l (k + 1)).length ≤ 65000) := Lib.hid (by rw [← HLL.out]; omega)
        clear HMO hbig
        go_wp2_with (go_at_call 25; ((with_reducible refine CL.mono ?_); rintro e W4 ⟨rfl, rfl⟩))
        go_roundw
        case rel => exact ⟨k + 1, by omega, by go_num, HS3, HB3, HLE⟩
        case measure => simp [intOf] <;> omega
    · obtain rfl : k = N := by omega
      have HR := Lib.hid (HPT2.out.trans (if_neg (by have := hL.out; omega)))
      go_wp2_with (go_at_call 26; ((with_reducible refine (string_any hS.out.pr (by have := hB.out; omega)).mono ?_); rintro e W3 ⟨rfl, hb3⟩))
      go_ret2
      exact ⟨by rw [HR.out]; rfl, HB1.out.trans ((hS.out.bel.trans hb3).mono HB1.out.size)⟩
end Go.Proofs.YtoallfcpnbhhiaaGreatDoor

/- Layer 16: the law's own white, paths; the program's Find. -/
namespace Go.Proofs.YtoallfcpnbhhiaaGreatDoor
open Go.RowKit
/-- A tree's paths. -/
def pathsL (l : List Nd) : List UInt8 := l.flatMap fun n => n.path ++ [32]
set_option maxRecDepth 100000 in
set_option maxHeartbeats 8000000 in
theorem paths_any (l : List Nd) (ad : Option Addr) (c : Nat) (hl : l.length ≤ 1000) (hp : ∀ n ∈ l, n.path.length ≤ 1000) (w : World) (h : NodesAt w ad l) :
    Calls Tryz.prog 22 #[.slice ad l.length c] w fun e w' => e = .returned (.string (str (pathsL l))) ∧ w = w' := by
  have HN := Lib.hid h
  have HS : Hid (∀ k x, l[k]? = some x → str (pathsL (l.take (k + 1))) = (str (pathsL (l.take k)) ++ str x.path) ++ ⟨#[32]⟩) := Lib.hid fun k x hx => by
    obtain ⟨hk, rfl⟩ := List.getElem?_eq_some_iff.1 hx
    rw [List.take_succ_eq_append_getElem hk, show (⟨#[32]⟩ : ByteArray) = str [32] from rfl, str_append, str_append]
    unfold pathsL
    rw [List.flatMap_append, List.append_assoc]
    simp
  have HZ : Hid (∀ k, k ≤ l.length → (str (pathsL (l.take k))).size ≤ 1001 * k) := Lib.hid fun k hk => by
    rw [str_size]
    unfold pathsL
    have : ∀ m : List Nd, (∀ n ∈ m, n.path.length ≤ 1000) → (m.flatMap fun n => n.path ++ [32]).length ≤ 1001 * m.length := by
      intro m
      induction m with
      | nil => intro _; exact Nat.zero_le _
      | cons a r ih =>
        intro hm
        have h1 := ih (fun n hn => hm n (by simp [hn]))
        have h2 := hm a (by simp)
        rw [List.flatMap_cons, List.length_append, List.length_append]
        simp only [List.length_cons, List.length_nil]
        omega
    have h1 := this (l.take k) (fun n hn => hp n (List.mem_of_mem_take hn))
    rw [List.length_take] at h1
    omega
  have HX : Hid (∀ i, i < l.length → ∃ x, l[i]? = some x ∧ (str x.path).size ≤ 1000) := Lib.hid fun i hi => ⟨_, List.getElem?_eq_getElem hi, by rw [str_size]; exact hp _ (List.getElem_mem hi)⟩
  have HALL : Hid (l.take l.length = l) := Lib.hid List.take_length
  obtain ⟨N, hN⟩ : ∃ N, N = l.length := ⟨_, rfl⟩
  rw [← hN] at hl HX HALL HZ ⊢
  clear h hp hN
  have z32 : (⟨#[32]⟩ : ByteArray).size = 1 := rfl
  go_enter Tryz.func22, Tryz.ntmps22
  go_upto_region 3 with (fail)
  go_loopw [3, 4] (fun s i wr => ∃ k : Nat, k ≤ N ∧ i = .int .i64 k ∧ s = .string (str (pathsL (l.take k))) ∧ wr = w) (fun _ i _ => N - (intOf i).toNat)
  case atStart => exact ⟨0, Nat.zero_le _, rfl, rfl, rfl⟩
  case round =>
    obtain ⟨k, hk, rfl, rfl, rfl⟩ := hrel
    have zk := HZ.out k hk
    by_cases hlt : k < N
    · obtain ⟨x, hx, hxz⟩ := HX.out k hlt
      obtain ⟨ax, rfl, hax, hcx⟩ := HN.out k x hx
      have d0 : wr.cell? (ax.add (k * 4)) = some (.string (str x.path)) := by have := hcx 0 _ rfl; rwa [addr_zero] at this
      have g1 : (k : Int) < (N : Int) := by omega
      have g0 : (0 : Int) ≤ (k : Int) := by omega
      have HST := Lib.hid (HS.out k x hx)
      clear hcx hx
      generalize str (pathsL (l.take k)) = S at *
      generalize str x.path = P at *
      go_wp2
      go_roundw
      case rel => exact ⟨k + 1, by omega, by go_num, by rw [HST.out], by trivial⟩
      case measure => simp [intOf]; omega
    · obtain rfl : k = N := by omega
      rw [HALL.out]
      go_wp2
      go_ret
      exact ⟨rfl, rfl⟩
/-- The first node of a path. -/
def findN (l : List Nd) (p : List UInt8) : Option Nd := l.find? fun n => decide (n.path = p)
theorem find_skip {l : List Nd} {p : List UInt8} {k : Nat} {x : Nd} (h : ∀ (j : Nat) (y : Nd), j < k → l[j]? = some y → y.path ≠ p) (hx : l[k]? = some x) (hp : x.path = p) : findN l p = some x := by
  unfold findN
  obtain ⟨hk, rfl⟩ := List.getElem?_eq_some_iff.1 hx
  rw [List.find?_eq_some_iff_getElem]
  refine ⟨decide_eq_true hp, k, hk, rfl, fun j hj => ?_⟩
  rw [decide_eq_false (h j _ hj (List.getElem?_eq_getElem (by omega)))]
  rfl
theorem find_none {l : List Nd} {p : List UInt8} (h : ∀ (j : Nat) (y : Nd), l[j]? = some y → y.path ≠ p) : findN l p = none := by
  unfold findN
  rw [List.find?_eq_none]
  intro x hx
  obtain ⟨j, hj, rfl⟩ := List.getElem_of_mem hx
  rw [decide_eq_false (h j _ (List.getElem?_eq_getElem hj))]
  decide
set_option maxRecDepth 100000 in
set_option maxHeartbeats 8000000 in
theorem find_any (l : List Nd) (p : List UInt8) (ad : Option Addr) (c : Nat) (hl : l.length ≤ maxLen) (hsz : ∀ n ∈ l, n.path.length ≤ 900000 ∧ n.data.length ≤ 900000) (w : World) (h : NodesAt w ad l) :
    Calls Tryz.prog 10 #[.slice ad l.length c, .string (str p)] w fun e w' => e = .returned (.tuple #[.agg (ndA ((findN l p).getD nd0)), .bool (findN l p).isSome]) ∧ Below w.heap.size w w' := by
  have HI := Lib.hid info_nd4
  have HN := Lib.hid h
  have HSZ := Lib.hid hsz
  have hone0 := Lib.hid (ndA_one nd0)
  have HX : Hid (∀ i, i < l.length → ∃ x, l[i]? = some x) := Lib.hid fun i hi => ⟨_, List.getElem?_eq_getElem hi⟩
  have HLT : Hid (∀ (k : Nat) (x : Nd), l[k]? = some x → k < l.length) := Lib.hid fun k x hx => (List.getElem?_eq_some_iff.1 hx).1
  unfold maxLen at hl
  obtain ⟨N, hN⟩ : ∃ N, N = l.length := ⟨_, rfl⟩
  rw [← hN] at hl HX HLT ⊢
  obtain ⟨W0, hW0⟩ : ∃ W0, W0 = w.alloc (.cells #[.string ⟨#[]⟩, .int .i64 0, .int .i64 0, .string ⟨#[]⟩] 32) := ⟨_, rfl⟩
  have HW0 := Lib.hid hW0
  have HB0 : Hid (Below w.heap.size w W0) := Lib.hid (by rw [hW0]; exact (Below.refl _ _).alloc (Nat.le_refl _) _)
  have HR0 : Hid (rowC W0 w.heap.size (ndA nd0) 32) := Lib.hid (by rw [hW0]; exact rowC_new w _ _)
  clear h hsz hN hW0
  go_enter Tryz.func10, Tryz.ntmps10
  go_upto_region 1 with (fail)
  rw [← HW0.out]
  go_upto_region 2 with (fail)
  go_loopw [7, 10] (fun _ i wr => ∃ k : Nat, k ≤ N ∧ i = .int .i64 k ∧ Hid (∀ (j : Nat) (y : Nd), j < k → l[j]? = some y → y.path ≠ p) ∧ Hid (rowC wr w.heap.size (ndA nd0) 32) ∧ Hid (Below w.heap.size w wr)) (fun _ i _ => N - (intOf i).toNat)
  case atStart => exact ⟨0, Nat.zero_le _, rfl, Lib.hid (fun j y hj => by omega), HR0, HB0⟩
  case round =>
    obtain ⟨k, hk, rfl, hno, hR, hB⟩ := hrel
    by_cases hlt : k < N
    · obtain ⟨x, hx⟩ := HX.out k hlt
      obtain ⟨ax, rfl, hax, hcx⟩ := HN.out k x hx
      have HCX : Hid (∀ j u, (ndV x)[j]? = some u → wr.cell? ((ax.add (k * 4)).add j) = some u) := Lib.hid fun j u hu => by
        rw [cell_far hB.out (by rw [add_blk, add_blk]; exact hax)]
        exact hcx j u hu
      have hone := Lib.hid (ndA_one x)
      have g1 : (k : Int) < (N : Int) := by omega
      have q := eq_strs x.path p
      obtain ⟨s1, s2⟩ := HSZ.out x (List.mem_of_getElem? hx)
      have CC := fun W => nclone_any x (by omega) (by omega) W
      have HHIT := Lib.hid (fun (e : x.path = p) => find_skip hno.out hx e)
      have HMISS : Hid (x.path ≠ p → ∀ (j : Nat) (y : Nd), j < k + 1 → l[j]? = some y → y.path ≠ p) := Lib.hid fun e j y hj hy => by
        by_cases hjk : j = k
        · subst hjk
          rw [hx] at hy
          cases hy
          exact e
        · exact hno.out j y (by omega) hy
      obtain ⟨W1, hW1⟩ : ∃ W1, W1 = wr.alloc (.cells (ndA x) 32) := ⟨_, rfl⟩
      have HW1 := Lib.hid hW1
      have HB1 : Hid (Below w.heap.size w W1) := Lib.hid (by rw [hW1]; exact hB.out.alloc hB.out.size _)
      have HZ1 : Hid (rowC W1 wr.heap.size (ndA x) 32) := Lib.hid (by rw [hW1]; exact rowC_new wr _ _)
      have HR1 : Hid (rowC W1 w.heap.size (ndA nd0) 32) := Lib.hid (by rw [hW1]; exact rowC_alloc hR.out _)
      have d0 : W1.cell? ⟨wr.heap.size, 0, none⟩ = some (.string (str x.path)) := rowC_cell HZ1.out 0
      clear hW1 hx hcx s1 s2
      by_cases he : x.path = p
      · have HR := Lib.hid (HHIT.out he)
        rw [decide_eq_true he] at q
        clear HHIT HMISS he
        go_wp2_with (first
          | ((with_reducible show wpList _ _ _ (⟨some 13, .load _ _, _, _, _, _⟩ :: _) _ _); refine wpList_load_at rfl 32 _ rfl (ax.add (k * 4)) rfl (ndV x) _ HCX.out Tryz.underlying32 rfl HI.out ?_)
          | ((with_reducible show wpList _ _ _ (⟨none, .store _ (.tmp 7) _, _, _, _, _⟩ :: _) _ _); refine wpList_store_last rfl 32 _ _ rfl wr.heap.size (ndA x) rfl rfl 32 _ rfl HI.out rfl hone.out ?_; rw [← HW1.out])
          | ((with_reducible show wpList _ _ _ (⟨some 18, .load _ _, _, _, _, _⟩ :: _) _ _); refine wpList_load_row rfl 32 _ rfl wr.heap.size rfl 32 (ndA x) (0, 0) _ HZ1.out Tryz.underlying32 rfl HI.out ?_)
          | (go_at_call 28; (refine (CC _).mono ?_; rintro e w3 ⟨rfl, hB3⟩; have HB3 := Lib.hid (HB1.out.trans (hB3.mono HB1.out.size)); have HR3 := Lib.hid (rowC_below HR1.out hB3 (rowC_lt HR1.out)); clear hB3))
          | ((with_reducible show wpList _ _ _ (⟨none, .store _ (.tmp 4) _, _, _, _, _⟩ :: _) _ _); refine wpList_store_row rfl 32 _ _ rfl w.heap.size (ndA x) rfl rfl 32 (ndA nd0) HR3.out HI.out rfl hone.out ?_))
        exact bodyPost_ret (results_row_tmp rfl _ _ w.heap.size 32 (ndA x) _ rfl (rowC_setRow HR3.out _) Tryz.underlying32 rfl HI.out (.bool true) rfl) rfl ⟨by rw [HR.out]; rfl, below_setRow HB3.out (Nat.le_refl _) _⟩
      · have HNX := Lib.hid (HMISS.out he)
        rw [decide_eq_false he] at q
        clear HHIT HMISS he
        go_wp2_with (first
          | ((with_reducible show wpList _ _ _ (⟨some 13, .load _ _, _, _, _, _⟩ :: _) _ _); refine wpList_load_at rfl 32 _ rfl (ax.add (k * 4)) rfl (ndV x) _ HCX.out Tryz.underlying32 rfl HI.out ?_)
          | ((with_reducible show wpList _ _ _ (⟨none, .store _ (.tmp 7) _, _, _, _, _⟩ :: _) _ _); refine wpList_store_last rfl 32 _ _ rfl wr.heap.size (ndA x) rfl rfl 32 _ rfl HI.out rfl hone.out ?_; rw [← HW1.out]))
        go_roundw
        case rel => exact ⟨k + 1, by omega, by go_num, HNX, HR1, HB1⟩
        case measure => simp [intOf]; omega
    · obtain rfl : k = N := by omega
      have HR := Lib.hid (find_none (fun j y hy => hno.out j y (HLT.out j y hy) hy))
      go_wp2_with (first
        | ((with_reducible show wpList _ _ _ (⟨none, .store _ (.tmp 4) _, _, _, _, _⟩ :: _) _ _); refine wpList_store_row rfl 32 _ _ rfl w.heap.size (ndA nd0) rfl rfl 32 (ndA nd0) hR.out HI.out rfl hone0.out ?_))
      exact bodyPost_ret (results_row_tmp rfl _ _ w.heap.size 32 (ndA nd0) _ rfl (rowC_setRow hR.out _) Tryz.underlying32 rfl HI.out (.bool false) rfl) rfl ⟨by rw [HR.out]; rfl, below_setRow hB.out (Nat.le_refl _) _⟩
end Go.Proofs.YtoallfcpnbhhiaaGreatDoor
#print axioms Go.Proofs.YtoallfcpnbhhiaaGreatDoor.find_any

