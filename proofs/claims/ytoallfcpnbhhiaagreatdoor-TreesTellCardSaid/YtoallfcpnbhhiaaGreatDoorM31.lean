/- Merged: UvA, UvL. -/
import Derived.Test.YtoallfcpnbhhiaaGreatDoorM30
import Derived.Test.YtoallfcpnbhhiaaGreatDoorM28
import Derived.Test.YtoallfcpnbhhiaaGreatDoorM24
/- Layer 16, plainly: the document's Check is the program's. -/
namespace Go.Proofs.YtoallfcpnbhhiaaGreatDoor

theorem rise_of {l : List Nd} (h : ∀ k x, l[k]? = some x → riseAt l k x = true) : l.Pairwise fun a b => bytesBefore a.path b.path = true := by
  have step : ∀ k (h1 : k + 1 < l.length), bytesBefore (l[k]'(by omega)).path l[k + 1].path = true := fun k h1 => by
    have := h (k + 1) _ (List.getElem?_eq_getElem h1)
    unfold riseAt at this
    rw [Nat.add_sub_cancel, List.getElem?_eq_getElem (show k < l.length by omega)] at this
    simpa using this
  rw [List.pairwise_iff_getElem]
  intro i j hi hj hij
  obtain ⟨m, rfl⟩ := Nat.le.dest (Nat.succ_le_of_lt hij)
  clear hij
  induction m with
  | zero => exact step i hj
  | succ m ih => exact bb_trans (ih (by omega)) (step (i + 1 + m) (by omega))
theorem find_mem {l : List Nd} {p : List UInt8} {m : Nd} (h : findR l p = some m) : m ∈ l ∧ m.path = p := by
  unfold findR at h
  exact ⟨List.mem_of_find?_eq_some h, by simpa using List.find?_some h⟩
theorem find_rise {l : List Nd} (hr : l.Pairwise fun a b => bytesBefore a.path b.path = true) {m : Nd} (hm : m ∈ l) : findR l m.path = some m := by
  unfold findR
  cases h : l.find? fun n => decide (n.path = m.path) with
  | none =>
    have := List.find?_eq_none.1 h m hm
    simp at this
  | some m' =>
    have h1 := List.mem_of_find?_eq_some h
    have h2 : m'.path = m.path := by simpa using List.find?_some h
    obtain ⟨i, hi, rfl⟩ := List.getElem_of_mem hm
    obtain ⟨j, hj, rfl⟩ := List.getElem_of_mem h1
    rcases Nat.lt_trichotomy i j with h3 | h3 | h3
    · have := List.pairwise_iff_getElem.1 hr i j hi hj h3
      rw [h2, bb_irr] at this
      cases this
    · subst h3; rfl
    · have := List.pairwise_iff_getElem.1 hr j i hj hi h3
      rw [h2, bb_irr] at this
      cases this
theorem good_tree {l : List Nd} (h4 : l.length ≤ 400) : (∀ k x, l[k]? = some x → goodAt l k x = true) ↔ treeB l = true := by
  constructor
  · intro h
    have h1 : ∀ k x, l[k]? = some x → mayN x = true ∧ riseAt l k x = true ∧ upAt l x = true := fun k x hx => by
      have := h k x hx
      unfold goodAt at this
      rw [Bool.and_eq_true, Bool.and_eq_true] at this
      exact this
    have hr := rise_of fun k x hx => (h1 k x hx).2.1
    have hmem : ∀ x ∈ l, mayN x = true ∧ upAt l x = true := fun x hx => by
      obtain ⟨k, hk⟩ := List.mem_iff_getElem?.1 hx
      exact ⟨(h1 k x hk).1, (h1 k x hk).2.2⟩
    obtain ⟨g, hg⟩ : ∃ g : List Pl, g = l.map fun n => ⟨n, 0⟩ := ⟨_, rfl⟩
    have hgl : g.map Pl.nd = l := by rw [hg, List.map_map]; exact List.map_id' _
    have ht := tree_of (g := g) (by
        unfold Rise
        rw [hg, List.pairwise_map]
        exact hr) (fun p hp => by
        rw [hg] at hp
        obtain ⟨n, hn, rfl⟩ := List.mem_map.1 hp
        exact (hmem n hn).1) (fun p hp => by
        rw [hg] at hp
        obtain ⟨n, hn, rfl⟩ := List.mem_map.1 hp
        have hu := (hmem n hn).2
        unfold upAt at hu
        rw [Bool.or_eq_true, decide_eq_true_eq] at hu
        rcases hu with hu | hu
        · exact .inl hu
        · cases hf : findR l (parentL n.path) with
          | none => rw [hf] at hu; exact absurd hu (by simp [kdOk])
          | some m =>
            rw [hf] at hu
            obtain ⟨m1, m2⟩ := find_mem hf
            exact .inr ⟨⟨m, 0⟩, by rw [hg]; exact List.mem_map.2 ⟨m, m1, rfl⟩, m2, by simpa [kdOk] using hu⟩) (by rw [hg, List.length_map]; exact h4)
    rw [hgl] at ht
    unfold checkT at ht
    rw [if_neg (by omega)] at ht
    cases hb : treeB l
    · rw [hb] at ht; cases ht
    · rfl
  · intro h k x hx
    have hr := tree_rise h
    obtain ⟨h1, h2⟩ := (treeB_iff l).1 h k x hx
    unfold followN at h2
    rw [Bool.and_eq_true, Bool.or_eq_true, decide_eq_true_eq] at h2
    unfold goodAt
    rw [h1, Bool.true_and, Bool.and_eq_true]
    have hk := (List.getElem?_eq_some_iff.1 hx).1
    constructor
    · unfold riseAt
      by_cases h0 : k = 0
      · rw [decide_eq_true h0]; rfl
      · rw [decide_eq_false h0, Bool.false_or]
        have e : (l.take k).getLast? = l[k - 1]? := by
          rw [List.getLast?_eq_getElem?, List.length_take, show min k l.length - 1 = k - 1 by omega, List.getElem?_take, if_pos (by omega)]
        rw [e] at h2
        cases hp : l[k - 1]? with
        | none => rw [List.getElem?_eq_none_iff] at hp; omega
        | some m =>
          rw [hp] at h2
          exact h2.1
    · unfold upAt
      rw [Bool.or_eq_true, decide_eq_true_eq]
      rcases h2.2 with h3 | h3
      · exact .inl h3
      · right
        rw [List.any_eq_true] at h3
        obtain ⟨m, hm, hd⟩ := h3
        rw [decide_eq_true_eq] at hd
        have hf := find_rise hr (List.mem_of_mem_take hm)
        rw [hd.1] at hf
        rw [hf]
        show decide (m.kind = 2) = true
        exact decide_eq_true hd.2
end Go.Proofs.YtoallfcpnbhhiaaGreatDoor

/- Layer 16: the document's Put. -/
namespace Go.Proofs.YtoallfcpnbhhiaaGreatDoor
open Go.RowKit
attribute [local go_sem] wide_fn round_fn

theorem docC_is {l : List Nd} {r : Int} (h : DocC l r) : r = checkT l := by
  unfold checkT
  rcases h with ⟨rfl, h4⟩ | ⟨h4, h⟩
  · rw [if_pos h4]
  · rw [if_neg (by omega)]
    rcases h with ⟨rfl, h⟩ | ⟨rfl, k, x, hx, hb⟩
    · rw [if_pos ((good_tree h4).1 h)]
    · rw [if_neg]
      intro ht
      have := (good_tree h4).2 ht k x hx
      rw [hb] at this
      cases this
theorem check16 (l : List Nd) (ad : Option Addr) (c : Nat) (hl : l.length ≤ 1000000) (hp : ∀ x ∈ l, x.path.length ≤ 900000) (w : World) (h : NodesAt w ad l) :
    Calls Tryz.prog 13 #[.slice ad l.length c] w fun e w' => e = .returned (.int .i64 (checkT l)) ∧ Below w.heap.size w w' :=
  (rcheckT_any l ad c hl hp w h).mono fun _ _ ⟨⟨r, he, hd⟩, hb⟩ => ⟨by rw [he, docC_is hd], hb⟩
theorem rpn_any (n : Nat) (k : Nat) (hn : n < 18446744073709551616) (h1 : 1 ≤ k) (h8 : k ≤ 8) (w : World) :
    Calls Tryz.prog 27 #[.int .u64 (n : Int), .int .i64 (k : Int)] w fun e w' => e = .returned (.string (str (putL n k))) ∧ Below w.heap.size w w' := by
  have := brput_any (n : Int) (k : Int) w (by omega) (by omega) (by omega)
  rwa [putV_is n k h1 h8] at this
theorem rpq {W : World} (n k : Nat) (hn : n < 18446744073709551616) (h1 : 1 ≤ k) (h8 : k ≤ 8) (y : AftW W) :
    CallsIn Fence.wide 3 Tryz.prog 27 #[.int .u64 (n : Int), .int .i64 (k : Int)] y.v fun e w'' => e = .returned (.string (str (putL n k))) ∧ ∃ z : AftW W, w'' = z.v :=
  (callsIn_wide.2 (rpn_any n k hn h1 h8 y.v)).mono fun _ w'' ⟨he, hb⟩ => ⟨he, ⟨w'', y.h.trans (hb.mono y.h.size)⟩, rfl⟩
set_option maxRecDepth 100000 in
set_option maxHeartbeats 8000000 in
theorem rput16_any (l : List Nd) (ad : Option Addr) (c : Nat) (hl : l.length ≤ 1000000) (hp : ∀ x ∈ l, x.path.length ≤ 900000 ∧ x.data.length ≤ 900000) (w : World) (h : NodesAt w ad l) :
    Calls Tryz.prog 9 #[.slice ad l.length c] w fun e w' => e = .returned (.tuple #[.string (str (put16 l).1), .int .i64 (put16 l).2]) ∧ Below w.heap.size w w' := by
  have HI := Lib.hid info_rn4
  have HPT : Hid (put16 l = if checkT l = 0 then (if 65000 < (bytesK l l.length).length then ([], 3) else (bytesK l l.length, 0)) else ([], checkT l)) := Lib.hid rfl
  have CH := check16 l ad c hl (fun x hx => (hp x hx).1) w h
  have HMAY : Hid (checkT l = 0 → l.length ≤ 400 ∧ ∀ x ∈ l, mayN x = true) := Lib.hid fun e => by
    unfold checkT at e
    split at e
    · cases e
    · split at e
      · rename_i h1 h2
        refine ⟨by omega, fun x hx => ?_⟩
        obtain ⟨k, hk⟩ := List.mem_iff_getElem?.1 hx
        exact ((treeB_iff l).1 h2 k x hk).1
      · cases e
  have HN := Lib.hid h
  have HP := Lib.hid hp
  have HX : Hid (∀ i, i < l.length → ∃ x, l[i]? = some x) := Lib.hid fun i hi => ⟨_, List.getElem?_eq_getElem hi⟩
  have HZ0 := Lib.hid (bytesK_zero l)
  obtain ⟨N, hN⟩ : ∃ N, N = l.length := ⟨_, rfl⟩
  have HNL := Lib.hid hN
  rw [← hN] at hl HX CH HMAY HPT HZ0 ⊢
  generalize hCT : checkT l = CT at *
  clear h hp hN hCT
  go_enter Tryz.func9, Tryz.ntmps9
  go_upto_region 2 with (go_at_call 13; ((with_reducible refine CH.mono ?_); rintro e w1 ⟨rfl, hb1⟩))
  have HB1 := Lib.hid hb1
  clear hb1 CH
  by_cases hc0 : CT = 0
  rotate_left
  · have g : (CT == (0 : Int)) = false := by rw [beq_eq_false_iff_ne]; exact hc0
    have HR := Lib.hid (HPT.out.trans (if_neg hc0))
    clear hc0 HPT HMAY HX HZ0
    go_wp2
    go_ret2
    exact ⟨by rw [HR.out]; rfl, HB1.out⟩
  subst hc0
  have HMA := Lib.hid (HMAY.out rfl)
  have HPT2 := Lib.hid (HPT.out.trans (if_pos rfl))
  have hN400 := HMA.out.1
  clear HPT HMAY
  have gw : IntKind.u64.wrap (N : Int) = (N : Int) := wrap_u64_nat (by omega)
  have C2 := rpn_any N 2 (by omega) (by decide) (by decide)
  rw [show ((2 : Nat) : Int) = 2 from rfl] at C2
  go_upto_region 6 with (go_at_call 27; ((with_reducible refine (C2 _).mono ?_); rintro e w2 ⟨rfl, hb2⟩))
  have HB2 := Lib.hid (HB1.out.trans (hb2.mono HB1.out.size))
  clear hb2 C2 gw
  go_loopw [5, 6, 7] (fun s i _ wr => ∃ k : Nat, k ≤ N ∧ i = .int .i64 k ∧ s = .string (str (bytesK l k)) ∧ Hid (Below w.heap.size w wr) ∧ Hid ((bytesK l k).length ≤ 65000)) (fun _ i _ _ => N - (intOf i).toNat)
  case atStart => exact ⟨0, Nat.zero_le _, rfl, by rw [HZ0.out], HB2, Lib.hid (by rw [HZ0.out, putL_length]; decide)⟩
  case round =>
    clear HZ0
    obtain ⟨k, hk, rfl, rfl, hB, hL⟩ := hrel
    by_cases hlt : k < N
    · obtain ⟨x, hx⟩ := HX.out k hlt
      obtain ⟨ax, rfl, hax, hcx⟩ := HN.out k x hx
      have g1 : (k : Int) < (N : Int) := by omega
      have HCX : Hid (∀ j u, (ndV x)[j]? = some u → wr.cell? ((ax.add (k * 4)).add j) = some u) := Lib.hid fun j u hu => by
        rw [cell_far hB.out (by rw [add_blk, add_blk]; exact hax)]
        exact hcx j u hu
      have hone := Lib.hid (ndA_one x)
      have hmem := List.mem_of_getElem? hx
      obtain ⟨hkk, hmm⟩ := mayN_nums (HMA.out.2 x hmem)
      obtain ⟨hxp, hxd⟩ := HP.out x hmem
      have HST := Lib.hid (bytesK_step hx)
      have HMO : Hid ((bytesK l (k + 1)).length ≤ (bytesK l N).length) := Lib.hid (by
        have := bytesK_mono l (k + 1) (N - (k + 1))
        rwa [show k + 1 + (N - (k + 1)) = N by omega] at this)
      obtain ⟨K, hK⟩ : ∃ K : Nat, x.kind = K := ⟨x.kind.toNat, by omega⟩
      obtain ⟨M, hM⟩ : ∃ M : Nat, x.mode = M := ⟨x.mode.toNat, by omega⟩
      obtain ⟨W2, hW2⟩ : ∃ W2, W2 = wr.alloc (.cells (ndA x) 35) := ⟨_, rfl⟩
      have HW2 := Lib.hid hW2
      have HBW : Hid (Below w.heap.size w W2) := Lib.hid (by rw [hW2]; exact hB.out.alloc hB.out.size _)
      have HZ2 : Hid (rowC W2 wr.heap.size (ndA x) 35) := Lib.hid (by rw [hW2]; exact rowC_new wr _ _)
      have HZY := Lib.hid (fun y : AftW W2 => rowC_below HZ2.out y.h (rowC_lt HZ2.out))
      have d0 := fun y : AftW W2 => show y.v.cell? ⟨wr.heap.size, 0, none⟩ = some (.string (str x.path)) from rowC_cell (HZY.out y) 0
      have d1 := fun y : AftW W2 => show y.v.cell? ⟨wr.heap.size, 1, none⟩ = some (.int .i64 (K : Int)) from by rw [← hK]; exact rowC_cell (HZY.out y) 1
      have d2 := fun y : AftW W2 => show y.v.cell? ⟨wr.heap.size, 2, none⟩ = some (.int .i64 (M : Int)) from by rw [← hM]; exact rowC_cell (HZY.out y) 2
      have d3 := fun y : AftW W2 => show y.v.cell? ⟨wr.heap.size, 3, none⟩ = some (.string (str x.data)) from rowC_cell (HZY.out y) 3
      have zp := str_size x.path
      have zd := str_size x.data
      have gwK : IntKind.u64.wrap (K : Int) = (K : Int) := wrap_u64_nat (by omega)
      have gwM : IntKind.u64.wrap (M : Int) = (M : Int) := wrap_u64_nat (by omega)
      obtain ⟨P, hP⟩ : ∃ P, P = x.path.length := ⟨_, rfl⟩
      obtain ⟨D, hD⟩ : ∃ D, D = x.data.length := ⟨_, rfl⟩
      rw [← hP] at zp hxp
      rw [← hD] at zd hxd
      have gwP : IntKind.u64.wrap (P : Int) = (P : Int) := wrap_u64_nat (by omega)
      have gwD : IntKind.u64.wrap (D : Int) = (D : Int) := wrap_u64_nat (by omega)
      have C1 := fun y : AftW W2 => rpq K 1 (by omega) (by decide) (by decide) y
      have C2 := fun y : AftW W2 => rpq M 2 (by omega) (by decide) (by decide) y
      have C3 := fun y : AftW W2 => rpq P 1 (by omega) (by decide) (by decide) y
      have C4 := fun y : AftW W2 => rpq D 4 (by omega) (by decide) (by decide) y
      rw [show ((1 : Nat) : Int) = 1 from rfl] at C1 C3
      rw [show ((2 : Nat) : Int) = 2 from rfl] at C2
      rw [show ((4 : Nat) : Int) = 4 from rfl] at C4
      have HS0 : Hid (str (bytesK l k) ++ str (putL K 1) ++ str (putL M 2) ++ str (putL P 1) ++ str x.path ++ str (putL D 4) ++ str x.data = str (bytesK l (k + 1))) := Lib.hid (by
        rw [HST.out]
        unfold nodeW
        rw [hK, hM, Int.toNat_natCast, Int.toNat_natCast, hP, hD]
        simp only [str_append, List.append_assoc])
      have z1 : (str (putL K 1)).size = 1 := by rw [str_size, putL_length]
      have z2 : (str (putL M 2)).size = 2 := by rw [str_size, putL_length]
      have z3 : (str (putL P 1)).size = 1 := by rw [str_size, putL_length]
      have z4 : (str (putL D 4)).size = 4 := by rw [str_size, putL_length]
      have z5 : (str (bytesK l k)).size ≤ 65000 := by rw [str_size]; exact hL.out
      have HZN := Lib.hid (str_size (bytesK l (k + 1)))
      clear hx hcx hW2 hmem hax hkk hmm hK hM hP hD
      go_upto_region 9 with (first
        | ((with_reducible show wpList _ _ _ (⟨some 26, .load _ _, _, _, _, _⟩ :: _) _ _); refine wpList_load_at rfl 35 _ rfl (ax.add (k * 4)) rfl (ndV x) _ HCX.out Tryz.underlying35 rfl HI.out ?_)
        | ((with_reducible show wpList _ _ _ (⟨none, .store _ (.tmp 7) _, _, _, _, _⟩ :: _) _ _); refine wpList_store_last rfl 35 _ _ rfl wr.heap.size (ndA x) rfl rfl 35 _ rfl HI.out rfl hone.out ?_)
        | go_in)
      rw [← HW2.out]
      try simp only [Act.put]
      generalize str (putL K 1) = PK at *
      generalize str (putL M 2) = PM at *
      generalize str (putL P 1) = PP at *
      generalize str (putL D 4) = PD at *
      generalize str x.path = SP at *
      generalize str x.data = SD at *
      generalize str (bytesK l k) = S0 at *
      refine (wpIn_wide (n := 4)).1 ?_
      refine region_quiet (C := fun w' => ∃ y : AftW W2, w' = y.v) (by kernel_rfl) (by kernel_rfl) (by kernel_rfl) ⟨⟨W2.drew, (Below.refl _ _).drew⟩, rfl⟩ ?_
      iterate 5 (gi_big_quiet_step ((gi_at_call 27; exact C1 _)))
      iterate 5 (gi_big_quiet_step ((gi_at_call 27; exact C2 _)))
      iterate 6 (gi_big_quiet_step ((gi_at_call 27; exact C3 _)))
      iterate 9 (gi_big_quiet_step ((gi_at_call 27; exact C4 _)))
      iterate 5 (gi_big_quiet_step (fail))
      refine wpQuietIn_nil ?_
      rintro _ ⟨y, rfl⟩
      have HY := Lib.hid (HBW.out.trans (y.h.mono HBW.out.size))
      rw [HS0.out]
      clear C1 C2 C3 C4 d0 d1 d2 d3 HS0 z1 z2 z3 z4 z5 zp zd HZY HZ2
      generalize y.v = W3 at *
      have zn := HZN.out
      obtain ⟨L, hLL⟩ : ∃ L, L = (bytesK l (k + 1)).length := ⟨_, rfl⟩
      rw [← hLL] at zn HMO
      have HLL := Lib.hid hLL
      clear hLL HZN
      by_cases hbig : 65000 < L
      · have g2 : (65000 : Int) < (L : Int) := by omega
        have HR := Lib.hid (HPT2.out.trans (if_pos (by have := HMO.out; omega)))
        clear HMO hbig
        gi_wp2
        go_wp2
        go_ret2
        exact ⟨by rw [HR.out]; rfl, HY.out⟩
      · have g2 : ¬ (65000 : Int) < (L : Int) := by omega
        have HLE : Hid ((bytesK l (k + 1)).length ≤ 65000) := Lib.hid (by rw [← HLL.out]; omega)
        clear HMO hbig
        gi_wp2
        go_wp2
        go_roundw
        case rel => exact ⟨k + 1, by omega, by go_num, rfl, HY, HLE⟩
        case measure => simp [intOf] <;> omega
    · obtain rfl : k = N := by omega
      have HR := Lib.hid (HPT2.out.trans (if_neg (by have := hL.out; omega)))
      go_wp2
      go_ret2
      exact ⟨by rw [HR.out]; rfl, hB.out⟩
end Go.Proofs.YtoallfcpnbhhiaaGreatDoor

