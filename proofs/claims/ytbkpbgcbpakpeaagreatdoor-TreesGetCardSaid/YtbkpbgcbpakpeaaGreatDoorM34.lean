/- Merged: UvL, UvG. -/
import Derived.Test.YtbkpbgcbpakpeaaGreatDoorM30
import Derived.Test.YtbkpbgcbpakpeaaGreatDoorM33
import Derived.Test.YtbkpbgcbpakpeaaGreatDoorM28
/- Layer 16: the document's Put. -/
namespace Go.Proofs.YtbkpbgcbpakpeaaGreatDoor
open Go.RowKit
attribute [local go_sem] wide_fn round_fn

theorem docC_is {l : List Nd} {r : Int} (h : DocC l r) : r = checkT l := by
  unfold checkT
  rcases h with ⟨rfl, h4⟩ | ⟨h4, h⟩
  · rw [if_pos h4]
  · rw [if_neg (by omega)]
    rcases h with ⟨rfl, h⟩ | ⟨rfl, k, x, hx, hb⟩
    · rw [if_pos ((good_tree h4).1 h)]
    · rw [if_neg]
      intro ht
      have := (good_tree h4).2 ht k x hx
      rw [hb] at this
      cases this
theorem check16 (l : List Nd) (ad : Option Addr) (c : Nat) (hl : l.length ≤ 1000000) (hp : ∀ x ∈ l, x.path.length ≤ 900000) (w : World) (h : NodesAt w ad l) :
    Calls Tryz.prog 13 #[.slice ad l.length c] w fun e w' => e = .returned (.int .i64 (checkT l)) ∧ Below w.heap.size w w' :=
  (rcheckT_any l ad c hl hp w h).mono fun _ _ ⟨⟨r, he, hd⟩, hb⟩ => ⟨by rw [he, docC_is hd], hb⟩
theorem rpn_any (n : Nat) (k : Nat) (hn : n < 18446744073709551616) (h1 : 1 ≤ k) (h8 : k ≤ 8) (w : World) :
    Calls Tryz.prog 27 #[.int .u64 (n : Int), .int .i64 (k : Int)] w fun e w' => e = .returned (.string (str (putL n k))) ∧ Below w.heap.size w w' := by
  have := brput_any (n : Int) (k : Int) w (by omega) (by omega) (by omega)
  rwa [putV_is n k h1 h8] at this
theorem rpq {W : World} (n k : Nat) (hn : n < 18446744073709551616) (h1 : 1 ≤ k) (h8 : k ≤ 8) (y : AftW W) :
    CallsIn Fence.wide 3 Tryz.prog 27 #[.int .u64 (n : Int), .int .i64 (k : Int)] y.v fun e w'' => e = .returned (.string (str (putL n k))) ∧ ∃ z : AftW W, w'' = z.v :=
  (callsIn_wide.2 (rpn_any n k hn h1 h8 y.v)).mono fun _ w'' ⟨he, hb⟩ => ⟨he, ⟨w'', y.h.trans (hb.mono y.h.size)⟩, rfl⟩
set_option maxRecDepth 100000 in
set_option maxHeartbeats 8000000 in
theorem rput16_any (l : List Nd) (ad : Option Addr) (c : Nat) (hl : l.length ≤ 1000000) (hp : ∀ x ∈ l, x.path.length ≤ 900000 ∧ x.data.length ≤ 900000) (w : World) (h : NodesAt w ad l) :
    Calls Tryz.prog 9 #[.slice ad l.length c] w fun e w' => e = .returned (.tuple #[.string (str (put16 l).1), .int .i64 (put16 l).2]) ∧ Below w.heap.size w w' := by
  have HI := Lib.hid info_rn4
  have HPT : Hid (put16 l = if checkT l = 0 then (if 65000 < (bytesK l l.length).length then ([], 3) else (bytesK l l.length, 0)) else ([], checkT l)) := Lib.hid rfl
  have CH := check16 l ad c hl (fun x hx => (hp x hx).1) w h
  have HMAY : Hid (checkT l = 0 → l.length ≤ 400 ∧ ∀ x ∈ l, mayN x = true) := Lib.hid fun e => by
    unfold checkT at e
    split at e
    · cases e
    · split at e
      · rename_i h1 h2
        refine ⟨by omega, fun x hx => ?_⟩
        obtain ⟨k, hk⟩ := List.mem_iff_getElem?.1 hx
        exact ((treeB_iff l).1 h2 k x hk).1
      · cases e
  have HN := Lib.hid h
  have HP := Lib.hid hp
  have HX : Hid (∀ i, i < l.length → ∃ x, l[i]? = some x) := Lib.hid fun i hi => ⟨_, List.getElem?_eq_getElem hi⟩
  have HZ0 := Lib.hid (bytesK_zero l)
  obtain ⟨N, hN⟩ : ∃ N, N = l.length := ⟨_, rfl⟩
  have HNL := Lib.hid hN
  rw [← hN] at hl HX CH HMAY HPT HZ0 ⊢
  generalize hCT : checkT l = CT at *
  clear h hp hN hCT
  go_enter Tryz.func9, Tryz.ntmps9
  go_upto_region 2 with (go_at_call 13; ((with_reducible refine CH.mono ?_); rintro e w1 ⟨rfl, hb1⟩))
  have HB1 := Lib.hid hb1
  clear hb1 CH
  by_cases hc0 : CT = 0
  rotate_left
  · have g : (CT == (0 : Int)) = false := by rw [beq_eq_false_iff_ne]; exact hc0
    have HR := Lib.hid (HPT.out.trans (if_neg hc0))
    clear hc0 HPT HMAY HX HZ0
    go_wp2
    go_ret2
    exact ⟨by rw [HR.out]; rfl, HB1.out⟩
  subst hc0
  have HMA := Lib.hid (HMAY.out rfl)
  have HPT2 := Lib.hid (HPT.out.trans (if_pos rfl))
  have hN400 := HMA.out.1
  clear HPT HMAY
  have gw : IntKind.u64.wrap (N : Int) = (N : Int) := wrap_u64_nat (by omega)
  have C2 := rpn_any N 2 (by omega) (by decide) (by decide)
  rw [show ((2 : Nat) : Int) = 2 from rfl] at C2
  go_upto_region 6 with (go_at_call 27; ((with_reducible refine (C2 _).mono ?_); rintro e w2 ⟨rfl, hb2⟩))
  have HB2 := Lib.hid (HB1.out.trans (hb2.mono HB1.out.size))
  clear hb2 C2 gw
  go_loopw [5, 6, 7] (fun s i _ wr => ∃ k : Nat, k ≤ N ∧ i = .int .i64 k ∧ s = .string (str (bytesK l k)) ∧ Hid (Below w.heap.size w wr) ∧ Hid ((bytesK l k).length ≤ 65000)) (fun _ i _ _ => N - (intOf i).toNat)
  case atStart => exact ⟨0, Nat.zero_le _, rfl, by rw [HZ0.out], HB2, Lib.hid (by rw [HZ0.out, putL_length]; decide)⟩
  case round =>
    clear HZ0
    obtain ⟨k, hk, rfl, rfl, hB, hL⟩ := hrel
    by_cases hlt : k < N
    · obtain ⟨x, hx⟩ := HX.out k hlt
      obtain ⟨ax, rfl, hax, hcx⟩ := HN.out k x hx
      have g1 : (k : Int) < (N : Int) := by omega
      have HCX : Hid (∀ j u, (ndV x)[j]? = some u → wr.cell? ((ax.add (k * 4)).add j) = some u) := Lib.hid fun j u hu => by
        rw [cell_far hB.out (by rw [add_blk, add_blk]; exact hax)]
        exact hcx j u hu
      have hone := Lib.hid (ndA_one x)
      have hmem := List.mem_of_getElem? hx
      obtain ⟨hkk, hmm⟩ := mayN_nums (HMA.out.2 x hmem)
      obtain ⟨hxp, hxd⟩ := HP.out x hmem
      have HST := Lib.hid (bytesK_step hx)
      have HMO : Hid ((bytesK l (k + 1)).length ≤ (bytesK l N).length) := Lib.hid (by
        have := bytesK_mono l (k + 1) (N - (k + 1))
        rwa [show k + 1 + (N - (k + 1)) = N by omega] at this)
      obtain ⟨K, hK⟩ : ∃ K : Nat, x.kind = K := ⟨x.kind.toNat, by omega⟩
      obtain ⟨M, hM⟩ : ∃ M : Nat, x.mode = M := ⟨x.mode.toNat, by omega⟩
      obtain ⟨W2, hW2⟩ : ∃ W2, W2 = wr.alloc (.cells (ndA x) 35) := ⟨_, rfl⟩
      have HW2 := Lib.hid hW2
      have HBW : Hid (Below w.heap.size w W2) := Lib.hid (by rw [hW2]; exact hB.out.alloc hB.out.size _)
      have HZ2 : Hid (rowC W2 wr.heap.size (ndA x) 35) := Lib.hid (by rw [hW2]; exact rowC_new wr _ _)
      have HZY := Lib.hid (fun y : AftW W2 => rowC_below HZ2.out y.h (rowC_lt HZ2.out))
      have d0 := fun y : AftW W2 => show y.v.cell? ⟨wr.heap.size, 0, none⟩ = some (.string (str x.path)) from rowC_cell (HZY.out y) 0
      have d1 := fun y : AftW W2 => show y.v.cell? ⟨wr.heap.size, 1, none⟩ = some (.int .i64 (K : Int)) from by rw [← hK]; exact rowC_cell (HZY.out y) 1
      have d2 := fun y : AftW W2 => show y.v.cell? ⟨wr.heap.size, 2, none⟩ = some (.int .i64 (M : Int)) from by rw [← hM]; exact rowC_cell (HZY.out y) 2
      have d3 := fun y : AftW W2 => show y.v.cell? ⟨wr.heap.size, 3, none⟩ = some (.string (str x.data)) from rowC_cell (HZY.out y) 3
      have zp := str_size x.path
      have zd := str_size x.data
      have gwK : IntKind.u64.wrap (K : Int) = (K : Int) := wrap_u64_nat (by omega)
      have gwM : IntKind.u64.wrap (M : Int) = (M : Int) := wrap_u64_nat (by omega)
      obtain ⟨P, hP⟩ : ∃ P, P = x.path.length := ⟨_, rfl⟩
      obtain ⟨D, hD⟩ : ∃ D, D = x.data.length := ⟨_, rfl⟩
      rw [← hP] at zp hxp
      rw [← hD] at zd hxd
      have gwP : IntKind.u64.wrap (P : Int) = (P : Int) := wrap_u64_nat (by omega)
      have gwD : IntKind.u64.wrap (D : Int) = (D : Int) := wrap_u64_nat (by omega)
      have C1 := fun y : AftW W2 => rpq K 1 (by omega) (by decide) (by decide) y
      have C2 := fun y : AftW W2 => rpq M 2 (by omega) (by decide) (by decide) y
      have C3 := fun y : AftW W2 => rpq P 1 (by omega) (by decide) (by decide) y
      have C4 := fun y : AftW W2 => rpq D 4 (by omega) (by decide) (by decide) y
      rw [show ((1 : Nat) : Int) = 1 from rfl] at C1 C3
      rw [show ((2 : Nat) : Int) = 2 from rfl] at C2
      rw [show ((4 : Nat) : Int) = 4 from rfl] at C4
      have HS0 : Hid (str (bytesK l k) ++ str (putL K 1) ++ str (putL M 2) ++ str (putL P 1) ++ str x.path ++ str (putL D 4) ++ str x.data = str (bytesK l (k + 1))) := Lib.hid (by
        rw [HST.out]
        unfold nodeW
        rw [hK, hM, Int.toNat_natCast, Int.toNat_natCast, hP, hD]
        simp only [str_append, List.append_assoc])
      have z1 : (str (putL K 1)).size = 1 := by rw [str_size, putL_length]
      have z2 : (str (putL M 2)).size = 2 := by rw [str_size, putL_length]
      have z3 : (str (putL P 1)).size = 1 := by rw [str_size, putL_length]
      have z4 : (str (putL D 4)).size = 4 := by rw [str_size, putL_length]
      have z5 : (str (bytesK l k)).size ≤ 65000 := by rw [str_size]; exact hL.out
      have HZN := Lib.hid (str_size (bytesK l (k + 1)))
      clear hx hcx hW2 hmem hax hkk hmm hK hM hP hD
      go_upto_region 9 with (first
        | ((with_reducible show wpList _ _ _ (⟨some 26, .load _ _, _, _, _, _⟩ :: _) _ _); refine wpList_load_at rfl 35 _ rfl (ax.add (k * 4)) rfl (ndV x) _ HCX.out Tryz.underlying35 rfl HI.out ?_)
        | ((with_reducible show wpList _ _ _ (⟨none, .store _ (.tmp 7) _, _, _, _, _⟩ :: _) _ _); refine wpList_store_last rfl 35 _ _ rfl wr.heap.size (ndA x) rfl rfl 35 _ rfl HI.out rfl hone.out ?_)
        | go_in)
      rw [← HW2.out]
      try simp only [Act.put]
      generalize str (putL K 1) = PK at *
      generalize str (putL M 2) = PM at *
      generalize str (putL P 1) = PP at *
      generalize str (putL D 4) = PD at *
      generalize str x.path = SP at *
      generalize str x.data = SD at *
      generalize str (bytesK l k) = S0 at *
      refine (wpIn_wide (n := 4)).1 ?_
      refine region_quiet (C := fun w' => ∃ y : AftW W2, w' = y.v) (by kernel_rfl) (by kernel_rfl) (by kernel_rfl) ⟨⟨W2.drew, (Below.refl _ _).drew⟩, rfl⟩ ?_
      iterate 5 (gi_big_quiet_step ((gi_at_call 27; exact C1 _)))
      iterate 5 (gi_big_quiet_step ((gi_at_call 27; exact C2 _)))
      iterate 6 (gi_big_quiet_step ((gi_at_call 27; exact C3 _)))
      iterate 9 (gi_big_quiet_step ((gi_at_call 27; exact C4 _)))
      iterate 5 (gi_big_quiet_step (fail))
      refine wpQuietIn_nil ?_
      rintro _ ⟨y, rfl⟩
      have HY := Lib.hid (HBW.out.trans (y.h.mono HBW.out.size))
      rw [HS0.out]
      clear C1 C2 C3 C4 d0 d1 d2 d3 HS0 z1 z2 z3 z4 z5 zp zd HZY HZ2
      generalize y.v = W3 at *
      have zn := HZN.out
      obtain ⟨L, hLL⟩ : ∃ L, L = (bytesK l (k + 1)).length := ⟨_, rfl⟩
      rw [← hLL] at zn HMO
      have HLL := Lib.hid hLL
      clear hLL HZN
      by_cases hbig : 65000 < L
      · have g2 : (65000 : Int) < (L : Int) := by omega
        have HR := Lib.hid (HPT2.out.trans (if_pos (by have := HMO.out; omega)))
        clear HMO hbig
        gi_wp2
        go_wp2
        go_ret2
        exact ⟨by rw [HR.out]; rfl, HY.out⟩
      · have g2 : ¬ (65000 : Int) < (L : Int) := by omega
        have HLE : Hid ((bytesK l (k + 1)).length ≤ 65000) := Lib.hid (by rw [← HLL.out]; omega)
        clear HMO hbig
        gi_wp2
        go_wp2
        go_roundw
        case rel => exact ⟨k + 1, by omega, by go_num, rfl, HY, HLE⟩
        case measure => simp [intOf] <;> omega
    · obtain rfl : k = N := by omega
      have HR := Lib.hid (HPT2.out.trans (if_neg (by have := hL.out; omega)))
      go_wp2
      go_ret2
      exact ⟨by rw [HR.out]; rfl, hB.out⟩
end Go.Proofs.YtbkpbgcbpakpeaaGreatDoor

/- Layer 16: the library's slices.Equal over nodes; the program's Same. -/
namespace Go.Proofs.YtbkpbgcbpakpeaaGreatDoor
open Go.RowKit
attribute [local go_sem] wide_fn round_fn

theorem fields_tn : (Tryz.prog.fieldsOf 32).toList = [⟨"Path", 9, 0, false, "", "", 0⟩, ⟨"Kind", 3, 1, false, "", "", 16⟩, ⟨"Mode", 3, 2, false, "", "", 24⟩, ⟨"Data", 9, 3, false, "", "", 32⟩] := by kernel_rfl
theorem eq_tn (w : World) (d : Nat) (a b : Nd) : (Op.equalIn (d + 2) 32 (.agg (ndA a)) (.agg (ndA b))).run Tryz.prog w = .ok (eqNB a b) w := by
  rw [run_equalIn_struct w (d + 1) _ _ _ (by kernel_rfl) (by kernel_rfl), fields_tn]
  have e1 (x y : List UInt8) (w : World) : (Op.equalIn (d + 1) 9 (.string (str x)) (.string (str y))).run Tryz.prog w = .ok (decide (x = y)) w := by
    rw [run_equalIn_string w d _ _ _ Tryz.underlying9, eq_strs]
  have e2 (x y : Int) (w : World) : (Op.equalIn (d + 1) 3 (.int .i64 x) (.int .i64 y)).run Tryz.prog w = .ok (x == y) w := run_equalIn_int w d _ _ _ _ _ Tryz.underlying3
  have p0 (q : Nd) (w : World) : (part 9 (ndA q) 0).run Tryz.prog w = .ok (.string (str q.path)) w := run_part_plain w (by kernel_rfl) rfl
  have p1 (q : Nd) (w : World) : (part 3 (ndA q) 1).run Tryz.prog w = .ok (.int .i64 q.kind) w := run_part_plain w (by kernel_rfl) rfl
  have p2 (q : Nd) (w : World) : (part 3 (ndA q) 2).run Tryz.prog w = .ok (.int .i64 q.mode) w := run_part_plain w (by kernel_rfl) rfl
  have p3 (q : Nd) (w : World) : (part 9 (ndA q) 3).run Tryz.prog w = .ok (.string (str q.data)) w := run_part_plain w (by kernel_rfl) rfl
  simp only [Op.eqFields, show ("Path" : String) ≠ "_" by decide, show ("Kind" : String) ≠ "_" by decide, show ("Mode" : String) ≠ "_" by decide, show ("Data" : String) ≠ "_" by decide, ne_eq, not_false_eq_true, if_true, Sem.run_bind, Sem.run_ite, Sem.run_pure, p0, p1, p2, p3, Result.andThen_ok, e1, e2]
  unfold eqNB
  by_cases h1 : a.path = b.path <;> by_cases h2 : a.kind = b.kind <;> by_cases h3 : a.mode = b.mode <;> by_cases h4 : a.data = b.data <;> simp [h1, h2, h3, h4]
theorem guard_tn : Tryz.prog.eqGuardType Tryz.prog.depth 32 = false := by kernel_rfl
set_option maxRecDepth 100000 in
set_option maxHeartbeats 4000000 in
theorem sameEq_any (A B : List Nd) (x y : Option Addr) (cx cy : Nat) (w : World) (hA : NodesAt w x A) (hB : NodesAt w y B) (hlA : A.length < 2 ^ 48) :
    Calls Tryz.prog 33 #[.slice x A.length cx, .slice y B.length cy] w fun e w' => (∃ b, e = .returned (.bool b) ∧ (b = true ↔ A = B)) ∧ Below w.heap.size w w' := by
  have HA := Lib.hid hA
  have HB := Lib.hid hB
  obtain ⟨N, hN⟩ : ∃ N, N = A.length := ⟨_, rfl⟩
  obtain ⟨M, hM⟩ : ∃ M, M = B.length := ⟨_, rfl⟩
  have HN := Lib.hid hN
  have HM := Lib.hid hM
  have HI := Lib.hid info_nd4
  rw [← hN] at hlA ⊢
  rw [← hM]
  clear hN hM hA hB
  go_enter Tryz.func33, Tryz.ntmps33
  by_cases hne : N = M
  rotate_left
  · have g1 : ((N : Int) == (M : Int)) = false := by rw [beq_eq_false_iff_ne]; omega
    have e0 : Hid (A ≠ B) := Lib.hid (fun e => hne (by rw [HN.out, HM.out, e]))
    clear hne
    go_wp2
    go_ret
    exact ⟨⟨_, rfl, ⟨(fun h => by cases h), fun h => absurd h e0.out⟩⟩, Below.refl _ _⟩
  subst hne
  have HMM := HM
  clear HM
  go_wp2
  go_loopw [5, 13] (fun _ v wr => ∃ j : Nat, j ≤ N ∧ v = .int .i64 j ∧ Hid (A.take j = B.take j) ∧ Hid (Below w.heap.size w wr)) (fun _ v _ => N - (intOf v).toNat)
  case atStart => exact ⟨0, Nat.zero_le _, rfl, Lib.hid rfl, Lib.hid (Below.refl _ _)⟩
  case round =>
    obtain ⟨j, hjN, rfl, hT, hBl⟩ := hrel
    by_cases hj : j < N
    · have g1 : (j : Int) < (N : Int) := by omega
      obtain ⟨a, ha⟩ : ∃ a, A[j]? = some a := ⟨_, List.getElem?_eq_getElem (by have := HN.out; omega)⟩
      obtain ⟨b, hb⟩ : ∃ b, B[j]? = some b := ⟨_, List.getElem?_eq_getElem (by have := HMM.out; omega)⟩
      obtain ⟨adx, rfl, hax, hcx⟩ := HA.out j a ha
      obtain ⟨ady, rfl, hay, hcy⟩ := HB.out j b hb
      have HCX := Lib.hid (show ∀ v : AftW wr, ∀ i u, (ndV a)[i]? = some u → v.v.cell? ((adx.add (j * 4)).add i) = some u from fun v i u hu => by
        rw [cell_far (hBl.out.trans (v.h.mono hBl.out.size)) (by rw [add_blk, add_blk]; exact hax)]
        exact hcx i u hu)
      have HCY := Lib.hid (show ∀ v : AftW wr, ∀ i u, (ndV b)[i]? = some u → v.v.cell? ((ady.add (j * 4)).add i) = some u from fun v i u hu => by
        rw [cell_far (hBl.out.trans (v.h.mono hBl.out.size)) (by rw [add_blk, add_blk]; exact hay)]
        exact hcy i u hu)
      have eq1 : ∀ w, (Op.equalIn 10000 32 (.agg (ndV a).toArray) (.agg (ndV b).toArray)).run Tryz.prog w = .ok (eqNB a b) w := fun w => eq_tn w 9998 a b
      have gd := guard_tn
      have hud := Tryz.underlying32
      have HST := Lib.hid (fun (e : a = b) => take_snoc_eq ha (by rw [hb, e]) hT.out)
      have HNE := Lib.hid (fun (e : a ≠ b) => ne_atN ha hb e)
      have HQ := Lib.hid (eqNB_iff a b)
      obtain ⟨eb, heb⟩ : ∃ eb, eb = eqNB a b := ⟨_, rfl⟩
      rw [← heb] at eq1 HQ
      clear ha hb hax hay hcx hcy heb hj hT
      go_upto_region 6 with (fail)
      refine (wpIn_wide (n := 4)).1 ?_
      refine region_quiet (C := fun w' => ∃ y : AftW wr, w' = y.v) (by kernel_rfl) (by kernel_rfl) (by kernel_rfl) ⟨⟨wr.drew, (Below.refl _ _).drew⟩, rfl⟩ ?_
      iterate 3 (gi_big_quiet_step (fail))
      refine wpQuietIn_load_atN (fun _ => trivial) rfl 32 _ rfl (adx.add (j * 4)) rfl (ndV a) _ (by rintro _ ⟨y, rfl⟩; exact HCX.out y) hud rfl HI.out ?_
      simp only [Act.put, List.setIfInBounds_toArray, List.set_cons_zero, List.set_cons_succ]
      iterate 3 (gi_big_quiet_step (fail))
      refine wpQuietIn_load_atN (fun _ => trivial) rfl 32 _ rfl (ady.add (j * 4)) rfl (ndV b) _ (by rintro _ ⟨y, rfl⟩; exact HCY.out y) hud rfl HI.out ?_
      simp only [Act.put, List.setIfInBounds_toArray, List.set_cons_zero, List.set_cons_succ]
      gi_big_quiet_step (fail)
      refine wpQuietIn_nil ?_
      rintro _ ⟨v, rfl⟩
      have HBV := Lib.hid (hBl.out.trans (v.h.mono hBl.out.size))
      clear HCX HCY eq1
      cases eb
      · gi_wp2
        go_wp2
        go_ret
        exact ⟨⟨_, rfl, ⟨(fun h => by cases h), fun h => absurd h (HNE.out (fun e => by have h5 := HQ.out.2 e; cases h5))⟩⟩, HBV.out⟩
      · gi_wp2
        go_wp2
        go_roundw
        case rel => exact ⟨j + 1, by omega, by go_num, Lib.hid (HST.out (HQ.out.1 (by trivial))), HBV⟩
        case measure => simp [intOf] <;> omega
    · go_wp2
      go_ret
      exact ⟨⟨_, rfl, ⟨fun _ => by have h := hT.out; rw [List.take_of_length_le (by have := HN.out; omega), List.take_of_length_le (by have := HMM.out; omega)] at h; exact h, fun _ => rfl⟩⟩, hBl.out⟩
theorem sameN_any (A B : List Nd) (x y : Option Addr) (cx cy : Nat) (w : World) (hA : NodesAt w x A) (hB : NodesAt w y B) (hlA : A.length < 2 ^ 48) :
    Calls Tryz.prog 16 #[.slice x A.length cx, .slice y B.length cy] w fun e w' => (∃ b, e = .returned (.bool b) ∧ (b = true ↔ A = B)) ∧ Below w.heap.size w w' := by
  have C := sameEq_any A B x y cx cy w hA hB hlA
  go_enter Tryz.func16, Tryz.ntmps16
  go_wp2_with (go_at_call 33; (refine C.mono ?_; rintro e w1 ⟨⟨b, rfl, hb⟩, hB1⟩))
  go_ret
  exact ⟨⟨_, rfl, hb⟩, hB1⟩
end Go.Proofs.YtbkpbgcbpakpeaaGreatDoor

