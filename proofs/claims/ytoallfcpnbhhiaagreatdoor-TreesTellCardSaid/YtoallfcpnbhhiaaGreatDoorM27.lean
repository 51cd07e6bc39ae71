/- Merged: UvF, UvJ. -/
import Derived.Test.YtoallfcpnbhhiaaGreatDoorM26
import Derived.Test.YtoallfcpnbhhiaaGreatDoorM22
import Derived.Test.YtoallfcpnbhhiaaGreatDoorM23
/- Layer 16: the program's Bytes; the law's Doc and great. -/
namespace Go.Proofs.YtoallfcpnbhhiaaGreatDoor
open Go.RowKit
attribute [local go_sem] wide_fn round_fn

theorem info_rn : (Tryz.prog.info? 35).map (fun i => (i.zero, i.size, i.bytes)) = some (some (.agg #[.string ⟨#[]⟩, .int .i64 0, .int .i64 0, .string ⟨#[]⟩]), 4, 48) := by kernel_rfl
/-- The document's nodes in a row of the call's own. -/
def OwnsD (w : World) (base : Nat) (v : Value) (l : List Nd) : Prop := w.ownsRow base 35 4 v l.length (rowN l)
theorem OwnsD.nodes {w : World} {base : Nat} {a : Option Addr} {n c : Nat} {l : List Nd} (h : OwnsD w base (.slice a n c) l) : NodesAt w a l := fun i x hx => by
  have hp : 0 < l.length := by have := (List.getElem?_eq_some_iff.1 hx).1; omega
  obtain ⟨g, c', hv⟩ := owns_some h hp
  simp only [Value.slice.injEq] at hv
  obtain ⟨rfl, rfl, _⟩ := hv
  refine ⟨⟨g, 0, none⟩, rfl, (World.ownsRow.lt h g rfl).2, fun j u hu => ?_⟩
  have hi : i < l.length := (List.getElem?_eq_some_iff.1 hx).1
  have hj : j < 4 := (List.getElem?_eq_some_iff.1 hu).1
  have hrow : (rowN l)[i * 4 + j]? = some u := by
    have : rowN l = rowN (l.take i) ++ (ndV x ++ rowN (l.drop (i + 1))) := by
      conv => lhs; rw [← List.take_append_drop i l, List.drop_eq_getElem_cons hi]
      rw [rowN_app]
      have hxe : l[i] = x := by rw [List.getElem?_eq_getElem hi] at hx; exact Option.some.inj hx
      rw [hxe]
      simp [rowN]
    have hl : (rowN (l.take i)).length = i * 4 := by rw [rowN_len, List.length_take]; omega
    rw [this, List.getElem?_append_right (by omega), hl, Nat.add_sub_cancel_left, List.getElem?_append_left (by exact hj)]
    exact hu
  have h2 : w.ownsRow base 35 4 (.slice (some ⟨g, 0, none⟩) l.length c) l.length (rowN l) := h
  rw [add_add]
  exact (World.ownsRow.cellAt h2 _ (by omega)).trans hrow
theorem owns_noneD (w : World) (base : Nat) : OwnsD w base (.slice none 0 0) [] := ⟨by simp [rowN], .inl ⟨rfl, rfl⟩⟩
set_option maxRecDepth 100000 in
set_option maxHeartbeats 8000000 in
theorem doc_any (l : List Nd) (ad : Option Addr) (c : Nat) (hl : l.length ≤ 1000000) (w : World) (h : NodesAt w ad l) :
    Calls Tryz.prog 7 #[.slice ad l.length c] w fun e w' => (∃ a2 c2, e = .returned (.slice a2 l.length c2) ∧ NodesAt w' a2 l) ∧ Below w.heap.size w w' := by
  have HN := Lib.hid h
  have HI := Lib.hid info_nd4
  obtain ⟨i0, hi, hz0, hz1, hz2⟩ := info_parts info_rn
  have HX : Hid (∀ i, i < l.length → ∃ x, l[i]? = some x) := Lib.hid fun i hi => ⟨_, List.getElem?_eq_getElem hi⟩
  have HLT : Hid (∀ k, k ≤ l.length → (l.take k).length = k) := Lib.hid fun k hk => by rw [List.length_take]; omega
  have HFULL : Hid (l.take l.length = l) := Lib.hid (List.take_length ..)
  obtain ⟨N, hN⟩ : ∃ N, N = l.length := ⟨_, rfl⟩
  have HNL := Lib.hid hN
  rw [← hN] at hl HX HLT HFULL ⊢
  clear h hN
  go_enter Tryz.func7, Tryz.ntmps7
  go_wp2
  go_loopw [4, 3] (fun i v wr => ∃ (k : Nat) (a2 : Option Addr) (c2 : Nat), k ≤ N ∧ i = .int .i64 (k : Int) ∧ v = .slice a2 k c2 ∧ Hid (OwnsD wr w.heap.size (.slice a2 k c2) (l.take k)) ∧ Hid (Below w.heap.size w wr)) (fun i _ _ => N - (intOf i).toNat)
  case atStart => exact ⟨0, none, 0, Nat.zero_le _, rfl, rfl, Lib.hid (owns_noneD _ _), Lib.hid (Below.refl _ _)⟩
  case round =>
    obtain ⟨k, a2, c2, hk, rfl, rfl, hO, hB⟩ := hrel
    by_cases hlt : k < N
    · obtain ⟨x, hx⟩ := HX.out k hlt
      obtain ⟨ax, rfl, hax, hcx⟩ := HN.out k x hx
      have g1 : (k : Int) < (N : Int) := by omega
      have HCX : Hid (∀ j u, (ndV x)[j]? = some u → wr.cell? ((ax.add (k * 4)).add j) = some u) := Lib.hid fun j u hu => by
        rw [cell_far hB.out (by rw [add_blk, add_blk]; exact hax)]
        exact hcx j u hu
      have ui := Tryz.underlying32
      have HLK := Lib.hid (HLT.out k (by omega))
      have HTK : Hid (l.take (k + 1) = l.take k ++ [x]) := Lib.hid (by rw [List.take_add_one, hx]; rfl)
      have HO4 : Hid ((wr.alloc (.cells (ndA x) 35)).ownsRow w.heap.size 35 4 (.slice a2 k c2) k (rowN (l.take k))) := Lib.hid (by
        have h2 := World.ownsRow.alloc (show wr.ownsRow _ _ _ _ _ _ from hO.out) (.cells (ndA x) 35)
        rwa [HLK.out] at h2)
      have HNEW : Hid (∀ j u, (ndV x)[j]? = some u → (wr.alloc (.cells (ndA x) 35)).cell? ((⟨wr.heap.size, 0, none⟩ : Addr).add j) = some u) := Lib.hid (fun j u hu => by
        rw [show (⟨wr.heap.size, 0, none⟩ : Addr) = (⟨wr.heap.size, 0, none⟩ : Addr).add 0 from (addr_zero _).symm, add_add, Nat.zero_add, rowC_cell (rowC_new wr (ndA x) 35) j, ← ndV_arr, List.getElem?_toArray]
        exact hu)
      have HBA : Hid (Below w.heap.size w (wr.alloc (.cells (ndA x) 35))) := Lib.hid (hB.out.alloc hB.out.size _)
      clear hx hcx hO
      go_wp2_with (first
        | ((with_reducible show wpList _ _ _ (⟨some 15, .load _ _, _, _, _, _⟩ :: _) _ _); refine wpList_load_at rfl 32 _ rfl (ax.add (k * 4)) rfl (ndV x) _ HCX.out Tryz.underlying32 rfl HI.out ?_)
        | ((with_reducible show wpList _ _ _ (⟨some 16, .buildSlice _ _ _, _, _, _, _⟩ :: _) _ _); refine wpList_oneR rfl 25 35 4 _ rfl (ndA x) rfl i0 _ Tryz.underlying25 hi hz0 hz1 rfl (by decide) (by decide) ?_)
        | ((with_reducible show wpList _ _ _ (⟨some 17, .call _, _, _, _, _⟩ :: _) _ _); refine wpList_append_lies _ rfl _ _ 25 rfl w.heap.size 35 i0 _ 4 48 Tryz.underlying25 hi hz0 hz1 hz2 rfl (by decide) (.slice a2 k c2) k (rowN (l.take k)) rfl HO4.out ⟨wr.heap.size, 0, none⟩ 1 1 (ndV x) rfl rfl HNEW.out (ndV_one _) (by decide) (by unfold maxLen; omega) (by omega) HBA.out.size _ rfl ?_; intro g5 c5 w5 ho5 hg5 _ _)
        | go_in)
      have hown5 := World.ownsRow.lt HO4.out
      have HBF : Hid (Below w.heap.size w w5) := Lib.hid (HBA.out.grown hg5 HBA.out.size (fun j hj => (hown5 j hj).1))
      have HOF : Hid (OwnsD w5 w.heap.size (.slice (some ⟨g5, 0, none⟩) (k + 1) c5) (l.take (k + 1))) := Lib.hid (by
        show w5.ownsRow _ _ _ _ _ _
        rw [HTK.out, List.length_append, rowN_app, HLK.out]
        have e : rowN [x] = ndV x := by simp [rowN]
        rw [e]
        exact ho5)
      clear ho5 hg5
      go_roundw
      case rel => exact ⟨k + 1, _, c5, by omega, by go_num, rfl, HOF, HBF⟩
      case measure => simp [intOf] <;> omega
    · obtain rfl : k = N := by omega
      have HE := Lib.hid (hO.out.nodes)
      rw [HFULL.out] at HE
      clear hO
      go_wp2
      go_ret
      exact ⟨⟨_, _, rfl, HE.out⟩, hB.out⟩

/-! ### More than is gone through -/
def bigN (x : Nd) : Bool := decide (300 < x.path.length) || decide (300 < x.data.length)
def greatN (l : List Nd) : Bool := l.any bigN || decide (410 < l.length)
theorem greatN_no {l : List Nd} (h : greatN l = false) : l.length ≤ 410 ∧ ∀ x ∈ l, x.path.length ≤ 300 ∧ x.data.length ≤ 300 := by
  unfold greatN at h
  rw [Bool.or_eq_false_iff] at h
  refine ⟨by simpa using h.2, fun x hx => ?_⟩
  have := List.any_eq_false.1 h.1 x hx
  unfold bigN at this
  simp only [Bool.or_eq_true, decide_eq_true_eq, not_or, Nat.not_lt] at this
  exact this
set_option maxRecDepth 100000 in
set_option maxHeartbeats 8000000 in
theorem greatN_any (l : List Nd) (ad : Option Addr) (c : Nat) (hlen : l.length ≤ maxLen) (w : World) (h : NodesAt w ad l) :
    Calls Tryz.prog 5 #[.slice ad l.length c] w fun e w' => e = .returned (.bool (greatN l)) ∧ w = w' := by
  unfold maxLen at hlen
  obtain ⟨N, hN⟩ : ∃ N, N = l.length := ⟨_, rfl⟩
  have HG : Hid (greatN l = (l.any bigN || decide (410 < N))) := Lib.hid (by rw [hN]; rfl)
  rw [← hN] at hlen ⊢
  have HN := Lib.hid hN
  have HENT := Lib.hid h
  clear hN h
  go_enter Tryz.func5, Tryz.ntmps5
  go_wp2
  go_loop [3] (fun i => ∃ k : Nat, k ≤ N ∧ i = .int .i64 k ∧ Hid ((l.take k).any bigN = false)) (fun i => N - (intOf i).toNat)
  case atStart => exact ⟨0, Nat.zero_le _, rfl, Lib.hid rfl⟩
  case round =>
    obtain ⟨k, hk, rfl, hF⟩ := hrel
    by_cases hlt : k < N
    · have hkl : k < l.length := by rw [← HN.out]; exact hlt
      obtain ⟨a, rfl, hab, hcell⟩ := HENT.out k l[k] (List.getElem?_eq_getElem hkl)
      have HTK : Hid (l.take (k + 1) = l.take k ++ [l[k]]) := Lib.hid (List.take_succ_eq_append_getElem hkl)
      have HMEM : Hid (l[k] ∈ l) := Lib.hid (List.getElem_mem hkl)
      generalize l[k] = x at *
      have c0 : w.cell? (a.add (k * 4)) = some (.string (str x.path)) := by have := hcell 0 _ rfl; rwa [addr_zero] at this
      have c3 : w.cell? ⟨(a.add (k * 4)).block, (a.add (k * 4)).off + 3, none⟩ = some (.string (str x.data)) := by have := hcell 3 _ rfl; rwa [addr_pos _ (by decide)] at this
      have z0 := str_size x.path
      have z3 := str_size x.data
      have g1 : (k : Int) < (N : Int) := by omega
      have HBE : Hid (bigN x = (decide (300 < x.path.length) || decide (300 < x.data.length))) := Lib.hid rfl
      generalize str x.path = S0 at *
      generalize str x.data = S3 at *
      have HNX : Hid (bigN x = false → (l.take (k + 1)).any bigN = false) := Lib.hid fun hb => by rw [HTK.out, List.any_append, hF.out]; simp [hb]
      have HYES : Hid (bigN x = true → greatN l = true) := Lib.hid fun hb => by
        rw [HG.out, List.any_eq_true.2 ⟨x, HMEM.out, hb⟩]; rfl
      clear hcell hab
      by_cases h1 : 300 < x.path.length
      · have HR := Lib.hid (HYES.out (by rw [HBE.out, decide_eq_true h1]; rfl))
        have i1 : (300 : Int) < (S0.size : Int) := by omega
        clear HBE h1 HNX HYES z0 z3
        go_wp2
        go_ret
        exact ⟨by rw [HR.out]; rfl, rfl⟩
      · have i1 : ¬ (300 : Int) < (S0.size : Int) := by omega
        by_cases h4 : 300 < x.data.length
        · have HR := Lib.hid (HYES.out (by rw [HBE.out, decide_eq_true h4]; simp))
          have i4 : (300 : Int) < (S3.size : Int) := by omega
          clear HBE h1 h4 HNX HYES z0 z3
          go_wp2
          go_ret
          exact ⟨by rw [HR.out]; rfl, rfl⟩
        · have i4 : ¬ (300 : Int) < (S3.size : Int) := by omega
          have HNX2 := Lib.hid (HNX.out (by rw [HBE.out, decide_eq_false h1, decide_eq_false h4]; rfl))
          clear HBE h1 h4 HNX HYES z0 z3
          go_wp2
          go_round
          case rel => exact ⟨k + 1, by omega, by go_num, HNX2⟩
          case measure => simp [intOf] <;> omega
    · obtain rfl : k = N := by omega
      have HR : Hid (greatN l = decide (410 < k)) := Lib.hid (by
        have h2 := hF.out
        rw [List.take_of_length_le (by have := HN.out; omega)] at h2
        rw [HG.out, h2, Bool.false_or])
      by_cases hb : 410 < k
      · have i1 : (410 : Int) < (k : Int) := by omega
        rw [decide_eq_true hb] at HR
        clear hb
        go_wp2
        go_ret
        exact ⟨by rw [HR.out]; rfl, rfl⟩
      · have i1 : ¬ (410 : Int) < (k : Int) := by omega
        rw [decide_eq_false hb] at HR
        clear hb
        go_wp2
        go_ret
        exact ⟨by rw [HR.out]; rfl, rfl⟩
set_option maxRecDepth 100000 in
set_option maxHeartbeats 8000000 in
theorem bytesN_any (l : List Nd) (ad : Option Addr) (c : Nat) (hl : l.length ≤ 1000000) (hd : ∀ x ∈ l, x.data.length ≤ 1000000) (w : World) (h : NodesAt w ad l) :
    Calls Tryz.prog 14 #[.slice ad l.length c] w fun e w' => e = .returned (.int .i64 (bytesN l : Int)) ∧ Below w.heap.size w w' := by
  have HN := Lib.hid h
  have HI := Lib.hid info_nd4
  have HX : Hid (∀ i, i < l.length → ∃ x, l[i]? = some x) := Lib.hid fun i hi => ⟨_, List.getElem?_eq_getElem hi⟩
  have HBL := Lib.hid (fun k => bytesN_le hd k)
  have HDL := Lib.hid hd
  obtain ⟨V, hV⟩ : ∃ V, V = bytesN l := ⟨_, rfl⟩
  rw [← hV]
  have HV := Lib.hid hV
  obtain ⟨N, hN⟩ : ∃ N, N = l.length := ⟨_, rfl⟩
  have HNL := Lib.hid hN
  rw [← hN] at hl HX ⊢
  clear h hN hV hd
  go_enter Tryz.func14, Tryz.ntmps14
  go_upto_region 3 with (fail)
  go_loopw [3, 5, 8] (fun s _ i wr => ∃ (k n : Nat), k ≤ N ∧ i = .int .i64 (k : Int) ∧ s = .int .i64 (n : Int) ∧ Hid (n = bytesN (l.take k)) ∧ Hid (Below w.heap.size w wr)) (fun _ _ i _ => N - (intOf i).toNat)
  case atStart => exact ⟨0, 0, Nat.zero_le _, rfl, rfl, Lib.hid rfl, Lib.hid (Below.refl _ _)⟩
  case round =>
    obtain ⟨k, n, hk, rfl, rfl, hs, hB⟩ := hrel
    have hnl : n ≤ k * 1000000 := by rw [hs.out]; exact HBL.out k
    by_cases hlt : k < N
    · obtain ⟨x, hx⟩ := HX.out k hlt
      obtain ⟨ax, rfl, hax, hcx⟩ := HN.out k x hx
      have hdl := HDL.out x (List.mem_of_getElem? hx)
      have g1 : (k : Int) < (N : Int) := by omega
      have HCX : Hid (∀ j u, (ndV x)[j]? = some u → wr.cell? ((ax.add (k * 4)).add j) = some u) := Lib.hid fun j u hu => by
        rw [cell_far hB.out (by rw [add_blk, add_blk]; exact hax)]
        exact hcx j u hu
      have hone := Lib.hid (ndA_one x)
      obtain ⟨W1, hW1⟩ : ∃ W1, W1 = wr.alloc (.cells (ndA x) 32) := ⟨_, rfl⟩
      have HW1 := Lib.hid hW1
      have HB1 : Hid (Below w.heap.size w W1) := Lib.hid (by rw [hW1]; exact hB.out.alloc hB.out.size _)
      have HZ1 : Hid (rowC W1 wr.heap.size (ndA x) 32) := Lib.hid (by rw [hW1]; exact rowC_new wr _ _)
      have q1 : W1.cell? ⟨wr.heap.size, 1, none⟩ = some (.int .i64 x.kind) := rowC_cell HZ1.out 1
      have q3 : W1.cell? ⟨wr.heap.size, 3, none⟩ = some (.string (str x.data)) := rowC_cell HZ1.out 3
      have zd : (str x.data).size = x.data.length := str_size _
      have HST := Lib.hid (bytesN_step hx)
      clear hx hcx hW1
      by_cases hk1 : x.kind = 1
      · rw [if_pos hk1] at HST
        have g2 : (x.kind == (1 : Int)) = true := by rw [hk1]; rfl
        go_wp2_with (first
          | ((with_reducible show wpList _ _ _ (⟨some 11, .load _ _, _, _, _, _⟩ :: _) _ _); refine wpList_load_at rfl 32 _ rfl (ax.add (k * 4)) rfl (ndV x) _ HCX.out Tryz.underlying32 rfl HI.out ?_)
          | ((with_reducible show wpList _ _ _ (⟨none, .store _ (.tmp 5) _, _, _, _, _⟩ :: _) _ _); refine wpList_store_last rfl 32 _ _ rfl wr.heap.size (ndA x) rfl rfl 32 _ rfl HI.out rfl hone.out ?_; rw [← HW1.out])
          | go_in)
        go_roundw
        case rel => exact ⟨k + 1, n + x.data.length, by omega, by go_num, by go_num, Lib.hid (by rw [HST.out, ← hs.out]), HB1⟩
        case measure => simp [intOf] <;> omega
      · rw [if_neg hk1] at HST
        have g2 : (x.kind == (1 : Int)) = false := by simp only [beq_eq_false_iff_ne]; exact hk1
        go_wp2_with (first
          | ((with_reducible show wpList _ _ _ (⟨some 11, .load _ _, _, _, _, _⟩ :: _) _ _); refine wpList_load_at rfl 32 _ rfl (ax.add (k * 4)) rfl (ndV x) _ HCX.out Tryz.underlying32 rfl HI.out ?_)
          | ((with_reducible show wpList _ _ _ (⟨none, .store _ (.tmp 5) _, _, _, _, _⟩ :: _) _ _); refine wpList_store_last rfl 32 _ _ rfl wr.heap.size (ndA x) rfl rfl 32 _ rfl HI.out rfl hone.out ?_; rw [← HW1.out])
          | go_in)
        go_roundw
        case rel => exact ⟨k + 1, n, by omega, by go_num, rfl, Lib.hid (by rw [HST.out, ← hs.out]), HB1⟩
        case measure => simp [intOf] <;> omega
    · obtain rfl : k = N := by omega
      have HE : Hid (n = V) := Lib.hid (by rw [hs.out, HV.out, List.take_of_length_le (by rw [← HNL.out]; omega)])
      clear hs
      go_wp2
      go_ret
      exact ⟨by rw [HE.out]; rfl, hB.out⟩
end Go.Proofs.YtoallfcpnbhhiaaGreatDoor

/- Layer 16: the program's putNode. -/
namespace Go.Proofs.YtoallfcpnbhhiaaGreatDoor
open Go.RowKit
attribute [local go_sem] wide_fn round_fn

/-- A node's bytes. -/
def nodeW (x : Nd) : List UInt8 := putL x.kind.toNat 1 ++ (putL x.mode.toNat 2 ++ (putL x.path.length 1 ++ (x.path ++ (putL x.data.length 4 ++ x.data))))
/-- In the midst of putNode: the builder's bytes; the node's own copy. -/
structure NdS (w : World) (B b : Nat) (x : Nd) (l : List UInt8) (W : World) : Prop where
  bd : BdS w B b l W
  row : rowC W w.heap.size (ndA x) 32
  big : B ≤ W.heap.size
  off : b < w.heap.size
theorem NdS.step {w W W' : World} {B b : Nat} {x : Nd} {l l' : List UInt8} (h : NdS w B b x l W) (s : BdS W B b l' W') : NdS w B b x l' W' :=
  ⟨h.bd.trans s, s.row h.row (by have := h.off; omega) (by decide), Nat.le_trans h.big s.size, h.off⟩
theorem pn1 (B b : Nat) (l : List UInt8) (n : Nat) (hn : n < 9223372036854775808) (hl : l.length ≤ 1000000000000) (w : World) (hB : B ≤ w.heap.size) (h : BdAt w B b l) :
    Calls Tryz.prog 23 #[.pointer (some ⟨b, 0, none⟩), .int .i64 (n : Int), .int .i64 1] w fun e w' => e = .returned (.tuple #[]) ∧ BdS w B b (l ++ putL n 1) w' :=
  putNumber_any B b l n 1 hn (by decide) (by decide) hl w hB h
theorem pn2 (B b : Nat) (l : List UInt8) (n : Nat) (hn : n < 9223372036854775808) (hl : l.length ≤ 1000000000000) (w : World) (hB : B ≤ w.heap.size) (h : BdAt w B b l) :
    Calls Tryz.prog 23 #[.pointer (some ⟨b, 0, none⟩), .int .i64 (n : Int), .int .i64 2] w fun e w' => e = .returned (.tuple #[]) ∧ BdS w B b (l ++ putL n 2) w' :=
  putNumber_any B b l n 2 hn (by decide) (by decide) hl w hB h
theorem pn4 (B b : Nat) (l : List UInt8) (n : Nat) (hn : n < 9223372036854775808) (hl : l.length ≤ 1000000000000) (w : World) (hB : B ≤ w.heap.size) (h : BdAt w B b l) :
    Calls Tryz.prog 23 #[.pointer (some ⟨b, 0, none⟩), .int .i64 (n : Int), .int .i64 4] w fun e w' => e = .returned (.tuple #[]) ∧ BdS w B b (l ++ putL n 4) w' :=
  putNumber_any B b l n 4 hn (by decide) (by decide) hl w hB h
set_option maxRecDepth 100000 in
set_option maxHeartbeats 8000000 in
theorem putNode_any (B b : Nat) (l : List UInt8) (x : Nd) (hk : 0 ≤ x.kind ∧ x.kind ≤ 1000000) (hm : 0 ≤ x.mode ∧ x.mode ≤ 1000000) (hp : x.path.length ≤ 1000000) (hd : x.data.length ≤ 1000000) (hl : l.length ≤ 1000000) (w : World) (hB : B ≤ w.heap.size) (h : BdAt w B b l) :
    Calls Tryz.prog 24 #[.pointer (some ⟨b, 0, none⟩), .agg #[.string (str x.path), .int .i64 x.kind, .int .i64 x.mode, .string (str x.data)]] w fun e w' => e = .returned (.tuple #[]) ∧ BdS w B b (l ++ nodeW x) w' := by
  obtain ⟨K, hK⟩ : ∃ K : Nat, x.kind = K := ⟨x.kind.toNat, by omega⟩
  obtain ⟨M, hM⟩ : ∃ M : Nat, x.mode = M := ⟨x.mode.toNat, by omega⟩
  have HW : Hid (nodeW x = putL K 1 ++ (putL M 2 ++ (putL x.path.length 1 ++ (x.path ++ (putL x.data.length 4 ++ x.data))))) := Lib.hid (by unfold nodeW; rw [hK, hM, Int.toNat_natCast, Int.toNat_natCast])
  have H0 : Hid (NdS w B b x l (w.alloc (.cells #[.string (str x.path), .int .i64 x.kind, .int .i64 x.mode, .string (str x.data)] 32))) := Lib.hid ⟨(BdS.start h).below hB ((Below.refl _ _).alloc (Nat.le_refl _) _), rowC_new w _ _, by rw [size_alloc]; omega, h.lt.2⟩
  have zp := str_size x.path
  have zd := str_size x.data
  have hk1 : K ≤ 1000000 := by omega
  have hm1 : M ≤ 1000000 := by omega
  have c1 : (w.alloc (.cells #[.string (str x.path), .int .i64 x.kind, .int .i64 x.mode, .string (str x.data)] 32)).cell? ⟨w.heap.size, 1, none⟩ = some (.int .i64 (K : Int)) := by rw [← hK]; exact rowC_cell H0.out.row 1
  have HC2 : Hid (∀ l' W, NdS w B b x l' W → W.cell? ⟨w.heap.size, 2, none⟩ = some (.int .i64 (M : Int))) := Lib.hid fun l' W h => by rw [← hM]; exact rowC_cell h.row 2
  have HC0 : Hid (∀ l' W, NdS w B b x l' W → W.cell? ⟨w.heap.size, 0, none⟩ = some (.string (str x.path))) := Lib.hid fun l' W h => rowC_cell h.row 0
  have HC3 : Hid (∀ l' W, NdS w B b x l' W → W.cell? ⟨w.heap.size, 3, none⟩ = some (.string (str x.data))) := Lib.hid fun l' W h => rowC_cell h.row 3
  have HL := Lib.hid hl
  clear hK hM hk hm h hl
  go_enter Tryz.func24, Tryz.ntmps24
  go_upto_region 2 with (go_at_call 23; ((with_reducible refine (pn1 B b l K (by omega) (by have := HL.out; omega) _ H0.out.big H0.out.bd.pr).mono ?_); rintro e W1 ⟨rfl, s1⟩; have H1 := Lib.hid (H0.out.step s1)))
  clear s1 c1 H0
  have c2 := HC2.out _ _ H1.out
  have HL1 := Lib.hid (show (l ++ putL K 1).length ≤ 1000100 by rw [List.length_append, putL_length]; have := HL.out; omega)
  go_upto_region 3 with (go_at_call 23; ((with_reducible refine (pn2 B b (l ++ putL K 1) M (by omega) (by have := HL1.out; omega) _ H1.out.big H1.out.bd.pr).mono ?_); rintro e W2 ⟨rfl, s2⟩; have H2 := Lib.hid (H1.out.step s2)))
  clear s2 c2 H1
  have c3 := HC0.out _ _ H2.out
  have HL2 := Lib.hid (show (l ++ putL K 1 ++ putL M 2).length ≤ 1000200 by rw [List.length_append, putL_length]; have := HL1.out; omega)
  go_upto_region 4 with (go_at_call 23; ((with_reducible refine (pn1 B b (l ++ putL K 1 ++ putL M 2) x.path.length (by omega) (by have := HL2.out; omega) _ H2.out.big H2.out.bd.pr).mono ?_); rintro e W3 ⟨rfl, s3⟩; have H3 := Lib.hid (H2.out.step s3)))
  clear s3 c3 H2
  have c4 := HC0.out _ _ H3.out
  have HL3 := Lib.hid (show (l ++ putL K 1 ++ putL M 2 ++ putL x.path.length 1).length ≤ 1000300 by rw [List.length_append, putL_length]; have := HL2.out; omega)
  go_upto_region 5 with (go_at_call 41; ((with_reducible refine (write_any x.path H3.out.bd.pr H3.out.big (by have := HL3.out; omega)).mono ?_); rintro e W4 ⟨rfl, s4⟩; have H4 := Lib.hid (H3.out.step s4)))
  clear s4 c4 H3
  have c5 := HC3.out _ _ H4.out
  have HL4 := Lib.hid (show (l ++ putL K 1 ++ putL M 2 ++ putL x.path.length 1 ++ x.path).length ≤ 3000300 by rw [List.length_append]; have := HL3.out; omega)
  go_upto_region 6 with (go_at_call 23; ((with_reducible refine (pn4 B b (l ++ putL K 1 ++ putL M 2 ++ putL x.path.length 1 ++ x.path) x.data.length (by omega) (by have := HL4.out; omega) _ H4.out.big H4.out.bd.pr).mono ?_); rintro e W5 ⟨rfl, s5⟩; have H5 := Lib.hid (H4.out.step s5)))
  clear s5 c5 H4
  have c6 := HC3.out _ _ H5.out
  have HL5 := Lib.hid (show (l ++ putL K 1 ++ putL M 2 ++ putL x.path.length 1 ++ x.path ++ putL x.data.length 4).length ≤ 3000400 by rw [List.length_append, putL_length]; have := HL4.out; omega)
  go_wp2_with (go_at_call 41; ((with_reducible refine (write_any x.data H5.out.bd.pr H5.out.big (by have := HL5.out; omega)).mono ?_); rintro e W6 ⟨rfl, s6⟩; have H6 := Lib.hid (H5.out.step s6)))
  go_end0
  refine ⟨rfl, ?_⟩
  have := H6.out.bd
  rw [HW.out]
  simpa [List.append_assoc] using this
end Go.Proofs.YtoallfcpnbhhiaaGreatDoor

