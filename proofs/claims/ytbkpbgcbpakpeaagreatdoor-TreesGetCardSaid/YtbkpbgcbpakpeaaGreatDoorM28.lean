/- Merged: UvE, UvF. -/
import Derived.Test.YtbkpbgcbpakpeaaGreatDoorM27
import Derived.ChangeKeysEq
import Derived.Test.YtbkpbgcbpakpeaaGreatDoorM23
/- Layer 16: the document's Same and Bytes, the program's Bytes; the law's Doc and great. -/
namespace Go.Proofs.YtbkpbgcbpakpeaaGreatDoor
open Go.RowKit
attribute [local go_sem] wide_fn round_fn

def eqNB (a b : Nd) : Bool := decide (a.path = b.path) && (decide (a.kind = b.kind) && (decide (a.mode = b.mode) && decide (a.data = b.data)))
theorem eqNB_iff (a b : Nd) : eqNB a b = true ↔ a = b := by
  unfold eqNB
  rw [Bool.and_eq_true, Bool.and_eq_true, Bool.and_eq_true, decide_eq_true_eq, decide_eq_true_eq, decide_eq_true_eq, decide_eq_true_eq]
  obtain ⟨a1, a2, a3, a4⟩ := a
  obtain ⟨b1, b2, b3, b4⟩ := b
  simp only [Nd.mk.injEq]
theorem fields_rn : (Tryz.prog.fieldsOf 35).toList = [⟨"Path", 9, 0, false, "", "", 0⟩, ⟨"Kind", 3, 1, false, "", "", 16⟩, ⟨"Mode", 3, 2, false, "", "", 24⟩, ⟨"Data", 9, 3, false, "", "", 32⟩] := by kernel_rfl
theorem eq_rn (w : World) (d : Nat) (a b : Nd) : (Op.equalIn (d + 2) 35 (.agg (ndA a)) (.agg (ndA b))).run Tryz.prog w = .ok (eqNB a b) w := by
  rw [run_equalIn_struct w (d + 1) _ _ _ (by kernel_rfl) (by kernel_rfl), fields_rn]
  have e1 (x y : List UInt8) (w : World) : (Op.equalIn (d + 1) 9 (.string (str x)) (.string (str y))).run Tryz.prog w = .ok (decide (x = y)) w := by
    rw [run_equalIn_string w d _ _ _ Tryz.underlying9, eq_strs]
  have e2 (x y : Int) (w : World) : (Op.equalIn (d + 1) 3 (.int .i64 x) (.int .i64 y)).run Tryz.prog w = .ok (x == y) w := run_equalIn_int w d _ _ _ _ _ Tryz.underlying3
  have p0 (q : Nd) (w : World) : (part 9 (ndA q) 0).run Tryz.prog w = .ok (.string (str q.path)) w := run_part_plain w (by kernel_rfl) rfl
  have p1 (q : Nd) (w : World) : (part 3 (ndA q) 1).run Tryz.prog w = .ok (.int .i64 q.kind) w := run_part_plain w (by kernel_rfl) rfl
  have p2 (q : Nd) (w : World) : (part 3 (ndA q) 2).run Tryz.prog w = .ok (.int .i64 q.mode) w := run_part_plain w (by kernel_rfl) rfl
  have p3 (q : Nd) (w : World) : (part 9 (ndA q) 3).run Tryz.prog w = .ok (.string (str q.data)) w := run_part_plain w (by kernel_rfl) rfl
  simp only [Op.eqFields, show ("Path" : String) ≠ "_" by decide, show ("Kind" : String) ≠ "_" by decide, show ("Mode" : String) ≠ "_" by decide, show ("Data" : String) ≠ "_" by decide, ne_eq, not_false_eq_true, if_true, Sem.run_bind, Sem.run_ite, Sem.run_pure, p0, p1, p2, p3, Result.andThen_ok, e1, e2]
  unfold eqNB
  by_cases h1 : a.path = b.path <;> by_cases h2 : a.kind = b.kind <;> by_cases h3 : a.mode = b.mode <;> by_cases h4 : a.data = b.data <;> simp [h1, h2, h3, h4]
theorem guard_rn : Tryz.prog.eqGuardType Tryz.prog.depth 35 = false := by kernel_rfl
theorem take_snoc_eq {α : Type} {A B : List α} {j : Nat} {a : α} (ha : A[j]? = some a) (hb : B[j]? = some a) (h : A.take j = B.take j) : A.take (j + 1) = B.take (j + 1) := by
  rw [List.take_add_one, List.take_add_one, ha, hb, h]
theorem ne_atN {α : Type} {A B : List α} {j : Nat} {a b : α} (ha : A[j]? = some a) (hb : B[j]? = some b) (h : a ≠ b) : A ≠ B := fun e => by
  rw [e, hb] at ha
  exact h (Option.some.inj ha).symm
set_option maxRecDepth 100000 in
set_option maxHeartbeats 4000000 in
theorem rsameN_any (A B : List Nd) (x y : Option Addr) (cx cy : Nat) (w : World) (hA : NodesAt w x A) (hB : NodesAt w y B) (hlA : A.length < 2 ^ 48) :
    Calls Tryz.prog 17 #[.slice x A.length cx, .slice y B.length cy] w fun e w' => (∃ b, e = .returned (.bool b) ∧ (b = true ↔ A = B)) ∧ Below w.heap.size w w' := by
  have HA := Lib.hid hA
  have HB := Lib.hid hB
  obtain ⟨N, hN⟩ : ∃ N, N = A.length := ⟨_, rfl⟩
  obtain ⟨M, hM⟩ : ∃ M, M = B.length := ⟨_, rfl⟩
  have HN := Lib.hid hN
  have HM := Lib.hid hM
  have HI := Lib.hid info_rn4
  rw [← hN] at hlA ⊢
  rw [← hM]
  clear hN hM hA hB
  go_enter Tryz.func17, Tryz.ntmps17
  by_cases hne : N = M
  rotate_left
  · have g1 : ((N : Int) == (M : Int)) = false := by rw [beq_eq_false_iff_ne]; omega
    have e0 : Hid (A ≠ B) := Lib.hid (fun e => hne (by rw [HN.out, HM.out, e]))
    clear hne
    go_wp2
    go_ret
    exact ⟨⟨_, rfl, ⟨(fun h => by cases h), fun h => absurd h e0.out⟩⟩, Below.refl _ _⟩
  subst hne
  have HMM := HM
  clear HM
  go_wp2
  go_loopw [5] (fun v wr => ∃ j : Nat, j ≤ N ∧ v = .int .i64 j ∧ Hid (A.take j = B.take j) ∧ Hid (Below w.heap.size w wr)) (fun v _ => N - (intOf v).toNat)
  case atStart => exact ⟨0, Nat.zero_le _, rfl, Lib.hid rfl, Lib.hid (Below.refl _ _)⟩
  case round =>
    obtain ⟨j, hjN, rfl, hT, hBl⟩ := hrel
    by_cases hj : j < N
    · have g1 : (j : Int) < (N : Int) := by omega
      obtain ⟨a, ha⟩ : ∃ a, A[j]? = some a := ⟨_, List.getElem?_eq_getElem (by have := HN.out; omega)⟩
      obtain ⟨b, hb⟩ : ∃ b, B[j]? = some b := ⟨_, List.getElem?_eq_getElem (by have := HMM.out; omega)⟩
      obtain ⟨adx, rfl, hax, hcx⟩ := HA.out j a ha
      obtain ⟨ady, rfl, hay, hcy⟩ := HB.out j b hb
      have HCX := Lib.hid (show ∀ v : AftW wr, ∀ i u, (ndV a)[i]? = some u → v.v.cell? ((adx.add (j * 4)).add i) = some u from fun v i u hu => by
        rw [cell_far (hBl.out.trans (v.h.mono hBl.out.size)) (by rw [add_blk, add_blk]; exact hax)]
        exact hcx i u hu)
      have HCY := Lib.hid (show ∀ v : AftW wr, ∀ i u, (ndV b)[i]? = some u → v.v.cell? ((ady.add (j * 4)).add i) = some u from fun v i u hu => by
        rw [cell_far (hBl.out.trans (v.h.mono hBl.out.size)) (by rw [add_blk, add_blk]; exact hay)]
        exact hcy i u hu)
      have eq1 : ∀ w, (Op.equalIn 10000 35 (.agg (ndV a).toArray) (.agg (ndV b).toArray)).run Tryz.prog w = .ok (eqNB a b) w := fun w => eq_rn w 9998 a b
      have gd := guard_rn
      have hud := Tryz.underlying35
      have HST := Lib.hid (fun (e : a = b) => take_snoc_eq ha (by rw [hb, e]) hT.out)
      have HNE := Lib.hid (fun (e : a ≠ b) => ne_atN ha hb e)
      have HQ := Lib.hid (eqNB_iff a b)
      obtain ⟨eb, heb⟩ : ∃ eb, eb = eqNB a b := ⟨_, rfl⟩
      rw [← heb] at eq1 HQ
      clear ha hb hax hay hcx hcy heb hj hT
      go_upto_region 6 with (fail)
      refine (wpIn_wide (n := 4)).1 ?_
      refine region_quiet (C := fun w' => ∃ y : AftW wr, w' = y.v) (by kernel_rfl) (by kernel_rfl) (by kernel_rfl) ⟨⟨wr.drew, (Below.refl _ _).drew⟩, rfl⟩ ?_
      iterate 3 (gi_big_quiet_step (fail))
      refine wpQuietIn_load_atN (fun _ => trivial) rfl 35 _ rfl (adx.add (j * 4)) rfl (ndV a) _ (by rintro _ ⟨y, rfl⟩; exact HCX.out y) hud rfl HI.out ?_
      simp only [Act.put, List.setIfInBounds_toArray, List.set_cons_zero, List.set_cons_succ]
      iterate 3 (gi_big_quiet_step (fail))
      refine wpQuietIn_load_atN (fun _ => trivial) rfl 35 _ rfl (ady.add (j * 4)) rfl (ndV b) _ (by rintro _ ⟨y, rfl⟩; exact HCY.out y) hud rfl HI.out ?_
      simp only [Act.put, List.setIfInBounds_toArray, List.set_cons_zero, List.set_cons_succ]
      gi_big_quiet_step (fail)
      refine wpQuietIn_nil ?_
      rintro _ ⟨v, rfl⟩
      have HBV := Lib.hid (hBl.out.trans (v.h.mono hBl.out.size))
      clear HCX HCY eq1
      cases eb
      · gi_wp2
        go_wp2
        go_ret
        exact ⟨⟨_, rfl, ⟨(fun h => by cases h), fun h => absurd h (HNE.out (fun e => by have h5 := HQ.out.2 e; cases h5))⟩⟩, HBV.out⟩
      · gi_wp2
        go_wp2
        go_roundw
        case rel => exact ⟨j + 1, by omega, by go_num, Lib.hid (HST.out (HQ.out.1 (by trivial))), HBV⟩
        case measure => simp [intOf] <;> omega
    · go_wp2
      go_ret
      exact ⟨⟨_, rfl, ⟨fun _ => by have h := hT.out; rw [List.take_of_length_le (by have := HN.out; omega), List.take_of_length_le (by have := HMM.out; omega)] at h; exact h, fun _ => rfl⟩⟩, hBl.out⟩
/-- How many bytes all files have. -/
def bytesN (l : List Nd) : Nat := l.foldl (fun n x => if x.kind = 1 then n + x.data.length else n) 0
theorem bytesN_step {l : List Nd} {k : Nat} {x : Nd} (h : l[k]? = some x) : bytesN (l.take (k + 1)) = if x.kind = 1 then bytesN (l.take k) + x.data.length else bytesN (l.take k) := by
  unfold bytesN
  rw [List.take_add_one, h, Option.toList_some, List.foldl_append]
  rfl
theorem bytesN_le {l : List Nd} {m : Nat} (h : ∀ x ∈ l, x.data.length ≤ m) (k : Nat) : bytesN (l.take k) ≤ k * m := by
  induction k with
  | zero => simp [bytesN]
  | succ k ih =>
    rw [Nat.succ_mul]
    cases hx : l[k]? with
    | none =>
      rw [List.take_add_one, hx]
      simp only [Option.toList_none, List.append_nil]
      omega
    | some x =>
      rw [bytesN_step hx]
      have := h x (List.mem_of_getElem? hx)
      split <;> omega
set_option maxRecDepth 100000 in
set_option maxHeartbeats 4000000 in
theorem rbytesN_any (l : List Nd) (ad : Option Addr) (c : Nat) (hl : l.length ≤ 1000000) (hd : ∀ x ∈ l, x.data.length ≤ 1000000) (w : World) (h : NodesAt w ad l) :
    Calls Tryz.prog 15 #[.slice ad l.length c] w fun e w' => e = .returned (.int .i64 (bytesN l : Int)) ∧ Below w.heap.size w w' := by
  have HN := Lib.hid h
  have HX : Hid (∀ i, i < l.length → ∃ x, l[i]? = some x) := Lib.hid fun i hi => ⟨_, List.getElem?_eq_getElem hi⟩
  have HBL := Lib.hid (fun k => bytesN_le hd k)
  have HDL := Lib.hid hd
  obtain ⟨V, hV⟩ : ∃ V, V = bytesN l := ⟨_, rfl⟩
  rw [← hV]
  have HV := Lib.hid hV
  obtain ⟨N, hN⟩ : ∃ N, N = l.length := ⟨_, rfl⟩
  have HNL := Lib.hid hN
  rw [← hN] at hl HX ⊢
  clear h hN hV hd
  go_enter Tryz.func15, Tryz.ntmps15
  go_wp2
  go_loopw [4, 3] (fun i s wr => ∃ (k n : Nat), k ≤ N ∧ i = .int .i64 (k : Int) ∧ s = .int .i64 (n : Int) ∧ Hid (n = bytesN (l.take k)) ∧ Hid (Below w.heap.size w wr)) (fun i _ _ => N - (intOf i).toNat)
  case atStart => exact ⟨0, 0, Nat.zero_le _, rfl, rfl, Lib.hid rfl, Lib.hid (Below.refl _ _)⟩
  case round =>
    obtain ⟨k, n, hk, rfl, rfl, hs, hB⟩ := hrel
    have hnl : n ≤ k * 1000000 := by rw [hs.out]; exact HBL.out k
    by_cases hlt : k < N
    · obtain ⟨x, hx⟩ := HX.out k hlt
      obtain ⟨ax, rfl, hax, hcx⟩ := HN.out k x hx
      have hdl := HDL.out x (List.mem_of_getElem? hx)
      have g1 : (k : Int) < (N : Int) := by omega
      have HCX : Hid (∀ j u, (ndV x)[j]? = some u → wr.cell? ((ax.add (k * 4)).add j) = some u) := Lib.hid fun j u hu => by
        rw [cell_far hB.out (by rw [add_blk, add_blk]; exact hax)]
        exact hcx j u hu
      have q1 : wr.cell? ⟨(ax.add (k * 4)).block, (ax.add (k * 4)).off + 1, none⟩ = some (.int .i64 x.kind) := by have := HCX.out 1 _ rfl; rwa [addr_pos _ (by decide)] at this
      have q3 : wr.cell? ⟨(ax.add (k * 4)).block, (ax.add (k * 4)).off + 3, none⟩ = some (.string (str x.data)) := by have := HCX.out 3 _ rfl; rwa [addr_pos _ (by decide)] at this
      have zd : (str x.data).size = x.data.length := str_size _
      have HST := Lib.hid (bytesN_step hx)
      clear hx hcx
      by_cases hk1 : x.kind = 1
      · rw [if_pos hk1] at HST
        have g2 : (x.kind == (1 : Int)) = true := by rw [hk1]; rfl
        go_wp2
        go_roundw
        case rel => exact ⟨k + 1, n + x.data.length, by omega, by go_num, by go_num, Lib.hid (by rw [HST.out, ← hs.out]), hB⟩
        case measure => simp [intOf] <;> omega
      · rw [if_neg hk1] at HST
        have g2 : (x.kind == (1 : Int)) = false := by simp only [beq_eq_false_iff_ne]; exact hk1
        go_wp2
        go_roundw
        case rel => exact ⟨k + 1, n, by omega, by go_num, rfl, Lib.hid (by rw [HST.out, ← hs.out]), hB⟩
        case measure => simp [intOf] <;> omega
    · obtain rfl : k = N := by omega
      have HE : Hid (n = V) := Lib.hid (by rw [hs.out, HV.out, List.take_of_length_le (by rw [← HNL.out]; omega)])
      clear hs
      go_wp2
      go_ret
      exact ⟨by rw [HE.out]; rfl, hB.out⟩
end Go.Proofs.YtbkpbgcbpakpeaaGreatDoor

/- Layer 16: the program's Bytes; the law's Doc and great. -/
namespace Go.Proofs.YtbkpbgcbpakpeaaGreatDoor
open Go.RowKit
attribute [local go_sem] wide_fn round_fn

theorem info_rn : (Tryz.prog.info? 35).map (fun i => (i.zero, i.size, i.bytes)) = some (some (.agg #[.string ⟨#[]⟩, .int .i64 0, .int .i64 0, .string ⟨#[]⟩]), 4, 48) := by kernel_rfl
/-- The document's nodes in a row of the call's own. -/
def OwnsD (w : World) (base : Nat) (v : Value) (l : List Nd) : Prop := w.ownsRow base 35 4 v l.length (rowN l)
theorem OwnsD.nodes {w : World} {base : Nat} {a : Option Addr} {n c : Nat} {l : List Nd} (h : OwnsD w base (.slice a n c) l) : NodesAt w a l := fun i x hx => by
  have hp : 0 < l.length := by have := (List.getElem?_eq_some_iff.1 hx).1; omega
  obtain ⟨g, c', hv⟩ := owns_some h hp
  simp only [Value.slice.injEq] at hv
  obtain ⟨rfl, rfl, _⟩ := hv
  refine ⟨⟨g, 0, none⟩, rfl, (World.ownsRow.lt h g rfl).2, fun j u hu => ?_⟩
  have hi : i < l.length := (List.getElem?_eq_some_iff.1 hx).1
  have hj : j < 4 := (List.getElem?_eq_some_iff.1 hu).1
  have hrow : (rowN l)[i * 4 + j]? = some u := by
    have : rowN l = rowN (l.take i) ++ (ndV x ++ rowN (l.drop (i + 1))) := by
      conv => lhs; rw [← List.take_append_drop i l, List.drop_eq_getElem_cons hi]
      rw [rowN_app]
      have hxe : l[i] = x := by rw [List.getElem?_eq_getElem hi] at hx; exact Option.some.inj hx
      rw [hxe]
      simp [rowN]
    have hl : (rowN (l.take i)).length = i * 4 := by rw [rowN_len, List.length_take]; omega
    rw [this, List.getElem?_append_right (by omega), hl, Nat.add_sub_cancel_left, List.getElem?_append_left (by exact hj)]
    exact hu
  have h2 : w.ownsRow base 35 4 (.slice (some ⟨g, 0, none⟩) l.length c) l.length (rowN l) := h
  rw [add_add]
  exact (World.ownsRow.cellAt h2 _ (by omega)).trans hrow
theorem owns_noneD (w : World) (base : Nat) : OwnsD w base (.slice none 0 0) [] := ⟨by simp [rowN], .inl ⟨rfl, rfl⟩⟩
set_option maxRecDepth 100000 in
set_option maxHeartbeats 8000000 in
theorem doc_any (l : List Nd) (ad : Option Addr) (c : Nat) (hl : l.length ≤ 1000000) (w : World) (h : NodesAt w ad l) :
    Calls Tryz.prog 7 #[.slice ad l.length c] w fun e w' => (∃ a2 c2, e = .returned (.slice a2 l.length c2) ∧ NodesAt w' a2 l) ∧ Below w.heap.size w w' := by
  have HN := Lib.hid h
  have HI := Lib.hid info_nd4
  obtain ⟨i0, hi, hz0, hz1, hz2⟩ := info_parts info_rn
  have HX : Hid (∀ i, i < l.length → ∃ x, l[i]? = some x) := Lib.hid fun i hi => ⟨_, List.getElem?_eq_getElem hi⟩
  have HLT : Hid (∀ k, k ≤ l.length → (l.take k).length = k) := Lib.hid fun k hk => by rw [List.length_take]; omega
  have HFULL : Hid (l.take l.length = l) := Lib.hid (List.take_length ..)
  obtain ⟨N, hN⟩ : ∃ N, N = l.length := ⟨_, rfl⟩
  have HNL := Lib.hid hN
  rw [← hN] at hl HX HLT HFULL ⊢
  clear h hN
  go_enter Tryz.func7, Tryz.ntmps7
  go_wp2
  go_loopw [4, 3] (fun i v wr => ∃ (k : Nat) (a2 : Option Addr) (c2 : Nat), k ≤ N ∧ i = .int .i64 (k : Int) ∧ v = .slice a2 k c2 ∧ Hid (OwnsD wr w.heap.size (.slice a2 k c2) (l.take k)) ∧ Hid (Below w.heap.size w wr)) (fun i _ _ => N - (intOf i).toNat)
  case atStart => exact ⟨0, none, 0, Nat.zero_le _, rfl, rfl, Lib.hid (owns_noneD _ _), Lib.hid (Below.refl _ _)⟩
  case round =>
    obtain ⟨k, a2, c2, hk, rfl, rfl, hO, hB⟩ := hrel
    by_cases hlt : k < N
    · obtain ⟨x, hx⟩ := HX.out k hlt
      obtain ⟨ax, rfl, hax, hcx⟩ := HN.out k x hx
      have g1 : (k : Int) < (N : Int) := by omega
      have HCX : Hid (∀ j u, (ndV x)[j]? = some u → wr.cell? ((ax.add (k * 4)).add j) = some u) := Lib.hid fun j u hu => by
        rw [cell_far hB.out (by rw [add_blk, add_blk]; exact hax)]
        exact hcx j u hu
      have ui := Tryz.underlying32
      have HLK := Lib.hid (HLT.out k (by omega))
      have HTK : Hid (l.take (k + 1) = l.take k ++ [x]) := Lib.hid (by rw [List.take_add_one, hx]; rfl)
      have HO4 : Hid ((wr.alloc (.cells (ndA x) 35)).ownsRow w.heap.size 35 4 (.slice a2 k c2) k (rowN (l.take k))) := Lib.hid (by
        have h2 := World.ownsRow.alloc (show wr.ownsRow _ _ _ _ _ _ from hO.out) (.cells (ndA x) 35)
        rwa [HLK.out] at h2)
      have HNEW : Hid (∀ j u, (ndV x)[j]? = some u → (wr.alloc (.cells (ndA x) 35)).cell? ((⟨wr.heap.size, 0, none⟩ : Addr).add j) = some u) := Lib.hid (fun j u hu => by
        rw [show (⟨wr.heap.size, 0, none⟩ : Addr) = (⟨wr.heap.size, 0, none⟩ : Addr).add 0 from (addr_zero _).symm, add_add, Nat.zero_add, rowC_cell (rowC_new wr (ndA x) 35) j, ← ndV_arr, List.getElem?_toArray]
        exact hu)
      have HBA : Hid (Below w.heap.size w (wr.alloc (.cells (ndA x) 35))) := Lib.hid (hB.out.alloc hB.out.size _)
      clear hx hcx hO
      go_wp2_with (first
        | ((with_reducible show wpList _ _ _ (⟨some 15, .load _ _, _, _, _, _⟩ :: _) _ _); refine wpList_load_at rfl 32 _ rfl (ax.add (k * 4)) rfl (ndV x) _ HCX.out Tryz.underlying32 rfl HI.out ?_)
        | ((with_reducible show wpList _ _ _ (⟨some 16, .buildSlice _ _ _, _, _, _, _⟩ :: _) _ _); refine wpList_oneR rfl 25 35 4 _ rfl (ndA x) rfl i0 _ Tryz.underlying25 hi hz0 hz1 rfl (by decide) (by decide) ?_)
        | ((with_reducible show wpList _ _ _ (⟨some 17, .call _, _, _, _, _⟩ :: _) _ _); refine wpList_append_lies _ rfl _ _ 25 rfl w.heap.size 35 i0 _ 4 48 Tryz.underlying25 hi hz0 hz1 hz2 rfl (by decide) (.slice a2 k c2) k (rowN (l.take k)) rfl HO4.out ⟨wr.heap.size, 0, none⟩ 1 1 (ndV x) rfl rfl HNEW.out (ndV_one _) (by decide) (by unfold maxLen; omega) (by omega) HBA.out.size _ rfl ?_; intro g5 c5 w5 ho5 hg5 _ _)
        | go_in)
      have hown5 := World.ownsRow.lt HO4.out
      have HBF : Hid (Below w.heap.size w w5) := Lib.hid (HBA.out.grown hg5 HBA.out.size (fun j hj => (hown5 j hj).1))
      have HOF : Hid (OwnsD w5 w.heap.size (.slice (some ⟨g5, 0, none⟩) (k + 1) c5) (l.take (k + 1))) := Lib.hid (by
        show w5.ownsRow _ _ _ _ _ _
        rw [HTK.out, List.length_append, rowN_app, HLK.out]
        have e : rowN [x] = ndV x := by simp [rowN]
        rw [e]
        exact ho5)
      clear ho5 hg5
      go_roundw
      case rel => exact ⟨k + 1, _, c5, by omega, by go_num, rfl, HOF, HBF⟩
      case measure => simp [intOf] <;> omega
    · obtain rfl : k = N := by omega
      have HE := Lib.hid (hO.out.nodes)
      rw [HFULL.out] at HE
      clear hO
      go_wp2
      go_ret
      exact ⟨⟨_, _, rfl, HE.out⟩, hB.out⟩

/-! ### More than is gone through -/
def bigN (x : Nd) : Bool := decide (300 < x.path.length) || decide (300 < x.data.length)
def greatN (l : List Nd) : Bool := l.any bigN || decide (410 < l.length)
theorem greatN_no {l : List Nd} (h : greatN l = false) : l.length ≤ 410 ∧ ∀ x ∈ l, x.path.length ≤ 300 ∧ x.data.length ≤ 300 := by
  unfold greatN at h
  rw [Bool.or_eq_false_iff] at h
  refine ⟨by simpa using h.2, fun x hx => ?_⟩
  have := List.any_eq_false.1 h.1 x hx
  unfold bigN at this
  simp only [Bool.or_eq_true, decide_eq_true_eq, not_or, Nat.not_lt] at this
  exact this
set_option maxRecDepth 100000 in
set_option maxHeartbeats 8000000 in
theorem greatN_any (l : List Nd) (ad : Option Addr) (c : Nat) (hlen : l.length ≤ maxLen) (w : World) (h : NodesAt w ad l) :
    Calls Tryz.prog 5 #[.slice ad l.length c] w fun e w' => e = .returned (.bool (greatN l)) ∧ w = w' := by
  unfold maxLen at hlen
  obtain ⟨N, hN⟩ : ∃ N, N = l.length := ⟨_, rfl⟩
  have HG : Hid (greatN l = (l.any bigN || decide (410 < N))) := Lib.hid (by rw [hN]; rfl)
  rw [← hN] at hlen ⊢
  have HN := Lib.hid hN
  have HENT := Lib.hid h
  clear hN h
  go_enter Tryz.func5, Tryz.ntmps5
  go_wp2
  go_loop [3] (fun i => ∃ k : Nat, k ≤ N ∧ i = .int .i64 k ∧ Hid ((l.take k).any bigN = false)) (fun i => N - (intOf i).toNat)
  case atStart => exact ⟨0, Nat.zero_le _, rfl, Lib.hid rfl⟩
  case round =>
    obtain ⟨k, hk, rfl, hF⟩ := hrel
    by_cases hlt : k < N
    · have hkl : k < l.length := by rw [← HN.out]; exact hlt
      obtain ⟨a, rfl, hab, hcell⟩ := HENT.out k l[k] (List.getElem?_eq_getElem hkl)
      have HTK : Hid (l.take (k + 1) = l.take k ++ [l[k]]) := Lib.hid (List.take_succ_eq_append_getElem hkl)
      have HMEM : Hid (l[k] ∈ l) := Lib.hid (List.getElem_mem hkl)
      generalize l[k] = x at *
      have c0 : w.cell? (a.add (k * 4)) = some (.string (str x.path)) := by have := hcell 0 _ rfl; rwa [addr_zero] at this
      have c3 : w.cell? ⟨(a.add (k * 4)).block, (a.add (k * 4)).off + 3, none⟩ = some (.string (str x.data)) := by have := hcell 3 _ rfl; rwa [addr_pos _ (by decide)] at this
      have z0 := str_size x.path
      have z3 := str_size x.data
      have g1 : (k : Int) < (N : Int) := by omega
      have HBE : Hid (bigN x = (decide (300 < x.path.length) || decide (300 < x.data.length))) := Lib.hid rfl
      generalize str x.path = S0 at *
      generalize str x.data = S3 at *
      have HNX : Hid (bigN x = false → (l.take (k + 1)).any bigN = false) := Lib.hid fun hb => by rw [HTK.out, List.any_append, hF.out]; simp [hb]
      have HYES : Hid (bigN x = true → greatN l = true) := Lib.hid fun hb => by
        rw [HG.out, List.any_eq_true.2 ⟨x, HMEM.out, hb⟩]; rfl
      clear hcell hab
      by_cases h1 : 300 < x.path.length
      · have HR := Lib.hid (HYES.out (by rw [HBE.out, decide_eq_true h1]; rfl))
        have i1 : (300 : Int) < (S0.size : Int) := by omega
        clear HBE h1 HNX HYES z0 z3
        go_wp2
        go_ret
        exact ⟨by rw [HR.out]; rfl, rfl⟩
      · have i1 : ¬ (300 : Int) < (S0.size : Int) := by omega
        by_cases h4 : 300 < x.data.length
        · have HR := Lib.hid (HYES.out (by rw [HBE.out, decide_eq_true h4]; simp))
          have i4 : (300 : Int) < (S3.size : Int) := by omega
          clear HBE h1 h4 HNX HYES z0 z3
          go_wp2
          go_ret
          exact ⟨by rw [HR.out]; rfl, rfl⟩
        · have i4 : ¬ (300 : Int) < (S3.size : Int) := by omega
          have HNX2 := Lib.hid (HNX.out (by rw [HBE.out, decide_eq_false h1, decide_eq_false h4]; rfl))
          clear HBE h1 h4 HNX HYES z0 z3
          go_wp2
          go_round
          case rel => exact ⟨k + 1, by omega, by go_num, HNX2⟩
          case measure => simp [intOf] <;> omega
    · obtain rfl : k = N := by omega
      have HR : Hid (greatN l = decide (410 < k)) := Lib.hid (by
        have h2 := hF.out
        rw [List.take_of_length_le (by have := HN.out; omega)] at h2
        rw [HG.out, h2, Bool.false_or])
      by_cases hb : 410 < k
      · have i1 : (410 : Int) < (k : Int) := by omega
        rw [decide_eq_true hb] at HR
        clear hb
        go_wp2
        go_ret
        exact ⟨by rw [HR.out]; rfl, rfl⟩
      · have i1 : ¬ (410 : Int) < (k : Int) := by omega
        rw [decide_eq_false hb] at HR
        clear hb
        go_wp2
        go_ret
        exact ⟨by rw [HR.out]; rfl, rfl⟩
set_option maxRecDepth 100000 in
set_option maxHeartbeats 8000000 in
theorem bytesN_any (l : List Nd) (ad : Option Addr) (c : Nat) (hl : l.length ≤ 1000000) (hd : ∀ x ∈ l, x.data.length ≤ 1000000) (w : World) (h : NodesAt w ad l) :
    Calls Tryz.prog 14 #[.slice ad l.length c] w fun e w' => e = .returned (.int .i64 (bytesN l : Int)) ∧ Below w.heap.size w w' := by
  have HN := Lib.hid h
  have HI := Lib.hid info_nd4
  have HX : Hid (∀ i, i < l.length → ∃ x, l[i]? = some x) := Lib.hid fun i hi => ⟨_, List.getElem?_eq_getElem hi⟩
  have HBL := Lib.hid (fun k => bytesN_le hd k)
  have HDL := Lib.hid hd
  obtain ⟨V, hV⟩ : ∃ V, V = bytesN l := ⟨_, rfl⟩
  rw [← hV]
  have HV := Lib.hid hV
  obtain ⟨N, hN⟩ : ∃ N, N = l.length := ⟨_, rfl⟩
  have HNL := Lib.hid hN
  rw [← hN] at hl HX ⊢
  clear h hN hV hd
  go_enter Tryz.func14, Tryz.ntmps14
  go_upto_region 3 with (fail)
  go_loopw [3, 5, 8] (fun s _ i wr => ∃ (k n : Nat), k ≤ N ∧ i = .int .i64 (k : Int) ∧ s = .int .i64 (n : Int) ∧ Hid (n = bytesN (l.take k)) ∧ Hid (Below w.heap.size w wr)) (fun _ _ i _ => N - (intOf i).toNat)
  case atStart => exact ⟨0, 0, Nat.zero_le _, rfl, rfl, Lib.hid rfl, Lib.hid (Below.refl _ _)⟩
  case round =>
    obtain ⟨k, n, hk, rfl, rfl, hs, hB⟩ := hrel
    have hnl : n ≤ k * 1000000 := by rw [hs.out]; exact HBL.out k
    by_cases hlt : k < N
    · obtain ⟨x, hx⟩ := HX.out k hlt
      obtain ⟨ax, rfl, hax, hcx⟩ := HN.out k x hx
      have hdl := HDL.out x (List.mem_of_getElem? hx)
      have g1 : (k : Int) < (N : Int) := by omega
      have HCX : Hid (∀ j u, (ndV x)[j]? = some u → wr.cell? ((ax.add (k * 4)).add j) = some u) := Lib.hid fun j u hu => by
        rw [cell_far hB.out (by rw [add_blk, add_blk]; exact hax)]
        exact hcx j u hu
      have hone := Lib.hid (ndA_one x)
      obtain ⟨W1, hW1⟩ : ∃ W1, W1 = wr.alloc (.cells (ndA x) 32) := ⟨_, rfl⟩
      have HW1 := Lib.hid hW1
      have HB1 : Hid (Below w.heap.size w W1) := Lib.hid (by rw [hW1]; exact hB.out.alloc hB.out.size _)
      have HZ1 : Hid (rowC W1 wr.heap.size (ndA x) 32) := Lib.hid (by rw [hW1]; exact rowC_new wr _ _)
      have q1 : W1.cell? ⟨wr.heap.size, 1, none⟩ = some (.int .i64 x.kind) := rowC_cell HZ1.out 1
      have q3 : W1.cell? ⟨wr.heap.size, 3, none⟩ = some (.string (str x.data)) := rowC_cell HZ1.out 3
      have zd : (str x.data).size = x.data.length := str_size _
      have HST := Lib.hid (bytesN_step hx)
      clear hx hcx hW1
      by_cases hk1 : x.kind = 1
      · rw [if_pos hk1] at HST
        have g2 : (x.kind == (1 : Int)) = true := by rw [hk1]; rfl
        go_wp2_with (first
          | ((with_reducible show wpList _ _ _ (⟨some 11, .load _ _, _, _, _, _⟩ :: _) _ _); refine wpList_load_at rfl 32 _ rfl (ax.add (k * 4)) rfl (ndV x) _ HCX.out Tryz.underlying32 rfl HI.out ?_)
          | ((with_reducible show wpList _ _ _ (⟨none, .store _ (.tmp 5) _, _, _, _, _⟩ :: _) _ _); refine wpList_store_last rfl 32 _ _ rfl wr.heap.size (ndA x) rfl rfl 32 _ rfl HI.out rfl hone.out ?_; rw [← HW1.out])
          | go_in)
        go_roundw
        case rel => exact ⟨k + 1, n + x.data.length, by omega, by go_num, by go_num, Lib.hid (by rw [HST.out, ← hs.out]), HB1⟩
        case measure => simp [intOf] <;> omega
      · rw [if_neg hk1] at HST
        have g2 : (x.kind == (1 : Int)) = false := by simp only [beq_eq_false_iff_ne]; exact hk1
        go_wp2_with (first
          | ((with_reducible show wpList _ _ _ (⟨some 11, .load _ _, _, _, _, _⟩ :: _) _ _); refine wpList_load_at rfl 32 _ rfl (ax.add (k * 4)) rfl (ndV x) _ HCX.out Tryz.underlying32 rfl HI.out ?_)
          | ((with_reducible show wpList _ _ _ (⟨none, .store _ (.tmp 5) _, _, _, _, _⟩ :: _) _ _); refine wpList_store_last rfl 32 _ _ rfl wr.heap.size (ndA x) rfl rfl 32 _ rfl HI.out rfl hone.out ?_; rw [← HW1.out])
          | go_in)
        go_roundw
        case rel => exact ⟨k + 1, n, by omega, by go_num, rfl, Lib.hid (by rw [HST.out, ← hs.out]), HB1⟩
        case measure => simp [intOf] <;> omega
    · obtain rfl : k = N := by omega
      have HE : Hid (n = V) := Lib.hid (by rw [hs.out, HV.out, List.take_of_length_le (by rw [← HNL.out]; omega)])
      clear hs
      go_wp2
      go_ret
      exact ⟨by rw [HE.out]; rfl, hB.out⟩
end Go.Proofs.YtbkpbgcbpakpeaaGreatDoor

