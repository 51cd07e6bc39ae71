/- Merged: PtO, UvB. -/
import Derived.Test.YtoallfcpnbhhiaaGreatDoorM12
import Derived.Test.YtoallfcpnbhhiaaGreatDoorM15
import Derived.Deep.DeepCutAuto
import Derived.Deep.CutBlock
/- Layer 14: the document's Parent, Base, Join, Inside; the chapter's paths. -/
namespace Go.Proofs.YtoallfcpnbhhiaaGreatDoor
open Go.RowKit

theorem owns_capC {w : World} {base : Nat} {a : Option Addr} {n cap : Nat} {l : List (List UInt8)} (h : OwnsS w base (.slice a n cap) l) : n = l.length ∧ n ≤ cap := by
  rcases h.2 with ⟨h6, h7⟩ | ⟨_, _, _, h6, _, _, h7, _⟩
  · simp only [Value.slice.injEq] at h6
    omega
  · simp only [Value.slice.injEq] at h6
    omega
/-- Parts, as their callers meet them. -/
theorem parts_at (s : List UInt8) (hl : s.length ≤ 900000) (M : Nat) (hM : (cutL s 47).length = M + 1) (w : World) :
    Calls Tryz.prog 50 #[.string (str s)] w fun e w' => ∃ g cap, e = .returned (.slice (some ⟨g, 0, none⟩) (M + 1) cap) ∧ (M : Int) ≤ (cap : Int) ∧ RdS w' (some ⟨g, 0, none⟩) (cutL s 47) ∧ w'.cell? ⟨g, M, none⟩ = some (.string (str ((cutL s 47).getD M []))) ∧ Below w.heap.size w w' := by
  have CP := parts_any (str s) w (by rw [str_size]; omega)
  rw [show (str s).data.toList = s from rfl] at CP
  refine CP.mono ?_
  rintro e w1 ⟨v, rfl, hO, hB⟩
  obtain ⟨a, cap, rfl⟩ := hO.form
  obtain ⟨g, rfl, _, e1⟩ := hO.at (k := M) (by omega)
  have hcp := (owns_capC hO).2
  exact ⟨g, cap, by rw [hM], by omega, hO.rd, e1, hB⟩
theorem rparent_any (s : List UInt8) (hl : s.length ≤ 900000) (w : World) :
    Calls Tryz.prog 32 #[.string (str s)] w fun e w' => e = .returned (.string (str (parentL s))) ∧ Below w.heap.size w w' := by
  have HLE : (cutL s 47).length ≤ 900001 := by have := cutL_le s 47; omega
  have hpos := cutL_pos s 47
  obtain ⟨M, hM⟩ : ∃ M, (cutL s 47).length = M + 1 := ⟨(cutL s 47).length - 1, by omega⟩
  have CP := fun w => parts_at s hl M hM w
  have hD : (cutL s 47).dropLast.length = M := by rw [List.length_dropLast]; omega
  have CJ0 := Lib.hid (fun (w1 : World) (g cap : Nat) (hr : RdS w1 (some ⟨g, 0, none⟩) (cutL s 47)) => hD ▸ joined_any (some ⟨g, 0, none⟩) cap (cutL s 47).dropLast w1 hr.front (by rw [hD]; omega) (Nat.le_trans (parent_le s) (by omega)))
  have hm : M ≤ 900000 := by omega
  clear hD hM hpos HLE
  go_enter Tryz.func32, Tryz.ntmps32
  go_wp2_with (first
    | (go_at_call 50; refine (CP _).mono ?_; rintro e w1 ⟨g, cap, rfl, c1, hr, _, hB⟩; have CJ := CJ0.out w1 g cap hr; clear hr)
    | (go_at_call 51; refine CJ.mono ?_; rintro e w2 ⟨rfl, rfl⟩))
  go_ret
  exact ⟨rfl, hB⟩
end Go.Proofs.YtoallfcpnbhhiaaGreatDoor

/- Layer 16, the document's own side: Find, may. -/
namespace Go.Proofs.YtoallfcpnbhhiaaGreatDoor
open Go.RowKit

theorem addr_zeroR (a : Addr) (i : Nat) : (a.add i).add 0 = a.add i := by
  unfold Addr.add
  split <;> simp_all
def rnd0 : Nd := ⟨[], 0, 0, []⟩
def findR (l : List Nd) (p : List UInt8) : Option Nd := l.find? fun n => decide (n.path = p)
theorem findR_skip {l : List Nd} {p : List UInt8} {k : Nat} {x : Nd} (h : ∀ (j : Nat) (y : Nd), j < k → l[j]? = some y → y.path ≠ p) (hx : l[k]? = some x) (hp : x.path = p) : findR l p = some x := by
  unfold findR
  rw [List.find?_eq_some_iff_getElem]
  obtain ⟨hk, he⟩ := List.getElem?_eq_some_iff.1 hx
  refine ⟨by rw [decide_eq_true hp], k, hk, he, fun j hj => ?_⟩
  have := h j _ hj (List.getElem?_eq_getElem (by omega))
  simpa using this
theorem findR_none {l : List Nd} {p : List UInt8} (h : ∀ (j : Nat) (y : Nd), l[j]? = some y → y.path ≠ p) : findR l p = none := by
  unfold findR
  rw [List.find?_eq_none]
  intro x hx
  obtain ⟨i, hi⟩ := List.mem_iff_getElem?.1 hx
  simpa using h i x hi
/-- What the document's Check looks at, node by node. -/
def riseAt (l : List Nd) (i : Nat) (x : Nd) : Bool := decide (i = 0) || (match l[i - 1]? with | some m => bytesBefore m.path x.path | none => false)
def kdOk (o : Option Nd) : Bool := match o with | some m => decide (m.kind = 2) | none => false
def upAt (l : List Nd) (x : Nd) : Bool := decide (parentL x.path = []) || kdOk (findR l (parentL x.path))
def goodAt (l : List Nd) (i : Nat) (x : Nd) : Bool := mayN x && (riseAt l i x && upAt l x)
theorem info_rn4 : (Tryz.prog.info? 35).map (·.size) = some 4 := by kernel_rfl
set_option maxRecDepth 100000 in
set_option maxHeartbeats 4000000 in
theorem rfind_any (l : List Nd) (p : List UInt8) (ad : Option Addr) (c : Nat) (hl : l.length ≤ maxLen) (w : World) (h : NodesAt w ad l) :
    Calls Tryz.prog 11 #[.slice ad l.length c, .string (str p)] w fun e w' => e = .returned (.tuple #[.agg (ndA ((findR l p).getD rnd0)), .bool (findR l p).isSome]) ∧ Below w.heap.size w w' := by
  have HI := Lib.hid info_rn4
  have HN := Lib.hid h
  have hone0 := Lib.hid (ndA_one rnd0)
  have HX : Hid (∀ i, i < l.length → ∃ x, l[i]? = some x) := Lib.hid fun i hi => ⟨_, List.getElem?_eq_getElem hi⟩
  have HLT : Hid (∀ (k : Nat) (x : Nd), l[k]? = some x → k < l.length) := Lib.hid fun k x hx => (List.getElem?_eq_some_iff.1 hx).1
  unfold maxLen at hl
  obtain ⟨N, hN⟩ : ∃ N, N = l.length := ⟨_, rfl⟩
  rw [← hN] at hl HX HLT ⊢
  obtain ⟨W0, hW0⟩ : ∃ W0, W0 = w.alloc (.cells #[.string ⟨#[]⟩, .int .i64 0, .int .i64 0, .string ⟨#[]⟩] 35) := ⟨_, rfl⟩
  have HW0 := Lib.hid hW0
  have HB0 : Hid (Below w.heap.size w W0) := Lib.hid (by rw [hW0]; exact (Below.refl _ _).alloc (Nat.le_refl _) _)
  have HR0 : Hid (rowC W0 w.heap.size (ndA rnd0) 35) := Lib.hid (by rw [hW0]; exact rowC_new w _ _)
  clear h hN hW0
  go_enter Tryz.func11, Tryz.ntmps11
  go_upto_region 1 with (fail)
  rw [← HW0.out]
  go_wp2
  go_loopw [6] (fun i wr => ∃ k : Nat, k ≤ N ∧ i = .int .i64 k ∧ Hid (∀ (j : Nat) (y : Nd), j < k → l[j]? = some y → y.path ≠ p) ∧ Hid (rowC wr w.heap.size (ndA rnd0) 35) ∧ Hid (Below w.heap.size w wr)) (fun i _ => N - (intOf i).toNat)
  case atStart => exact ⟨0, Nat.zero_le _, rfl, Lib.hid (fun j y hj => by omega), HR0, HB0⟩
  case round =>
    obtain ⟨k, hk, rfl, hno, hR, hB⟩ := hrel
    by_cases hlt : k < N
    · obtain ⟨x, hx⟩ := HX.out k hlt
      obtain ⟨ax, rfl, hax, hcx⟩ := HN.out k x hx
      have HCX : Hid (∀ j u, (ndV x)[j]? = some u → wr.cell? ((ax.add (k * 4)).add j) = some u) := Lib.hid fun j u hu => by
        rw [cell_far hB.out (by rw [add_blk, add_blk]; exact hax)]
        exact hcx j u hu
      have qp : wr.cell? (ax.add (k * 4)) = some (.string (str x.path)) := by
        have := HCX.out 0 (.string (str x.path)) rfl
        rwa [addr_zeroR] at this
      have hone := Lib.hid (ndA_one x)
      have g1 : (k : Int) < (N : Int) := by omega
      have q := eq_strs x.path p
      have HHIT := Lib.hid (fun (e : x.path = p) => findR_skip hno.out hx e)
      have HMISS : Hid (x.path ≠ p → ∀ (j : Nat) (y : Nd), j < k + 1 → l[j]? = some y → y.path ≠ p) := Lib.hid fun e j y hj hy => by
        by_cases hjk : j = k
        · subst hjk
          rw [hx] at hy
          cases hy
          exact e
        · exact hno.out j y (by omega) hy
      clear hx hcx
      by_cases he : x.path = p
      · have HR := Lib.hid (HHIT.out he)
        rw [decide_eq_true he] at q
        clear HHIT HMISS he
        go_wp2_with (first
          | ((with_reducible show wpList _ _ _ (⟨some 23, .load _ _, _, _, _, _⟩ :: _) _ _); refine wpList_load_at rfl 35 _ rfl (ax.add (k * 4)) rfl (ndV x) _ HCX.out Tryz.underlying35 rfl HI.out ?_)
          | ((with_reducible show wpList _ _ _ (⟨none, .store _ (.tmp 4) _, _, _, _, _⟩ :: _) _ _); refine wpList_store_row rfl 35 _ _ rfl w.heap.size (ndA x) rfl rfl 35 (ndA rnd0) hR.out HI.out rfl hone.out ?_))
        exact bodyPost_ret (results_row_tmp rfl _ _ w.heap.size 35 (ndA x) _ rfl (rowC_setRow hR.out _) Tryz.underlying35 rfl HI.out (.bool true) rfl) rfl ⟨by rw [HR.out]; rfl, below_setRow hB.out (Nat.le_refl _) _⟩
      · have HNX := Lib.hid (HMISS.out he)
        rw [decide_eq_false he] at q
        clear HHIT HMISS he
        go_wp2
        go_roundw
        case rel => exact ⟨k + 1, by omega, by go_num, HNX, hR, hB⟩
        case measure => simp [intOf] <;> omega
    · obtain rfl : k = N := by omega
      have HR := Lib.hid (findR_none (fun j y hy => hno.out j y (HLT.out j y hy) hy))
      go_wp2_with (first
        | ((with_reducible show wpList _ _ _ (⟨some 24, .build _ _, _, _, _, _⟩ :: _) _ _); refine wpList_build_as rfl 35 _ rfl (ndA rnd0) (by kernel_rfl) ?_)
        | ((with_reducible show wpList _ _ _ (⟨none, .store _ (.tmp 4) _, _, _, _, _⟩ :: _) _ _); refine wpList_store_row rfl 35 _ _ rfl w.heap.size (ndA rnd0) rfl rfl 35 (ndA rnd0) hR.out HI.out rfl hone0.out ?_))
      exact bodyPost_ret (results_row_tmp rfl _ _ w.heap.size 35 (ndA rnd0) _ rfl (rowC_setRow hR.out _) Tryz.underlying35 rfl HI.out (.bool false) rfl) rfl ⟨by rw [HR.out]; rfl, below_setRow hB.out (Nat.le_refl _) _⟩
end Go.Proofs.YtoallfcpnbhhiaaGreatDoor

