/- Merged: UvB, PtJ. -/
import Derived.Test.YtbkpbgcbpakpeaaGreatDoorM16
import Derived.Test.YtbkpbgcbpakpeaaGreatDoorM25
import Derived.Deep.DeepCutAuto
import Derived.Deep.CutBlock
import Derived.Test.YtbkpbgcbpakpeaaGreatDoorM13
/- Layer 16, the document's own side: Find, may. -/
namespace Go.Proofs.YtbkpbgcbpakpeaaGreatDoor
open Go.RowKit

theorem addr_zeroR (a : Addr) (i : Nat) : (a.add i).add 0 = a.add i := by
  unfold Addr.add
  split <;> simp_all
def rnd0 : Nd := ⟨[], 0, 0, []⟩
def findR (l : List Nd) (p : List UInt8) : Option Nd := l.find? fun n => decide (n.path = p)
theorem findR_skip {l : List Nd} {p : List UInt8} {k : Nat} {x : Nd} (h : ∀ (j : Nat) (y : Nd), j < k → l[j]? = some y → y.path ≠ p) (hx : l[k]? = some x) (hp : x.path = p) : findR l p = some x := by
  unfold findR
  rw [List.find?_eq_some_iff_getElem]
  obtain ⟨hk, he⟩ := List.getElem?_eq_some_iff.1 hx
  refine ⟨by rw [decide_eq_true hp], k, hk, he, fun j hj => ?_⟩
  have := h j _ hj (List.getElem?_eq_getElem (by omega))
  simpa using this
theorem findR_none {l : List Nd} {p : List UInt8} (h : ∀ (j : Nat) (y : Nd), l[j]? = some y → y.path ≠ p) : findR l p = none := by
  unfold findR
  rw [List.find?_eq_none]
  intro x hx
  obtain ⟨i, hi⟩ := List.mem_iff_getElem?.1 hx
  simpa using h i x hi
/-- What the document's Check looks at, node by node. -/
def riseAt (l : List Nd) (i : Nat) (x : Nd) : Bool := decide (i = 0) || (match l[i - 1]? with | some m => bytesBefore m.path x.path | none => false)
def kdOk (o : Option Nd) : Bool := match o with | some m => decide (m.kind = 2) | none => false
def upAt (l : List Nd) (x : Nd) : Bool := decide (parentL x.path = []) || kdOk (findR l (parentL x.path))
def goodAt (l : List Nd) (i : Nat) (x : Nd) : Bool := mayN x && (riseAt l i x && upAt l x)
theorem info_rn4 : (Tryz.prog.info? 35).map (·.size) = some 4 := by kernel_rfl
set_option maxRecDepth 100000 in
set_option maxHeartbeats 4000000 in
theorem rfind_any (l : List Nd) (p : List UInt8) (ad : Option Addr) (c : Nat) (hl : l.length ≤ maxLen) (w : World) (h : NodesAt w ad l) :
    Calls Tryz.prog 11 #[.slice ad l.length c, .string (str p)] w fun e w' => e = .returned (.tuple #[.agg (ndA ((findR l p).getD rnd0)), .bool (findR l p).isSome]) ∧ Below w.heap.size w w' := by
  have HI := Lib.hid info_rn4
  have HN := Lib.hid h
  have hone0 := Lib.hid (ndA_one rnd0)
  have HX : Hid (∀ i, i < l.length → ∃ x, l[i]? = some x) := Lib.hid fun i hi => ⟨_, List.getElem?_eq_getElem hi⟩
  have HLT : Hid (∀ (k : Nat) (x : Nd), l[k]? = some x → k < l.length) := Lib.hid fun k x hx => (List.getElem?_eq_some_iff.1 hx).1
  unfold maxLen at hl
  obtain ⟨N, hN⟩ : ∃ N, N = l.length := ⟨_, rfl⟩
  rw [← hN] at hl HX HLT ⊢
  obtain ⟨W0, hW0⟩ : ∃ W0, W0 = w.alloc (.cells #[.string ⟨#[]⟩, .int .i64 0, .int .i64 0, .string ⟨#[]⟩] 35) := ⟨_, rfl⟩
  have HW0 := Lib.hid hW0
  have HB0 : Hid (Below w.heap.size w W0) := Lib.hid (by rw [hW0]; exact (Below.refl _ _).alloc (Nat.le_refl _) _)
  have HR0 : Hid (rowC W0 w.heap.size (ndA rnd0) 35) := Lib.hid (by rw [hW0]; exact rowC_new w _ _)
  clear h hN hW0
  go_enter Tryz.func11, Tryz.ntmps11
  go_upto_region 1 with (fail)
  rw [← HW0.out]
  go_wp2
  go_loopw [6] (fun i wr => ∃ k : Nat, k ≤ N ∧ i = .int .i64 k ∧ Hid (∀ (j : Nat) (y : Nd), j < k → l[j]? = some y → y.path ≠ p) ∧ Hid (rowC wr w.heap.size (ndA rnd0) 35) ∧ Hid (Below w.heap.size w wr)) (fun i _ => N - (intOf i).toNat)
  case atStart => exact ⟨0, Nat.zero_le _, rfl, Lib.hid (fun j y hj => by omega), HR0, HB0⟩
  case round =>
    obtain ⟨k, hk, rfl, hno, hR, hB⟩ := hrel
    by_cases hlt : k < N
    · obtain ⟨x, hx⟩ := HX.out k hlt
      obtain ⟨ax, rfl, hax, hcx⟩ := HN.out k x hx
      have HCX : Hid (∀ j u, (ndV x)[j]? = some u → wr.cell? ((ax.add (k * 4)).add j) = some u) := Lib.hid fun j u hu => by
        rw [cell_far hB.out (by rw [add_blk, add_blk]; exact hax)]
        exact hcx j u hu
      have qp : wr.cell? (ax.add (k * 4)) = some (.string (str x.path)) := by
        have := HCX.out 0 (.string (str x.path)) rfl
        rwa [addr_zeroR] at this
      have hone := Lib.hid (ndA_one x)
      have g1 : (k : Int) < (N : Int) := by omega
      have q := eq_strs x.path p
      have HHIT := Lib.hid (fun (e : x.path = p) => findR_skip hno.out hx e)
      have HMISS : Hid (x.path ≠ p → ∀ (j : Nat) (y : Nd), j < k + 1 → l[j]? = some y → y.path ≠ p) := Lib.hid fun e j y hj hy => by
        by_cases hjk : j = k
        · subst hjk
          rw [hx] at hy
          cases hy
          exact e
        · exact hno.out j y (by omega) hy
      clear hx hcx
      by_cases he : x.path = p
      · have HR := Lib.hid (HHIT.out he)
        rw [decide_eq_true he] at q
        clear HHIT HMISS he
        go_wp2_with (first
          | ((with_reducible show wpList _ _ _ (⟨some 23, .load _ _, _, _, _, _⟩ :: _) _ _); refine wpList_load_at rfl 35 _ rfl (ax.add (k * 4)) rfl (ndV x) _ HCX.out Tryz.underlying35 rfl HI.out ?_)
          | ((with_reducible show wpList _ _ _ (⟨none, .store _ (.tmp 4) _, _, _, _, _⟩ :: _) _ _); refine wpList_store_row rfl 35 _ _ rfl w.heap.size (ndA x) rfl rfl 35 (ndA rnd0) hR.out HI.out rfl hone.out ?_))
        exact bodyPost_ret (results_row_tmp rfl _ _ w.heap.size 35 (ndA x) _ rfl (rowC_setRow hR.out _) Tryz.underlying35 rfl HI.out (.bool true) rfl) rfl ⟨by rw [HR.out]; rfl, below_setRow hB.out (Nat.le_refl _) _⟩
      · have HNX := Lib.hid (HMISS.out he)
        rw [decide_eq_false he] at q
        clear HHIT HMISS he
        go_wp2
        go_roundw
        case rel => exact ⟨k + 1, by omega, by go_num, HNX, hR, hB⟩
        case measure => simp [intOf] <;> omega
    · obtain rfl : k = N := by omega
      have HR := Lib.hid (findR_none (fun j y hy => hno.out j y (HLT.out j y hy) hy))
      go_wp2_with (first
        | ((with_reducible show wpList _ _ _ (⟨some 24, .build _ _, _, _, _, _⟩ :: _) _ _); refine wpList_build_as rfl 35 _ rfl (ndA rnd0) (by kernel_rfl) ?_)
        | ((with_reducible show wpList _ _ _ (⟨none, .store _ (.tmp 4) _, _, _, _, _⟩ :: _) _ _); refine wpList_store_row rfl 35 _ _ rfl w.heap.size (ndA rnd0) rfl rfl 35 (ndA rnd0) hR.out HI.out rfl hone0.out ?_))
      exact bodyPost_ret (results_row_tmp rfl _ _ w.heap.size 35 (ndA rnd0) _ rfl (rowC_setRow hR.out _) Tryz.underlying35 rfl HI.out (.bool false) rfl) rfl ⟨by rw [HR.out]; rfl, below_setRow hB.out (Nat.le_refl _) _⟩
end Go.Proofs.YtbkpbgcbpakpeaaGreatDoor

/- Layer 14: the document's Clean. -/
namespace Go.Proofs.YtbkpbgcbpakpeaaGreatDoor
open Go.RowKit

theorem strsV_length (l : List (List UInt8)) : (strsV l).length = l.length := by simp [strsV]
theorem OwnsS.below {w w' : World} {base : Nat} {v : Value} {l : List (List UInt8)} (h : OwnsS w base v l) (hb : Below w.heap.size w w') : OwnsS w' base v l :=
  World.ownsRow.kept h (row := none) ⟨hb.os, hb.tape, hb.output, hb.size, fun k hk _ => hb.block k hk⟩ (by cases hv : v.ownBlock <;> simp)
theorem take_succ_at (L : List (List UInt8)) {k : Nat} (h : k < L.length) : L.take (k + 1) = L.take k ++ [L.getD k []] := by
  rw [List.take_succ_eq_append_getElem h, List.getD_eq_getElem?_getD, List.getElem?_eq_getElem h]
  rfl
theorem fold_take_len (L : List (List UInt8)) : ∀ (k : Nat) {l : List (List UInt8)}, foldP (L.take k) = some l → l.length ≤ k := by
  intro k
  induction k with
  | zero =>
    intro l h
    rw [List.take_zero] at h
    cases h
    exact Nat.le_refl _
  | succ k ih =>
    intro l h
    by_cases hk : k < L.length
    · rw [take_succ_at L hk, foldP_snoc] at h
      cases e : foldP (L.take k) with
      | none => rw [e] at h; cases h
      | some m =>
        rw [e] at h
        have := ih e
        have := step_len h
        omega
    · rw [List.take_of_length_le (by omega)] at h
      have := ih (by rw [List.take_of_length_le (by omega)]; exact h)
      omega
theorem news_rd {w : World} {g : Nat} {l : List (List UInt8)} (h : RdS w (some ⟨g, 0, none⟩) l) : ∀ j u, (strsV l)[j]? = some u → w.cell? ((⟨g, 0, none⟩ : Addr).add j) = some u := by
  intro j u hu
  have hadd : (⟨g, 0, none⟩ : Addr).add j = ⟨g, j, none⟩ := by unfold Addr.add; split <;> simp_all
  unfold strsV at hu
  rw [List.getElem?_map] at hu
  obtain ⟨z, hz, rfl⟩ := Option.map_eq_some_iff.1 hu
  obtain ⟨g', hg', _, hc⟩ := h j (List.getElem?_eq_some_iff.1 hz).1
  cases hg'
  rw [hadd, hc, List.getD_eq_getElem?_getD, hz]
  rfl
theorem strs_one (l : List (List UInt8)) : ∀ u ∈ strsV l, u.oneCell' = true := by
  intro u hu
  obtain ⟨x, _, rfl⟩ := List.mem_map.1 hu
  rfl
set_option maxRecDepth 100000 in
set_option maxHeartbeats 4000000 in
theorem rclean_any (s : List UInt8) (hl : s.length ≤ 900000) (w : World) :
    Calls Tryz.prog 49 #[.string (str s)] w fun e w' => e = .returned (.tuple #[.string (str (cleanL s).1), .int .i64 (cleanL s).2]) ∧ Below w.heap.size w w' := by
  have HV := Lib.hid (show cleanL s = cleanR (foldP (cutL s 47)) from rfl)
  obtain ⟨L, hL⟩ : ∃ L, L = cutL s 47 := ⟨_, rfl⟩
  have HLE := Lib.hid (show L.length ≤ 900001 by have := cutL_le s 47; rw [hL]; omega)
  have HPC := Lib.hid (show ∀ k, (L.getD k []).length ≤ 900000 from fun k => by rw [hL]; exact Nat.le_trans (cutL_getD_le s 47 k) hl)
  have HFL := Lib.hid (show ∀ l, foldP L = some l → (joinL l).length ≤ 900001 from fun l h => by rw [hL] at h; have := foldP_len h; omega)
  have CP := fun w => parts_any (str s) w (by rw [str_size]; omega)
  rw [show (str s).data.toList = s from rfl] at CP
  rw [← hL] at HV CP
  have HPOS := Lib.hid (show 0 < L.length by rw [hL]; exact cutL_pos s 47)
  clear hL
  obtain ⟨i0, hi, hz0, hz1, hz2⟩ := info_parts info_string
  go_enter Tryz.func49, Tryz.ntmps49
  go_wp2_with (go_at_call 50; ((with_reducible refine (CP _).mono ?_); rintro e w1 ⟨v, rfl, hO, hB⟩; obtain ⟨a, cap, rfl⟩ := hO.form))
  have HRD := Lib.hid hO.rd
  have HB := Lib.hid hB
  obtain ⟨N, hN⟩ : ∃ N, N = L.length := ⟨_, rfl⟩
  have HN := Lib.hid hN
  rw [← hN]
  clear hO hB hN
  go_loopw [5, 6] (fun t v wr => ∃ (k : Nat) (l : List (List UInt8)), k ≤ N ∧ v = .int .i64 k ∧ Hid (foldP (L.take k) = some l) ∧ Hid (OwnsS wr w1.heap.size t l) ∧ Hid (Below w1.heap.size w1 wr)) (fun _ v _ => N - (intOf v).toNat)
  case atStart => exact ⟨0, [], Nat.zero_le _, rfl, Lib.hid rfl, Lib.hid (World.ownsRow_nil _ _ _ _), Lib.hid (Below.refl _ _)⟩
  case round =>
    obtain ⟨k, l, hk, rfl, hf, hO, hB1⟩ := hrel
    obtain ⟨a1, cap1, rfl⟩ := hO.out.form
    by_cases hlt : k < N
    · have g1 : (k : Int) < (N : Int) := by omega
      have hN1 : N ≤ 900001 := by have := HLE.out; have := HN.out; omega
      have hll := fold_take_len L k hf.out
      have HT := Lib.hid (show foldP (L.take (k + 1)) = stepP (some l) (L.getD k []) by rw [take_succ_at L (by have := HN.out; omega), foldP_snoc, hf.out])
      obtain ⟨g, rfl, hg, e1⟩ := (HRD.out.below hB1.out) k (by have := HN.out; omega)
      have hx := HPC.out k
      obtain ⟨x, hxx⟩ : ∃ x, x = L.getD k [] := ⟨_, rfl⟩
      rw [← hxx] at e1 HT hx
      have HS : Hid (stepP (some l) x = if x = [] ∨ x = [46] then some l else if x = [46, 46] then (if l = [] then none else some l.dropLast) else if (0 : UInt8) ∈ x then none else some (l ++ [x])) := Lib.hid rfl
      have q1 : (str x).toList.isEmpty = decide (x = []) := empty_lit x
      have q2 : ((str x).toList == [46]) = decide (x = [46]) := eq_lit x [46]
      have q3 : ((str x).toList == [46, 46]) = decide (x = [46, 46]) := eq_lit x [46, 46]
      have CN := fun w => nought_any (str x) w (by rw [str_size]; omega)
      rw [show (str x).data.toList = x from rfl] at CN
      clear hxx
      by_cases h1 : x = []
      · rw [decide_eq_true h1] at q1
        have HV2 := Lib.hid (show foldP (L.take (k + 1)) = some l by rw [HT.out, HS.out, if_pos (.inl h1)])
        clear h1 CN HT HS
        go_wp2
        go_roundw
        case rel => exact ⟨k + 1, l, by omega, by go_num, HV2, hO, hB1⟩
        case measure => simp [intOf]; omega
      rw [decide_eq_false h1] at q1
      by_cases h2 : x = [46]
      · rw [decide_eq_true h2] at q2
        have HV2 := Lib.hid (show foldP (L.take (k + 1)) = some l by rw [HT.out, HS.out, if_pos (.inr h2)])
        clear h1 h2 CN HT HS
        go_wp2
        go_roundw
        case rel => exact ⟨k + 1, l, by omega, by go_num, HV2, hO, hB1⟩
        case measure => simp [intOf]; omega
      rw [decide_eq_false h2] at q2
      have h12 : ¬ (x = [] ∨ x = [46]) := by rintro (h | h); exact h1 h; exact h2 h
      have HNO := Lib.hid (fun (hn : foldP (L.take (k + 1)) = none) => show cleanL s = ([], 71) by rw [HV.out, foldP_pre (List.take_prefix (k + 1) L) hn]; rfl)
      by_cases h4 : (0 : UInt8) ∈ x
      · have h3 : x ≠ [46, 46] := by rintro rfl; revert h4; decide
        have HR := Lib.hid (HNO.out (by rw [HT.out, HS.out, if_neg h12, if_neg h3, if_pos h4]))
        rw [decide_eq_true h4] at CN
        rw [decide_eq_false h3] at q3
        clear h1 h2 h3 h4 h12 HT HS HNO
        go_wp2_with (go_at_call 65; ((with_reducible refine (CN _).mono ?_); rintro e w2 ⟨rfl, rfl⟩))
        go_ret2
        exact ⟨ret2si (by rw [HR.out]; rfl) (by rw [HR.out]), HB.out.trans (hB1.out.mono HB.out.size)⟩
      rw [decide_eq_false h4] at CN
      by_cases h3 : x = [46, 46]
      · rw [decide_eq_true h3] at q3
        by_cases h0 : l = []
        · have HR := Lib.hid (HNO.out (by rw [HT.out, HS.out, if_neg h12, if_pos h3, if_pos h0]))
          subst h0
          clear h1 h2 h3 h4 h12 HT HS HNO
          go_wp2_with (go_at_call 65; ((with_reducible refine (CN _).mono ?_); rintro e w2 ⟨rfl, rfl⟩))
          go_ret2
          exact ⟨ret2si (by rw [HR.out]; rfl) (by rw [HR.out]), HB.out.trans (hB1.out.mono HB.out.size)⟩
        · have HV2 := Lib.hid (show foldP (L.take (k + 1)) = some l.dropLast by rw [HT.out, HS.out, if_neg h12, if_pos h3, if_neg h0])
          obtain ⟨M, hM⟩ : ∃ M, l.length = M + 1 := ⟨l.length - 1, by have := List.length_pos_iff.2 h0; omega⟩
          have HM := Lib.hid hM
          rw [hM] at hO hll ⊢
          obtain ⟨g1', ha1, _, _⟩ := hO.out.at (k := 0) (by have := HM.out; omega)
          subst ha1
          have HN1 := Lib.hid (news_rd hO.out.rd.front)
          have HDL := Lib.hid (show l.dropLast.length = M by rw [List.length_dropLast]; omega)
          have c1 : (M : Int) ≤ (cap1 : Int) := by
            rcases hO.out.2 with ⟨h6, _⟩ | ⟨_, _, _, h6, _, _, h7, _⟩
            · cases h6
            · simp only [Value.slice.injEq] at h6
              obtain ⟨_, h8, h9⟩ := h6
              have := HM.out
              omega
          have hm1 : M ≤ 1000000 := by omega
          clear h0 h1 h2 h3 h4 h12 HT HS HNO hM
          go_wp2_with (first
            | (go_at_call 65; ((with_reducible refine (CN _).mono ?_); rintro e w2 ⟨rfl, rfl⟩))
            | ((with_reducible show wpList _ _ _ (⟨some 55, _, _, _, _, _⟩ :: _) _ _); refine wpList_append_own _ rfl (.const (.slice none 0 0)) (.tmp 54) 92 rfl w1.heap.size 9 i0 (.string ⟨#[]⟩) 1 16 Tryz.underlying92 hi hz0 hz1 hz2 rfl (by decide) (.slice none 0 0) 0 [] rfl (World.ownsRow_nil _ _ _ _) ⟨g1', 0, none⟩ M cap1 (strsV l.dropLast) rfl (by rw [strsV_length, HDL.out, Nat.mul_one]) HN1.out (strs_one _) (by unfold maxLen; omega) (by omega) hB1.out.size ?_; intro v' w6 hown6 hgrow6 _; simp only [Nat.zero_add, List.nil_append] at hown6; obtain ⟨a6, cap6, rfl⟩ := owns_form hown6; have HO6 := Lib.hid hown6; have HB6 := Lib.hid (hB1.out.grown hgrow6 hB1.out.size (fun j hj => (by cases hj))); clear hown6 hgrow6))
          go_roundw
          case rel => exact ⟨k + 1, l.dropLast, by omega, by go_num, HV2, Lib.hid (show World.ownsRow _ _ _ _ _ _ _ by rw [HDL.out]; exact HO6.out), HB6⟩
          case measure => simp [intOf]; omega
      · rw [decide_eq_false h3] at q3
        have HV2 := Lib.hid (show foldP (L.take (k + 1)) = some (l ++ [x]) by rw [HT.out, HS.out, if_neg h12, if_neg h3, if_neg h4])
        obtain ⟨M, hM⟩ : ∃ M, l.length = M := ⟨_, rfl⟩
        have HM := Lib.hid hM
        rw [hM] at hO hll ⊢
        have HO1 := Lib.hid (show World.ownsRow wr w1.heap.size 9 1 (.slice a1 M cap1) M (strsV l) from by have h5 := hO.out; unfold OwnsS at h5; rw [hM] at h5; exact h5)
        have hm1 : M ≤ 1000000 := by omega
        clear h1 h2 h3 h4 h12 HT HS HNO hM
        go_wp2_with (first
          | (go_at_call 65; ((with_reducible refine (CN _).mono ?_); rintro e w2 ⟨rfl, rfl⟩))
          | ((with_reducible show wpList _ _ _ (⟨some 62, _, _, _, _, _⟩ :: _) _ _); refine wpList_append_own _ rfl (.tmp 56) (.tmp 61) 92 rfl w1.heap.size 9 i0 (.string ⟨#[]⟩) 1 16 Tryz.underlying92 hi hz0 hz1 hz2 rfl (by decide) (.slice a1 M cap1) M (strsV l) rfl (World.ownsRow.alloc HO1.out _) _ 1 1 [.string (str x)] rfl rfl (World.news_of_block (heap_alloc_new _ _)) (by intro u hu; simp at hu; subst hu; rfl) (by unfold maxLen; omega) (by omega) (by rw [size_alloc]; have := hB1.out.size; omega) ?_; intro v' w6 hown6 hgrow6 _; obtain ⟨a6, cap6, rfl⟩ := owns_form hown6; have HO6 := Lib.hid hown6; have HB6 := Lib.hid ((hB1.out.alloc hB1.out.size _).grown hgrow6 (by rw [size_alloc]; have := hB1.out.size; omega) (fun j hj => (HO1.out.lt j hj).1)); clear hown6 hgrow6))
        go_roundw
        case rel => exact ⟨k + 1, l ++ [x], by omega, by go_num, HV2, Lib.hid (show World.ownsRow _ _ _ _ _ _ _ by rw [List.length_append, HM.out, strsV, List.map_append]; exact HO6.out), HB6⟩
        case measure => simp [intOf]; omega
    · have HF := Lib.hid (show foldP L = some l by have := hf.out; rwa [List.take_of_length_le (by have := HN.out; omega)] at this)
      have HRR := Lib.hid (show cleanL s = if 200 < (joinL l).length then ([], 3) else (joinL l, 0) by rw [HV.out, HF.out]; rfl)
      have hjl := HFL.out l HF.out
      have hll := fold_take_len L k hf.out
      have hN1 : N ≤ 900001 := by have := HLE.out; have := HN.out; omega
      have CJ := joined_any a1 cap1 l wr hO.out.rd (by omega) (by omega)
      have HBF := Lib.hid (HB.out.trans (hB1.out.mono HB.out.size))
      clear hf hO hB1
      generalize l.length = n at *
      generalize joinL l = r at *
      have zr := str_size r
      by_cases h2 : 200 < r.length
      · have HR := Lib.hid (show cleanL s = ([], 3) by rw [HRR.out, if_pos h2])
        have g2 : (200 : Int) < (r.length : Int) := by omega
        clear h2
        go_wp2_with (go_at_call 51; ((with_reducible refine CJ.mono ?_); rintro e w2 ⟨rfl, rfl⟩))
        go_ret2
        exact ⟨ret2si (by rw [HR.out]; rfl) (by rw [HR.out]), HBF.out⟩
      · have HR := Lib.hid (show cleanL s = (r, 0) by rw [HRR.out, if_neg h2])
        have g2 : ¬ ((200 : Int) < (r.length : Int)) := by omega
        clear h2
        go_wp2_with (go_at_call 51; ((with_reducible refine CJ.mono ?_); rintro e w2 ⟨rfl, rfl⟩))
        go_ret2
        exact ⟨ret2si (by rw [HR.out]) (by rw [HR.out]), HBF.out⟩
end Go.Proofs.YtbkpbgcbpakpeaaGreatDoor

