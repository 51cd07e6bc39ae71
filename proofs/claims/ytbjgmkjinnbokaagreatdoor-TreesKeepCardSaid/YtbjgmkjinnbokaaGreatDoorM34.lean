/- Merged: VkD, UvN. -/
import Derived.Test.YtbjgmkjinnbokaaGreatDoorM33
import Derived.Test.YtbjgmkjinnbokaaGreatDoorM24
import Derived.Test.YtbjgmkjinnbokaaGreatDoorM31
import Derived.Test.YtbjgmkjinnbokaaGreatDoorRows
import Derived.ProofKit
import Derived.LaidMore
import Derived.LaidLaws
import Derived.LaidHandle
import Derived.Lib.LaidU8T
import Derived.OpenShut
import Derived.Stop.Joined
import Derived.Sort.BigQuietIn
import Derived.ChangeArms
import Derived.Deep.Slices
import Derived.Deep.Fields
import Derived.ChangeSame
/- Layer 16: the law's Great and plain. -/
namespace Go.Proofs.YtbjgmkjinnbokaaGreatDoor
open Go.RowKit
attribute [local go_sem] wide_fn round_fn

/-- No more than is gone through. -/
def FewE (l : List En) (m : Nat) : Prop := l.length ≤ m ∧ ∀ y ∈ l, y.name.length ≤ 300 ∧ y.to.length ≤ 300 ∧ y.data.length ≤ 300
open Classical in
noncomputable def grE (l : List En) (m : Nat) : Bool := !decide (FewE l m)
open Classical in
noncomputable def plE (l : List En) : Bool := decide (PlainE l)
def GrB (l : List En) (m : Nat) (e : Ending) : Prop := e = .returned (.bool (grE l m))
theorem GrB.yes {l : List En} {m : Nat} (h : ¬ FewE l m) : GrB l m (.returned (.bool true)) := by
  unfold GrB grE
  simp [h]
theorem GrB.no {l : List En} {m : Nat} (h : l.length ≤ m) (h2 : ∀ y ∈ l, y.name.length ≤ 300 ∧ y.to.length ≤ 300 ∧ y.data.length ≤ 300) : GrB l m (.returned (.bool false)) := by
  have : FewE l m := ⟨h, h2⟩
  unfold GrB grE
  simp [this]
theorem grE_no {l : List En} {m : Nat} (h : grE l m = false) : FewE l m := by
  unfold grE at h
  simpa using h
def PlB (l : List En) (e : Ending) : Prop := e = .returned (.bool (plE l))
theorem PlB.no {l : List En} (h : ¬ PlainE l) : PlB l (.returned (.bool false)) := by
  unfold PlB plE
  simp [h]
theorem PlB.yes {l : List En} (h : PlainE l) : PlB l (.returned (.bool true)) := by
  unfold PlB plE
  simp [h]
theorem plE_yes {l : List En} (h : plE l = true) : PlainE l := by
  unfold plE at h
  simpa using h
theorem not_pair {l : List En} {i k : Nat} {x z : En} (hi : l[i]? = some z) (hk : l[k]? = some x) (hik : i ≠ k) (h : z.kind = 1 ∨ x.kind = 1) : ¬ PlainE l := fun hp => by
  have h1 := (List.getElem?_eq_some_iff.1 hi).1
  have h2 := (List.getElem?_eq_some_iff.1 hk).1
  rcases hp.o with h3 | h3
  · omega
  · have h4 := h3 z (List.mem_of_getElem? hi)
    have h5 := h3 x (List.mem_of_getElem? hk)
    omega
set_option maxRecDepth 100000 in
set_option maxHeartbeats 8000000 in
theorem great_any (l : List En) (ad : Option Addr) (c m : Nat) (hlen : l.length ≤ maxLen) (w : World) (h : EnsAt w ad l) :
    Calls Tryz.prog 5 #[.slice ad l.length c, .int .i64 (m : Int)] w fun e w' => GrB l m e ∧ w = w' := by
  unfold maxLen at hlen
  obtain ⟨N, hN⟩ : ∃ N, N = l.length := ⟨_, rfl⟩
  rw [← hN] at hlen ⊢
  have HN := Lib.hid hN
  have HENT := Lib.hid h
  clear hN h
  go_enter Tryz.func5, Tryz.ntmps5
  go_wp2
  go_loop [5] (fun i => ∃ k : Nat, k ≤ N ∧ i = .int .i64 k ∧ Hid (∀ y ∈ l.take k, y.name.length ≤ 300 ∧ y.to.length ≤ 300 ∧ y.data.length ≤ 300)) (fun i => N - (intOf i).toNat)
  case atStart => exact ⟨0, Nat.zero_le _, rfl, Lib.hid (fun y hy => by simp at hy)⟩
  case round =>
    obtain ⟨k, hk, rfl, hF⟩ := hrel
    by_cases hlt : k < N
    · have hkl : k < l.length := by rw [← HN.out]; exact hlt
      obtain ⟨a, rfl, hab, hcell⟩ := HENT.out k l[k] (List.getElem?_eq_getElem hkl)
      have HTK : Hid (l.take (k + 1) = l.take k ++ [l[k]]) := Lib.hid (List.take_succ_eq_append_getElem hkl)
      have HMEM : Hid (l[k] ∈ l) := Lib.hid (List.getElem_mem hkl)
      generalize l[k] = x at *
      have c1 : w.cell? ⟨(a.add (k * 5)).block, (a.add (k * 5)).off + 1, none⟩ = some (.string (str x.name)) := by have := hcell 1 _ rfl; rwa [addr_pos _ (by decide)] at this
      have c2 : w.cell? ⟨(a.add (k * 5)).block, (a.add (k * 5)).off + 2, none⟩ = some (.string (str x.to)) := by have := hcell 2 _ rfl; rwa [addr_pos _ (by decide)] at this
      have c4 : w.cell? ⟨(a.add (k * 5)).block, (a.add (k * 5)).off + 4, none⟩ = some (.string (str x.data)) := by have := hcell 4 _ rfl; rwa [addr_pos _ (by decide)] at this
      have z1 := str_size x.name
      have z2 := str_size x.to
      have z4 := str_size x.data
      have g1 : (k : Int) < (N : Int) := by omega
      generalize str x.name = S1 at *
      generalize str x.to = S2 at *
      generalize str x.data = S4 at *
      clear hcell hab
      by_cases h1 : 300 < x.name.length
      · have i1 : (300 : Int) < (S1.size : Int) := by omega
        have HNO : Hid (¬ FewE l m) := Lib.hid fun hf => by have := hf.2 x HMEM.out; omega
        clear h1 z1 z2 z4
        go_wp2
        go_ret
        exact ⟨GrB.yes HNO.out, rfl⟩
      · have i1 : ¬ (300 : Int) < (S1.size : Int) := by omega
        by_cases h2 : 300 < x.to.length
        · have i2 : (300 : Int) < (S2.size : Int) := by omega
          have HNO : Hid (¬ FewE l m) := Lib.hid fun hf => by have := hf.2 x HMEM.out; omega
          clear h1 h2 z1 z2 z4
          go_wp2
          go_ret
          exact ⟨GrB.yes HNO.out, rfl⟩
        · have i2 : ¬ (300 : Int) < (S2.size : Int) := by omega
          by_cases h4 : 300 < x.data.length
          · have i4 : (300 : Int) < (S4.size : Int) := by omega
            have HNO : Hid (¬ FewE l m) := Lib.hid fun hf => by have := hf.2 x HMEM.out; omega
            clear h1 h2 h4 z1 z2 z4
            go_wp2
            go_ret
            exact ⟨GrB.yes HNO.out, rfl⟩
          · have i4 : ¬ (300 : Int) < (S4.size : Int) := by omega
            have HNX : Hid (∀ y ∈ l.take (k + 1), y.name.length ≤ 300 ∧ y.to.length ≤ 300 ∧ y.data.length ≤ 300) := Lib.hid fun y hy => by
              rw [HTK.out, List.mem_append, List.mem_singleton] at hy
              rcases hy with hy | rfl
              · exact hF.out y hy
              · omega
            clear h1 h2 h4 z1 z2 z4 hF
            go_wp2
            go_round
            case rel => exact ⟨k + 1, by omega, by go_num, HNX⟩
            case measure => simp [intOf] <;> omega
    · obtain rfl : k = N := by omega
      have HR : Hid (∀ y ∈ l, y.name.length ≤ 300 ∧ y.to.length ≤ 300 ∧ y.data.length ≤ 300) := Lib.hid (by
        have h2 := hF.out
        rwa [List.take_of_length_le (by have := HN.out; omega)] at h2)
      clear hF
      by_cases hb : m < k
      · have i1 : (m : Int) < (k : Int) := by omega
        have HNO : Hid (¬ FewE l m) := Lib.hid fun hf => by have := hf.1; have := HN.out; omega
        clear hb
        go_wp2
        go_ret
        exact ⟨GrB.yes HNO.out, rfl⟩
      · have i1 : ¬ (m : Int) < (k : Int) := by omega
        go_wp2
        go_ret
        exact ⟨GrB.no (by rw [← HN.out]; omega) HR.out, rfl⟩
theorem plain_of {l : List En} (h : ∀ (j : Nat) (y : En), l[j]? = some y → ((y.kind = 1 ∨ y.kind = 2) ∧ (46 : UInt8) ∉ y.name) ∧ ∀ (i : Nat) (z : En), i ≠ j → l[i]? = some z → z.kind ≠ 1 ∧ y.kind ≠ 1) : PlainE l := by
  refine ⟨fun y hy => ?_, ?_⟩
  · obtain ⟨j, hj⟩ := List.mem_iff_getElem?.1 hy
    exact (h j y hj).1
  · by_cases h1 : l.length ≤ 1
    · exact .inl h1
    · refine .inr fun y hy => ?_
      obtain ⟨j, hj⟩ := List.mem_iff_getElem?.1 hy
      obtain ⟨h2, h3⟩ := h j y hj
      have h4 : y.kind ≠ 1 := by
        by_cases h0 : j = 0
        · exact (h3 1 _ (by omega) (List.getElem?_eq_getElem (by omega))).2
        · exact (h3 0 _ (by omega) (List.getElem?_eq_getElem (by omega))).2
      rcases h2.1 with h5 | h5
      · exact absurd h5 h4
      · exact h5
theorem info_enz : (Tryz.prog.info? 38).map (·.size) = some 5 := by kernel_rfl

set_option maxRecDepth 100000 in
set_option maxHeartbeats 16000000 in
theorem plain_any (l : List En) (ad : Option Addr) (c : Nat) (hlen : l.length ≤ 1000000) (hnm : ∀ y ∈ l, y.name.length ≤ 1000) (w : World) (h : EnsAt w ad l) :
    Calls Tryz.prog 11 #[.slice ad l.length c] w fun e w' => PlB l e ∧ Below w.heap.size w w' := by
  have HI := Lib.hid info_enz
  obtain ⟨N, hN⟩ : ∃ N, N = l.length := ⟨_, rfl⟩
  rw [← hN] at hlen ⊢
  have HN := Lib.hid hN
  have HENT := Lib.hid h
  have HNM := Lib.hid hnm
  clear hN h hnm
  go_enter Tryz.func11, Tryz.ntmps11
  go_wp2
  go_loopw [3, 4, 5, 6] (fun i _ _ _ wr => ∃ k : Nat, k ≤ N ∧ i = .int .i64 k ∧ Hid (Below w.heap.size w wr) ∧ Hid (∀ (j : Nat) (y : En), j < k → l[j]? = some y → ((y.kind = 1 ∨ y.kind = 2) ∧ (46 : UInt8) ∉ y.name) ∧ ∀ (i : Nat) (z : En), i ≠ j → l[i]? = some z → z.kind ≠ 1 ∧ y.kind ≠ 1)) (fun i _ _ _ _ => N - (intOf i).toNat)
  case atStart => exact ⟨0, Nat.zero_le _, rfl, Lib.hid (Below.refl _ _), Lib.hid (fun j y hj => absurd hj (Nat.not_lt_zero _))⟩
  case round =>
    obtain ⟨k, hk, rfl, hB, hF⟩ := hrel
    by_cases hlt : k < N
    · have hkl : k < l.length := by rw [← HN.out]; exact hlt
      obtain ⟨x, hx⟩ : ∃ x, l[k]? = some x := ⟨_, List.getElem?_eq_getElem hkl⟩
      obtain ⟨ax, rfl, hax, hcx⟩ := HENT.out k x hx
      have HXE := Lib.hid hx
      have hxn := HNM.out x (List.mem_of_getElem? hx)
      have g1 : (k : Int) < (N : Int) := by omega
      have HCX : Hid (∀ j u, (enV x)[j]? = some u → wr.cell? ((ax.add (k * 5)).add j) = some u) := Lib.hid fun j u hu => by
        rw [cell_far hB.out (by rw [add_blk, add_blk]; exact hax)]
        exact hcx j u hu
      have hone := Lib.hid (enA_one x)
      obtain ⟨W1, hW1⟩ : ∃ W1, W1 = wr.alloc (.cells (enA x) 38) := ⟨_, rfl⟩
      have HW1 := Lib.hid hW1
      have HB1 : Hid (Below w.heap.size w W1) := Lib.hid (by rw [hW1]; exact hB.out.alloc hB.out.size _)
      have HBK := HB1
      have HZ1 : Hid (rowC W1 wr.heap.size (enA x) 38) := Lib.hid (by rw [hW1]; exact rowC_new wr _ _)
      have HE1 : Hid (EnsAt W1 (some ax) l) := Lib.hid (HENT.out.below HB1.out)
      obtain ⟨K, hK⟩ : ∃ K, K = x.kind := ⟨_, rfl⟩
      have HK := Lib.hid hK
      have q0 : W1.cell? ⟨wr.heap.size, 0, none⟩ = some (.int .i64 K) := by rw [hK]; exact rowC_cell HZ1.out 0
      have q1 : W1.cell? ⟨wr.heap.size, 1, none⟩ = some (.string (str x.name)) := rowC_cell HZ1.out 1
      obtain ⟨L, hL⟩ : ∃ L, L = x.name.length := ⟨_, rfl⟩
      have zn : (str x.name).size = L := by rw [hL]; exact str_size _
      have HI1 := Lib.hid (fun (j : Nat) (hj : j < L) => idx_str (str x.name) j (j : Int) rfl (by rw [str_size, ← hL]; exact hj))
      rw [str_toList] at HI1
      rw [← hL] at hxn
      have HLL := Lib.hid hL
      clear hx hcx hW1 hK hL hax
      by_cases hk12 : K = 1 ∨ K = 2
      rotate_left
      · have b1 : (K != (1 : Int)) = true := by rw [bne_iff_ne]; exact fun e => hk12 (.inl e)
        have b2 : (K != (2 : Int)) = true := by rw [bne_iff_ne]; exact fun e => hk12 (.inr e)
        have HNO : Hid (¬ PlainE l) := Lib.hid fun hp => by
          have h9 := (hp.e x (List.mem_of_getElem? HXE.out)).1
          rw [← HK.out] at h9
          exact hk12 h9
        clear hk12 HI1
        go_upto_region 5 with (first
          | ((with_reducible show wpList _ _ _ (⟨some 16, .load _ _, _, _, _, _⟩ :: _) _ _); refine wpList_load_at rfl 38 _ rfl (ax.add (k * 5)) rfl (enV x) _ HCX.out Tryz.underlying38 rfl HI.out ?_)
          | ((with_reducible show wpList _ _ _ (⟨none, .store _ (.tmp 4) _, _, _, _, _⟩ :: _) _ _); refine wpList_store_last rfl 38 _ _ rfl wr.heap.size (enA x) rfl rfl 38 _ rfl HI.out rfl hone.out ?_; rw [← HW1.out])
          | go_in)
        try simp only [Act.put]
        generalize wr.heap.size = B at *
        go_wp2
        go_ret
        exact ⟨PlB.no HNO.out, HB1.out⟩
      · have HK12 : Hid (x.kind = 1 ∨ x.kind = 2) := Lib.hid (by rw [← HK.out]; exact hk12)
        go_upto_region 5 with (first
          | ((with_reducible show wpList _ _ _ (⟨some 16, .load _ _, _, _, _, _⟩ :: _) _ _); refine wpList_load_at rfl 38 _ rfl (ax.add (k * 5)) rfl (enV x) _ HCX.out Tryz.underlying38 rfl HI.out ?_)
          | ((with_reducible show wpList _ _ _ (⟨none, .store _ (.tmp 4) _, _, _, _, _⟩ :: _) _ _); refine wpList_store_last rfl 38 _ _ rfl wr.heap.size (enA x) rfl rfl 38 _ rfl HI.out rfl hone.out ?_; rw [← HW1.out])
          | go_in)
        generalize wr.heap.size = B at *
        try simp only [Act.put]
        have HNX : Hid (∀ (_ : (46 : UInt8) ∉ x.name) (_ : ∀ (i : Nat) (z : En), i ≠ k → l[i]? = some z → z.kind ≠ 1 ∧ x.kind ≠ 1) (j : Nat) (y : En), j < k + 1 → l[j]? = some y → ((y.kind = 1 ∨ y.kind = 2) ∧ (46 : UInt8) ∉ y.name) ∧ ∀ (i : Nat) (z : En), i ≠ j → l[i]? = some z → z.kind ≠ 1 ∧ y.kind ≠ 1) := Lib.hid fun n1 n2 j y hj hy => by
          by_cases e : j = k
          · subst e
            rw [HXE.out] at hy
            cases hy
            exact ⟨⟨HK12.out, n1⟩, n2⟩
          · exact hF.out j y (by omega) hy
        have HE0 : Hid (∀ (j : Nat) (z : En), l[j]? = some z → W1.cell? (ax.add (j * 5)) = some (.int .i64 z.kind)) := Lib.hid fun j z hz => by
          obtain ⟨a9, e9, _, h9⟩ := HE1.out j z hz
          cases e9
          have := h9 0 _ rfl
          rwa [addr_zero] at this
        generalize hS1 : str x.name = S1 at *
        clear hS1 hF hB HCX HB1
        clear HW1 hone HE1 HENT HK12 hkl
        rcases hk12 with rfl | rfl
        all_goals
          go_wp2
          go_loop [5] (fun h => ∃ j : Nat, j ≤ L ∧ h = .int .i64 j ∧ Hid ((46 : UInt8) ∉ x.name.take j)) (fun h => L - (intOf h).toNat)
          case atStart => exact ⟨0, Nat.zero_le _, rfl, Lib.hid (by simp)⟩
          case round =>
            obtain ⟨j, hj, rfl, hD⟩ := hrel
            by_cases hjl : j < L
            · have i1 : (j : Int) < (L : Int) := by omega
              have ix := HI1.out j hjl
              have HTK : Hid (x.name.take (j + 1) = x.name.take j ++ [x.name.getD j 0]) := Lib.hid (by
                have hj9 : j < x.name.length := by rw [← HLL.out]; exact hjl
                rw [List.take_succ_eq_append_getElem hj9, List.getD_eq_getElem?_getD, List.getElem?_eq_getElem hj9]; rfl)
              generalize x.name.getD j 0 = ch at *
              have hq : ((ch.toNat : Int) == 46) = decide (ch = 46) := beq_u8 ch 46
              by_cases hc : ch = 46
              · rw [decide_eq_true hc] at hq
                have HNO : Hid (¬ PlainE l) := Lib.hid fun hp => by
                  refine (hp.e x (List.mem_of_getElem? HXE.out)).2 (List.mem_of_mem_take (i := j + 1) ?_)
                  rw [HTK.out, hc]
                  simp
                clear hc hD HTK HNX HI1
                go_wp2
                go_ret
                exact ⟨PlB.no HNO.out, HBK.out⟩
              · rw [decide_eq_false hc] at hq
                have hD2 : Hid ((46 : UInt8) ∉ x.name.take (j + 1)) := Lib.hid (by
                  rw [HTK.out, List.mem_append, List.mem_singleton]
                  rintro (h9 | h9)
                  · exact hD.out h9
                  · exact hc h9.symm)
                clear hc hD HTK HNX HI1
                go_wp2
                go_round
                case rel => exact ⟨j + 1, by omega, by go_num, hD2⟩
                case measure => simp [intOf] <;> omega
            · obtain rfl : j = L := by omega
              have i1 : ¬ (j : Int) < (j : Int) := by omega
              have HND : Hid ((46 : UInt8) ∉ x.name) := Lib.hid (by
                have := hD.out
                rwa [List.take_of_length_le (by rw [← HLL.out]; exact Nat.le_refl _)] at this)
              clear hD HI1
              go_wp2
              go_loop [6] (fun h => ∃ i : Nat, i ≤ N ∧ h = .int .i64 i ∧ Hid (∀ (q : Nat) (z : En), q < i → q ≠ k → l[q]? = some z → z.kind ≠ 1 ∧ x.kind ≠ 1)) (fun h => N - (intOf h).toNat)
              case atStart => exact ⟨0, Nat.zero_le _, rfl, Lib.hid (fun q z hq => absurd hq (Nat.not_lt_zero _))⟩
              case round =>
                obtain ⟨i, hi, rfl, hM⟩ := hrel
                by_cases hiN : i < N
                · have i2 : (i : Int) < (N : Int) := by omega
                  have hil : i < l.length := by rw [← HN.out]; exact hiN
                  obtain ⟨z, hz⟩ : ∃ z, l[i]? = some z := ⟨_, List.getElem?_eq_getElem hil⟩
                  have cz := HE0.out i z hz
                  have HZZ := Lib.hid hz
                  obtain ⟨KZ, hKZ⟩ : ∃ KZ, KZ = z.kind := ⟨_, rfl⟩
                  rw [← hKZ] at cz
                  have HKZ := Lib.hid hKZ
                  clear hz hKZ hil
                  by_cases hik : i = k
                  · subst hik
                    have hM2 : Hid (∀ (q : Nat) (z : En), q < i + 1 → q ≠ i → l[q]? = some z → z.kind ≠ 1 ∧ x.kind ≠ 1) := Lib.hid fun q z h1 h2 h3 => hM.out q z (by omega) h2 h3
                    clear hM HNX
                    go_wp2
                    go_round
                    case rel => exact ⟨i + 1, by omega, by go_num, hM2⟩
                    case measure => simp [intOf] <;> omega
                  · have i3 : ((i : Int) == (k : Int)) = false := by rw [beq_eq_false_iff_ne]; omega
                    have i4 : ((N : Int) == (1 : Int)) = false := by rw [beq_eq_false_iff_ne]; omega
                    by_cases hz1 : KZ = 1
                    · subst hz1
                      have HNO := Lib.hid (not_pair HZZ.out HXE.out hik (.inl HKZ.out.symm))
                      clear hM HNX
                      go_wp2
                      go_ret
                      exact ⟨PlB.no HNO.out, HBK.out⟩
                    · have i5 : (KZ == (1 : Int)) = false := by rw [beq_eq_false_iff_ne]; exact hz1
                      first
                      | (have HNO := Lib.hid (not_pair HZZ.out HXE.out hik (.inr (show x.kind = 1 from HK.out.symm)))
                         clear hM HNX
                         go_wp2
                         go_ret
                         exact ⟨PlB.no HNO.out, HBK.out⟩)
                      | (have hM2 : Hid (∀ (q : Nat) (z : En), q < i + 1 → q ≠ k → l[q]? = some z → z.kind ≠ 1 ∧ x.kind ≠ 1) := Lib.hid fun q z9 h1 h2 h3 => by
                           by_cases h4 : q = i
                           · subst h4
                             rw [HZZ.out] at h3
                             cases h3
                             exact ⟨by rw [← HKZ.out]; exact hz1, by rw [← HK.out]; decide⟩
                           · exact hM.out q z9 (by omega) h2 h3
                         clear hM HNX
                         go_wp2
                         go_round
                         case rel => exact ⟨i + 1, by omega, by go_num, hM2⟩
                         case measure => simp [intOf] <;> omega)
                · obtain rfl : i = N := by omega
                  have HF2 := Lib.hid (HNX.out HND.out (fun q z h1 h2 => hM.out q z (by
                    have := (List.getElem?_eq_some_iff.1 h2).1
                    rw [HN.out]
                    exact this) h1 h2))
                  clear hM HNX
                  go_wp2
                  go_roundw
                  case rel => exact ⟨k + 1, by omega, by go_num, HBK, HF2⟩
                  case measure => simp [intOf] <;> omega
    · obtain rfl : k = N := by omega
      have HP : Hid (PlainE l) := Lib.hid (plain_of fun j y hy => hF.out j y (by
        have := (List.getElem?_eq_some_iff.1 hy).1
        rw [HN.out]
        exact this) hy)
      clear hF
      go_wp2
      go_ret
      exact ⟨PlB.yes HP.out, hB.out⟩
end Go.Proofs.YtbjgmkjinnbokaaGreatDoor

/- Layer 16: what the variables that start-up laid give (nothing is asked of them); what is handed in to TreesTell. -/
namespace Go.Proofs.YtbjgmkjinnbokaaGreatDoor
open Go.ChangeShapes Go.WideShapes Go.ChangeAt Go.WideElems Go.RowKit Go.Deep

theorem own : ownKnob Tryz.prog.godebug = none := by kernel_rfl
def laid2 : List (String × DataW Unit) := [("unicode/utf8.acceptRanges", Rows.laid_unicode_utf8_acceptRanges), ("unicode/utf8.first", Rows.laid_unicode_utf8_first)]
/-- The door's own heap, with the library's great table laid. -/
noncomputable def startW (os : Os) : World :=
  let w0 := World.doorLaid Tryz.prog 400 os
  { w0 with heap := w0.heap.modify 1 fun
      | .cells _ t frozen => .cells (Go.Pinned.utf8FirstZ.map fun (z : Nat) => Value.int .u8 (z : Int)).toArray t frozen
      | o => o }
theorem door_met (os : Os) (args : Array Value) : laidMetH Tryz.prog laid2 ((startW os).forCall (fun _ _ => 0) ⟨#[], args, []⟩).memory :=
  laidMetH_of_parts3 (fuel := 8) (laidMet_of_run' 8 (by kernel_rfl) (by kernel_rfl)) (by kernel_rfl) (by kernel_rfl)
theorem of_laid {W : World} (_h : laidMetH Tryz.prog laid2 W) : True := trivial
section
variable {H : Type} {enc : TypeId × Value → H} {W : World} {base : Nat} {sp : Nat → Bool} {held : Bool}
end
end Go.Proofs.YtbjgmkjinnbokaaGreatDoor

