/- Merged: PtB, PtC. -/
import Derived.Deep.AppendLies
import Derived.Test.YtoallfcpnbhhiaaGreatDoorM03
import Derived.Test.YtoallfcpnbhhiaaGreatDoorM04
/- Layer 14: the document's parts of a path. -/
namespace Go.Proofs.YtoallfcpnbhhiaaGreatDoor
open Go.RowKit

set_option maxRecDepth 100000 in
set_option maxHeartbeats 4000000 in
theorem parts_any (s : ByteArray) (w : World) (hs : s.size ≤ 1000000) :
    Calls Tryz.prog 50 #[.string s] w fun e w' => ∃ v, e = .returned v ∧ OwnsS w' w.heap.size v (cutL s.data.toList 47) ∧ Below w.heap.size w w' := by
  have HSL := Lib.hid (show s.data.toList.length = s.size by simp)
  have IS := Lib.hid (fun (i : Nat) (h : i < s.size) => idx_str s i i rfl h)
  obtain ⟨i0, hi, hz0, hz1, hz2⟩ := info_parts info_string
  have HO := Lib.hid (owns_one_str w [])
  have HB := Lib.hid ((Below.refl w.heap.size w).alloc (Nat.le_refl _) (.cells #[.string (str [])] 9))
  go_enter Tryz.func50, Tryz.ntmps50
  go_wp2
  change Code.wp _ _ _ _ (w.alloc (.cells #[.string (str [])] 9))
  generalize w.alloc (.cells #[.string (str [])] 9) = w0 at *
  go_loopw [3, 4] (fun l v wr => ∃ k : Nat, k ≤ s.size ∧ v = .int .i64 k ∧ Hid (OwnsS wr w.heap.size l (cutL (s.data.toList.take k) 47)) ∧ Hid (Below w.heap.size w wr)) (fun _ v _ => s.size - (intOf v).toNat)
  case atStart => exact ⟨0, Nat.zero_le _, rfl, HO, HB⟩
  case round =>
    clear HO HB
    obtain ⟨k, hk, rfl, hO, hB⟩ := hrel
    obtain ⟨a, cap, rfl⟩ := hO.out.form
    by_cases hlt : k < s.size
    · have g1 : (k : Int) < (s.size : Int) := by omega
      have HN := Lib.hid (cut_take s.data.toList 47 (k := k) (by have := HSL.out; omega))
      have hq : (((s.data[k]'(by simpa using hlt)).toNat : Int) == 47) = (s.data.toList.getD k 0 == 47) := by
        rw [← getD_data s hlt]
        exact beq_u8 _ 47
      have hpos := cutL_pos (s.data.toList.take k) 47
      have hle := cutL_le (s.data.toList.take k) 47
      rw [List.length_take] at hle
      have HX := Lib.hid (extract_one s hlt)
      have i1 := IS.out k hlt
      obtain ⟨x, hx⟩ : ∃ x, x = s.data.toList.getD k 0 := ⟨_, rfl⟩
      rw [← hx] at hq HN HX
      have hpl := cutL_getD_le (s.data.toList.take k) 47 ((cutL (s.data.toList.take k) 47).length - 1)
      rw [List.length_take] at hpl
      generalize cutL (s.data.toList.take k) 47 = E at *
      obtain ⟨M, hM⟩ : ∃ M, E.length = M + 1 := ⟨E.length - 1, by omega⟩
      have hM6 : M ≤ 1000000 := by have := HSL.out; omega
      rw [hM]
      have HMl := Lib.hid hM
      clear IS
      cases hb : (x == 47)
      · have HNE := Lib.hid (show ¬ x = 47 by simpa using hb)
        rw [hb] at hq
        rw [hM] at hO
        obtain ⟨g, hga, hgB, e1⟩ := hO.out.at (k := M) (by omega)
        subst hga
        rw [hM, show M + 1 - 1 = M by omega] at hpl
        have hx1 := HX.out
        have z1 : (str [x]).size = 1 := rfl
        obtain ⟨q, hq2⟩ : ∃ q, q = E.getD M [] := ⟨_, rfl⟩
        rw [← hq2] at e1 hpl
        have zp := str_size q
        have HQ := Lib.hid hq2
        have hqM : q.length ≤ 1000000 := by omega
        clear hq2
        have HO1 := Lib.hid (show World.ownsRow wr w.heap.size 9 1 (.slice (some ⟨g, 0, none⟩) (M + 1) cap) (M + 1) (strsV E) from by have h5 := hO.out; unfold OwnsS at h5; rw [hM] at h5; exact h5)
        have fG := HO1.out.frozenAt M
        have hl : IntKind.i64.wrap ((k : Int) + 1) = (k : Int) + 1 := IntWalk.i64_in _ (by omega)
        have hmin : min (k + 1) s.size = k + 1 := by omega
        have hwM : IntKind.i64.wrap (M : Int) = (M : Int) := IntWalk.i64_in _ (by omega)
        clear hb hx hM
        go_wp2
        refine (wpIn_wide (n := 4)).1 ?_
        refine region_quiet_tail (C := fun w' => ∃ q, w' = wr.drewN q) 16 (by kernel_rfl) (by kernel_rfl) (by kernel_rfl) ⟨1, rfl⟩ ?_
        simp only [List.take_succ_cons, List.take_zero, List.drop_succ_cons, List.drop_zero]
        repeat (gi_big_quiet_step (fail))
        refine wpQuietIn_nil ?_
        rintro _ ⟨nq, rfl⟩
        have e1' : (wr.drewN nq).cell? ⟨g, M, none⟩ = some (.string (str q)) := e1
        have fG' : (wr.drewN nq).frozen? ⟨g, M, none⟩ = false := fG
        have HO2 := Lib.hid (show OwnsS (wr.drewN nq) w.heap.size (.slice (some ⟨g, 0, none⟩) (M + 1) cap) E from hO.out)
        have HB2 := Lib.hid (below_drewN hB.out nq)
        clear e1 fG hO hB HO1
        generalize wr.drewN nq = w5 at *
        gi_wp2
        go_wp2
        go_roundw
        case rel => exact ⟨k + 1, by omega, by go_num, by
          rw [HN.out, cutS, if_neg HNE.out, HMl.out, show M + 1 - 1 = M by omega, ← HQ.out, str_append]
          exact Lib.hid (HO2.out.set M (q ++ [x])), Lib.hid (HB2.out.setCell (p := ⟨g, M, none⟩) hgB _)⟩
        case measure => simp [intOf]; omega
      · have HEQ := Lib.hid (show x = 47 by simpa using hb)
        rw [hb] at hq
        have HO1 := Lib.hid (show World.ownsRow wr w.heap.size 9 1 (.slice a (M + 1) cap) (M + 1) (strsV E) from by have h5 := hO.out; unfold OwnsS at h5; rw [hM] at h5; exact h5)
        clear hb hx hM
        go_wp2_with ((with_reducible show wpList _ _ _ (⟨some 18, _, _, _, _, _⟩ :: _) _ _); refine wpList_append_own _ rfl (.tmp 16) (.tmp 17) 92 rfl w.heap.size 9 i0 (.string ⟨#[]⟩) 1 16 Tryz.underlying92 hi hz0 hz1 hz2 rfl (by decide) (.slice a (M + 1) cap) (M + 1) (strsV E) rfl (World.ownsRow.alloc HO1.out _) _ 1 1 [.string ⟨#[]⟩] rfl rfl (World.news_of_block (heap_alloc_new _ _)) (by intro u hu; simp at hu; subst hu; rfl) (by unfold maxLen; omega) (by omega) (by rw [size_alloc]; have := hB.out.size; omega) ?_; intro v' w6 hown6 hgrow6 _; obtain ⟨a6, cap6, rfl⟩ := owns_form hown6; have HO6 := Lib.hid hown6; have HB6 := Lib.hid ((hB.out.alloc hB.out.size _).grown hgrow6 (by rw [size_alloc]; have := hB.out.size; omega) (fun j hj => (HO1.out.lt j hj).1)); clear hown6 hgrow6)
        go_roundw
        case rel => exact ⟨k + 1, by omega, by go_num, by
          rw [HN.out, cutS, if_pos HEQ.out]
          refine Lib.hid ?_
          show World.ownsRow _ _ _ _ _ _ _
          rw [List.length_append, HMl.out, strsV, List.map_append]
          exact HO6.out, HB6⟩
        case measure => simp [intOf]; omega
    · have HE := Lib.hid (show s.data.toList.take k = s.data.toList by rw [List.take_of_length_le (by have := HSL.out; omega)])
      have h5 := Lib.hid hO.out
      rw [HE.out] at h5 ⊢
      clear hO
      go_wp2
      go_ret
      exact ⟨_, rfl, h5.out, hB.out⟩
end Go.Proofs.YtoallfcpnbhhiaaGreatDoor

/- Layer 14: the document's 'nought' and 'joined'. -/
namespace Go.Proofs.YtoallfcpnbhhiaaGreatDoor
open Go.RowKit

theorem retB {a b : Bool} (h : a = b) : Ending.returned (.bool a) = .returned (.bool b) := by rw [h]
theorem has_take (s : List UInt8) {k : Nat} (h : k < s.length) : decide ((0 : UInt8) ∈ s.take (k + 1)) = (decide ((0 : UInt8) ∈ s.take k) || (s.getD k 0 == 0)) := by
  rw [List.take_succ_eq_append_getElem h, List.getD_eq_getElem?_getD, List.getElem?_eq_getElem h]
  simp only [Option.getD_some, List.mem_append, List.mem_singleton, Bool.decide_or]
  congr 1
  rw [Bool.eq_iff_iff, decide_eq_true_eq, beq_iff_eq]
  exact eq_comm
theorem has_here {s : List UInt8} {k : Nat} (h : k < s.length) (h0 : (s.getD k 0 == 0) = true) : decide ((0 : UInt8) ∈ s) = true := by
  rw [decide_eq_true_eq]
  rw [beq_iff_eq, List.getD_eq_getElem?_getD, List.getElem?_eq_getElem h] at h0
  simp only [Option.getD_some] at h0
  exact h0 ▸ List.getElem_mem h
set_option maxRecDepth 100000 in
set_option maxHeartbeats 2000000 in
theorem nought_any (s : ByteArray) (w : World) (hs : s.size ≤ 1000000) :
    Calls Tryz.prog 65 #[.string s] w fun e w' => e = .returned (.bool (decide ((0 : UInt8) ∈ s.data.toList))) ∧ w = w' := by
  have HSL := Lib.hid (show s.data.toList.length = s.size by simp)
  have IS := Lib.hid (fun (i : Nat) (h : i < s.size) => idx_str s i i rfl h)
  go_enter Tryz.func65, Tryz.ntmps65
  go_wp2
  go_loopw [3] (fun v wr => ∃ k : Nat, k ≤ s.size ∧ v = .int .i64 k ∧ Hid (decide ((0 : UInt8) ∈ s.data.toList.take k) = false) ∧ wr = w) (fun v _ => s.size - (intOf v).toNat)
  case atStart => exact ⟨0, Nat.zero_le _, rfl, Lib.hid rfl, rfl⟩
  case round =>
    obtain ⟨k, hk, rfl, hok, rfl⟩ := hrel
    by_cases hlt : k < s.size
    · have g1 : (k : Int) < (s.size : Int) := by omega
      have HN := Lib.hid (has_take s.data.toList (k := k) (by have := HSL.out; omega))
      have HH := Lib.hid (has_here (s := s.data.toList) (k := k) (by have := HSL.out; omega))
      have i1 := IS.out k hlt
      have hq : (((s.data[k]'(by simpa using hlt)).toNat : Int) == 0) = (s.data.toList.getD k 0 == 0) := by
        rw [← getD_data s hlt]
        exact beq_u8 _ 0
      generalize (s.data.toList.getD k 0 == 0) = c at *
      cases c
      · go_wp2
        go_roundw
        case rel => exact ⟨k + 1, by omega, by go_num, by rw [HN.out, hok.out]; exact Lib.hid rfl, by trivial⟩
        case measure => simp [intOf]; omega
      · go_wp2
        go_ret
        exact ⟨retB (by have h := HH.out (by trivial); simp only [Array.mem_toList_iff] at h; exact h.symm), rfl⟩
    · have HE := Lib.hid (show decide ((0 : UInt8) ∈ s.data.toList) = false by have := hok.out; rwa [List.take_of_length_le (by have := HSL.out; omega)] at this)
      go_wp2
      go_ret
      exact ⟨retB HE.out.symm, rfl⟩
theorem join_take (l : List (List UInt8)) {k : Nat} (h : k < l.length) : joinL (l.take (k + 1)) = (if k = 0 then joinL (l.take k) else joinL (l.take k) ++ [47]) ++ l.getD k [] := by
  rw [List.take_succ_eq_append_getElem h, List.getD_eq_getElem?_getD, List.getElem?_eq_getElem h, Option.getD_some]
  by_cases h0 : k = 0
  · subst h0
    rw [if_pos rfl, List.take_zero, List.nil_append, joinL_one]
    rfl
  · rw [if_neg h0, joinL_snoc (by intro e; have := congrArg List.length e; rw [List.length_take, List.length_nil] at this; omega), List.append_assoc]
    rfl
theorem join_len_take (l : List (List UInt8)) (k : Nat) : (joinL (l.take k)).length ≤ (joinL l).length := by
  by_cases hk : k < l.length
  · by_cases h0 : l.take k = []
    · rw [h0]; exact Nat.zero_le _
    · have h1 : l.drop k ≠ [] := by
        intro e
        have := congrArg List.length e
        rw [List.length_drop] at this
        simp at this
        omega
      have := joinL_append h0 h1
      rw [List.take_append_drop] at this
      rw [this, List.length_append]
      omega
  · rw [List.take_of_length_le (by omega)]
    exact Nat.le_refl _
set_option maxRecDepth 100000 in
set_option maxHeartbeats 4000000 in
theorem joined_any (a : Option Addr) (cap : Nat) (l : List (List UInt8)) (w : World) (hr : RdS w a l) (hn : l.length ≤ 1000000) (hl : (joinL l).length ≤ 1000000) :
    Calls Tryz.prog 51 #[.slice a l.length cap] w fun e w' => e = .returned (.string (str (joinL l))) ∧ w = w' := by
  have HR := Lib.hid hr
  have HJ := Lib.hid (fun k => join_len_take l k)
  have HL := Lib.hid hl
  obtain ⟨N, hN⟩ : ∃ N, N = l.length := ⟨_, rfl⟩
  have HN := Lib.hid hN
  rw [← hN] at hn ⊢
  clear hr hl hN
  go_enter Tryz.func51, Tryz.ntmps51
  go_wp2
  go_loopw [3, 4] (fun t v wr => ∃ k : Nat, k ≤ N ∧ v = .int .i64 k ∧ t = .string (str (joinL (l.take k))) ∧ wr = w) (fun _ v _ => N - (intOf v).toNat)
  case atStart => exact ⟨0, Nat.zero_le _, rfl, rfl, rfl⟩
  case round =>
    obtain ⟨k, hk, rfl, rfl, rfl⟩ := hrel
    by_cases hlt : k < N
    · have g1 : (k : Int) < (N : Int) := by omega
      have HT := Lib.hid (join_take l (k := k) (by have := HN.out; omega))
      obtain ⟨g, rfl, _, e1⟩ := HR.out k (by have := HN.out; omega)
      have hb1 := HJ.out k
      have hb2 := HJ.out (k + 1)
      have hb3 := HL.out
      have hb4 := congrArg List.length HT.out
      rw [List.length_append] at hb4
      obtain ⟨q, hq⟩ : ∃ q, q = l.getD k [] := ⟨_, rfl⟩
      obtain ⟨m, hm⟩ : ∃ m, m = joinL (l.take k) := ⟨_, rfl⟩
      rw [← hq] at e1 hb4 HT
      rw [← hm] at hb1 hb4 HT ⊢
      have zm := str_size m
      have zq := str_size q
      have z1 : (⟨#[47]⟩ : ByteArray).size = 1 := rfl
      have hmq : m.length + q.length ≤ 1000000 := by split at hb4 <;> (try simp only [List.length_append, List.length_singleton] at hb4) <;> omega
      have HB := Lib.hid hb4
      clear hb1 hb2 hb3 hb4 hq hm
      by_cases h0 : k = 0
      · subst h0
        go_wp2
        go_roundw
        case rel => exact ⟨0 + 1, by omega, by go_num, by rw [HT.out, if_pos rfl, str_append], by trivial⟩
        case measure => simp [intOf]; omega
      · have g0 : (0 : Int) < (k : Int) := by omega
        have zmx : (str m ++ ⟨#[47]⟩ : ByteArray).size = m.length + 1 := by rw [ByteArray.size_append, zm, z1]
        go_wp2
        go_roundw
        case rel => exact ⟨k + 1, by omega, by go_num, by
          rw [HT.out, if_neg h0, ← str_append, ← str_append]
          rfl, by trivial⟩
        case measure => simp [intOf]; omega
    · have HE := Lib.hid (show l.take k = l by rw [List.take_of_length_le (by have := HN.out; omega)])
      rw [HE.out]
      go_wp2
      go_ret
      exact ⟨rfl, rfl⟩
end Go.Proofs.YtoallfcpnbhhiaaGreatDoor

