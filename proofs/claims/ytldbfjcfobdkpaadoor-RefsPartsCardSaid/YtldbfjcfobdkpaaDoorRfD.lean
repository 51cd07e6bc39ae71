/- Layer 12: the document's 'domain'. -/
import Derived.Test.YtldbfjcfobdkpaaDoorRfC
namespace Go.Proofs.YtldbfjcfobdkpaaDoor
open Go.RowKit

theorem eq_none (h : List UInt8) : ((str h).toList == []) = decide (h = []) := eq_lit h []
theorem beq_lit (x : UInt8) (c : Nat) (i : Int) (hi : i = (c : Int)) (hc : c < 256) : (((x.toNat : Int)) == i) = decide (x = UInt8.ofNat c) := by
  subst hi
  rw [Bool.eq_iff_iff, beq_iff_eq, decide_eq_true_eq]
  constructor
  · intro h
    refine UInt8.toNat_inj.1 ?_
    rw [UInt8.toNat_ofNat_of_lt' (by simpa using hc)]
    omega
  · intro h
    rw [h, UInt8.toNat_ofNat_of_lt' (by simpa using hc)]
theorem at_lit (m : List UInt8) (k c : Nat) (i : Int) (hi : i = (c : Int)) (hc : c < 256) (hk : k < (str m).size) : ((((str m).data[k]'(by simpa using hk)).toNat : Int) == i) = decide (m.getD k 0 = UInt8.ofNat c) := by
  rw [← getD_data (str m) hk, str_toList]
  exact beq_lit _ c i hi hc
theorem at_lit2 (m : List UInt8) (k c : Nat) (i : Int) (hi : i = (c : Int)) (hc : c < 256) (hk : k < (str m).size) : (((((str m).data[k]?).getD 0).toNat : Int) == i) = decide (m.getD k 0 = UInt8.ofNat c) := by
  rw [Array.getElem?_eq_getElem (by simpa using hk), Option.getD_some]
  exact at_lit m k c i hi hc hk
theorem parts_all {l : List (List UInt8)} {k : Nat} (h : k < l.length) (ht : (l.take k).all partsOk = true) : (l.take (k + 1)).all partsOk = partsOk (l.getD k []) := by
  rw [List.take_succ_eq_append_getElem h, List.all_append, ht, List.getD_eq_getElem?_getD, List.getElem?_eq_getElem h]
  simp
theorem parts_none {l : List (List UInt8)} {k : Nat} (h : k < l.length) (hn : partsOk (l.getD k []) = false) : l.all partsOk = false := by
  rw [List.all_eq_false]
  refine ⟨l.getD k [], ?_, by rw [hn]; decide⟩
  rw [List.getD_eq_getElem?_getD, List.getElem?_eq_getElem h]
  exact List.getElem_mem h
set_option maxRecDepth 100000 in
set_option maxHeartbeats 4000000 in
theorem domain_any (s : List UInt8) (w : World) (hs : s.length ≤ 1000000) :
    Calls Tryd.prog 30 #[.string (str s)] w fun e w' => e = .returned (.bool (domainB s)) ∧ Below w.heap.size w w' := by
  have CA := cutC s 58 58 rfl w hs
  have hpos := cutL_pos s 58
  have hle := cutL_le s 58
  have hh := cutL_getD_le s 58 0
  have hp := cutL_getD_le s 58 1
  have C46 := fun w => cutC ((cutL s 58).getD 0 []) 46 46 rfl w (by omega)
  have CO : ∀ w, Calls Tryd.prog 32 #[.string (str ((cutL s 58).getD 1 [])), .string ⟨#[48, 49, 50, 51, 52, 53, 54, 55, 56, 57]⟩] w fun e w' => e = .returned (.bool (ofB ((cutL s 58).getD 1 []) digitB)) ∧ Below w.heap.size w w' := fun w => ofC _ ⟨#[48, 49, 50, 51, 52, 53, 54, 55, 56, 57]⟩ w (by omega) (by decide)
  have hle2 := cutL_le ((cutL s 58).getD 0 []) 46
  have hpc := fun k => cutL_getD_le ((cutL s 58).getD 0 []) 46 k
  have he := eq_none ((cutL s 58).getD 1 [])
  have HF := Lib.hid (show domainB s = (portOk (cutL s 58) && (cutL ((cutL s 58).getD 0 []) 46).all partsOk) from rfl)
  unfold portOk at HF
  generalize domainB s = F at *
  generalize cutL s 58 = L at *
  generalize hh0 : L.getD 0 [] = h at *
  have HH := Lib.hid hh0.symm
  clear hh0
  generalize hp0 : L.getD 1 [] = p at *
  have HP := Lib.hid hp0.symm
  clear hp0
  generalize cutL h 46 = L2 at *
  obtain ⟨N, hN⟩ : ∃ N, N = L.length := ⟨_, rfl⟩
  obtain ⟨N2, hN2⟩ : ∃ N2, N2 = L2.length := ⟨_, rfl⟩
  rw [← hN] at CA hpos hle HF
  rw [← hN2] at C46 hle2
  have HN := Lib.hid hN
  have HN2 := Lib.hid hN2
  have HPC := Lib.hid hpc
  clear hN hN2 hpc
  have hb1 : N ≤ 1000001 := by omega
  have hb2 : N2 ≤ 1000001 := by omega
  have hp6 : p.length ≤ 1000000 := by omega
  have hh6 : h.length ≤ 1000000 := by omega
  have szp := str_size p
  have HI := Lib.hid (fun i hi => idx_str (str p) i i rfl hi)
  have cases6 : ((2 < N ∧ F = false) ∨ (N = 2 ∧ p = [] ∧ F = false) ∨ (N = 2 ∧ ¬ p = [] ∧ 5 < p.length ∧ F = false) ∨ (N = 2 ∧ ¬ p = [] ∧ ¬ 5 < p.length ∧ ofB p digitB = false ∧ F = false)) ∨
      ((N = 2 ∧ ¬ p = [] ∧ ¬ 5 < p.length ∧ ofB p digitB = true ∧ F = L2.all partsOk) ∨ (N = 1 ∧ F = L2.all partsOk)) := by
    have e := HF.out
    by_cases p1 : 2 < N
    · refine .inl (.inl ⟨p1, ?_⟩)
      rw [e, decide_eq_false (by omega : ¬ N ≤ 2)]
      rfl
    · rw [decide_eq_true (by omega : N ≤ 2)] at e
      by_cases p2 : N = 2
      · rw [decide_eq_true p2] at e
        by_cases p3 : p = []
        · exact .inl (.inr (.inl ⟨p2, p3, by rw [e, decide_eq_true p3]; rfl⟩))
        · rw [decide_eq_false p3] at e
          by_cases p4 : 5 < p.length
          · exact .inl (.inr (.inr (.inl ⟨p2, p3, p4, by rw [e, decide_eq_false (by omega : ¬ p.length ≤ 5)]; rfl⟩)))
          · rw [decide_eq_true (by omega : p.length ≤ 5)] at e
            cases p5 : ofB p digitB
            · exact .inl (.inr (.inr (.inr ⟨p2, p3, p4, rfl, by rw [e, p5]; rfl⟩)))
            · exact .inr (.inl ⟨p2, p3, p4, rfl, by rw [e, p5]; rfl⟩)
      · exact .inr (.inr ⟨by omega, by rw [e, decide_eq_false p2]; rfl⟩)
  clear HF hle hle2
  rcases cases6 with (⟨p1, rfl⟩ | ⟨p1, p2, rfl⟩ | ⟨p1, p2, p3, rfl⟩ | ⟨p1, p2, p3, p4, rfl⟩) | (⟨p1, p2, p3, p4, hF⟩ | ⟨p1, hF⟩)
  all_goals
    have q1 : decide ((2 : Int) < (N : Int)) = decide (2 < N) := by rw [decide_eq_decide]; omega
    have q2 : ((N : Int) == 2) = decide (N = 2) := by rw [Bool.eq_iff_iff, beq_iff_eq, decide_eq_true_eq]; omega
    have q3 : decide ((5 : Int) < (p.length : Int)) = decide (5 < p.length) := by rw [decide_eq_decide]; omega
    try rw [p4] at CO
    first | (rw [decide_eq_true p2] at he; clear p2) | (rw [decide_eq_false p2] at he; clear p2) | skip
  · go_enter Tryd.func30, Tryd.ntmps30
    go_wp2_with (first
      | (go_at_call 20; ((with_reducible refine (CA).mono ?_); rintro e w1 ⟨a1, cap1, rfl, o1, b1⟩); have O1 := Lib.hid o1; have B1 := Lib.hid b1; obtain ⟨g, hga, -, e0⟩ := o1.at (k := 0) (by have := HN.out; omega); subst hga; rw [← HH.out] at e0;  clear o1 b1 CA)
      | (go_at_call 32; ((with_reducible refine (CO _).mono ?_); rintro e w2 ⟨rfl, b2⟩); have B2 := Lib.hid (B1.out.trans (b2.mono B1.out.size)); clear b2 CO))
    go_ret
    first
      | exact ⟨rfl, B2.out⟩
      | exact ⟨rfl, B1.out⟩
  · go_enter Tryd.func30, Tryd.ntmps30
    go_wp2_with (first
      | (go_at_call 20; ((with_reducible refine (CA).mono ?_); rintro e w1 ⟨a1, cap1, rfl, o1, b1⟩); have O1 := Lib.hid o1; have B1 := Lib.hid b1; obtain ⟨g, hga, -, e0⟩ := o1.at (k := 0) (by have := HN.out; omega); subst hga; rw [← HH.out] at e0; obtain ⟨g9, hga9, -, e1⟩ := o1.at (k := 1) (by have := HN.out; omega); simp only [Option.some.injEq, Addr.mk.injEq, and_true] at hga9; subst hga9; rw [← HP.out] at e1; clear o1 b1 CA)
      | (go_at_call 32; ((with_reducible refine (CO _).mono ?_); rintro e w2 ⟨rfl, b2⟩); have B2 := Lib.hid (B1.out.trans (b2.mono B1.out.size)); clear b2 CO))
    go_ret
    first
      | exact ⟨rfl, B2.out⟩
      | exact ⟨rfl, B1.out⟩
  · go_enter Tryd.func30, Tryd.ntmps30
    go_wp2_with (first
      | (go_at_call 20; ((with_reducible refine (CA).mono ?_); rintro e w1 ⟨a1, cap1, rfl, o1, b1⟩); have O1 := Lib.hid o1; have B1 := Lib.hid b1; obtain ⟨g, hga, -, e0⟩ := o1.at (k := 0) (by have := HN.out; omega); subst hga; rw [← HH.out] at e0; obtain ⟨g9, hga9, -, e1⟩ := o1.at (k := 1) (by have := HN.out; omega); simp only [Option.some.injEq, Addr.mk.injEq, and_true] at hga9; subst hga9; rw [← HP.out] at e1; clear o1 b1 CA)
      | (go_at_call 32; ((with_reducible refine (CO _).mono ?_); rintro e w2 ⟨rfl, b2⟩); have B2 := Lib.hid (B1.out.trans (b2.mono B1.out.size)); clear b2 CO))
    go_ret
    first
      | exact ⟨rfl, B2.out⟩
      | exact ⟨rfl, B1.out⟩
  · go_enter Tryd.func30, Tryd.ntmps30
    go_wp2_with (first
      | (go_at_call 20; ((with_reducible refine (CA).mono ?_); rintro e w1 ⟨a1, cap1, rfl, o1, b1⟩); have O1 := Lib.hid o1; have B1 := Lib.hid b1; obtain ⟨g, hga, -, e0⟩ := o1.at (k := 0) (by have := HN.out; omega); subst hga; rw [← HH.out] at e0; obtain ⟨g9, hga9, -, e1⟩ := o1.at (k := 1) (by have := HN.out; omega); simp only [Option.some.injEq, Addr.mk.injEq, and_true] at hga9; subst hga9; rw [← HP.out] at e1; clear o1 b1 CA)
      | (go_at_call 32; ((with_reducible refine (CO _).mono ?_); rintro e w2 ⟨rfl, b2⟩); have B2 := Lib.hid (B1.out.trans (b2.mono B1.out.size)); clear b2 CO))
    go_ret
    first
      | exact ⟨rfl, B2.out⟩
      | exact ⟨rfl, B1.out⟩
  · have HFF := Lib.hid hF
    clear HI hp hF
    go_enter Tryd.func30, Tryd.ntmps30
    go_wp2_with (first
      | (go_at_call 20; ((with_reducible refine (CA).mono ?_); rintro e w1 ⟨a1, cap1, rfl, o1, b1⟩); have O1 := Lib.hid o1; have B1 := Lib.hid b1; obtain ⟨g, hga, -, e0⟩ := o1.at (k := 0) (by have := HN.out; omega); subst hga; rw [← HH.out] at e0; obtain ⟨g9, hga9, -, e1⟩ := o1.at (k := 1) (by have := HN.out; omega); simp only [Option.some.injEq, Addr.mk.injEq, and_true] at hga9; subst hga9; rw [← HP.out] at e1; clear o1 b1 CA)
      | (go_at_call 32; ((with_reducible refine (CO _).mono ?_); rintro e w2 ⟨rfl, b2⟩); have B2 := Lib.hid (B1.out.trans (b2.mono B1.out.size)); have O2 := Lib.hid (O1.out.below b2); have e8 := (b2.cell (p := ⟨g, 0, none⟩) (World.block_lt_of_cell? w1 _ e0)).trans e0; clear b2 CO)
      | (go_at_call 20; ((with_reducible refine (C46 _).mono ?_); rintro e w3 ⟨a3, cap3, rfl, o3, b3⟩); (first | (have B3 := Lib.hid (B2.out.trans (b3.mono B2.out.size))) | (have B3 := Lib.hid (B1.out.trans (b3.mono B1.out.size)))); have O3 := Lib.hid o3; clear o3 b3 C46))
    go_loopw [5] (fun v wr => ∃ k : Nat, k ≤ N2 ∧ v = .int .i64 k ∧ Hid ((L2.take k).all partsOk = true) ∧ Hid (Below w3.heap.size w3 wr)) (fun v _ => N2 - (intOf v).toNat)
    case atStart => exact ⟨0, Nat.zero_le _, rfl, Lib.hid rfl, Lib.hid (Below.refl _ _)⟩
    case round =>
      obtain ⟨k, hk, rfl, hok, hB⟩ := hrel
      have HB := Lib.hid (B3.out.trans (hB.out.mono B3.out.size))
      by_cases hlt : k < N2
      · obtain ⟨g3, hga3, -, e3⟩ := (O3.out.below hB.out).at (k := k) (by have := HN2.out; omega)
        subst hga3
        have hml := HPC.out k
        have HA := Lib.hid (parts_all (k := k) (by have := HN2.out; omega) hok.out)
        have HZ := Lib.hid (fun h => parts_none (l := L2) (k := k) (by have := HN2.out; omega) h)
        generalize L2.getD k [] = m at *
        have CM : ∀ w, Calls Tryd.prog 32 #[.string (str m), .string ⟨#[97, 98, 99, 100, 101, 102, 103, 104, 105, 106, 107, 108, 109, 110, 111, 112, 113, 114, 115, 116, 117, 118, 119, 120, 121, 122, 48, 49, 50, 51, 52, 53, 54, 55, 56, 57, 65, 66, 67, 68, 69, 70, 71, 72, 73, 74, 75, 76, 77, 78, 79, 80, 81, 82, 83, 84, 85, 86, 87, 88, 89, 90, 45]⟩] w fun e w' => e = .returned (.bool (ofB m (allB ++ [45]))) ∧ Below w.heap.size w w' := fun w => ofC _ ⟨#[97, 98, 99, 100, 101, 102, 103, 104, 105, 106, 107, 108, 109, 110, 111, 112, 113, 114, 115, 116, 117, 118, 119, 120, 121, 122, 48, 49, 50, 51, 52, 53, 54, 55, 56, 57, 65, 66, 67, 68, 69, 70, 71, 72, 73, 74, 75, 76, 77, 78, 79, 80, 81, 82, 83, 84, 85, 86, 87, 88, 89, 90, 45]⟩ w (by omega) (by decide)
        have HPO := Lib.hid (show partsOk m = (!decide (m.length = 0) && (ofB m (allB ++ [45]) && (!decide (m.getD 0 0 = 45) && !decide (m.getD (m.length - 1) 0 = 45)))) from rfl)
        have szm := str_size m
        have g1 : (k : Int) < (N2 : Int) := by omega
        have hm6 : m.length ≤ 1000000 := by omega
        have cases5 : (m.length = 0 ∧ partsOk m = false) ∨ (0 < m.length ∧ ofB m (allB ++ [45]) = false ∧ partsOk m = false) ∨ (0 < m.length ∧ ofB m (allB ++ [45]) = true ∧ m.getD 0 0 = 45 ∧ partsOk m = false) ∨
            (0 < m.length ∧ ofB m (allB ++ [45]) = true ∧ ¬ m.getD 0 0 = 45 ∧ m.getD (m.length - 1) 0 = 45 ∧ partsOk m = false) ∨ (0 < m.length ∧ ofB m (allB ++ [45]) = true ∧ ¬ m.getD 0 0 = 45 ∧ ¬ m.getD (m.length - 1) 0 = 45 ∧ partsOk m = true) := by
          have e := HPO.out
          by_cases r1 : m.length = 0
          · exact .inl ⟨r1, by rw [e, decide_eq_true r1]; rfl⟩
          · rw [decide_eq_false r1] at e
            cases r2 : ofB m (allB ++ [45])
            · exact .inr (.inl ⟨by omega, rfl, by rw [e, r2]; rfl⟩)
            · by_cases r3 : m.getD 0 0 = 45
              · exact .inr (.inr (.inl ⟨by omega, rfl, r3, by rw [e, r2, decide_eq_true r3]; rfl⟩))
              · by_cases r4 : m.getD (m.length - 1) 0 = 45
                · exact .inr (.inr (.inr (.inl ⟨by omega, rfl, r3, r4, by rw [e, r2, decide_eq_false r3, decide_eq_true r4]; rfl⟩)))
                · exact .inr (.inr (.inr (.inr ⟨by omega, rfl, r3, r4, by rw [e, r2, decide_eq_false r3, decide_eq_false r4]; rfl⟩)))
        clear HPO
        rcases cases5 with ⟨r1, r5⟩ | ⟨r1, r2, r5⟩ | ⟨r1, r2, r3, r5⟩ | ⟨r1, r2, r3, r4, r5⟩ | ⟨r1, r2, r3, r4, r5⟩
        · have HR := Lib.hid (HZ.out r5)
          go_wp2
          go_ret
          exact ⟨retBool (by rw [HFF.out, HR.out]), HB.out⟩
        · have i0 := idx_str (str m) 0 0 rfl (by omega)
          have i1 := idx_str (str m) (m.length - 1) ((m.length : Int) - 1) (by omega) (by omega)
          have h0 := at_lit m 0 45 45 rfl (by decide) (by omega)
          have h1 := at_lit2 m (m.length - 1) 45 45 rfl (by decide) (by omega)
          rw [show UInt8.ofNat 45 = 45 from rfl] at h0 h1
          rw [r2] at CM
          have hz : ((m.length : Int) == 0) = false := by rw [beq_eq_false_iff_ne]; omega
          have HR := Lib.hid (HZ.out r5)
          clear r2 r5
          go_wp2_with (go_at_call 32; go_loud (((with_reducible refine (CM _).mono ?_); rintro e w5 ⟨rfl, b5⟩); have B5 := Lib.hid (hB.out.trans (b5.mono hB.out.size)); have e7 := (b5.cell (p := ⟨g3, k, none⟩) (World.block_lt_of_cell? wr _ e3)).trans e3; clear b5 CM))
          go_ret
          exact ⟨retBool (by rw [HFF.out, HR.out]), B3.out.trans (B5.out.mono B3.out.size)⟩
        · have i0 := idx_str (str m) 0 0 rfl (by omega)
          have i1 := idx_str (str m) (m.length - 1) ((m.length : Int) - 1) (by omega) (by omega)
          have h0 := at_lit m 0 45 45 rfl (by decide) (by omega)
          have h1 := at_lit2 m (m.length - 1) 45 45 rfl (by decide) (by omega)
          rw [show UInt8.ofNat 45 = 45 from rfl] at h0 h1
          rw [r2] at CM
          have hz : ((m.length : Int) == 0) = false := by rw [beq_eq_false_iff_ne]; omega
          rw [decide_eq_true r3] at h0
          clear r3
          have HR := Lib.hid (HZ.out r5)
          clear r2 r5
          go_wp2_with (go_at_call 32; go_loud (((with_reducible refine (CM _).mono ?_); rintro e w5 ⟨rfl, b5⟩); have B5 := Lib.hid (hB.out.trans (b5.mono hB.out.size)); have e7 := (b5.cell (p := ⟨g3, k, none⟩) (World.block_lt_of_cell? wr _ e3)).trans e3; clear b5 CM))
          go_ret
          exact ⟨retBool (by rw [HFF.out, HR.out]), B3.out.trans (B5.out.mono B3.out.size)⟩
        · have i0 := idx_str (str m) 0 0 rfl (by omega)
          have i1 := idx_str (str m) (m.length - 1) ((m.length : Int) - 1) (by omega) (by omega)
          have h0 := at_lit m 0 45 45 rfl (by decide) (by omega)
          have h1 := at_lit2 m (m.length - 1) 45 45 rfl (by decide) (by omega)
          rw [show UInt8.ofNat 45 = 45 from rfl] at h0 h1
          rw [r2] at CM
          have hz : ((m.length : Int) == 0) = false := by rw [beq_eq_false_iff_ne]; omega
          rw [decide_eq_false r3] at h0
          rw [decide_eq_true r4] at h1
          clear r3 r4
          have HR := Lib.hid (HZ.out r5)
          clear r2 r5
          go_wp2_with (go_at_call 32; go_loud (((with_reducible refine (CM _).mono ?_); rintro e w5 ⟨rfl, b5⟩); have B5 := Lib.hid (hB.out.trans (b5.mono hB.out.size)); have e7 := (b5.cell (p := ⟨g3, k, none⟩) (World.block_lt_of_cell? wr _ e3)).trans e3; clear b5 CM))
          go_ret
          exact ⟨retBool (by rw [HFF.out, HR.out]), B3.out.trans (B5.out.mono B3.out.size)⟩
        · have i0 := idx_str (str m) 0 0 rfl (by omega)
          have i1 := idx_str (str m) (m.length - 1) ((m.length : Int) - 1) (by omega) (by omega)
          have h0 := at_lit m 0 45 45 rfl (by decide) (by omega)
          have h1 := at_lit2 m (m.length - 1) 45 45 rfl (by decide) (by omega)
          rw [show UInt8.ofNat 45 = 45 from rfl] at h0 h1
          rw [r2] at CM
          have hz : ((m.length : Int) == 0) = false := by rw [beq_eq_false_iff_ne]; omega
          rw [decide_eq_false r3] at h0
          rw [decide_eq_false r4] at h1
          have HO5 := Lib.hid (show (L2.take (k + 1)).all partsOk = true by rw [HA.out]; exact r5)
          clear r2 r3 r4 r5
          go_wp2_with (go_at_call 32; go_loud (((with_reducible refine (CM _).mono ?_); rintro e w5 ⟨rfl, b5⟩); have B5 := Lib.hid (hB.out.trans (b5.mono hB.out.size)); have e7 := (b5.cell (p := ⟨g3, k, none⟩) (World.block_lt_of_cell? wr _ e3)).trans e3; clear b5 CM))
          go_roundw
          case rel => exact ⟨k + 1, by omega, by go_num, HO5, B5⟩
          case measure => simp [intOf]; omega
      · have HR := Lib.hid (show L2.all partsOk = true by have := hok.out; rwa [List.take_of_length_le (by have := HN2.out; omega)] at this)
        go_wp2
        go_ret
        exact ⟨retBool (by rw [HFF.out, HR.out]), HB.out⟩
  · have HFF := Lib.hid hF
    clear HI hp hF
    go_enter Tryd.func30, Tryd.ntmps30
    go_wp2_with (first
      | (go_at_call 20; ((with_reducible refine (CA).mono ?_); rintro e w1 ⟨a1, cap1, rfl, o1, b1⟩); have O1 := Lib.hid o1; have B1 := Lib.hid b1; obtain ⟨g, hga, -, e0⟩ := o1.at (k := 0) (by have := HN.out; omega); subst hga; rw [← HH.out] at e0;  clear o1 b1 CA)
      | (go_at_call 32; ((with_reducible refine (CO _).mono ?_); rintro e w2 ⟨rfl, b2⟩); have B2 := Lib.hid (B1.out.trans (b2.mono B1.out.size)); have O2 := Lib.hid (O1.out.below b2); have e8 := (b2.cell (p := ⟨g, 0, none⟩) (World.block_lt_of_cell? w1 _ e0)).trans e0; clear b2 CO)
      | (go_at_call 20; ((with_reducible refine (C46 _).mono ?_); rintro e w3 ⟨a3, cap3, rfl, o3, b3⟩); (first | (have B3 := Lib.hid (B2.out.trans (b3.mono B2.out.size))) | (have B3 := Lib.hid (B1.out.trans (b3.mono B1.out.size)))); have O3 := Lib.hid o3; clear o3 b3 C46))
    go_loopw [5] (fun v wr => ∃ k : Nat, k ≤ N2 ∧ v = .int .i64 k ∧ Hid ((L2.take k).all partsOk = true) ∧ Hid (Below w3.heap.size w3 wr)) (fun v _ => N2 - (intOf v).toNat)
    case atStart => exact ⟨0, Nat.zero_le _, rfl, Lib.hid rfl, Lib.hid (Below.refl _ _)⟩
    case round =>
      obtain ⟨k, hk, rfl, hok, hB⟩ := hrel
      have HB := Lib.hid (B3.out.trans (hB.out.mono B3.out.size))
      by_cases hlt : k < N2
      · obtain ⟨g3, hga3, -, e3⟩ := (O3.out.below hB.out).at (k := k) (by have := HN2.out; omega)
        subst hga3
        have hml := HPC.out k
        have HA := Lib.hid (parts_all (k := k) (by have := HN2.out; omega) hok.out)
        have HZ := Lib.hid (fun h => parts_none (l := L2) (k := k) (by have := HN2.out; omega) h)
        generalize L2.getD k [] = m at *
        have CM : ∀ w, Calls Tryd.prog 32 #[.string (str m), .string ⟨#[97, 98, 99, 100, 101, 102, 103, 104, 105, 106, 107, 108, 109, 110, 111, 112, 113, 114, 115, 116, 117, 118, 119, 120, 121, 122, 48, 49, 50, 51, 52, 53, 54, 55, 56, 57, 65, 66, 67, 68, 69, 70, 71, 72, 73, 74, 75, 76, 77, 78, 79, 80, 81, 82, 83, 84, 85, 86, 87, 88, 89, 90, 45]⟩] w fun e w' => e = .returned (.bool (ofB m (allB ++ [45]))) ∧ Below w.heap.size w w' := fun w => ofC _ ⟨#[97, 98, 99, 100, 101, 102, 103, 104, 105, 106, 107, 108, 109, 110, 111, 112, 113, 114, 115, 116, 117, 118, 119, 120, 121, 122, 48, 49, 50, 51, 52, 53, 54, 55, 56, 57, 65, 66, 67, 68, 69, 70, 71, 72, 73, 74, 75, 76, 77, 78, 79, 80, 81, 82, 83, 84, 85, 86, 87, 88, 89, 90, 45]⟩ w (by omega) (by decide)
        have HPO := Lib.hid (show partsOk m = (!decide (m.length = 0) && (ofB m (allB ++ [45]) && (!decide (m.getD 0 0 = 45) && !decide (m.getD (m.length - 1) 0 = 45)))) from rfl)
        have szm := str_size m
        have g1 : (k : Int) < (N2 : Int) := by omega
        have hm6 : m.length ≤ 1000000 := by omega
        have cases5 : (m.length = 0 ∧ partsOk m = false) ∨ (0 < m.length ∧ ofB m (allB ++ [45]) = false ∧ partsOk m = false) ∨ (0 < m.length ∧ ofB m (allB ++ [45]) = true ∧ m.getD 0 0 = 45 ∧ partsOk m = false) ∨
            (0 < m.length ∧ ofB m (allB ++ [45]) = true ∧ ¬ m.getD 0 0 = 45 ∧ m.getD (m.length - 1) 0 = 45 ∧ partsOk m = false) ∨ (0 < m.length ∧ ofB m (allB ++ [45]) = true ∧ ¬ m.getD 0 0 = 45 ∧ ¬ m.getD (m.length - 1) 0 = 45 ∧ partsOk m = true) := by
          have e := HPO.out
          by_cases r1 : m.length = 0
          · exact .inl ⟨r1, by rw [e, decide_eq_true r1]; rfl⟩
          · rw [decide_eq_false r1] at e
            cases r2 : ofB m (allB ++ [45])
            · exact .inr (.inl ⟨by omega, rfl, by rw [e, r2]; rfl⟩)
            · by_cases r3 : m.getD 0 0 = 45
              · exact .inr (.inr (.inl ⟨by omega, rfl, r3, by rw [e, r2, decide_eq_true r3]; rfl⟩))
              · by_cases r4 : m.getD (m.length - 1) 0 = 45
                · exact .inr (.inr (.inr (.inl ⟨by omega, rfl, r3, r4, by rw [e, r2, decide_eq_false r3, decide_eq_true r4]; rfl⟩)))
                · exact .inr (.inr (.inr (.inr ⟨by omega, rfl, r3, r4, by rw [e, r2, decide_eq_false r3, decide_eq_false r4]; rfl⟩)))
        clear HPO
        rcases cases5 with ⟨r1, r5⟩ | ⟨r1, r2, r5⟩ | ⟨r1, r2, r3, r5⟩ | ⟨r1, r2, r3, r4, r5⟩ | ⟨r1, r2, r3, r4, r5⟩
        · have HR := Lib.hid (HZ.out r5)
          go_wp2
          go_ret
          exact ⟨retBool (by rw [HFF.out, HR.out]), HB.out⟩
        · have i0 := idx_str (str m) 0 0 rfl (by omega)
          have i1 := idx_str (str m) (m.length - 1) ((m.length : Int) - 1) (by omega) (by omega)
          have h0 := at_lit m 0 45 45 rfl (by decide) (by omega)
          have h1 := at_lit2 m (m.length - 1) 45 45 rfl (by decide) (by omega)
          rw [show UInt8.ofNat 45 = 45 from rfl] at h0 h1
          rw [r2] at CM
          have hz : ((m.length : Int) == 0) = false := by rw [beq_eq_false_iff_ne]; omega
          have HR := Lib.hid (HZ.out r5)
          clear r2 r5
          go_wp2_with (go_at_call 32; go_loud (((with_reducible refine (CM _).mono ?_); rintro e w5 ⟨rfl, b5⟩); have B5 := Lib.hid (hB.out.trans (b5.mono hB.out.size)); have e7 := (b5.cell (p := ⟨g3, k, none⟩) (World.block_lt_of_cell? wr _ e3)).trans e3; clear b5 CM))
          go_ret
          exact ⟨retBool (by rw [HFF.out, HR.out]), B3.out.trans (B5.out.mono B3.out.size)⟩
        · have i0 := idx_str (str m) 0 0 rfl (by omega)
          have i1 := idx_str (str m) (m.length - 1) ((m.length : Int) - 1) (by omega) (by omega)
          have h0 := at_lit m 0 45 45 rfl (by decide) (by omega)
          have h1 := at_lit2 m (m.length - 1) 45 45 rfl (by decide) (by omega)
          rw [show UInt8.ofNat 45 = 45 from rfl] at h0 h1
          rw [r2] at CM
          have hz : ((m.length : Int) == 0) = false := by rw [beq_eq_false_iff_ne]; omega
          rw [decide_eq_true r3] at h0
          clear r3
          have HR := Lib.hid (HZ.out r5)
          clear r2 r5
          go_wp2_with (go_at_call 32; go_loud (((with_reducible refine (CM _).mono ?_); rintro e w5 ⟨rfl, b5⟩); have B5 := Lib.hid (hB.out.trans (b5.mono hB.out.size)); have e7 := (b5.cell (p := ⟨g3, k, none⟩) (World.block_lt_of_cell? wr _ e3)).trans e3; clear b5 CM))
          go_ret
          exact ⟨retBool (by rw [HFF.out, HR.out]), B3.out.trans (B5.out.mono B3.out.size)⟩
        · have i0 := idx_str (str m) 0 0 rfl (by omega)
          have i1 := idx_str (str m) (m.length - 1) ((m.length : Int) - 1) (by omega) (by omega)
          have h0 := at_lit m 0 45 45 rfl (by decide) (by omega)
          have h1 := at_lit2 m (m.length - 1) 45 45 rfl (by decide) (by omega)
          rw [show UInt8.ofNat 45 = 45 from rfl] at h0 h1
          rw [r2] at CM
          have hz : ((m.length : Int) == 0) = false := by rw [beq_eq_false_iff_ne]; omega
          rw [decide_eq_false r3] at h0
          rw [decide_eq_true r4] at h1
          clear r3 r4
          have HR := Lib.hid (HZ.out r5)
          clear r2 r5
          go_wp2_with (go_at_call 32; go_loud (((with_reducible refine (CM _).mono ?_); rintro e w5 ⟨rfl, b5⟩); have B5 := Lib.hid (hB.out.trans (b5.mono hB.out.size)); have e7 := (b5.cell (p := ⟨g3, k, none⟩) (World.block_lt_of_cell? wr _ e3)).trans e3; clear b5 CM))
          go_ret
          exact ⟨retBool (by rw [HFF.out, HR.out]), B3.out.trans (B5.out.mono B3.out.size)⟩
        · have i0 := idx_str (str m) 0 0 rfl (by omega)
          have i1 := idx_str (str m) (m.length - 1) ((m.length : Int) - 1) (by omega) (by omega)
          have h0 := at_lit m 0 45 45 rfl (by decide) (by omega)
          have h1 := at_lit2 m (m.length - 1) 45 45 rfl (by decide) (by omega)
          rw [show UInt8.ofNat 45 = 45 from rfl] at h0 h1
          rw [r2] at CM
          have hz : ((m.length : Int) == 0) = false := by rw [beq_eq_false_iff_ne]; omega
          rw [decide_eq_false r3] at h0
          rw [decide_eq_false r4] at h1
          have HO5 := Lib.hid (show (L2.take (k + 1)).all partsOk = true by rw [HA.out]; exact r5)
          clear r2 r3 r4 r5
          go_wp2_with (go_at_call 32; go_loud (((with_reducible refine (CM _).mono ?_); rintro e w5 ⟨rfl, b5⟩); have B5 := Lib.hid (hB.out.trans (b5.mono hB.out.size)); have e7 := (b5.cell (p := ⟨g3, k, none⟩) (World.block_lt_of_cell? wr _ e3)).trans e3; clear b5 CM))
          go_roundw
          case rel => exact ⟨k + 1, by omega, by go_num, HO5, B5⟩
          case measure => simp [intOf]; omega
      · have HR := Lib.hid (show L2.all partsOk = true by have := hok.out; rwa [List.take_of_length_le (by have := HN2.out; omega)] at this)
        go_wp2
        go_ret
        exact ⟨retBool (by rw [HFF.out, HR.out]), HB.out⟩
end Go.Proofs.YtldbfjcfobdkpaaDoor
