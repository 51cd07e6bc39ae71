/- Layer 15: the document's reader, walked. -/
import Derived.Test.YtmgpofdmoaafoaaGreatDoorTsX
import Derived.Test.YtmgpofdmoaafoaaGreatDoorRnt
import Derived.Test.YtmgpofdmoaafoaaGreatDoorTsO
import Derived.Sort.QuietLawsIn
namespace Go.Proofs.YtmgpofdmoaafoaaGreatDoor
open Go.RowKit
attribute [local go_sem] wide_fn round_fn

set_option maxRecDepth 100000 in
set_option maxHeartbeats 64000000 in
theorem readD_any (s : Bs) (hs : s.length ≤ 1000000000) (w : World) :
    Calls Tryz.prog 9 #[.string (str s)] w fun e w' => ∃ v, e = .returned (.tuple #[v, .int .i64 ((readR s none []).1 : Int)]) ∧ OwnsE w' w.heap.size v (readR s none []).2 ∧ Below w.heap.size w w' := by
  obtain ⟨W0, hW0⟩ : ∃ W0, W0 = w.alloc (.cells none3 61) := ⟨_, rfl⟩
  have HW0 := Lib.hid hW0
  have HM0 : Hid (RdM w (.slice none 0 0) [] none W0) := Lib.hid (by rw [hW0]; exact RdM.start w)
  clear hW0
  have HI := Lib.hid info_r72
  go_enter Tryz.func9, Tryz.ntmps9
  go_upto_region 4 with (fail)
  rw [show w.alloc (.cells #[.slice none 0 0, .slice none 0 0, .slice none 0 0] 61) = W0 from HW0.out.symm]
  go_loopw [0, 4, 6] (fun d v x wr => ∃ (t : Bs) (wt : Option Recs) (out : List Ent), d = .string (str t) ∧ x = .bool wt.isSome ∧ t.length ≤ s.length ∧ out.length ≤ 200 ∧ Hid (readR s none [] = readR t wt out) ∧ Hid (WtB wt) ∧ Hid (RdM w v out wt wr)) (fun d _ _ _ => match d with | .string b => b.size | _ => 0)
  case atStart => exact ⟨s, none, [], rfl, rfl, Nat.le_refl _, Nat.zero_le _, Lib.hid rfl, Lib.hid wtB_none, HM0⟩
  case round =>
    obtain ⟨t, wt, out, rfl, rfl, hts, ho2, hR, hWB, hM⟩ := hrel
    have hz := str_size t
    by_cases hlt : t.length < 512
    · have HE : Hid (readR s none [] = (10, [])) := Lib.hid (by rw [hR.out, readR_short wt out hlt])
      have g1 : ¬ (512 : Int) ≤ ((str t).size : Int) := by omega
      generalize str t = S at *
      go_wp2
      go_ret2
      rw [HE.out]
      exact ⟨_, rfl, ownsE_nil _ _, hM.out.b⟩
    · have g1 : (512 : Int) ≤ ((str t).size : Int) := by omega
      have eH : (str t).extract 0 512 = str (t.take 512) := by rw [extract_str, sl, List.drop_zero]
      have eT : (str t).extract 512 t.length = str (t.drop 512) := by rw [extract_str, sl, List.take_length]
      have hHl : (t.take 512).length = 512 := by rw [List.length_take]; omega
      have hTl : (t.drop 512).length = t.length - 512 := List.length_drop
      have hHz := str_size (t.take 512)
      rw [hHl] at hHz
      have hTz := str_size (t.drop 512)
      have CE1 := fun W => emptyR_any (t.take 512) (by omega) W
      have CE2 := fun W => emptyR_any (t.drop 512) (by omega) W
      cases hz1 : allZ (t.take 512) with
      | true =>
        rw [hz1] at CE1
        have HE : Hid (readR s none [] = if wt.isSome = true ∨ (t.drop 512).length < 512 ∨ allZ (t.drop 512) = false then (10, []) else (0, out)) := Lib.hid (by rw [hR.out, readR, if_neg hlt, if_pos hz1])
        generalize str (t.take 512) = H at *
        generalize str (t.drop 512) = U at *
        generalize str t = S at *
        by_cases hd : (t.drop 512).length < 512
        · have HE2 : Hid (readR s none [] = (10, [])) := Lib.hid (by rw [HE.out, if_pos (.inr (.inl hd))])
          have g2 : ((t.drop 512).length : Int) < 512 := by omega
          go_wp2_with (first
              | (go_at_call 22; ((with_reducible refine (CE1 _).mono ?_); rintro e w1 ⟨rfl, rfl⟩))
              | (go_at_call 22; ((with_reducible refine (CE2 _).mono ?_); rintro e w2 ⟨rfl, rfl⟩)))
          go_ret2
          rw [HE2.out]
          exact ⟨_, rfl, ownsE_nil _ _, hM.out.b⟩
        · have g2 : ¬ ((t.drop 512).length : Int) < 512 := by omega
          cases hz2 : allZ (t.drop 512) with
          | false =>
            rw [hz2] at CE2
            have HE2 : Hid (readR s none [] = (10, [])) := Lib.hid (by rw [HE.out, if_pos (.inr (.inr hz2))])
            go_wp2_with (first
              | (go_at_call 22; ((with_reducible refine (CE1 _).mono ?_); rintro e w1 ⟨rfl, rfl⟩))
              | (go_at_call 22; ((with_reducible refine (CE2 _).mono ?_); rintro e w2 ⟨rfl, rfl⟩)))
            go_ret2
            rw [HE2.out]
            exact ⟨_, rfl, ownsE_nil _ _, hM.out.b⟩
          | true =>
            rw [hz2] at CE2
            cases wt with
            | some r0 =>
              have HE2 : Hid (readR s none [] = (10, [])) := Lib.hid (by rw [HE.out, if_pos (.inl rfl)])
              go_wp2_with (first
              | (go_at_call 22; ((with_reducible refine (CE1 _).mono ?_); rintro e w1 ⟨rfl, rfl⟩))
              | (go_at_call 22; ((with_reducible refine (CE2 _).mono ?_); rintro e w2 ⟨rfl, rfl⟩)))
              go_ret2
              rw [HE2.out]
              exact ⟨_, rfl, ownsE_nil _ _, hM.out.b⟩
            | none =>
              have HE2 : Hid (readR s none [] = (0, out)) := Lib.hid (by
                rw [HE.out, if_neg]
                rintro (h | h | h)
                · cases h
                · exact hd h
                · rw [hz2] at h; cases h)
              go_wp2_with (first
              | (go_at_call 22; ((with_reducible refine (CE1 _).mono ?_); rintro e w1 ⟨rfl, rfl⟩))
              | (go_at_call 22; ((with_reducible refine (CE2 _).mono ?_); rintro e w2 ⟨rfl, rfl⟩)))
              go_ret2
              rw [HE2.out]
              exact ⟨_, rfl, hM.out.o.base (by omega), hM.out.b⟩
      | false =>
        rw [hz1] at CE1
        clear CE2
        have HHD : Hid (readR s none [] = match headR (t.take 512) with
            | none => (10, [])
            | some h => match stepR h (t.drop 512) wt out with
              | .inl e => (e, [])
              | .inr (r', wt', out') => if r'.length < t.length then readR r' wt' out' else (10, [])) := Lib.hid (by rw [hR.out, readR, if_neg hlt, if_neg (by rw [hz1]; decide)]; rfl)
        obtain ⟨h, hh⟩ : ∃ h, h = t.take 512 := ⟨_, rfl⟩
        obtain ⟨u, hu⟩ : ∃ u, u = t.drop 512 := ⟨_, rfl⟩
        rw [← hh] at eH hHl hHz CE1 HHD
        rw [← hu] at eT hTl hTz HHD
        have HTL : Hid (u.length + 512 = t.length ∧ h.length = 512) := Lib.hid ⟨by omega, hHl⟩
        clear hh hu hz1 hR
        have HEXT : Hid (∀ a b, (str h).extract a b = str (sl h a b)) := Lib.hid fun a b => extract_str h a b
        have HN : Hid (∀ (a b : Nat) (W : World), b - a ≤ 12 → Calls Tryz.prog 23 #[.string (str (sl h a b))] W fun e w' => e = .returned (.int .i64 (numI (numF (sl h a b)))) ∧ W = w') := Lib.hid fun a b W hab => numberR_any (sl h a b) (by rw [sl_cut]; omega) W
        have HSUM : Hid (∀ W, Calls Tryz.prog 7 #[.string (str h)] W fun e w' => e = .returned (.int .i64 ((sumH h : Nat) : Int)) ∧ W = w') := Lib.hid fun W => rsum_any h hHl W
        have HIX : Hid (∀ w, (Instr.index 9 (.string (str h)) (.int .i64 156)).run Tryz.prog w = .ok (.int .u8 ((h.getD 156 0).toNat : Int)) w) := Lib.hid (by
          have := idx_str (str h) 156 156 rfl (by rw [hHz]; decide)
          rwa [str_toList] at this)
        have HKB : Hid ((h.getD 156 0).toNat < 256) := Lib.hid (UInt8.toNat_lt _)
        generalize str t = S at *
        go_upto_region 11 with (go_at_call 22; ((with_reducible refine (CE1 _).mono ?_); rintro e w1 ⟨rfl, rfl⟩))
        clear CE1 eH eT hHl hTl hlt g1
        have HUE : Hid (∀ a b, (str u).extract a b = str (sl u a b)) := Lib.hid fun a b => extract_str u a b
        have HUZ := Lib.hid hTz
        clear hTz
        generalize str u = U at *
        obtain ⟨md, hmd⟩ : ∃ m, m = numF (sl h 100 108) := ⟨_, rfl⟩
        obtain ⟨sz, hsz⟩ : ∃ m, m = numF (sl h 124 136) := ⟨_, rfl⟩
        obtain ⟨kd, hkd⟩ : ∃ k, k = (h.getD 156 0).toNat := ⟨_, rfl⟩
        have e1 := HEXT.out 100 108
        have e2 := HEXT.out 124 136
        have i156 := HIX.out
        rw [← hkd] at i156
        have N1 : ∀ k, CallsIn Fence.wide 3 Tryz.prog 23 #[.string (str (sl h 100 108))] (wr.drewN k) fun e w'' => e = .returned (.int .i64 (numI md)) ∧ ∃ m, w'' = wr.drewN m := fun k =>
          (callsIn_wide.2 (HN.out 100 108 _ (by decide))).mono fun e w'' ⟨he, hw⟩ => ⟨by rw [he, hmd], k, hw.symm⟩
        have N2 : ∀ k, CallsIn Fence.wide 3 Tryz.prog 23 #[.string (str (sl h 124 136))] (wr.drewN k) fun e w'' => e = .returned (.int .i64 (numI sz)) ∧ ∃ m, w'' = wr.drewN m := fun k =>
          (callsIn_wide.2 (HN.out 124 136 _ (by decide))).mono fun e w'' ⟨he, hw⟩ => ⟨by rw [he, hsz], k, hw.symm⟩
        have HMD := Lib.hid hmd
        have HSZ := Lib.hid hsz
        have HKD := Lib.hid hkd
        clear hmd hsz hkd
        have g156 : (156 : Int) < ((str h).size : Int) := by omega
        refine (wpIn_wide (n := 4)).1 ?_
        refine region_quiet_drew (by kernel_rfl) (by kernel_rfl) (by kernel_rfl) ?_
        iterate 2 gi_big_quiet_step (fail)
        gi_big_quiet_step ((gi_at_call 23; exact N1 _))
        iterate 2 gi_big_quiet_step (fail)
        gi_big_quiet_step ((gi_at_call 23; exact N2 _))
        iterate 5 gi_big_quiet_step (fail)
        refine wpQuietIn_nil ?_
        rintro _ ⟨nq, rfl⟩
        have HM1 := Lib.hid (hM.out.drewN nq)
        clear N1 N2 i156 e1 e2 hM
        generalize wr.drewN nq = w1 at *
        gi_wp2
        have HBD := Lib.hid (@head_bad h)
        have HGD := Lib.hid (@head_good h)
        -- what tells that it is no head
        have K1 : ∀ y : After w1, CallsIn Fence.wide 3 Tryz.prog 23 #[.string (str (sl h 148 156))] y.v fun e w'' => e = .returned (.int .i64 (numI (numF (sl h 148 156)))) ∧ ∃ z : After w1, w'' = z.v := fun y =>
          (callsIn_wide.2 (HN.out 148 156 _ (by decide))).mono fun e w'' ⟨he, hw⟩ => ⟨he, y, hw.symm⟩
        have K2 : ∀ y : After w1, CallsIn Fence.wide 3 Tryz.prog 7 #[.string (str h)] y.v fun e w'' => e = .returned (.int .i64 ((sumH h : Nat) : Int)) ∧ ∃ z : After w1, w'' = z.v := fun y =>
          (callsIn_wide.2 (HSUM.out _)).mono fun e w'' ⟨he, hw⟩ => ⟨he, y, hw.symm⟩
        have K3 : ∀ y : After w1, CallsIn Fence.wide 3 Tryz.prog 16 #[.int .i64 1] y.v fun e w'' => e = .returned (.string (⟨#[0]⟩ : ByteArray)) ∧ ∃ z : After w1, w'' = z.v := fun y =>
          (callsIn_wide.2 (zerosR_any 1 (by decide) y.v)).mono fun e w'' ⟨he, hb⟩ => ⟨he, ⟨w'', y.h.trans (hb.mono y.h.size)⟩, rfl⟩
        have e3 := HEXT.out 148 156
        have e4 := HEXT.out 257 265
        go_upto_region 12 with (fail)
        obtain ⟨M, hMM⟩ : ∃ M, M = numI md := ⟨_, rfl⟩
        obtain ⟨Z, hZZ⟩ : ∃ Z, Z = numI sz := ⟨_, rfl⟩
        obtain ⟨N3, hN3⟩ : ∃ N, N = numI (numF (sl h 148 156)) := ⟨_, rfl⟩
        rw [← hMM, ← hZZ]
        rw [← hN3] at K1
        have HMM := Lib.hid hMM
        have HZZ := Lib.hid hZZ
        have HN3 := Lib.hid hN3
        clear hMM hZZ hN3
        by_cases hb1 : M < 0 ∨ Z < 0 ∨ N3 ≠ (sumH h : Int) ∨ sl h 257 265 ≠ magicL
        · have HE : Hid (readR s none [] = (10, [])) := Lib.hid (by
            have hb : badH h = true := by
              unfold badH
              rcases hb1 with e | e | e | e
              · have := numI_neg.1 (HMM.out ▸ e : numI md < 0)
                rw [HMD.out] at this
                rw [this]; rfl
              · have := numI_neg.1 (HZZ.out ▸ e : numI sz < 0)
                rw [HSZ.out] at this
                rw [this]; simp
              · have : numF (sl h 148 156) ≠ some (sumH h) := fun e2 => e (by rw [HN3.out, e2]; rfl)
                rw [decide_eq_false this]; simp
              · rw [decide_eq_false e]; simp
            rw [HHD.out, HBD.out hb])
          have hO := HM1.out.b
          by_cases c1 : M < 0
          · clear hb1
            refine (wpIn_wide (n := 4)).1 ?_
            refine region_quiet (C := fun w' => ∃ y : After w1, w' = y.v) (by kernel_rfl) (by kernel_rfl) (by kernel_rfl) ⟨⟨w1.drew, (Below.refl _ _).drew⟩, rfl⟩ ?_
            iterate 22 gi_big_quiet_step (fail)
            refine wpQuietIn_nil ?_
            rintro _ ⟨y, rfl⟩
            have HB2 : Hid (Below w.heap.size w y.v) := Lib.hid (hO.trans (y.h.mono hO.size))
            clear K1 K2 K3
            generalize y.v = w2 at *
            gi_wp2
            go_wp2
            go_ret2
            rw [HE.out]
            exact ⟨_, rfl, ownsE_nil _ _, HB2.out⟩
          · by_cases c2 : Z < 0
            · clear hb1
              refine (wpIn_wide (n := 4)).1 ?_
              refine region_quiet (C := fun w' => ∃ y : After w1, w' = y.v) (by kernel_rfl) (by kernel_rfl) (by kernel_rfl) ⟨⟨w1.drew, (Below.refl _ _).drew⟩, rfl⟩ ?_
              iterate 22 gi_big_quiet_step (fail)
              refine wpQuietIn_nil ?_
              rintro _ ⟨y, rfl⟩
              have HB2 : Hid (Below w.heap.size w y.v) := Lib.hid (hO.trans (y.h.mono hO.size))
              clear K1 K2 K3
              generalize y.v = w2 at *
              gi_wp2
              go_wp2
              go_ret2
              rw [HE.out]
              exact ⟨_, rfl, ownsE_nil _ _, HB2.out⟩
            · by_cases c3 : N3 = (sumH h : Int)
              · have c4 : sl h 257 265 ≠ magicL := by
                  rcases hb1 with e | e | e | e
                  · exact absurd e c1
                  · exact absurd e c2
                  · exact absurd c3 e
                  · exact e
                have q3 : (N3 != (sumH h : Int)) = false := by rw [c3]; simp
                have q4 := eq_strs15 (sl h 257 265) magicL
                rw [decide_eq_false c4] at q4
                clear hb1 c3
                refine (wpIn_wide (n := 4)).1 ?_
                refine region_quiet (C := fun w' => ∃ y : After w1, w' = y.v) (by kernel_rfl) (by kernel_rfl) (by kernel_rfl) ⟨⟨w1.drew, (Below.refl _ _).drew⟩, rfl⟩ ?_
                iterate 9 gi_big_quiet_step (fail)
                gi_big_quiet_step ((gi_at_call 23; exact K1 _))
                iterate 1 gi_big_quiet_step (fail)
                gi_big_quiet_step ((gi_at_call 7; exact K2 _))
                iterate 5 gi_big_quiet_step (fail)
                gi_big_quiet_step ((gi_at_call 16; exact K3 _))
                iterate 2 gi_big_quiet_step (fail)
                rw [magic_cat]
                iterate 2 gi_big_quiet_step (fail)
                refine wpQuietIn_nil ?_
                rintro _ ⟨y, rfl⟩
                have HB2 : Hid (Below w.heap.size w y.v) := Lib.hid (hO.trans (y.h.mono hO.size))
                clear K1 K2 K3
                generalize y.v = w2 at *
                gi_wp2
                go_wp2
                go_ret2
                rw [HE.out]
                exact ⟨_, rfl, ownsE_nil _ _, HB2.out⟩
              · have q3 : (N3 != (sumH h : Int)) = true := by rw [bne_iff_ne]; exact c3
                clear hb1 c3
                refine (wpIn_wide (n := 4)).1 ?_
                refine region_quiet (C := fun w' => ∃ y : After w1, w' = y.v) (by kernel_rfl) (by kernel_rfl) (by kernel_rfl) ⟨⟨w1.drew, (Below.refl _ _).drew⟩, rfl⟩ ?_
                iterate 9 gi_big_quiet_step (fail)
                gi_big_quiet_step ((gi_at_call 23; exact K1 _))
                iterate 1 gi_big_quiet_step (fail)
                gi_big_quiet_step ((gi_at_call 7; exact K2 _))
                iterate 10 gi_big_quiet_step (fail)
                refine wpQuietIn_nil ?_
                rintro _ ⟨y, rfl⟩
                have HB2 : Hid (Below w.heap.size w y.v) := Lib.hid (hO.trans (y.h.mono hO.size))
                clear K1 K2 K3
                generalize y.v = w2 at *
                gi_wp2
                go_wp2
                go_ret2
                rw [HE.out]
                exact ⟨_, rfl, ownsE_nil _ _, HB2.out⟩
        · have hg3 : N3 = (sumH h : Int) := Classical.byContradiction fun e => hb1 (.inr (.inr (.inl e)))
          have hg4 : sl h 257 265 = magicL := Classical.byContradiction fun e => hb1 (.inr (.inr (.inr e)))
          have c1 : ¬ M < 0 := fun e => hb1 (.inl e)
          have c2 : ¬ Z < 0 := fun e => hb1 (.inr (.inl e))
          have q3 : (N3 != (sumH h : Int)) = false := by rw [hg3]; simp
          have q4 := eq_strs15 (sl h 257 265) magicL
          rw [decide_eq_true hg4] at q4
          have hgood : ∃ m n, md = some m ∧ sz = some n ∧ headR h = some ⟨nameR h, cut0 (sl h 157 257), m, n, h.getD 156 0⟩ := by
            have hb : badH h = false := by
              unfold badH
              have h1 : numF (sl h 100 108) ≠ none := fun e => c1 (by rw [HMM.out, HMD.out, e]; decide)
              have h2 : numF (sl h 124 136) ≠ none := fun e => c2 (by rw [HZZ.out, HSZ.out, e]; decide)
              have h3 : numF (sl h 148 156) = some (sumH h) := by
                have h3 := HN3.out
                rw [hg3] at h3
                cases e : numF (sl h 148 156) with
                | none => rw [e] at h3; simp only [numI] at h3; omega
                | some k => rw [e] at h3; simp only [numI] at h3; congr 1; omega
              rw [decide_eq_true h3, decide_eq_true hg4]
              cases e1 : numF (sl h 100 108) with
              | none => exact absurd e1 h1
              | some m =>
                cases e2 : numF (sl h 124 136) with
                | none => exact absurd e2 h2
                | some n => rfl
            obtain ⟨m, n, g1, g2, _, _, g5⟩ := HGD.out hb
            exact ⟨m, n, by rw [HMD.out, g1], by rw [HSZ.out, g2], g5⟩
          obtain ⟨mode, size, hmd, hsz, hhd⟩ := hgood
          have HSB : Hid (mode < 1099511627776 ∧ size < 1099511627776) := Lib.hid ⟨numF_lt (HMD.out ▸ hmd), numF_lt (HSZ.out ▸ hsz)⟩
          have hM2 : M = (mode : Int) := by rw [HMM.out, hmd]; rfl
          have hZ2 : Z = (size : Int) := by rw [HZZ.out, hsz]; rfl
          clear hb1 hg3 hg4 HN3 HMM HZZ HMD HSZ hmd hsz
          subst hM2 hZ2
          have HSTP : Hid (readR s none [] = match stepR ⟨nameR h, cut0 (sl h 157 257), mode, size, h.getD 156 0⟩ u wt out with
              | .inl e => (e, [])
              | .inr (r', wt', out') => if r'.length < t.length then readR r' wt' out' else (10, [])) := Lib.hid (by rw [HHD.out, hhd])
          clear HHD HBD HGD hhd
          refine (wpIn_wide (n := 4)).1 ?_
          refine region_quiet (C := fun w' => ∃ y : After w1, w' = y.v) (by kernel_rfl) (by kernel_rfl) (by kernel_rfl) ⟨⟨w1.drew, (Below.refl _ _).drew⟩, rfl⟩ ?_
          iterate 9 gi_big_quiet_step (fail)
          gi_big_quiet_step ((gi_at_call 23; exact K1 _))
          iterate 1 gi_big_quiet_step (fail)
          gi_big_quiet_step ((gi_at_call 7; exact K2 _))
          iterate 5 gi_big_quiet_step (fail)
          gi_big_quiet_step ((gi_at_call 16; exact K3 _))
          iterate 2 gi_big_quiet_step (fail)
          rw [magic_cat]
          iterate 2 gi_big_quiet_step (fail)
          refine wpQuietIn_nil ?_
          rintro _ ⟨y, rfl⟩
          have HM2 := Lib.hid (HM1.out.below y.h)
          clear K1 K2 K3 q3 q4 e3 e4 HM1 HN HSUM HIX
          generalize y.v = w2 at *
          gi_wp2
          have HKD2 := HKD.out
          by_cases hx : kd = 120
          · have HKX : Hid (h.getD 156 0 = 120) := Lib.hid (UInt8.toNat_inj.1 (by rw [← HKD2, hx]; rfl))
            clear HKD2
            subst hx
            obtain ⟨BK, hBK⟩ : ∃ b, b = 512 * blocksN size := ⟨_, rfl⟩
            have hbk : ((size : Int) + 511) / 512 * 512 = (BK : Int) := by rw [hBK]; unfold blocksN; omega
            have hsl : size ≤ BK := by rw [hBK]; exact le_blocks size
            have hsb2 : (size : Int) < 1099511627776 := by have := HSB.out.2; omega
            have HX : Hid (readR s none [] = if u.length < BK then (10, []) else match recsR (u.take size) rec00 with
                | none => (10, [])
                | some rs => if wt.isSome then (10, []) else if (u.drop BK).length < t.length then readR (u.drop BK) (some rs) out else (10, [])) := Lib.hid (by
              rw [HSTP.out, step_x (h := ⟨nameR h, cut0 (sl h 157 257), mode, size, h.getD 156 0⟩) HKX.out, ← hBK]
              by_cases x1 : u.length < BK
              · rw [if_pos x1, if_pos x1]
              · rw [if_neg x1, if_neg x1]
                cases recsR (u.take size) rec00 with
                | none => rfl
                | some rs => cases wt.isSome <;> rfl)
            have HBK := Lib.hid hBK
            clear hBK HSTP
            have hU := HUZ.out
            by_cases x1 : u.length < BK
            · have HE : Hid (readR s none [] = (10, [])) := Lib.hid (by rw [HX.out, if_pos x1])
              have x1' : (u.length : Int) < (BK : Int) := by omega
              go_wp2
              go_ret2
              rw [HE.out]
              exact ⟨_, rfl, ownsE_nil _ _, HM2.out.b⟩
            · have x1' : ¬ (u.length : Int) < (BK : Int) := by omega
              cases wt with
              | some r0 =>
                have HE : Hid (readR s none [] = (10, [])) := Lib.hid (by
                  rw [HX.out, if_neg x1]
                  cases recsR (u.take size) rec00 <;> rfl)
                go_wp2
                go_ret2
                rw [HE.out]
                exact ⟨_, rfl, ownsE_nil _ _, HM2.out.b⟩
              | none =>
                have eS : U.extract 0 size = str (u.take size) := by rw [HUE.out, sl, List.drop_zero]
                have eB : U.extract BK u.length = str (u.drop BK) := by rw [HUE.out, sl, List.take_length]
                have CR := recordsR_any (u.take size) (by rw [List.length_take]; have := HTL.out.1; omega) w2
                unfold RecE at CR
                rw [show (⟨none, none, none⟩ : Recs) = rec00 from rfl] at CR
                have hsu : size ≤ u.length := by omega
                cases hrr : recsR (u.take size) rec00 with
                | none =>
                  rw [hrr] at CR
                  have HE : Hid (readR s none [] = (10, [])) := Lib.hid (by rw [HX.out, if_neg x1, hrr])
                  have HCR := Lib.hid CR
                  clear CR hrr
                  go_wp2_with (first
                    | (go_at_call 24; ((with_reducible refine (HCR.out).mono ?_); rintro e w3 ⟨⟨c0, c1, c2, rfl, hone⟩, b3⟩))
                    | ((with_reducible show wpList _ _ _ (⟨none, .store _ _ _, _, _, _, _⟩ :: _) _ _); refine wpList_store_last rfl 61 _ _ rfl w3.heap.size #[c0, c1, c2] rfl rfl 61 _ rfl HI.out rfl hone ?_))
                  go_ret2
                  rw [HE.out]
                  have hB3 := HM2.out.b.trans (b3.mono HM2.out.b.size)
                  exact ⟨_, rfl, ownsE_nil _ _, hB3.alloc hB3.size _⟩
                | some rs =>
                  rw [hrr] at CR
                  have HCR := Lib.hid CR
                  have HE : Hid (readR s none [] = readR (u.drop BK) (some rs) out) := Lib.hid (by
                    have hl2 : (u.drop BK).length < t.length := by rw [List.length_drop]; have := HTL.out.1; omega
                    rw [HX.out, if_neg x1, hrr]
                    show (if (none : Option Recs).isSome = true then _ else _) = _
                    rw [if_neg (by simp), if_pos hl2])
                  have HWN : Hid (WtB (some rs)) := Lib.hid (by have hb := recsR_b (u.take size) rec00 rs (by rw [List.length_take]; have := HTL.out.1; omega) ⟨Nat.zero_le _, Nat.zero_le _, Nat.zero_le _⟩ hrr; exact ⟨hb.p, hb.l, hb.s⟩)
                  clear CR hrr HX
                  go_upto_region 23 with (first
                    | (go_at_call 24; ((with_reducible refine (HCR.out).mono ?_); rintro e w3 ⟨⟨c0, c1, c2, rfl, hrc⟩, b3⟩; have hone := hrc.one))
                    | ((with_reducible show wpList _ _ _ (⟨none, .store _ _ _, _, _, _, _⟩ :: _) _ _); refine wpList_store_last rfl 61 _ _ rfl w3.heap.size #[c0, c1, c2] rfl rfl 61 _ rfl HI.out rfl hone ?_))
                  have HM3 : Hid (RdM w u4 out none (w3.alloc (.cells #[c0, c1, c2] 61))) := Lib.hid ((HM2.out.below b3).below ((Below.refl _ _).alloc (Nat.le_refl _) _))
                  have HC3 : Hid (RcAt (w.heap.size + 1) (w3.alloc (.cells #[c0, c1, c2] 61)) c0 c1 c2 rs) := Lib.hid (hrc.down (by have := HM2.out.lt; omega) (Chg.of_below (s := fun _ => False) ((Below.refl _ _).alloc (Nat.le_refl _) _)) (fun _ _ h => h))
                  have HR3 : Hid (rowC (w3.alloc (.cells #[c0, c1, c2] 61)) w3.heap.size #[c0, c1, c2] 61) := Lib.hid (rowC_new _ _ _)
                  have HONE := Lib.hid hone
                  obtain ⟨q3, hq3⟩ : ∃ q, q = w3.heap.size := ⟨_, rfl⟩
                  rw [← hq3] at HR3 ⊢
                  have HQ3 : Hid (w.heap.size ≠ q3) := Lib.hid (by have h1 := HM2.out.lt; have h2 := b3.size; omega)
                  clear hrc b3 hone HCR HM2 hq3
                  generalize w3.alloc (.cells #[c0, c1, c2] 61) = w4 at *
                  have hsc : ∀ w, (Instr.slice 9 (.string U) (some (.int .i64 (BK : Int))) none none).run Tryz.prog w = .ok (.string (str (u.drop BK))) w := fun w => by
                    rw [run_slice_string_from_if w 9 U .i64 (BK : Int) Tryz.underlying9, if_pos ⟨by omega, by omega⟩, Int.toNat_natCast, hU, eB]
                  refine (wpIn_wide (n := 4)).1 ?_
                  refine wpIn_region_any (by kernel_rfl) ?_
                  refine wpAnyIn_take (i := 1) (oi := ⟨some 115, _, _, _, _, _⟩) (v := .string U) rfl rfl (by kernel_rfl) (by kernel_rfl) (by kernel_rfl) (fun _ _ _ h => h) ⟨.inl ⟨rfl, fun w => by go_simp⟩, fun w => rfl⟩ ?_
                  simp only [Act.put, List.setIfInBounds_toArray, List.set_cons_zero, List.set_cons_succ]
                  refine wpAnyIn_take (i := 2) (oi := ⟨some 116, _, _, _, _, _⟩) (v := .int .i64 (BK : Int)) rfl rfl (by kernel_rfl) (by kernel_rfl) (by kernel_rfl) (fun _ _ _ h => h) ⟨.inl ⟨rfl, fun w => by go_simp⟩, fun w => rfl⟩ ?_
                  simp only [Act.put, List.setIfInBounds_toArray, List.set_cons_zero, List.set_cons_succ]
                  refine wpAnyIn_take (i := 3) (oi := ⟨some 117, _, _, _, _, _⟩) (v := .string (str (u.drop BK))) rfl rfl (by kernel_rfl) (by kernel_rfl) (by kernel_rfl) (fun _ _ _ h => h) ⟨.inl ⟨rfl, fun w => by go_simp⟩, fun w => rfl⟩ ?_
                  simp only [Act.put, List.setIfInBounds_toArray, List.set_cons_zero, List.set_cons_succ]
                  refine quiet_tailL (C := fun w' => w' = w4.drew) [0] 4 (by kernel_rfl) rfl (by kernel_rfl) rfl ?_
                  simp only [pickOps, List.map_cons, List.map_nil, List.getD_cons_zero, List.drop_succ_cons, List.drop_zero]
                  refine wpQuietIn_load_midG (fun _ => trivial) rfl 61 _ rfl q3 0 rfl [c0, c1, c2] _ (by rintro _ rfl; exact rowC_range (rowC_drew HR3.out) 0 _ (fun j v hj => by simpa using hj)) Tryz.underlying61 rfl HI.out ?_
                  refine wpQuietIn_nil ?_
                  rintro _ rfl
                  simp only [Act.put, List.setIfInBounds_toArray, List.set_cons_zero, List.set_cons_succ]
                  obtain ⟨d0, d1, d2, hbx, _⟩ := HM3.out.q
                  have HM5 := Lib.hid (HM3.out.setBox HC3.out)
                  refine wpListIn_store_row rfl 61 _ _ rfl w.heap.size #[c0, c1, c2] rfl rfl 61 #[d0, d1, d2] hbx HI.out rfl HONE.out ?_
                  have HM6 : Hid (RdM w u4 out (some rs) (w4.drew.setRow w.heap.size #[c0, c1, c2])) := HM5
                  clear HM3 HC3 HR3 hbx HM5
                  generalize w4.drew.setRow w.heap.size #[c0, c1, c2] = w5 at *
                  simp only [Act.put]
                  gi_wp2
                  go_wp2
                  go_roundw
                  case rel => exact ⟨u.drop BK, some rs, out, rfl, rfl, by rw [List.length_drop]; have := HTL.out.1; omega, ho2, HE, HWN, HM6⟩
                  case measure => show (str (u.drop BK)).size < S.size; rw [str_size, List.length_drop, hz]; have := HTL.out.1; omega
          · by_cases he : kd = 0 ∨ kd = 48 ∨ kd = 49 ∨ kd = 50 ∨ kd = 53
            · obtain ⟨kb, hkb⟩ : ∃ k, k = h.getD 156 0 := ⟨_, rfl⟩
              rw [← hkb] at HKD2
              rw [← hkb] at HSTP
              have hcase : kb = 0 ∨ kb = 48 ∨ kb = 49 ∨ kb = 50 ∨ kb = 53 := by
                rcases he with e | e | e | e | e
                · exact .inl (UInt8.toNat_inj.1 (by rw [← HKD2, e]; rfl))
                · exact .inr (.inl (UInt8.toNat_inj.1 (by rw [← HKD2, e]; rfl)))
                · exact .inr (.inr (.inl (UInt8.toNat_inj.1 (by rw [← HKD2, e]; rfl))))
                · exact .inr (.inr (.inr (.inl (UInt8.toNat_inj.1 (by rw [← HKD2, e]; rfl)))))
                · exact .inr (.inr (.inr (.inr (UInt8.toNat_inj.1 (by rw [← HKD2, e]; rfl)))))
              have HKK := Lib.hid (show (kd = kb.toNat) ∧ (kb = 0 ∨ kb = 48 ∨ kb = 49 ∨ kb = 50 ∨ kb = 53) from ⟨HKD2, hcase⟩)
              clear HKD2 hkb HKB HKD hcase
              go_upto_region 14 with (fail)
              go_cut [91] from 70 to 91 (fun c wx => c = .bool false ∧ wx = w2)
              case first =>
                clear HSTP HM2 HKK HEXT HUE
                rcases he with rfl | rfl | rfl | rfl | rfl <;>
                · go_wp2
                  go_meet
                  exact ⟨rfl, rfl⟩
              case rest =>
                obtain ⟨rfl, rfl⟩ := hcut
                have hx0 : ((kd : Int) == 120) = false := beq_eq_false_iff_ne.2 (by omega)
                have e0 := HEXT.out 0 100
                have C0 := fun W => fieldR_any (sl h 0 100) (by rw [sl_cut]; omega) W
                obtain ⟨n0, hn0⟩ : ∃ n, n = cut0 (sl h 0 100) := ⟨_, rfl⟩
                rw [← hn0] at C0
                have HN0 := Lib.hid hn0
                have hint : Hid ((Tryz.prog.info? 39).map (·.size) = some (entA ⟨1, n0, [], (mode : Int) % 4096, []⟩).size) := Lib.hid info_ent5
                clear hn0
                go_upto_region 25 with (first
                  | (go_at_call 25; ((with_reducible refine (C0 _).mono ?_); rintro e w3 ⟨rfl, rfl⟩))
                  | ((with_reducible show wpList _ _ _ (⟨some 123, .build _ _, _, _, _, _⟩ :: _) _ _); refine wpList_build_as rfl 39 _ rfl (entA ⟨1, n0, [], (mode : Int) % 4096, []⟩) (by kernel_rfl) ?_)
                  | ((with_reducible show wpList _ _ _ (⟨none, .store _ _ _, _, _, _, _⟩ :: _) _ _); refine wpList_store_last rfl 39 _ _ rfl wc.heap.size (entA ⟨1, n0, [], (mode : Int) % 4096, []⟩) rfl rfl 39 _ rfl hint.out rfl (entA_one _) ?_))
                have HE1 := Lib.hid (EtM.start HM2.out ⟨1, n0, [], (mode : Int) % 4096, []⟩)
                obtain ⟨bx, hbx⟩ : ∃ b, b = wc.heap.size := ⟨_, rfl⟩
                rw [← hbx] at HE1 ⊢
                obtain ⟨m0, hm0⟩ : ∃ m, m = (mode : Int) % 4096 := ⟨_, rfl⟩
                rw [← hm0] at HE1 ⊢
                have HMO : Hid (m0 = ((mode % 4096 : Nat) : Int)) := Lib.hid (by omega)
                clear hbx hm0 HM2 C0 e0 hint
                generalize wc.alloc (.cells (entA ⟨1, n0, [], m0, []⟩) 39) = w4 at *
                -- the prefix
                have e1 := HEXT.out 345 500
                have C1 := fun W => fieldR_any (sl h 345 500) (by rw [sl_cut]; omega) W
                obtain ⟨p0, hp0⟩ : ∃ n, n = cut0 (sl h 345 500) := ⟨_, rfl⟩
                rw [← hp0] at C1
                have HNM : Hid (nameR h = if p0 = [] then n0 else p0 ++ [47] ++ n0) := Lib.hid (by unfold nameR; rw [← hp0, HN0.out])
                have hp1 : p0.length ≤ 155 := by rw [hp0]; exact Nat.le_trans (cut0_le _) (by rw [sl_cut]; omega)
                have hn1 : n0.length ≤ 100 := by rw [HN0.out]; exact Nat.le_trans (cut0_le _) (by rw [sl_cut]; omega)
                have zp := str_size p0
                have zn := str_size n0
                have qp := empty_lit p0
                have HPL := Lib.hid hp1
                obtain ⟨β, hβ⟩ : ∃ b, b = decide (p0 = []) := ⟨_, rfl⟩
                rw [← hβ] at qp
                have HBE := Lib.hid hβ
                clear hβ
                clear hp0
                go_upto_if 128 with (go_at_call 25; ((with_reducible refine (C1 _).mono ?_); rintro e w5 ⟨rfl, rfl⟩))
                go_cut [14] from 129 to 134 (fun c wx => c = .pointer (some ⟨bx, 0, none⟩) ∧ Hid (EtM w u4 out wt bx ⟨1, nameR h, [], m0, []⟩ wx))
                case first =>
                  clear C1 e1
                  cases β with
                  | true =>
                    have hpe := of_decide_eq_true HBE.out.symm
                    have HNM2 := Lib.hid (show nameR h = n0 by rw [HNM.out, if_pos hpe])
                    clear hpe
                    go_wp2
                    go_meet
                    exact ⟨rfl, Lib.hid (by rw [HNM2.out]; exact HE1.out)⟩
                  | false =>
                    have hpe := of_decide_eq_false HBE.out.symm
                    have HNM2 := Lib.hid (show nameR h = p0 ++ [47] ++ n0 by rw [HNM.out, if_neg hpe])
                    clear hpe
                    obtain ⟨k0, k1, k2, k4, kf⟩ := HE1.out.cells
                    have f1 := kf 1
                    have HE3 : Hid (EtM w u4 out wt bx ⟨1, nameR h, [], m0, []⟩ (w4.setCell ⟨bx, 1, none⟩ (.string (str p0 ++ (⟨#[47]⟩ : ByteArray) ++ str n0)))) := Lib.hid (HE1.out.set 1 _ (by
                      rw [HNM2.out, show (⟨#[47]⟩ : ByteArray) = str [47] from rfl, str_append, str_append]; rfl))
                    clear k0 k2 k4 kf
                    go_wp2
                    go_meet
                    exact ⟨rfl, HE3⟩
                case rest =>
                  obtain ⟨rfl, HE2⟩ := hcut
                  clear C1 e1 zp zn qp hp1 hn1 HNM HE1 HN0 HPL HBE
                  -- a record's path
                  obtain ⟨r0, r1, r2, b0, b1, b2, o0, o1, o2⟩ := HE2.out.m.rows
                  obtain ⟨ra, rn, rfl, hfm⟩ := o0.form
                  have HFM := Lib.hid hfm
                  obtain ⟨N1, hN1⟩ : ∃ n, n = (wPath wt).getD (nameR h) := ⟨_, rfl⟩
                  have HN1 := Lib.hid hN1
                  clear hN1 hfm o0 o1 o2 b1 b2
                  go_upto_if 138 with (fail)
                  go_cut [14] from 139 to 143 (fun c wx => c = .pointer (some ⟨bx, 0, none⟩) ∧ Hid (EtM w u4 out wt bx ⟨1, N1, [], m0, []⟩ wx))
                  case first =>
                    rcases HFM.out with ⟨hw, rfl, rfl⟩ | ⟨tp, b, hw, rfl, rfl, hc⟩
                    · have HNM2 := Lib.hid (show nameR h = N1 by rw [HN1.out, hw]; rfl)
                      clear hw
                      go_wp2
                      go_meet
                      exact ⟨rfl, by rw [← HNM2.out]; exact HE2⟩
                    · have HNM2 := Lib.hid (show N1 = tp by rw [HN1.out, hw]; rfl)
                      clear hw
                      have f1 := HE2.out.cells.2.2.2.2 1
                      have k1 := HE2.out.cells.2.1
                      have HE3 : Hid (EtM w u4 out wt bx ⟨1, N1, [], m0, []⟩ (wc.setCell ⟨bx, 1, none⟩ (.string (str tp)))) := Lib.hid (HE2.out.set 1 _ (by rw [HNM2.out]; rfl))
                      go_wp2
                      go_meet
                      exact ⟨rfl, HE3⟩
                  case rest =>
                    obtain ⟨rfl, HE3⟩ := hcut
                    clear HE2 HFM b0
                    obtain ⟨r0, r1, r2, b0, b1, b2, o0, o1, o2⟩ := HE3.out.m.rows
                    obtain ⟨sa, sn, rfl, hfm⟩ := o1.form
                    have HFM := Lib.hid hfm
                    obtain ⟨T1, hT1⟩ : ∃ n, n = (wLink wt).getD (cut0 (sl h 157 257)) := ⟨_, rfl⟩
                    have HT1 := Lib.hid hT1
                    have e2 := HEXT.out 157 257
                    have C2 := fun W => fieldR_any (sl h 157 257) (by rw [sl_cut]; omega) W
                    obtain ⟨l0, hl0⟩ : ∃ n, n = cut0 (sl h 157 257) := ⟨_, rfl⟩
                    rw [← hl0] at C2
                    have HL0 := Lib.hid hl0
                    clear hT1 hfm o0 o1 o2 b0 b2 hl0
                    go_upto_if 150 with (go_at_call 25; ((with_reducible refine (C2 _).mono ?_); rintro e w5 ⟨rfl, rfl⟩))
                    go_cut [16] from 151 to 154 (fun c wx => c = .string (str T1) ∧ wx = wc)
                    case first =>
                      clear C2 e2
                      rcases HFM.out with ⟨hw, rfl, rfl⟩ | ⟨tp, b, hw, rfl, rfl, hc⟩
                      · have HNM2 := Lib.hid (show l0 = T1 by rw [HT1.out, hw, HL0.out]; rfl)
                        clear hw
                        go_wp2
                        go_meet
                        exact ⟨by rw [HNM2.out], rfl⟩
                      · have HNM2 := Lib.hid (show T1 = tp by rw [HT1.out, hw]; rfl)
                        clear hw
                        go_wp2
                        go_meet
                        exact ⟨by rw [HNM2.out], rfl⟩
                    case rest =>
                      obtain ⟨rfl, rfl⟩ := hcut
                      clear C2 e2 HFM b1
                      obtain ⟨K, hK⟩ : ∃ k, k = kindL kb := ⟨_, rfl⟩
                      obtain ⟨T2, hT2⟩ : ∃ k : Bs, k = (if isLinkK K = true then T1 else []) := ⟨_, rfl⟩
                      have HKV := Lib.hid (kindL_of HKK.out.2 hK hT2)
                      rw [← HKK.out.1] at HKV
                      have HK := Lib.hid hK
                      have HT2 := Lib.hid hT2
                      clear hK hT2
                      go_upto_block 2 with fail
                      go_cut [14] from 156 to 168 (fun c wx => c = .pointer (some ⟨bx, 0, none⟩) ∧ Hid (EtM w u4 out wt bx ⟨K, N1, T2, m0, []⟩ wx))
                      case first =>
                        have hv := HKV.out
                        obtain ⟨k0, -, k2, -, kf⟩ := HE3.out.cells
                        have f0 := kf 0
                        clear HKV HSTP HEXT HUE HKK HK HT2 HT1 HL0 HN1 kf
                        rcases he with e | e | e | e | e
                        · obtain ⟨rfl, rfl⟩ := hv.1 e
                          clear hv
                          subst e
                          go_wp2
                          go_meet
                          exact ⟨rfl, HE3⟩
                        · obtain ⟨rfl, rfl⟩ := hv.2.1 e
                          clear hv
                          subst e
                          go_wp2
                          go_meet
                          exact ⟨rfl, HE3⟩
                        · obtain ⟨rfl, rfl⟩ := hv.2.2.1 e
                          clear hv
                          subst e
                          have HEa : Hid (EtM w u4 out wt bx ⟨3, N1, [], m0, []⟩ (wc.setCell ⟨bx, 0, none⟩ (.int .i64 3))) := Lib.hid (HE3.out.set 0 _ rfl)
                          have k2' := HEa.out.cells.2.2.1
                          have f2 := HEa.out.cells.2.2.2.2 2
                          have HEb : Hid (EtM w u4 out wt bx ⟨3, N1, T2, m0, []⟩ ((wc.setCell ⟨bx, 0, none⟩ (.int .i64 3)).setCell ⟨bx, 2, none⟩ (.string (str T2)))) := Lib.hid (HEa.out.set 2 _ rfl)
                          go_wp2
                          go_meet
                          exact ⟨rfl, HEb⟩
                        · obtain ⟨rfl, rfl⟩ := hv.2.2.2.1 e
                          clear hv
                          subst e
                          have HEa : Hid (EtM w u4 out wt bx ⟨4, N1, [], m0, []⟩ (wc.setCell ⟨bx, 0, none⟩ (.int .i64 4))) := Lib.hid (HE3.out.set 0 _ rfl)
                          have k2' := HEa.out.cells.2.2.1
                          have f2 := HEa.out.cells.2.2.2.2 2
                          have HEb : Hid (EtM w u4 out wt bx ⟨4, N1, T2, m0, []⟩ ((wc.setCell ⟨bx, 0, none⟩ (.int .i64 4)).setCell ⟨bx, 2, none⟩ (.string (str T2)))) := Lib.hid (HEa.out.set 2 _ rfl)
                          go_wp2
                          go_meet
                          exact ⟨rfl, HEb⟩
                        · obtain ⟨rfl, rfl⟩ := hv.2.2.2.2 e
                          clear hv
                          subst e
                          have HEa : Hid (EtM w u4 out wt bx ⟨2, N1, [], m0, []⟩ (wc.setCell ⟨bx, 0, none⟩ (.int .i64 2))) := Lib.hid (HE3.out.set 0 _ rfl)
                          go_wp2
                          go_meet
                          exact ⟨rfl, HEa⟩
                      case rest =>
                        obtain ⟨rfl, HE4⟩ := hcut
                        clear HE3 HKV hx0
                        -- how many bytes
                        obtain ⟨r0, r1, r2, b0, b1, b2, o0, o1, o2⟩ := HE4.out.m.rows
                        obtain ⟨za, zn, rfl, hfm⟩ := o2.form
                        have HFM := Lib.hid hfm
                        obtain ⟨k0, -, -, -, -⟩ := HE4.out.cells
                        obtain ⟨Z, hZ⟩ : ∃ Z, Z = sizeK kb wt size := ⟨_, rfl⟩
                        have HZ := Lib.hid hZ
                        clear hZ hfm o0 o1 o2 b0 b1
                        obtain ⟨γ, hγ⟩ : ∃ b, b = decide (K = 1 ∧ 0 < zn) := ⟨_, rfl⟩
                        have HG := Lib.hid hγ
                        clear hγ
                        go_upto_region 40 with (fail)
                        go_cut [177] from 169 to 177 (fun c wx => c = .bool γ ∧ wx = wc)
                        case first =>
                          by_cases hk1 : K = 1
                          · have HG2 : Hid (γ = decide (0 < zn)) := Lib.hid (by rw [HG.out]; simp [hk1])
                            clear HG HK HT2 HZ HFM
                            subst hk1
                            go_wp2
                            go_meet
                            exact ⟨by rw [HG2.out], rfl⟩
                          · have HG2 : Hid (γ = false) := Lib.hid (by rw [HG.out]; simp [hk1])
                            have q1 : (K == 1) = false := beq_eq_false_iff_ne.2 hk1
                            clear HG HK HT2 HZ HFM hk1
                            go_wp2
                            go_meet
                            exact ⟨by rw [HG2.out], rfl⟩
                        case rest =>
                        obtain ⟨rfl, rfl⟩ := hcut
                        go_upto_if 177 with (fail)
                        go_cut [9] from 178 to 182 (fun c wx => c = .int .i64 (numI Z) ∧ wx = wc)
                        case first =>
                          cases γ with
                          | true =>
                            have hg := of_decide_eq_true HG.out.symm
                            have HK1 := Lib.hid (show kindL kb = 1 by rw [← HK.out]; exact hg.1)
                            rcases HFM.out with ⟨hw, rfl, rfl⟩ | ⟨tp, b, hw, rfl, rfl, hc⟩
                            · exact absurd hg.2 (by decide)
                            · have HZ2 := Lib.hid (show numP 10 tp = Z by rw [HZ.out, sizeK_some HK1.out hw])
                              have CP := fun W => plainR_any tp (by have := hWB.out.s; rw [hw] at this; simp only [Option.getD_some] at this; omega) W
                              clear hw hg
                              go_wp2_with (go_at_call 26; ((with_reducible refine (CP _).mono ?_); rintro e w5 ⟨rfl, rfl⟩))
                              go_meet
                              exact ⟨by rw [HZ2.out], rfl⟩
                          | false =>
                            have HZ2 := Lib.hid (show Z = some size by
                              have hg := of_decide_eq_false HG.out.symm
                              rw [HZ.out]
                              by_cases hk1 : K = 1
                              · rcases HFM.out with ⟨hw, _, _⟩ | ⟨_, _, _, _, h1, _⟩
                                · exact sizeK_none hw
                                · exact absurd ⟨hk1, by rw [h1]; decide⟩ hg
                              · exact sizeK_ne (by rw [← HK.out]; exact hk1))
                            go_wp2
                            go_meet
                            exact ⟨by rw [HZ2.out]; rfl, rfl⟩
                        case rest =>
                          obtain ⟨rfl, rfl⟩ := hcut
                          clear HFM b2 hWB HG
                          have HS2 : Hid (readR s none [] = match (generalizing := false) Z with
                              | none => (10, [])
                              | some n => if (K ≠ 1 ∧ n ≠ 0) ∨ u.length < 512 * blocksN n then (10, []) else match addR ⟨K, N1, T2, m0, u.take n⟩ (u.drop (512 * blocksN n)) out with
                                | .inl e => (e, [])
                                | .inr (r', wt', out') => if r'.length < t.length then readR r' wt' out' else (10, [])) := Lib.hid (by
                            have hE : ∀ d, entD ⟨nameR h, cut0 (sl h 157 257), mode, size, kb⟩ wt d = ⟨K, N1, T2, m0, d⟩ := fun d => by unfold entD; rw [HT2.out, HT1.out, HN1.out, HMO.out, HK.out]
                            rw [HSTP.out, step_ent (h := ⟨nameR h, cut0 (sl h 157 257), mode, size, kb⟩) HKK.out.2]
                            simp only [hE]
                            rw [← HZ.out, ← HK.out]
                            cases Z with
                            | none => rfl
                            | some n =>
                              simp only
                              by_cases hb : (K ≠ 1 ∧ n ≠ 0) ∨ u.length < 512 * blocksN n
                              · rw [if_pos hb, if_pos hb]
                              · rw [if_neg hb, if_neg hb])
                          have HKL := Lib.hid (kindL_link HKK.out.2 HK.out)
                          have HZB : Hid (∀ n, Z = some n → n < 1099511627776) := Lib.hid fun n hn => sizeK_lt HSB.out.2 (HZ.out ▸ hn)
                          clear HSTP HZ HK HKK HT1 HL0 HT2 HN1 HMO HEXT HSB
                          cases Z with
                          | none =>
                            have HE : Hid (readR s none [] = (10, [])) := HS2
                            rw [show numI none = -1 from rfl]
                            clear HS2 HZB HKL
                            go_wp2
                            go_ret2
                            rw [HE.out]
                            exact ⟨_, rfl, ownsE_nil _ _, HE4.out.m.b⟩
                          | some n =>
                            have hn40 : (n : Int) < 1099511627776 := by have := HZB.out n rfl; omega
                            rw [show numI (some n) = (n : Int) from rfl]
                            obtain ⟨BK, hBK⟩ : ∃ b, b = 512 * blocksN n := ⟨_, rfl⟩
                            have hbk : ((n : Int) + 511) / 512 * 512 = (BK : Int) := by rw [hBK]; unfold blocksN; omega
                            have hsl : n ≤ BK := by rw [hBK]; exact le_blocks n
                            have HS3 : Hid (readR s none [] = if (K ≠ 1 ∧ n ≠ 0) ∨ u.length < BK then (10, []) else match addR ⟨K, N1, T2, m0, u.take n⟩ (u.drop BK) out with
                                | .inl e => (e, [])
                                | .inr (r', wt', out') => if r'.length < t.length then readR r' wt' out' else (10, [])) := Lib.hid (by rw [HS2.out, hBK])
                            have hU := HUZ.out
                            clear HS2 HZB hBK
                            obtain ⟨δ, hδ⟩ : ∃ b, b = decide ((K ≠ 1 ∧ n ≠ 0) ∨ u.length < BK) := ⟨_, rfl⟩
                            have HD := Lib.hid hδ
                            clear hδ
                            go_upto_region 43 with (fail)
                            go_cut [203] from 187 to 203 (fun c wx => c = .bool δ ∧ wx = wc)
                            case first =>
                              have HLB : Hid (decide ((u.length : Int) < (BK : Int)) = decide (u.length < BK)) := Lib.hid (by congr 1; simp)
                              by_cases hk1 : K = 1
                              · have HD2 : Hid (δ = decide (u.length < BK)) := Lib.hid (by rw [HD.out]; simp [hk1])
                                clear HD HS3 HKL
                                subst hk1
                                go_wp2
                                go_meet
                                exact ⟨by rw [HD2.out, ← HLB.out, show decide ((n : Int) < 0) = false from decide_eq_false (by omega), Bool.false_or], rfl⟩
                              · have q1 : (K != 1) = true := bne_iff_ne.2 hk1
                                by_cases hn0 : n = 0
                                · have HD2 : Hid (δ = decide (u.length < BK)) := Lib.hid (by rw [HD.out]; simp [hn0])
                                  clear HD HS3 HKL hk1
                                  subst hn0
                                  go_wp2
                                  go_meet
                                  exact ⟨by rw [HD2.out, ← HLB.out], rfl⟩
                                · have HD2 : Hid (δ = true) := Lib.hid (by rw [HD.out]; simp [hn0, hk1])
                                  have qn : ((n : Int) != 0) = true := by rw [bne_iff_ne]; omega
                                  clear HD HS3 HKL hk1 hn0
                                  go_wp2
                                  go_meet
                                  exact ⟨by rw [HD2.out], rfl⟩
                            case rest =>
                              obtain ⟨rfl, rfl⟩ := hcut
                              cases δ with
                              | true =>
                                have HE : Hid (readR s none [] = (10, [])) := Lib.hid (by rw [HS3.out, if_pos (of_decide_eq_true HD.out.symm)])
                                clear HS3 HKL HD
                                go_wp2
                                go_ret2
                                rw [HE.out]
                                exact ⟨_, rfl, ownsE_nil _ _, HE4.out.m.b⟩
                              | false =>
                                have hd := of_decide_eq_false HD.out.symm
                                have hbu : BK ≤ u.length := Nat.le_of_not_lt fun e => hd (.inr e)
                                have HS4 : Hid (readR s none [] = if entE K N1 T2 ≠ 0 then (entE K N1 T2, []) else if out.length = 200 then (63, []) else readR (u.drop BK) none (out ++ [⟨K, N1, T2, m0, u.take n⟩])) := Lib.hid (by
                                  have hl2 : (u.drop BK).length < t.length := by rw [List.length_drop]; have := HTL.out.1; omega
                                  rw [HS3.out, if_neg hd, addR_e]
                                  by_cases e1 : entE K N1 T2 = 0
                                  · rw [if_neg (not_not_intro e1), if_neg (not_not_intro e1)]
                                    by_cases e2 : out.length = 200
                                    · rw [if_pos e2, if_pos e2]
                                    · rw [if_neg e2, if_neg e2]
                                      simp only [if_pos hl2]
                                  · rw [if_pos e1, if_pos e1])
                                clear HS3 HD hd k0
                                have eS : U.extract 0 n = str (u.take n) := by rw [HUE.out, sl, List.drop_zero]
                                have eB : U.extract BK u.length = str (u.drop BK) := by rw [HUE.out, sl, List.take_length]
                                go_upto_region 45 with (fail)
                                have hsc1 : ∀ w, (Instr.slice 9 (.string U) none (some (.int .i64 (n : Int))) none).run Tryz.prog w = .ok (.string (str (u.take n))) w := fun w => by
                                  rw [run_slice_string_to_if w 9 U .i64 (n : Int) Tryz.underlying9, if_pos ⟨by omega, by omega⟩, Int.toNat_natCast, eS]
                                have hsc2 : ∀ w, (Instr.slice 9 (.string U) (some (.int .i64 (BK : Int))) none none).run Tryz.prog w = .ok (.string (str (u.drop BK))) w := fun w => by
                                  rw [run_slice_string_from_if w 9 U .i64 (BK : Int) Tryz.underlying9, if_pos ⟨by omega, by omega⟩, Int.toNat_natCast, hU, eB]
                                have HED := HE4.out.drew
                                obtain ⟨-, -, -, k4, kf⟩ := HED.cells
                                have f4 := kf 4
                                have HE5 : Hid (EtM w u4 out wt bx ⟨K, N1, T2, m0, u.take n⟩ ((wc.setCell ⟨bx, 4, none⟩ (.string (str (u.take n)))).drew)) := Lib.hid ((HE4.out.set 4 (y := ⟨K, N1, T2, m0, u.take n⟩) (.string (str (u.take n))) rfl).drew)
                                clear HED kf
                                refine (wpIn_wide (n := 4)).1 ?_
                                refine wpIn_region_any (by kernel_rfl) ?_
                                refine wpAnyIn_take (i := 0) (oi := ⟨some 204, _, _, _, _, _⟩) (v := .string U) rfl rfl (by kernel_rfl) (by kernel_rfl) (by kernel_rfl) (fun _ _ _ h => h) ⟨.inl ⟨rfl, fun w => by go_simp⟩, fun w => rfl⟩ ?_
                                simp only [Act.put, List.setIfInBounds_toArray, List.set_cons_zero, List.set_cons_succ]
                                refine wpAnyIn_take (i := 1) (oi := ⟨some 205, _, _, _, _, _⟩) (v := .int .i64 (n : Int)) rfl rfl (by kernel_rfl) (by kernel_rfl) (by kernel_rfl) (fun _ _ _ h => h) ⟨.inl ⟨rfl, fun w => by go_simp⟩, fun w => rfl⟩ ?_
                                simp only [Act.put, List.setIfInBounds_toArray, List.set_cons_zero, List.set_cons_succ]
                                refine wpAnyIn_take (i := 2) (oi := ⟨some 206, _, _, _, _, _⟩) (v := .string (str (u.take n))) rfl rfl (by kernel_rfl) (by kernel_rfl) (by kernel_rfl) (fun _ _ _ h => h) ⟨.inl ⟨rfl, fun w => by go_simp⟩, fun w => rfl⟩ ?_
                                simp only [Act.put, List.setIfInBounds_toArray, List.set_cons_zero, List.set_cons_succ]
                                refine wpAnyIn_take (i := 3) (oi := ⟨some 207, _, _, _, _, _⟩) (v := .string U) rfl rfl (by kernel_rfl) (by kernel_rfl) (by kernel_rfl) (fun _ _ _ h => h) ⟨.inl ⟨rfl, fun w => by go_simp⟩, fun w => rfl⟩ ?_
                                simp only [Act.put, List.setIfInBounds_toArray, List.set_cons_zero, List.set_cons_succ]
                                refine wpAnyIn_take (i := 4) (oi := ⟨some 208, _, _, _, _, _⟩) (v := .int .i64 (BK : Int)) rfl rfl (by kernel_rfl) (by kernel_rfl) (by kernel_rfl) (fun _ _ _ h => h) ⟨.inl ⟨rfl, fun w => by go_simp⟩, fun w => rfl⟩ ?_
                                simp only [Act.put, List.setIfInBounds_toArray, List.set_cons_zero, List.set_cons_succ]
                                refine wpAnyIn_take (i := 5) (oi := ⟨some 209, _, _, _, _, _⟩) (v := .string (str (u.drop BK))) rfl rfl (by kernel_rfl) (by kernel_rfl) (by kernel_rfl) (fun _ _ _ h => h) ⟨.inl ⟨rfl, fun w => by go_simp⟩, fun w => rfl⟩ ?_
                                simp only [Act.put, List.setIfInBounds_toArray, List.set_cons_zero, List.set_cons_succ]
                                refine quiet_tailL (C := fun w' => w' = wc.drew) [] 6 (by kernel_rfl) rfl (by kernel_rfl) rfl ?_
                                simp only [pickOps, List.map_nil, List.drop_succ_cons, List.drop_zero]
                                refine wpQuietIn_nil ?_
                                rintro _ rfl
                                clear hsc1 hsc2
                                gi_wp2
                                generalize (wc.setCell ⟨bx, 4, none⟩ (.string (str (u.take n)))).drew = w6 at *
                                clear HE4 k4 f4 eS eB hsl hbk hn40
                                obtain ⟨k0, k1, k2, -, -⟩ := HE5.out.cells
                                obtain ⟨X, hX⟩ : ∃ x : Ent, x = ⟨K, N1, T2, m0, u.take n⟩ := ⟨_, rfl⟩
                                rw [← hX] at HS4
                                have HX := Lib.hid hX
                                clear hX
                                obtain ⟨A1, hA1⟩ : ∃ a, a = textE N1 := ⟨_, rfl⟩
                                have CN1 := fun W => namedR_any N1 W
                                rw [← hA1] at CN1
                                have HA1 := Lib.hid hA1
                                clear hA1
                                obtain ⟨ε, hε⟩ : ∃ b, b = decide (A1 = 0 ∧ 2 < K) := ⟨_, rfl⟩
                                have HEE := Lib.hid hε
                                clear hε
                                go_upto_region 47 with (go_at_call 27; ((with_reducible refine (CN1 _).mono ?_); rintro e w7 ⟨rfl, rfl⟩))
                                go_cut [220] from 214 to 220 (fun c wx => c = .bool ε ∧ wx = w6)
                                case first =>
                                  clear HS4 CN1
                                  by_cases ha : A1 = 0
                                  · have HE2 : Hid (ε = decide (2 < K)) := Lib.hid (by rw [HEE.out]; simp [ha])
                                    clear HEE HA1
                                    subst ha
                                    go_wp2
                                    go_meet
                                    exact ⟨by rw [HE2.out], rfl⟩
                                  · have HE2 : Hid (ε = false) := Lib.hid (by rw [HEE.out]; simp [ha])
                                    have qa : ((A1 : Int) == 0) = false := by rw [beq_eq_false_iff_ne]; omega
                                    clear HEE HA1 ha
                                    go_wp2
                                    go_meet
                                    exact ⟨by rw [HE2.out], rfl⟩
                                case rest =>
                                obtain ⟨rfl, rfl⟩ := hcut
                                obtain ⟨E, hE⟩ : ∃ e, e = entE K N1 T2 := ⟨_, rfl⟩
                                rw [← hE] at HS4
                                have HEN := Lib.hid hE
                                clear hE
                                go_upto_if 220 with (fail)
                                go_cut [18] from 221 to 223 (fun c wx => c = .int .i64 (E : Int) ∧ wx = wc)
                                case first =>
                                  clear HS4 CN1
                                  cases ε with
                                  | true =>
                                    have hg := of_decide_eq_true HEE.out.symm
                                    have HEN2 := Lib.hid (show textE T2 = E by rw [HEN.out, entE_one (by rw [← HA1.out]; exact hg.1) (HKL.out.2 hg.2)])
                                    have CN2 := fun W => namedR_any T2 W
                                    rw [HEN2.out] at CN2
                                    clear hg
                                    go_wp2_with (go_at_call 27; ((with_reducible refine (CN2 _).mono ?_); rintro e w7 ⟨rfl, rfl⟩))
                                    go_meet
                                    exact ⟨rfl, rfl⟩
                                  | false =>
                                    have hg := of_decide_eq_false HEE.out.symm
                                    have HEN2 := Lib.hid (show A1 = E by rw [HEN.out, entE_two (fun e => hg ⟨by rw [HA1.out]; exact e.1, HKL.out.1 e.2⟩), HA1.out])
                                    clear hg
                                    go_wp2
                                    go_meet
                                    exact ⟨by rw [HEN2.out], rfl⟩
                                case rest =>
                                  obtain ⟨rfl, rfl⟩ := hcut
                                  clear CN1 HA1 HEE HEN HKL k0 k1 k2
                                  by_cases h1 : E = 0
                                  · have HS5 : Hid (readR s none [] = if out.length = 200 then (63, []) else readR (u.drop BK) none (out ++ [X])) := Lib.hid (by rw [HS4.out, if_neg (not_not_intro h1)])
                                    subst h1
                                    obtain ⟨va, vc, hv⟩ := owns_form HE5.out.m.o
                                    subst hv
                                    by_cases h2 : out.length = 200
                                    · have HE : Hid (readR s none [] = (63, [])) := Lib.hid (by rw [HS5.out, if_pos h2])
                                      have q2 : ((out.length : Int) == 200) = true := by rw [h2]; rfl
                                      clear HS4 HS5 h2
                                      go_wp2
                                      go_ret2
                                      rw [HE.out]
                                      exact ⟨_, rfl, ownsE_nil _ _, HE5.out.m.b⟩
                                    · have HE : Hid (readR s none [] = readR (u.drop BK) none (out ++ [X])) := Lib.hid (by rw [HS5.out, if_neg h2])
                                      have q2 : ((out.length : Int) == 200) = false := by rw [beq_eq_false_iff_ne]; omega
                                      have ho3 : out.length + 1 ≤ 200 := by omega
                                      clear HS4 HS5
                                      have HR5 := Lib.hid (HX.out ▸ HE5.out.r)
                                      have HMa : Hid (RdM w (.slice va out.length vc) out wt (wc.alloc (.cells (entA X) 39))) := Lib.hid (HE5.out.m.below ((Below.refl _ _).alloc (Nat.le_refl _) _))
                                      have HON : Hid (EntsAt (wc.alloc (.cells (entA X) 39)) (some ⟨wc.heap.size, 0, none⟩) [X]) := Lib.hid (ents_1 wc X)
                                      have HLL : Hid (out.length + [X].length ≤ 1000000) := Lib.hid (by simp; omega)
                                      have HSZ := Lib.hid HMa.out.lt
                                      have HI5 := Lib.hid info_ent5
                                      obtain ⟨ie, hie, hez, hes, _⟩ := info_parts info_ent
                                      go_wp2_with (first
                                        | ((with_reducible show wpList _ _ _ (⟨some 231, .load _ _, _, _, _, _⟩ :: _) _ _); refine wpList_load_row rfl 39 _ rfl bx rfl 39 (entA X) (0, 0) _ HR5.out Tryz.underlying39 rfl HI5.out ?_)
                                        | ((with_reducible show wpList _ _ _ (⟨some 232, .buildSlice _ _ _, _, _, _, _⟩ :: _) _ _); refine wpList_oneR rfl 22 39 5 _ rfl (entA X) rfl ie _ Tryz.underlying22 hie hez hes rfl (by decide) (by decide) ?_)
                                        | ((with_reducible show wpList _ _ _ (⟨some 233, .call _, _, _, _, _⟩ :: _) _ _); refine wpList_append_e rfl _ _ rfl (w.heap.size + 1) (.slice va out.length vc) out rfl HMa.out.o (some ⟨wc.heap.size, 0, none⟩) 1 [X] rfl HON.out HLL.out HSZ.out ?_; intro v7 w7 ho7 hb7; have HM7 := Lib.hid (HMa.out.push ho7 hb7); obtain ⟨d0, d1, d2, hbox, _⟩ := HMa.out.q; have hbx7 := rowC_below hbox hb7 (Nat.lt_succ_self _); clear ho7 hb7 hbox HMa HON HSZ HE5 HR5)
                                        | ((with_reducible show wpList _ _ _ (⟨some 234, .build _ _, _, _, _, _⟩ :: _) _ _); refine wpList_build_as rfl 61 _ rfl none3 (by kernel_rfl) ?_)
                                        | ((with_reducible show wpList _ _ _ (⟨none, .store _ _ _, _, _, _, _⟩ :: _) _ _); refine wpList_store_row rfl 61 _ _ rfl w.heap.size none3 rfl rfl 61 #[d0, d1, d2] hbx7 HI.out rfl none3_one ?_))
                                      go_roundw
                                      case rel => exact ⟨u.drop BK, none, out ++ [X], rfl, rfl, by rw [List.length_drop]; have := HTL.out.1; omega, by rw [List.length_append]; exact ho3, HE, Lib.hid wtB_none, HM7⟩
                                      case measure => show (str (u.drop BK)).size < S.size; rw [str_size, List.length_drop, hz]; have := HTL.out.1; omega
                                  · have HE : Hid (readR s none [] = (E, [])) := Lib.hid (by rw [HS4.out, if_pos h1])
                                    have q1 : ((E : Int) != 0) = true := by rw [bne_iff_ne]; omega
                                    clear HS4 h1
                                    go_wp2
                                    go_ret2
                                    rw [HE.out]
                                    exact ⟨_, rfl, ownsE_nil _ _, HE5.out.m.b⟩
            · have HE : Hid (readR s none [] = (72, [])) := Lib.hid (by
                rw [HSTP.out, step_other (h := ⟨nameR h, cut0 (sl h 157 257), mode, size, h.getD 156 0⟩) (fun e => he (.inl (by rw [HKD2, show h.getD 156 0 = 0 from e]; rfl))) (fun e => he (.inr (.inl (by rw [HKD2, show h.getD 156 0 = 48 from e]; rfl)))) (fun e => he (.inr (.inr (.inl (by rw [HKD2, show h.getD 156 0 = 49 from e]; rfl))))) (fun e => he (.inr (.inr (.inr (.inl (by rw [HKD2, show h.getD 156 0 = 50 from e]; rfl)))))) (fun e => he (.inr (.inr (.inr (.inr (by rw [HKD2, show h.getD 156 0 = 53 from e]; rfl)))))) (fun e => hx (by rw [HKD2, show h.getD 156 0 = 120 from e]; rfl))])
              have n0 : ((kd : Int) != 0) = true := by rw [bne_iff_ne]; omega
              have n1 : ((kd : Int) != 48) = true := by rw [bne_iff_ne]; omega
              have n2 : ((kd : Int) != 49) = true := by rw [bne_iff_ne]; omega
              have n3 : ((kd : Int) != 50) = true := by rw [bne_iff_ne]; omega
              have n4 : ((kd : Int) != 53) = true := by rw [bne_iff_ne]; omega
              have n5 : ((kd : Int) != 120) = true := by rw [bne_iff_ne]; omega
              clear hx he HKD2
              go_wp2
              go_ret2
              rw [HE.out]
              exact ⟨_, rfl, ownsE_nil _ _, HM2.out.b⟩
end Go.Proofs.YtmgpofdmoaafoaaGreatDoor
