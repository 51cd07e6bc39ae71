/- Layer 15: TarWrite walked. -/
import Derived.Test.YtgfhnpjgagjhaaaGreatDoorTsJ
import Derived.Test.YtgfhnpjgagjhaaaGreatDoorTsO
import Derived.Test.YtgfhnpjgagjhaaaGreatDoorTsP
namespace Go.Proofs.YtgfhnpjgagjhaaaGreatDoor
open Go.RowKit
attribute [local go_sem] wide_fn round_fn

theorem great_no {l : List Ent} {m : Nat} (h : greatB l m = false) : l.length ≤ m ∧ ∀ x ∈ l, x.name.length ≤ 300 ∧ x.to.length ≤ 300 ∧ x.data.length ≤ 1500 := by
  unfold greatB at h
  rw [Bool.or_eq_false_iff, decide_eq_false_iff_not, List.any_eq_false] at h
  refine ⟨by omega, fun x hx => ?_⟩
  have := h.1 x hx
  unfold bigE at this
  simp only [Bool.or_eq_true, decide_eq_true_eq, not_or] at this
  omega
theorem eq_self (a : ByteArray) : (a.toList == a.toList) = true := by rw [beq_iff_eq]
theorem rep_snoc {α : Type} (k : Nat) (x : α) : List.replicate (k + 1) x = List.replicate k x ++ [x] := List.replicate_succ'
theorem owns_none_e (w : World) (base : Nat) : OwnsE w base (.slice none 0 0) [] := ⟨by simp [rowE], .inl ⟨rfl, rfl⟩⟩
theorem ents_one (w : World) (x : Ent) : EntsAt (w.alloc (.cells (entA x) 29)) (some ⟨w.heap.size, 0, none⟩) [x] := fun i y hy => by
  match i, hy with
  | 0, hy =>
    obtain rfl : x = y := by simpa using hy
    refine ⟨_, rfl, by rw [size_alloc]; show w.heap.size < w.heap.size + 1; omega, fun j u hu => ?_⟩
    have e : ((⟨w.heap.size, 0, none⟩ : Addr).add (0 * 5)).add j = ⟨w.heap.size, j, none⟩ := by
      unfold Addr.add
      by_cases h2 : j = 0 <;> simp [h2]
    rw [e, rowC_cell (rowC_new w (entA x) 29) j, ← entV_arr, List.getElem?_toArray]
    exact hu
  | i + 1, hy => simp at hy
set_option maxRecDepth 100000 in
set_option maxHeartbeats 32000000 in
theorem tarWrite_any (l : List Ent) (ad : Option Addr) (c b : Nat) (hb : b < 256) (hlen : l.length ≤ maxLen) (w : World) (hE : EnvT w) (h : EntsAt w ad l) :
    Calls Tryz.prog 3 #[.slice ad l.length c, .int .u8 (b : Int)] w fun e w' => e = .returned (.bool true) ∧ Below w.heap.size w w' := by
  have CG := great_any l ad c 12 hlen w h
  rw [show ((12 : Nat) : Int) = 12 from rfl] at CG
  cases hg : greatB l 12 with
  | true =>
    rw [hg] at CG
    have HP := packed_any w hE
    go_enter Tryz.func3, Tryz.ntmps3
    go_wp2_with (first
      | (go_at_call 5; ((with_reducible refine CG.mono ?_); rintro e w1 ⟨rfl, rfl⟩))
      | (go_at_call 6; ((with_reducible refine HP.mono ?_); rintro e w2 ⟨rfl, hb⟩)))
    go_ret
    exact ⟨rfl, hb⟩
  | false =>
    rw [hg] at CG
    obtain ⟨hl12, hsm⟩ := great_no hg
    have hd : ∀ x ∈ l, x.data.length ≤ 1000000 := fun x hx => by have := hsm x hx; omega
    have CW := writes_any l ad c hd hlen w hE h
    have CR := fun W (hW : EntsAt W ad l) => writesR_any l ad c hd hlen W hW
    have CP := fun W (hW : EnvT W) => packed_any W hW
    have HE := Lib.hid hE
    have HN := Lib.hid h
    have HD := Lib.hid hd
    have q1 := eq_self (str (writeL l).1)
    generalize str (writeL l).1 = A at *
    generalize (writeL l).2 = e1 at *
    clear hE hsm
    cases l with
    | nil =>
      simp only [List.length_nil] at CG CW CR ⊢
      go_enter Tryz.func3, Tryz.ntmps3
      go_wp2_with (first
        | (go_at_call 5; ((with_reducible refine CG.mono ?_); rintro e w1 ⟨rfl, rfl⟩))
        | (go_at_call 7; ((with_reducible refine CW.mono ?_); rintro e w2 ⟨rfl, hb2⟩; have HB2 := Lib.hid hb2; clear hb2))
        | (go_at_call 8; ((with_reducible refine (CR _ (HN.out.far HB2.out (Nat.le_refl _))).mono ?_); rintro e w3 ⟨rfl, hb3⟩; have HB3 := Lib.hid (HB2.out.trans (hb3.mono HB2.out.size)); clear hb3))
        | (go_at_call 6; ((with_reducible refine (CP _ (HE.out.below HB3.out)).mono ?_); rintro e w4 ⟨rfl, hb4⟩; have HB4 := Lib.hid (HB3.out.trans (hb4.mono HB3.out.size)); clear hb4)))
      go_ret
      exact ⟨rfl, HB4.out⟩
    | cons x r =>
      obtain ⟨ax, rfl, hax, hcx⟩ := h 0 x rfl
      have HCX : Hid (∀ W, Below w.heap.size w W → ∀ j u, (entV x)[j]? = some u → W.cell? (ax.add j) = some u) := Lib.hid fun W hbw j u hu => by
        have := hcx j u hu
        rw [Nat.zero_mul, show ax.add 0 = ax by unfold Addr.add; rw [if_pos rfl]] at this
        rw [cell_far hbw (by rw [add_blk]; exact hax)]
        exact this
      have zx := str_size x.data
      obtain ⟨N, hN⟩ : ∃ N, N = r.length := ⟨_, rfl⟩
      rw [List.length_cons, ← hN] at CG CW CR ⊢
      have n0 : ((N + 1 : Nat) : Int) ≠ 0 := by omega
      have n1 : (((N + 1 : Nat) : Int) == 0) = false := by rw [beq_eq_false_iff_ne]; exact n0
      have n2 : (0 : Int) < ((N + 1 : Nat) : Int) := by omega
      have n3 : (0 : Int) < (N : Int) + 1 := by omega
      have n4 : ((N : Int) + 1 == 0) = false := by rw [beq_eq_false_iff_ne]; omega
      have n5 : ¬ ((N : Int) + 1 = 0) := by omega
      clear hN h hcx hl12
      by_cases hdl : 100 < x.data.length
      · have g1 : ¬ ((str x.data).size : Int) ≤ 100 := by omega
        have CELL : Hid (∀ W, Below w.heap.size w W → W.cell? ⟨ax.block, ax.off + 4, none⟩ = some (.string (str x.data))) := Lib.hid fun W hbw => by
          have := HCX.out W hbw 4 _ rfl
          rwa [show ax.add 4 = ⟨ax.block, ax.off + 4, none⟩ by unfold Addr.add; rw [if_neg (by decide)]] at this
        clear zx hdl HCX
        generalize str x.data = DT at *
        go_enter Tryz.func3, Tryz.ntmps3
        go_upto_region 7 with (first
          | (go_at_call 5; ((with_reducible refine CG.mono ?_); rintro e w1 ⟨rfl, rfl⟩))
          | (go_at_call 7; ((with_reducible refine CW.mono ?_); rintro e w2 ⟨rfl, hb2⟩; have HB2 := Lib.hid hb2; clear hb2))
          | (go_at_call 8; ((with_reducible refine (CR _ (HN.out.far HB2.out (Nat.le_refl _))).mono ?_); rintro e w3 ⟨rfl, hb3⟩; have HB3 := Lib.hid (HB2.out.trans (hb3.mono HB2.out.size)); clear hb3))
          | (go_at_call 6; ((with_reducible refine (CP _ (HE.out.below HB3.out)).mono ?_); rintro e w4 ⟨rfl, hb4⟩; have HB4 := Lib.hid (HB3.out.trans (hb4.mono HB3.out.size)); clear hb4)))
        have c4 := CELL.out _ HB3.out
        go_wp2_with (first
          | (go_at_call 5; ((with_reducible refine CG.mono ?_); rintro e w1 ⟨rfl, rfl⟩))
          | (go_at_call 7; ((with_reducible refine CW.mono ?_); rintro e w2 ⟨rfl, hb2⟩; have HB2 := Lib.hid hb2; clear hb2))
          | (go_at_call 8; ((with_reducible refine (CR _ (HN.out.far HB2.out (Nat.le_refl _))).mono ?_); rintro e w3 ⟨rfl, hb3⟩; have HB3 := Lib.hid (HB2.out.trans (hb3.mono HB2.out.size)); clear hb3))
          | (go_at_call 6; ((with_reducible refine (CP _ (HE.out.below HB3.out)).mono ?_); rintro e w4 ⟨rfl, hb4⟩; have HB4 := Lib.hid (HB3.out.trans (hb4.mono HB3.out.size)); clear hb4)))
        go_ret
        exact ⟨rfl, HB4.out⟩
      · have g1 : ((str x.data).size : Int) ≤ 100 := by omega
        have CELL : Hid (∀ W, Below w.heap.size w W → W.cell? ⟨ax.block, ax.off + 4, none⟩ = some (.string (str x.data))) := Lib.hid fun W hbw => by
          have := HCX.out W hbw 4 _ rfl
          rwa [show ax.add 4 = ⟨ax.block, ax.off + 4, none⟩ by unfold Addr.add; rw [if_neg (by decide)]] at this
        have CW2 : ∀ (k : Nat), k ≤ 1000 → ∀ (y : Option Addr) (cy : Nat) W, EnvT W → EntsAt W y (List.replicate k x) → Calls Tryz.prog 7 #[.slice y k cy] W fun e w' => e = .returned (.tuple #[.string (str (writeL (List.replicate k x)).1), .int .i64 ((writeL (List.replicate k x)).2 : Int)]) ∧ Below W.heap.size W w' := fun k hk y cy W hW hE => by
          have := writes_any (List.replicate k x) y cy (by intro z hz; rw [List.eq_of_mem_replicate hz]; omega) (by rw [List.length_replicate]; unfold maxLen; omega) W hW hE
          rwa [List.length_replicate] at this
        have CR2 : ∀ (k : Nat), k ≤ 1000 → ∀ (y : Option Addr) (cy : Nat) W, EntsAt W y (List.replicate k x) → Calls Tryz.prog 8 #[.slice y k cy] W fun e w' => e = .returned (.tuple #[.string (str (writeL (List.replicate k x)).1), .int .i64 ((writeL (List.replicate k x)).2 : Int)]) ∧ Below W.heap.size W w' := fun k hk y cy W hE => by
          have := writesR_any (List.replicate k x) y cy (by intro z hz; rw [List.eq_of_mem_replicate hz]; omega) (by rw [List.length_replicate]; unfold maxLen; omega) W hE
          rwa [List.length_replicate] at this
        obtain ⟨M, hM⟩ : ∃ M, M = 190 + b % 20 := ⟨_, rfl⟩
        have hM1 : (190 : Int) + Int.tmod (b : Int) 20 = (M : Int) := by rw [Int.tmod_eq_emod_of_nonneg (by omega)]; omega
        have hM2 : (190 : Int) + (b : Int) % 20 = (M : Int) := by omega
        have hMM : M ≤ 1000 := by omega
        have HI := Lib.hid info_ent5
        obtain ⟨ie, hie, hez, hes, heb⟩ := info_parts info_ent
        clear zx hdl hM
        generalize hDT : str x.data = DT at *
        clear hDT
        go_enter Tryz.func3, Tryz.ntmps3
        go_upto_region 7 with (first
          | (go_at_call 5; ((with_reducible refine CG.mono ?_); rintro e w1 ⟨rfl, rfl⟩))
          | (go_at_call 7; ((with_reducible refine CW.mono ?_); rintro e w2 ⟨rfl, hb2⟩; have HB2 := Lib.hid hb2; clear hb2))
          | (go_at_call 8; ((with_reducible refine (CR _ (HN.out.far HB2.out (Nat.le_refl _))).mono ?_); rintro e w3 ⟨rfl, hb3⟩; have HB3 := Lib.hid (HB2.out.trans (hb3.mono HB2.out.size)); clear hb3))
          | (go_at_call 6; ((with_reducible refine (CP _ (HE.out.below HB3.out)).mono ?_); rintro e w4 ⟨rfl, hb4⟩; have HB4 := Lib.hid (HB3.out.trans (hb4.mono HB3.out.size)); clear hb4)))
        have c4 := CELL.out _ HB3.out
        go_upto_region 11 with (fail)
        have HE3 := Lib.hid (HE.out.below HB3.out)
        have hs3 := HB3.out.size
        go_loopw [9, 10] (fun v i wr => ∃ k : Nat, k ≤ M ∧ i = .int .i64 k ∧ Hid (OwnsE wr w3.heap.size v (List.replicate k x)) ∧ Hid (Below w3.heap.size w3 wr)) (fun _ i _ => M - (intOf i).toNat)
        case atStart => exact ⟨0, Nat.zero_le _, rfl, Lib.hid (owns_none_e _ _), Lib.hid (Below.refl _ _)⟩
        case round =>
          obtain ⟨k, hk, rfl, hO, hBr⟩ := hrel
          obtain ⟨av, cv, hv⟩ := owns_form hO.out
          rw [List.length_replicate] at hv
          subst hv
          by_cases hlt : k < M
          · have g2 : (k : Int) < (M : Int) := by omega
            have HCW : Hid (∀ j u, (entV x)[j]? = some u → wr.cell? (ax.add j) = some u) := Lib.hid (HCX.out wr (HB3.out.trans (hBr.out.mono hs3)))
            have HON : Hid (EntsAt (wr.alloc (.cells (entA x) 29)) (some ⟨wr.heap.size, 0, none⟩) [x]) := Lib.hid (ents_one wr x)
            have HO2 : Hid (OwnsE (wr.alloc (.cells (entA x) 29)) w3.heap.size (.slice av k cv) (List.replicate k x)) := Lib.hid (World.ownsRow.alloc hO.out _)
            have HLR : Hid (k = (List.replicate k x).length) := Lib.hid (List.length_replicate).symm
            have HB4 : Hid (Below w3.heap.size w3 (wr.alloc (.cells (entA x) 29))) := Lib.hid (hBr.out.alloc hBr.out.size _)
            have HSZ : Hid (w3.heap.size ≤ (wr.alloc (.cells (entA x) 29)).heap.size) := Lib.hid HB4.out.size
            have HLL : Hid ((List.replicate k x).length + [x].length ≤ 1000000) := Lib.hid (by rw [List.length_replicate]; simp; omega)
            have HSN := Lib.hid (rep_snoc k x)
            go_wp2_with (first
              | ((with_reducible show wpList _ _ _ (⟨some 55, .load _ _, _, _, _, _⟩ :: _) _ _); refine wpList_load_at rfl 29 _ rfl ax rfl (entV x) _ HCW.out Tryz.underlying29 rfl HI.out ?_)
              | ((with_reducible show wpList _ _ _ (⟨some 56, .buildSlice _ _ _, _, _, _, _⟩ :: _) _ _); refine wpList_oneR rfl 22 29 5 _ rfl (entA x) rfl ie _ Tryz.underlying22 hie hez hes rfl (by decide) (by decide) ?_)
              | ((with_reducible show wpList _ _ _ (⟨some 57, .call _, _, _, _, _⟩ :: _) _ _); refine wpList_append_e rfl _ _ rfl w3.heap.size (.slice av k cv) (List.replicate k x) rfl HO2.out (some ⟨wr.heap.size, 0, none⟩) 1 [x] rfl HON.out HLL.out HSZ.out ?_; intro v4 w4 ho4 hb4))
            have HBF := Lib.hid (HB4.out.trans hb4)
            have HOF : Hid (OwnsE w4 w3.heap.size v4 (List.replicate (k + 1) x)) := Lib.hid (by rw [HSN.out]; exact ho4)
            go_roundw
            case rel => exact ⟨k + 1, by omega, by go_num, HOF, HBF⟩
            case measure => simp [intOf]; omega
          · obtain rfl : k = M := by omega
            have HNF := hO.out.ents
            have HEF := Lib.hid (HE3.out.below hBr.out)
            have C1 := CW2 k hMM av cv wr (HE3.out.below hBr.out) HNF
            have C2 := fun W (hW : Below wr.heap.size wr W) => CR2 k hMM av cv W (HNF.far hW (Nat.le_refl _))
            have q9 := eq_self (str (writeL (List.replicate k x)).1)
            generalize str (writeL (List.replicate k x)).1 = A2 at *
            generalize (writeL (List.replicate k x)).2 = e2 at *
            have HBR := Lib.hid (HB3.out.trans (hBr.out.mono hs3))
            clear hO HNF CW2 CR2
            go_wp2_with (first
              | (go_at_call 7; ((with_reducible refine C1.mono ?_); rintro e w5 ⟨rfl, hb5⟩; have HB5 := Lib.hid hb5; clear hb5))
              | (go_at_call 8; ((with_reducible refine (C2 _ HB5.out).mono ?_); rintro e w6 ⟨rfl, hb6⟩; have HB6 := Lib.hid (HB5.out.trans (hb6.mono HB5.out.size)); clear hb6))
              | (go_at_call 6; ((with_reducible refine (CP _ (HEF.out.below HB6.out)).mono ?_); rintro e w7 ⟨rfl, hb7⟩; have HB7 := Lib.hid (HB6.out.trans (hb7.mono HB6.out.size)); clear hb7)))
            go_ret
            exact ⟨rfl, HBR.out.trans (HB7.out.mono HBR.out.size)⟩
theorem write_w {H : Type} {enc : TypeId × Value → H} {base : Nat} {sp : Nat → Bool} {held : Bool} {d : DataW H} {p : List MemPlace} (a0 : Option Addr) (len0 cap0 : Nat) (a1 : Int) (W : World)
    (k0 : DataW.Trod enc Tryz.prog W base sp held 22 (.slice a0 len0 cap0) d p) (w1 : (Lit.int .u8 a1).wf = true) (hE : EnvT W) :
    Calls Tryz.prog 3 #[.slice a0 len0 cap0, .int .u8 a1] W fun e w' => e = .returned (.bool true) ∧ Below W.heap.size W w' := by
  obtain ⟨b1, b2⟩ := boundsU8 w1
  obtain ⟨n, rfl⟩ : ∃ n : Nat, a1 = (n : Int) := ⟨a1.toNat, by omega⟩
  obtain ⟨fuel, hf⟩ := k0
  obtain ⟨l, xp, cp, hv, hE2, hl⟩ := open_ents hf
  simp only [Value.slice.injEq] at hv
  obtain ⟨rfl, rfl, rfl⟩ := hv
  exact tarWrite_any l a0 cap0 n (by omega) hl W hE hE2
end Go.Proofs.YtgfhnpjgagjhaaaGreatDoor
#print axioms Go.Proofs.YtgfhnpjgagjhaaaGreatDoor.write_w
