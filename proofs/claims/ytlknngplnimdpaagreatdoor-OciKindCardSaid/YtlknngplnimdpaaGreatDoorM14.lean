/- Merged: OfE, OfF, OfG, Rnd, OfH, OfI. -/
import Derived.Test.YtlknngplnimdpaaGreatDoorM13
import Derived.Sort.QuietThIn
import Derived.Sort.BigQuietIn
import Derived.StillTail
import Derived.TacticsIn
import Derived.Sort.QuietLawsIn
/- Layer 13: the document's Kind; the statements' media types. -/
namespace Go.Proofs.YtlknngplnimdpaaGreatDoor
open Go.RowKit

/-- The document's list. -/
def kindL (i : Nat) : Bs := [mMan, dMan, mIdx, dIdx, mCfg, dCfg, mLay, dLay].getD i []
def kindV : Array Value := #[.string (str mMan), .string (str dMan), .string (str mIdx), .string (str dIdx), .string (str mCfg), .string (str dCfg), .string (str mLay), .string (str dLay)]
theorem kindV_at (i : Nat) (h : i < 8) : kindV[i]? = some (.string (str (kindL i))) := by
  match i, h with
  | 0, _ => rfl
  | 1, _ => rfl
  | 2, _ => rfl
  | 3, _ => rfl
  | 4, _ => rfl
  | 5, _ => rfl
  | 6, _ => rfl
  | 7, _ => rfl
  | n + 8, h => omega
theorem kind_at {i : Nat} (h : i < 8) : kindN (kindL i) = 1 + i / 2 := by
  have : ∀ i : Fin 8, kindN (kindL i.val) = 1 + i.val / 2 := by decide +kernel
  exact this ⟨i, h⟩
theorem kind_none {s : Bs} (h : ∀ i, i < 8 → kindL i ≠ s) : kindN s = 0 := by
  have h0 : mMan ≠ s := h 0 (by omega)
  have h1 : dMan ≠ s := h 1 (by omega)
  have h2 : mIdx ≠ s := h 2 (by omega)
  have h3 : dIdx ≠ s := h 3 (by omega)
  have h4 : mCfg ≠ s := h 4 (by omega)
  have h5 : dCfg ≠ s := h 5 (by omega)
  have h6 : mLay ≠ s := h 6 (by omega)
  have h7 : dLay ≠ s := h 7 (by omega)
  unfold kindN
  rw [if_neg (by rintro (e | e); exact h0 e.symm; exact h1 e.symm), if_neg (by rintro (e | e); exact h2 e.symm; exact h3 e.symm), if_neg (by rintro (e | e); exact h4 e.symm; exact h5 e.symm), if_neg (by rintro (e | e); exact h6 e.symm; exact h7 e.symm)]
set_option maxRecDepth 100000 in
set_option maxHeartbeats 4000000 in
theorem rkind_any (s : Bs) (w : World) : Calls Tryz.prog 26 #[.string (str s)] w fun e w' => e = .returned (.int .i64 (kindN s : Int)) ∧ Below w.heap.size w w' := by
  have HA := Lib.hid (fun i (h : i < 8) => kind_at h)
  have HN := Lib.hid (fun h => kind_none (s := s) h)
  go_enter Tryz.func26, Tryz.ntmps26
  go_wp2
  change Code.wp _ _ _ _ (w.alloc (.cells kindV 116))
  have hr := rowC_new w kindV 116
  have hb : Below w.heap.size w (w.alloc (.cells kindV 116)) := (Below.refl _ w).alloc (Nat.le_refl _) _
  generalize w.alloc (.cells kindV 116) = w1 at *
  have HP := Lib.hid (fun (i : Nat) (h : i < 8) => (rowC_cell hr i).trans (kindV_at i h))
  have HB := Lib.hid hb
  clear hr hb
  go_loopw [4] (fun v wr => ∃ k : Nat, k ≤ 8 ∧ v = .int .i64 k ∧ Hid (∀ i, i < k → kindL i ≠ s) ∧ wr = w1) (fun v _ => 8 - (intOf v).toNat)
  case atStart => exact ⟨0, Nat.zero_le _, rfl, Lib.hid (fun i h => absurd h (Nat.not_lt_zero _)), rfl⟩
  case round =>
    obtain ⟨k, hk, rfl, hne, rfl⟩ := hrel
    by_cases hlt : k < 8
    · have g1 : (k : Int) < 8 := by omega
      have e1 := HP.out k hlt
      have q1 : ((str (kindL k)).toList == (str s).toList) = decide (kindL k = s) := eq_texts _ _
      by_cases h : kindL k = s
      · have e0 : Hid (kindN s = 1 + k / 2) := Lib.hid (by rw [← h]; exact HA.out k hlt)
        rw [decide_eq_true h] at q1
        have hd1 : (k : Int).tdiv 2 = ((k / 2 : Nat) : Int) := by rw [Int.tdiv_eq_ediv_of_nonneg (by omega)]; omega
        have hd2 : (k : Int) / 2 = ((k / 2 : Nat) : Int) := by omega
        obtain ⟨r, hr⟩ : ∃ r, r = k / 2 := ⟨_, rfl⟩
        rw [← hr] at hd1 hd2 e0
        have hr8 : r ≤ 4 := by omega
        clear h hr
        generalize kindL k = kl at *
        go_wp2
        go_ret
        rw [e0.out]
        exact ⟨retInt (k := .i64) (show (1 + (r : Int)) = ((1 + r : Nat) : Int) by omega), HB.out⟩
      · have HNE := Lib.hid h
        rw [decide_eq_false h] at q1
        clear h
        have HKL := Lib.hid (rfl : kindL k = kindL k)
        go_wp2
        go_roundw
        case rel => exact ⟨k + 1, by omega, by go_num, Lib.hid (fun i hi => by
          by_cases e : i = k
          · rw [e]; exact HNE.out
          · exact hne.out i (by omega)), by trivial⟩
        case measure => simp [intOf]; omega
    · have e0 : Hid (kindN s = 0) := Lib.hid (HN.out fun i hi => hne.out i (by omega))
      go_wp2
      go_ret
      rw [e0.out]
      exact ⟨rfl, HB.out⟩
/-- The statements' list. -/
def txtPlain : Bs := [116, 101, 120, 116, 47, 112, 108, 97, 105, 110]
def mediaN (i : Nat) : Bs := [mMan, mIdx, mCfg, mLay, dMan, dIdx, dCfg, dLay, txtPlain].getD i []
def mediaA : Array Value := #[.string (str mMan), .string (str mIdx), .string (str mCfg), .string (str mLay), .string (str dMan), .string (str dIdx), .string (str dCfg), .string (str dLay), .string (str txtPlain)]
theorem mediaA_at (i : Nat) (h : i < 9) : mediaA[i]? = some (.string (str (mediaN i))) := by
  match i, h with
  | 0, _ => rfl
  | 1, _ => rfl
  | 2, _ => rfl
  | 3, _ => rfl
  | 4, _ => rfl
  | 5, _ => rfl
  | 6, _ => rfl
  | 7, _ => rfl
  | 8, _ => rfl
  | n + 9, h => omega
theorem mediaN_le (i : Nat) : (mediaN i).length ≤ 100 := by
  by_cases h : i < 9
  · have : ∀ i : Fin 9, (mediaN i.val).length ≤ 100 := by decide +kernel
    exact this ⟨i, h⟩
  · unfold mediaN
    rw [List.getD_eq_getElem?_getD, List.getElem?_eq_none (by simp; omega)]
    simp
set_option maxRecDepth 100000 in
set_option maxHeartbeats 4000000 in
theorem media_any (n : Nat) (hn : n < 256) (w : World) : Calls Tryz.prog 25 #[.int .u8 (n : Int)] w fun e w' => e = .returned (.string (str (mediaN (n % 9)))) ∧ Below w.heap.size w w' := by
  have hlt : n % 9 < 9 := Nat.mod_lt _ (by omega)
  have hm1 : (n : Int).tmod 9 = ((n % 9 : Nat) : Int) := by rw [Int.tmod_eq_emod_of_nonneg (by omega)]; omega
  have hm2 : (n : Int) % 9 = ((n % 9 : Nat) : Int) := by omega
  have hmi : IntKind.u8.wrap (n : Int) = (n : Int) := IntWalk.u8_in _ (by omega)
  generalize n % 9 = r at *
  have hr := rowC_new w mediaA 115
  have HP := Lib.hid ((rowC_cell hr r).trans (mediaA_at r hlt))
  have HB := Lib.hid ((Below.refl w.heap.size w).alloc (Nat.le_refl _) (.cells mediaA 115))
  clear hr
  generalize mediaN r = m at *
  obtain ⟨w1, hw1⟩ : ∃ w1, w1 = w.alloc (.cells mediaA 115) := ⟨_, rfl⟩
  rw [← hw1] at HP HB
  have HW1 := Lib.hid hw1
  clear hw1
  go_enter Tryz.func25, Tryz.ntmps25
  go_upto_region 2 with (fail)
  change Code.wp _ _ _ _ (w.alloc (.cells mediaA 115))
  rw [← HW1.out]
  have hp := HP.out
  go_wp2
  go_ret
  exact ⟨rfl, HB.out⟩
end Go.Proofs.YtlknngplnimdpaaGreatDoor

/- Layer 13: the statements' descriptors, out of the rough. -/
namespace Go.Proofs.YtlknngplnimdpaaGreatDoor
open Go.RowKit

def descOf (r : RG) : DV := ⟨if r.num < 200 then mediaN (r.num % 9) else r.media, r.dig, r.size, r.os, r.arch⟩
def shortR (r : RG) : Bool := decide (r.media.length ≤ 200) && (decide (r.os.length ≤ 200) && decide (r.arch.length ≤ 200))
def ofR (l : List RG) (most : Int) : Bool := l.all shortR && decide ((l.length : Int) ≤ most)
def zeroRG : RG := ⟨0, [], zero32, 0, [], []⟩
def flatD (l : List DV) : List Value := l.flatMap fun d => (encD d).toList
theorem good_of {r : RG} (h : r.ok) (hs : shortR r = true) : putD (descOf r) := by
  unfold shortR at hs
  rw [Bool.and_eq_true, Bool.and_eq_true, decide_eq_true_eq, decide_eq_true_eq, decide_eq_true_eq] at hs
  refine ⟨⟨h.2.1, ?_, ?_, ?_⟩, h.2.2.1, h.2.2.2⟩
  · show (if r.num < 200 then mediaN (r.num % 9) else r.media).length ≤ _
    split
    · have := mediaN_le (r.num % 9); omega
    · omega
  · show r.os.length ≤ _; omega
  · show r.arch.length ≤ _; omega
theorem encR_get {r : RG} (h : r.dig.length = 32) : (encR r)[0]? = some (.int .u8 (r.num : Int)) ∧ (encR r)[1]? = some (.string (str r.media)) ∧ (encR r)[34]? = some (.int .i64 r.size) ∧ (encR r)[35]? = some (.string (str r.os)) ∧ (encR r)[36]? = some (.string (str r.arch)) := by
  unfold encR
  refine ⟨rfl, rfl, ?_, ?_, ?_⟩
  · rw [List.getElem?_append_right (by simp [h])]; simp [h]
  · rw [List.getElem?_append_right (by simp [h])]; simp [h]
  · rw [List.getElem?_append_right (by simp [h])]; simp [h]
theorem encR_dig {r : RG} (h : r.dig.length = 32) : ∀ (j : Nat) (v : Value), (r.dig.map byteV)[j]? = some v → (encR r)[2 + j]? = some v := by
  intro j v hv
  have hj := (List.getElem?_eq_some_iff.1 hv).1
  unfold encR
  rw [List.getElem?_append_left (by simp at hj ⊢; omega), List.getElem?_append_right (by simp)]
  simpa using hv
theorem encR_one (r : RG) : (encR r).toArray.all (·.oneCell') = true := all_oneCell_toArray (fun v hv => by
  unfold encR at hv
  rcases List.mem_append.1 hv with hv | hv
  · rcases List.mem_append.1 hv with hv | hv
    · simp at hv
      rcases hv with rfl | rfl <;> rfl
    · obtain ⟨x, _, rfl⟩ := List.mem_map.1 hv
      rfl
  · simp at hv
    rcases hv with rfl | rfl | rfl <;> rfl)
theorem info_R : (Tryz.prog.info? 46).map (·.size) = some 37 := by kernel_rfl
theorem built_des (d : DV) (h : d.dig.length = 32) : Tryz.prog.built 28 [(0, .string (str d.media)), (1, .agg (d.dig.map byteV).toArray), (2, .int .i64 d.size), (3, .agg #[.string (str d.os), .string (str d.arch)])] = some (encD d) := by
  obtain ⟨media, g, size, os, arch⟩ := d
  match g, h with
  | [a0, a1, a2, a3, a4, a5, a6, a7, a8, a9, b0, b1, b2, b3, b4, b5, b6, b7, b8, b9, c0, c1, c2, c3, c4, c5, c6, c7, c8, c9, d0, d1], _ =>
    show _ = _
    kernel_rfl
theorem rough_mid {w : World} {b : Nat} {r : RG} {t : TypeId} (hd : r.dig.length = 32) (h : rowC w b (encR r).toArray t) : w.rangeAt b 2 (r.dig.map byteV) ∧ w.rangeAt b 35 [.string (str r.os), .string (str r.arch)] := by
  refine ⟨rowC_range h 2 _ (fun j v hv => by rw [List.getElem?_toArray]; exact encR_dig hd j v hv), rowC_range h 35 _ (fun j v hv => ?_)⟩
  rw [List.getElem?_toArray]
  match j, hv with
  | 0, hv => rw [(encR_get hd).2.2.2.1]; exact hv
  | 1, hv => rw [(encR_get hd).2.2.2.2]; exact hv
theorem bad_of {l : List RG} {j : Nat} {r : RG} {most : Int} (h : l[j]? = some r) (hs : shortR r = false) : ofR l most = false := by
  unfold ofR
  rw [Bool.and_eq_false_iff]
  left
  rw [List.all_eq_false]
  exact ⟨r, List.mem_of_getElem? h, by rw [hs]; decide⟩
theorem short_no {r : RG} (h : 200 < r.media.length ∨ 200 < r.os.length ∨ 200 < r.arch.length) : shortR r = false := by
  unfold shortR
  rcases h with h | h | h
  · rw [decide_eq_false (show ¬ r.media.length ≤ 200 by omega)]; rfl
  · rw [decide_eq_false (show ¬ r.os.length ≤ 200 by omega), Bool.false_and, Bool.and_false]
  · rw [decide_eq_false (show ¬ r.arch.length ≤ 200 by omega), Bool.and_false, Bool.and_false]
theorem short_yes {r : RG} (h1 : ¬ 200 < r.media.length) (h2 : ¬ 200 < r.os.length) (h3 : ¬ 200 < r.arch.length) : shortR r = true := by
  unfold shortR
  rw [decide_eq_true (by omega), decide_eq_true (by omega), decide_eq_true (by omega)]
  rfl
set_option maxRecDepth 100000 in
set_option maxHeartbeats 16000000 in
theorem of_any (l : List RG) (x : Option Addr) (cc : Nat) (most : Int) (w : World) (hl : l.length * 96 ≤ 140737488351232) (hR : RghsC w x l) :
    Calls Tryz.prog 17 #[.slice x l.length cc, .int .i64 most] w fun e w' => ∃ t, e = .returned (.tuple #[t, .bool (ofR l most)]) ∧ (ofR l most = true → w'.ownsRow w.heap.size 28 36 t l.length (flatD (l.map descOf))) ∧ Below w.heap.size w w' := by
  obtain ⟨i0, hi0, hz0, hz1, hz2⟩ := info_parts info_des3
  have HL := Lib.hid hR
  obtain ⟨N, hN⟩ : ∃ N, N = l.length := ⟨_, rfl⟩
  have HN := Lib.hid hN
  rw [← hN] at hl ⊢
  clear hR hN
  go_enter Tryz.func17, Tryz.ntmps17
  go_wp2
  go_loopw [6, 7] (fun t v wr => ∃ j : Nat, j ≤ N ∧ v = .int .i64 j ∧ Hid ((l.take j).all shortR = true) ∧ Hid (wr.ownsRow w.heap.size 28 36 t j (flatD ((l.take j).map descOf))) ∧ Hid (Below w.heap.size w wr)) (fun _ v _ => N - (intOf v).toNat)
  case atStart => exact ⟨0, Nat.zero_le _, rfl, Lib.hid rfl, Lib.hid (World.ownsRow_nil _ _ _ _), Lib.hid (Below.refl _ _)⟩
  case round =>
    obtain ⟨j, hjN, rfl, hsh, hO, hB⟩ := hrel
    obtain ⟨xi, ci, rfl⟩ := owns_form hO.out
    have sw := hB.out.size
    by_cases hj : j < N
    · have g1 : (j : Int) < (N : Int) := by omega
      obtain ⟨r, hr⟩ : ∃ r, l[j]? = some r := ⟨_, List.getElem?_eq_getElem (by have := HN.out; omega)⟩
      obtain ⟨hok, ad, rfl, hab, hcs⟩ := HL.out j r hr
      have HCS := Lib.hid (show ∀ i u, (encR r)[i]? = some u → wr.cell? ((ad.add (j * 37)).add i) = some u from fun i u hu => by
        rw [World.cell?_of_block (w := w) (w' := wr) (hB.out.block _ (by rw [add_block, add_block]; exact hab))]
        exact hcs i u hu)
      have HOK := Lib.hid hok
      have HR := Lib.hid hr
      have HIR := Lib.hid (show (Tryz.prog.info? 46).map (·.size) = some (encR r).length by rw [encR_len hok]; exact info_R)
      have HIR2 := Lib.hid (show (Tryz.prog.info? 46).map (·.size) = some (encR r).toArray.size by rw [List.size_toArray, encR_len hok]; exact info_R)
      have HIZ := Lib.hid (show (encR zeroRG).toArray.size = (encR r).toArray.size by rw [List.size_toArray, List.size_toArray, encR_len hok]; rfl)
      clear hok hcs hr hj
      go_upto_region 6 with (first
        | ((with_reducible show wpList _ _ _ (⟨some 19, .load _ _, _, _, _, _⟩ :: _) _ _); refine wpList_load_at rfl 46 _ rfl (ad.add (j * 37)) rfl (encR r) _ HCS.out Tryz.underlying46 rfl HIR.out ?_)
        | ((with_reducible show wpList _ _ _ (⟨none, .store _ (.tmp 8) _, _, _, _, _⟩ :: _) _ _); refine wpList_store_last rfl 46 _ _ rfl wr.heap.size (encR r).toArray rfl rfl 46 (encR zeroRG).toArray rfl HIR2.out HIZ.out (encR_one _) ?_))
      obtain ⟨W1, hW1⟩ : ∃ W1, W1 = wr.alloc (.cells (encR r).toArray 46) := ⟨_, rfl⟩
      rw [← hW1]
      have R1 : rowC W1 wr.heap.size (encR r).toArray 46 := by rw [hW1]; exact rowC_new _ _ _
      have BW1 : Below wr.heap.size wr W1 := by rw [hW1]; exact (Below.refl _ _).alloc (Nat.le_refl _) _
      have s1 : wr.heap.size + 1 ≤ W1.heap.size := by rw [hW1, size_alloc]; omega
      obtain ⟨c0, c1, c34, c35, c36⟩ := encR_get HOK.out.2.1
      have q0 : W1.cell? ⟨wr.heap.size, 0, none⟩ = some (.int .u8 (r.num : Int)) := by rw [rowC_cell R1, List.getElem?_toArray]; exact c0
      have q1 : W1.cell? ⟨wr.heap.size, 1, none⟩ = some (.string (str r.media)) := by rw [rowC_cell R1, List.getElem?_toArray]; exact c1
      have q34 : W1.cell? ⟨wr.heap.size, 34, none⟩ = some (.int .i64 r.size) := by rw [rowC_cell R1, List.getElem?_toArray]; exact c34
      have q35 : W1.cell? ⟨wr.heap.size, 35, none⟩ = some (.string (str r.os)) := by rw [rowC_cell R1, List.getElem?_toArray]; exact c35
      have q36 : W1.cell? ⟨wr.heap.size, 36, none⟩ = some (.string (str r.arch)) := by rw [rowC_cell R1, List.getElem?_toArray]; exact c36
      have HM := Lib.hid (rough_mid HOK.out.2.1 R1)
      have HB1 := Lib.hid (hB.out.trans (BW1.mono sw))
      have HO1 := Lib.hid ((Chg.of_below (s := no) BW1).owns hO.out (fun _ _ h => h))
      have HR1 := Lib.hid R1
      clear hW1 R1 BW1 c0 c1 c34 c35 c36
      have z1 := str_size r.media
      have z2 := str_size r.os
      have z3 := str_size r.arch
      by_cases h1 : 200 < r.media.length
      · have g2 : (200 : Int) < (r.media.length : Int) := by omega
        have e0 : Hid (ofR l most = false) := Lib.hid (bad_of HR.out (short_no (.inl h1)))
        clear h1
        go_wp2
        go_ret2
        rw [e0.out]
        exact ⟨_, rfl, (fun h => by cases h), HB1.out⟩
      have g2 : ¬ (200 : Int) < (r.media.length : Int) := by omega
      by_cases h2 : 200 < r.os.length
      · have g3 : (200 : Int) < (r.os.length : Int) := by omega
        have e0 : Hid (ofR l most = false) := Lib.hid (bad_of HR.out (short_no (.inr (.inl h2))))
        clear h1 h2
        go_wp2
        go_ret2
        rw [e0.out]
        exact ⟨_, rfl, (fun h => by cases h), HB1.out⟩
      have g3 : ¬ (200 : Int) < (r.os.length : Int) := by omega
      by_cases h3 : 200 < r.arch.length
      · have g4 : (200 : Int) < (r.arch.length : Int) := by omega
        have e0 : Hid (ofR l most = false) := Lib.hid (bad_of HR.out (short_no (.inr (.inr h3))))
        clear h1 h2 h3
        go_wp2
        go_ret2
        rw [e0.out]
        exact ⟨_, rfl, (fun h => by cases h), HB1.out⟩
      have g4 : ¬ (200 : Int) < (r.arch.length : Int) := by omega
      have HSR := Lib.hid (short_yes h1 h2 h3)
      have HGP := Lib.hid (good_of HOK.out HSR.out)
      obtain ⟨d0, hd0⟩ : ∃ d0 : DV, d0 = ⟨r.media, r.dig, r.size, r.os, r.arch⟩ := ⟨_, rfl⟩
      have HD0 := Lib.hid hd0
      have hg0 : goodD d0 := by rw [hd0]; exact ⟨HOK.out.2.1, (by show r.media.length ≤ _; omega), (by show r.os.length ≤ _; omega), (by show r.arch.length ≤ _; omega)⟩
      have HBD := Lib.hid (show Tryz.prog.built 28 [(0, .string (str r.media)), (1, .agg (r.dig.map byteV).toArray), (2, .int .i64 r.size), (3, .agg #[.string (str r.os), .string (str r.arch)])] = some (encD d0) by rw [hd0]; exact built_des ⟨r.media, r.dig, r.size, r.os, r.arch⟩ HOK.out.2.1)
      have HID0 := Lib.hid (show (Tryz.prog.info? 28).map (·.size) = some (encD d0).size by rw [encD_size d0 hg0]; exact info_D)
      have HZD0 := Lib.hid (show (encD zeroD).size = (encD d0).size by rw [encD_size d0 hg0]; rfl)
      have HG00 := Lib.hid ((encD_get hg0.1).1)
      have HDL := Lib.hid (show (Tryz.prog.info? 24).map (·.size) = some (r.dig.map byteV).length by rw [List.length_map, HOK.out.2.1]; kernel_rfl)
      have hn256 := HOK.out.1
      clear hg0 hd0 h1 h2 h3
      go_upto_region 9 with (first
        | ((with_reducible show wpList _ _ _ (⟨some 41, .load _ _, _, _, _, _⟩ :: _) _ _); refine wpList_load_mid rfl 24 _ rfl wr.heap.size 2 rfl (r.dig.map byteV) _ HM.out.1 Tryz.underlying24 rfl HDL.out ?_)
        | ((with_reducible show wpList _ _ _ (⟨some 45, .load _ _, _, _, _, _⟩ :: _) _ _); refine wpList_load_mid rfl 26 _ rfl wr.heap.size 35 rfl [.string (str r.os), .string (str r.arch)] _ HM.out.2 Tryz.underlying26 rfl info_P ?_)
        | ((with_reducible show wpList _ _ _ (⟨some 46, .build _ _, _, _, _, _⟩ :: _) _ _); refine wpList_build_as rfl 28 _ rfl (encD d0) (Eq.trans ?_ HBD.out) ?_; kernel_rfl)
        | ((with_reducible show wpList _ _ _ (⟨none, .store _ (.tmp 9) _, _, _, _, _⟩ :: _) _ _); refine wpList_store_last rfl 28 _ _ rfl W1.heap.size (encD d0) rfl rfl 28 (encD zeroD) rfl HID0.out HZD0.out (encD_one _) ?_))
      obtain ⟨W2, hW2⟩ : ∃ W2, W2 = W1.alloc (.cells (encD d0) 28) := ⟨_, rfl⟩
      rw [← hW2]
      have R2 : rowC W2 W1.heap.size (encD d0) 28 := by rw [hW2]; exact rowC_new _ _ _
      have BW2 : Below W1.heap.size W1 W2 := by rw [hW2]; exact (Below.refl _ _).alloc (Nat.le_refl _) _
      have s2 : W1.heap.size + 1 ≤ W2.heap.size := by rw [hW2, size_alloc]; omega
      have p0 : W2.cell? ⟨wr.heap.size, 0, none⟩ = some (.int .u8 (r.num : Int)) := (World.cell?_of_block (BW2.block _ (by show wr.heap.size < _; omega))).trans q0
      have HB2 := Lib.hid (HB1.out.trans (BW2.mono HB1.out.size))
      have HO2 := Lib.hid ((Chg.of_below (s := no) BW2).owns HO1.out (fun _ _ h => h))
      have HR2 := Lib.hid R2
      have HSZ := Lib.hid (encD_size _ HGP.out.1)
      have HN1 : Hid ((encD (descOf r)).toList.length = 1 * 36) := Lib.hid (by rw [Array.length_toList, HSZ.out])
      have H1 := Lib.hid (show ∀ u ∈ (encD (descOf r)).toList, u.oneCell' = true from fun u hu => by
        have := Array.all_eq_true_iff_forall_mem.1 (show (encD (descOf r)).all (·.oneCell') = true from (encD_one _)) u (by simpa using hu)
        exact this)
      clear hW2 R2 BW2 q0 q1 q34 q35 q36 z1 z2 z3 g2 g3 g4
      have CM := fun w => media_any r.num hn256 w
      by_cases hn : r.num < 200
      · have g5 : (r.num : Int) < 200 := by omega
        have HDD : Hid (encD { d0 with media := mediaN (r.num % 9) } = encD (descOf r)) := Lib.hid (by rw [HD0.out]; unfold descOf; rw [if_pos hn])
        go_upto_region 11 with (go_at_call 25; (with_reducible refine (CM _).mono ?_); rintro e w3 ⟨rfl, b3⟩; have R3 := rowC_below HR2.out b3 (by omega); have t0 := rowC_cell R3 0; rw [HG00.out] at t0; have f0 := rowC_free R3 0; have HR3 := Lib.hid R3; have HB3 := Lib.hid (HB2.out.trans (b3.mono HB2.out.size)); have HO3 := Lib.hid ((Chg.of_below (s := no) b3).owns HO2.out (fun _ _ h => h)); clear R3 b3)
        have HX0 := rowC_set HR3.out 0 (.string (str (mediaN (r.num % 9))))
        rw [encD_media, HDD.out] at HX0
        have HX := Lib.hid HX0
        have HBX := Lib.hid (HB3.out.setCell (p := ⟨W1.heap.size, 0, none⟩) HB1.out.size (.string (str (mediaN (r.num % 9)))))
        have HOX := Lib.hid (show (w3.setCell ⟨W1.heap.size, 0, none⟩ (.string (str (mediaN (r.num % 9))))).ownsRow w.heap.size 28 36 (.slice xi j ci) j (flatD ((l.take j).map descOf)) from ((Chg.refl (fun k => k = W1.heap.size) w3).setCell ⟨W1.heap.size, 0, none⟩ _ (.inl rfl)).owns HO3.out (fun g hg e => by have h9 := (HO1.out.lt g hg).2; have e : g = W1.heap.size := e; omega))
        generalize w3.setCell ⟨W1.heap.size, 0, none⟩ (.string (str (mediaN (r.num % 9)))) = wx at *
        clear HX0 t0 f0 p0 CM HR3 HB3 HO3
        go_upto_region 4 with (first
          | ((with_reducible show wpList _ _ _ (⟨some 55, .load _ _, _, _, _, _⟩ :: _) _ _); refine wpList_load_row rfl 28 _ rfl W1.heap.size rfl 28 (encD (descOf r)) (0, 0) _ HX.out Tryz.underlying28 rfl (by rw [HSZ.out]; exact info_D) ?_)
          | ((with_reducible show wpList _ _ _ (⟨some 56, .buildSlice _ _ _, _, _, _, _⟩ :: _) _ _); refine wpList_oneR rfl 29 28 36 _ rfl (encD (descOf r)) rfl i0 _ Tryz.underlying29 hi0 hz0 hz1 HSZ.out (by decide) (by decide) ?_)
          | ((with_reducible show wpList _ _ _ (⟨some 57, _, _, _, _, _⟩ :: _) _ _); refine wpList_append_lies _ rfl _ _ 29 rfl w.heap.size 28 i0 _ 36 88 Tryz.underlying29 hi0 hz0 hz1 hz2 (by rfl) (by decide) (.slice xi j ci) j (flatD ((l.take j).map descOf)) rfl (HOX.out.alloc _) ⟨wx.heap.size, 0, none⟩ 1 1 (encD (descOf r)).toList rfl HN1.out (World.news_of_block (heap_alloc_new wx _)) H1.out (by decide) (by unfold maxLen; omega) (by omega) (by rw [size_alloc]; have := HBX.out.size; omega) _ rfl ?_; intro g cap w7 hown7 hgrow7 hat7 hlt7; have HOW7 := Lib.hid hown7; have HG7 := Lib.hid hgrow7; clear hown7 hgrow7 hat7 hlt7))
        go_wp2
        go_roundw
        case rel =>
          refine ⟨j + 1, by omega, by go_num, Lib.hid ?_, Lib.hid ?_, Lib.hid ?_⟩
          · rw [take_one HR.out, List.all_append, hsh.out, List.all_cons, HSR.out]
            rfl
          · rw [take_one HR.out, List.map_append, flatD, List.flatMap_append]
            have := HOW7.out
            simpa [flatD] using this
          · exact (HBX.out.alloc HBX.out.size _).grown HG7.out (by rw [size_alloc]; have := HBX.out.size; omega) (fun k hk => (HOX.out.lt k hk).1)
        case measure => simp [intOf]; omega
      · have g5 : ¬ (r.num : Int) < 200 := by omega
        have HDD : Hid (encD d0 = encD (descOf r)) := Lib.hid (by rw [HD0.out]; unfold descOf; rw [if_neg hn])
        have HX0 := HR2.out
        rw [HDD.out] at HX0
        have HX := Lib.hid HX0
        have HBX := Lib.hid HB2.out
        have HOX := Lib.hid HO2.out
        clear HX0 CM
        go_upto_region 11 with (fail)
        generalize W2 = wx at *
        clear p0
        go_upto_region 4 with (first
          | ((with_reducible show wpList _ _ _ (⟨some 55, .load _ _, _, _, _, _⟩ :: _) _ _); refine wpList_load_row rfl 28 _ rfl W1.heap.size rfl 28 (encD (descOf r)) (0, 0) _ HX.out Tryz.underlying28 rfl (by rw [HSZ.out]; exact info_D) ?_)
          | ((with_reducible show wpList _ _ _ (⟨some 56, .buildSlice _ _ _, _, _, _, _⟩ :: _) _ _); refine wpList_oneR rfl 29 28 36 _ rfl (encD (descOf r)) rfl i0 _ Tryz.underlying29 hi0 hz0 hz1 HSZ.out (by decide) (by decide) ?_)
          | ((with_reducible show wpList _ _ _ (⟨some 57, _, _, _, _, _⟩ :: _) _ _); refine wpList_append_lies _ rfl _ _ 29 rfl w.heap.size 28 i0 _ 36 88 Tryz.underlying29 hi0 hz0 hz1 hz2 (by rfl) (by decide) (.slice xi j ci) j (flatD ((l.take j).map descOf)) rfl (HOX.out.alloc _) ⟨wx.heap.size, 0, none⟩ 1 1 (encD (descOf r)).toList rfl HN1.out (World.news_of_block (heap_alloc_new wx _)) H1.out (by decide) (by unfold maxLen; omega) (by omega) (by rw [size_alloc]; have := HBX.out.size; omega) _ rfl ?_; intro g cap w7 hown7 hgrow7 hat7 hlt7; have HOW7 := Lib.hid hown7; have HG7 := Lib.hid hgrow7; clear hown7 hgrow7 hat7 hlt7))
        go_wp2
        go_roundw
        case rel =>
          refine ⟨j + 1, by omega, by go_num, Lib.hid ?_, Lib.hid ?_, Lib.hid ?_⟩
          · rw [take_one HR.out, List.all_append, hsh.out, List.all_cons, HSR.out]
            rfl
          · rw [take_one HR.out, List.map_append, flatD, List.flatMap_append]
            have := HOW7.out
            simpa [flatD] using this
          · exact (HBX.out.alloc HBX.out.size _).grown HG7.out (by rw [size_alloc]; have := HBX.out.size; omega) (fun k hk => (HOX.out.lt k hk).1)
        case measure => simp [intOf]; omega
    · have e0 : Hid (l.take j = l) := Lib.hid (List.take_of_length_le (by have := HN.out; omega))
      have hjn : j = N := by omega
      subst hjn
      have HOF := Lib.hid (show ofR l most = decide ((j : Int) ≤ most) by
        have h5 := hsh.out
        rw [e0.out] at h5
        unfold ofR
        rw [h5, Bool.true_and, HN.out])
      have HOE : Hid (wr.ownsRow w.heap.size 28 36 (.slice xi j ci) j (flatD (l.map descOf))) := Lib.hid (by have h5 := hO.out; rwa [e0.out] at h5)
      clear hj hsh hO
      go_wp2
      go_ret2
      rw [HOF.out]
      exact ⟨_, rfl, (fun _ => HOE.out), hB.out⟩
end Go.Proofs.YtlknngplnimdpaaGreatDoor

/- Layer 13: the chapter's texts. -/
namespace Go.Proofs.YtlknngplnimdpaaGreatDoor
open Go.RowKit

def imgT : Bs := [123, 34, 97, 114, 99, 104, 105, 116, 101, 99, 116, 117, 114, 101, 34, 58, 34, 97, 109, 100, 54, 52, 34, 44, 34, 111, 115, 34, 58, 34, 108, 105, 110, 117, 120, 34, 44, 34, 114, 111, 111, 116, 102, 115, 34, 58, 123, 34, 116, 121, 112, 101, 34, 58, 34, 108, 97, 121, 101, 114, 115, 34, 44, 34, 100, 105, 102, 102, 95, 105, 100, 115, 34, 58, 91, 93, 125, 125]
def linB : Bs := [108, 105, 110, 117, 120]
def amdB : Bs := [97, 109, 100, 54, 52]
theorem imgA_ex : imgA (linB, amdB) [] = (imgT, 0) := by decide +kernel
theorem man_ex1 : allP 20 [123, 125] = some (.ok (.mk 6 [] [] []) []) := by rfl
theorem man_ex2 : allP 20 [91] = some (.bad 10 []) := by rfl
theorem manV_ex : manR (.ok (.mk 6 [] [] []) []) = .bad 10 := by
  show manV (.mk 6 [] [] []) = .bad 10
  have h : headV 1 (.mk 6 [] [] []) = 10 := by decide +kernel
  unfold manV
  rw [if_pos (by rw [h]; decide), h]
theorem kind_ex : kindN [97, 112, 112, 108, 105, 99, 97, 116, 105, 111, 110, 47, 118, 110, 100, 46, 111, 99, 105, 46, 105, 109, 97, 103, 101, 46, 108, 97, 121, 101, 114, 46, 118, 49, 46, 116, 97, 114] = 4 ∧ kindN [116, 101, 120, 116, 47, 112, 108, 97, 105, 110] = 0 := by decide +kernel
theorem man_bad {S : Bs} {q : Nat} {R : Res JV} (hR : allP q S = some R) (hb : manR R = .bad 10) (hS : S.length ≤ 65536) (w : World) (hE : Env2 w) :
    Calls Tryz.prog 9 #[.string (str S)] w fun e w' => ∃ c x cc, e = .returned (.tuple #[.agg (encM c (.slice x 0 cc)), .int .i64 10]) ∧ goodD c ∧ Below w.heap.size w w' := by
  refine (manifest_any hS w hE hR).mono ?_
  rintro e w' ⟨c, l, x, cc, code, rfl, _, hg, h, hB⟩
  rw [hb] at h
  rcases h with ⟨h, _⟩ | ⟨h, _, rfl, rfl⟩
  · cases h
  · injection h with h
    subst h
    exact ⟨_, x, cc, rfl, hg, hB⟩
set_option maxRecDepth 100000 in
set_option maxHeartbeats 8000000 in
theorem described_any (w : World) (hE : Env2 w) : Calls Tryz.prog 8 #[] w fun e w' => e = .returned (.bool true) ∧ Below w.heap.size w w' := by
  have M1 : ∀ w, Env2 w → Calls Tryz.prog 9 #[.string ⟨#[123, 125]⟩] w fun e w' => ∃ c x cc, e = .returned (.tuple #[.agg (encM c (.slice x 0 cc)), .int .i64 10]) ∧ goodD c ∧ Below w.heap.size w w' := fun w hE => man_bad man_ex1 manV_ex (by decide) w hE
  have M2 : ∀ w, Env2 w → Calls Tryz.prog 9 #[.string ⟨#[91]⟩] w fun e w' => ∃ c x cc, e = .returned (.tuple #[.agg (encM c (.slice x 0 cc)), .int .i64 10]) ∧ goodD c ∧ Below w.heap.size w w' := fun w hE => man_bad (R := .bad 10 []) man_ex2 rfl (by decide) w hE
  obtain ⟨T, hT⟩ : ∃ T, T = imgT := ⟨_, rfl⟩
  have PI : ∀ w, Env2 w → Calls Tryz.prog 22 #[.agg #[.string ⟨#[108, 105, 110, 117, 120]⟩, .string ⟨#[97, 109, 100, 54, 52]⟩, .slice none 0 0]] w fun e w' => e = .returned (.tuple #[.string (str T), .int .i64 0]) ∧ Below w.heap.size w w' := fun w hE => by
    have h := putImage_any (linB, amdB) [] none 0 w hE (by decide) (by decide) (by decide) (.inl ⟨rfl, rfl⟩)
    rw [imgA_ex, ← hT] at h
    exact h
  have PK : ∀ w, Calls Tryz.prog 27 #[.slice none 0 0, .agg #[.string ⟨#[]⟩, .string ⟨#[]⟩]] w fun e w' => e = .returned (.tuple #[.agg (encD zeroD), .int .i64 73]) ∧ Below w.heap.size w w' := fun w => pick_any [] ([], []) none 0 w (by decide) (.inl ⟨rfl, rfl⟩)
  have K1 : ∀ w, Calls Tryz.prog 24 #[.string ⟨#[97, 112, 112, 108, 105, 99, 97, 116, 105, 111, 110, 47, 118, 110, 100, 46, 111, 99, 105, 46, 105, 109, 97, 103, 101, 46, 108, 97, 121, 101, 114, 46, 118, 49, 46, 116, 97, 114]⟩] w fun e w' => e = .returned (.int .i64 4) ∧ w = w' := fun w => by
    have h := kind_any [97, 112, 112, 108, 105, 99, 97, 116, 105, 111, 110, 47, 118, 110, 100, 46, 111, 99, 105, 46, 105, 109, 97, 103, 101, 46, 108, 97, 121, 101, 114, 46, 118, 49, 46, 116, 97, 114] w
    rw [kind_ex.1] at h
    exact h
  have K2 : ∀ w, Calls Tryz.prog 24 #[.string ⟨#[116, 101, 120, 116, 47, 112, 108, 97, 105, 110]⟩] w fun e w' => e = .returned (.int .i64 0) ∧ w = w' := fun w => by
    have h := kind_any [116, 101, 120, 116, 47, 112, 108, 97, 105, 110] w
    rw [kind_ex.2] at h
    exact h
  have hq : ((str T).toList == [123, 34, 97, 114, 99, 104, 105, 116, 101, 99, 116, 117, 114, 101, 34, 58, 34, 97, 109, 100, 54, 52, 34, 44, 34, 111, 115, 34, 58, 34, 108, 105, 110, 117, 120, 34, 44, 34, 114, 111, 111, 116, 102, 115, 34, 58, 123, 34, 116, 121, 112, 101, 34, 58, 34, 108, 97, 121, 101, 114, 115, 34, 44, 34, 100, 105, 102, 102, 95, 105, 100, 115, 34, 58, 91, 93, 125, 125]) = true := by rw [hT]; exact (eqT imgT imgT).trans (decide_eq_true rfl)
  have HIM := Lib.hid (fun (c : DV) (hg : goodD c) (x : Option Addr) (cc : Nat) => show (Tryz.prog.info? 31).map (·.size) = some (encM c (.slice x 0 cc)).size by rw [encM_size hg]; exact info_M)
  have HZM := Lib.hid (fun (c : DV) (hg : goodD c) (x : Option Addr) (cc : Nat) => show zeroM.size = (encM c (.slice x 0 cc)).size by rw [encM_size hg]; rfl)
  have HE := Lib.hid hE
  clear hT hE
  go_enter Tryz.func8, Tryz.ntmps8
  go_upto_region 2 with (first
    | (go_at_call 9; (with_reducible refine (M1 _ HE.out).mono ?_); rintro e w1 ⟨c1, x1, k1, rfl, hg1, b1⟩; have HG1 := Lib.hid hg1; have HB1 := Lib.hid b1; clear hg1 b1)
    | ((with_reducible show wpList _ _ _ (⟨none, .store _ (.tmp 1) _, _, _, _, _⟩ :: _) _ _); refine wpList_store_last rfl 31 _ _ rfl w1.heap.size (encM c1 (.slice x1 0 k1)) rfl rfl 31 zeroM rfl (HIM.out _ HG1.out _ _) (HZM.out _ HG1.out _ _) (encM_all _ _ _ _) ?_))
  have HB1' := Lib.hid (HB1.out.alloc HB1.out.size (.cells (encM c1 (.slice x1 0 k1)) 31))
  generalize w1.alloc (.cells (encM c1 (.slice x1 0 k1)) 31) = v1 at *
  go_upto_region 3 with (first
    | (go_at_call 9; (with_reducible refine (M2 _ (HE.out.below HB1'.out)).mono ?_); rintro e w2 ⟨c2, x2, k2, rfl, hg2, b2⟩; have HG2 := Lib.hid hg2; have HB2 := Lib.hid (HB1'.out.trans (b2.mono HB1'.out.size)); clear hg2 b2)
    | ((with_reducible show wpList _ _ _ (⟨none, .store _ (.tmp 3) _, _, _, _, _⟩ :: _) _ _); refine wpList_store_last rfl 31 _ _ rfl w2.heap.size (encM c2 (.slice x2 0 k2)) rfl rfl 31 zeroM rfl (HIM.out _ HG2.out _ _) (HZM.out _ HG2.out _ _) (encM_all _ _ _ _) ?_))
  have HB2' := Lib.hid (HB2.out.alloc HB2.out.size (.cells (encM c2 (.slice x2 0 k2)) 31))
  generalize w2.alloc (.cells (encM c2 (.slice x2 0 k2)) 31) = v2 at *
  go_upto_region 5 with (first
    | (go_at_call 22; (with_reducible refine (PI _ (HE.out.below HB2'.out)).mono ?_); rintro e w3 ⟨rfl, b3⟩; have HB3 := Lib.hid (HB2'.out.trans (b3.mono HB2'.out.size)); clear b3)
    | (go_at_call 27; (with_reducible refine (PK _).mono ?_); rintro e w4 ⟨rfl, b4⟩; have HB4 := Lib.hid (HB3.out.trans (b4.mono HB3.out.size)); clear b4)
    | ((with_reducible show wpList _ _ _ (⟨none, .store _ (.tmp 7) _, _, _, _, _⟩ :: _) _ _); refine wpList_store_last rfl 28 _ _ rfl w4.heap.size (encD zeroD) rfl rfl 28 (encD zeroD) rfl info_D rfl (encD_one _) ?_))
  have HB4' := Lib.hid (HB4.out.alloc HB4.out.size (.cells (encD zeroD) 28))
  generalize w4.alloc (.cells (encD zeroD) 28) = v4 at *
  go_wp2_with (first
    | (go_at_call 24; (with_reducible refine (K1 _).mono ?_); rintro e w5 ⟨rfl, rfl⟩)
    | (go_at_call 24; (with_reducible refine (K2 _).mono ?_); rintro e w6 ⟨rfl, rfl⟩))
  go_ret
  exact ⟨rfl, HB4'.out⟩
end Go.Proofs.YtlknngplnimdpaaGreatDoor

/- Generic: a region that draws its order, in a fence, in a round too: all of it quiet, or all but a forced end, under any class of worlds. (It names nothing of the cut.) -/
namespace Go.Proofs.YtlknngplnimdpaaGreatDoor
open Go

/-- A wide fence lets every call through, in a round too. -/
theorem wide_fn (f : FuncId) : Fence.wide.fn f = True := eq_true trivial
theorem round_fn (l : Nat) (f : FuncId) : (Fence.wide.inRound l).fn f = True := eq_true trivial
/-- No operation puts a call off. -/
def noDef (l : List Oper) : Bool := l.all fun o => match o.op with | .defer _ => false | _ => true
theorem noDef_at {l : List Oper} (h : noDef l = true) {i : Nat} {o : Oper} (ho : l.toArray[i]? = some o) : ∀ c, o.op ≠ .defer c := by
  intro c hc
  have hm : o ∈ l := List.mem_of_getElem? (by simpa using ho)
  have := List.all_eq_true.1 h o hm
  rw [hc] at this
  cases this
section
variable {F : Fence} {n : Nat} {P : Program} {l : List Oper} {md : Region.Mode} {C : World → Prop}

theorem op_quiet {o : Oper} {a : Act} {K : Act → Prop} {K' : Act → World → Prop} {Q' : Exit → Act → World → Prop} {w : World} (hd : ∀ c, o.op ≠ .defer c) (hw : C w) (h : ∀ a w', C w' → K a → K' a w')
    (ha : o.askedIn F P a C) (hq : o.quietIn F n P a C K) : o.wpIn F n P a w K' Q' := by
  obtain ⟨v, hv, hk⟩ := hq
  have hv := hv w hw
  unfold Oper.quietAtIn at hv
  refine ⟨ha w hw, ?_⟩
  rw [Oper.semAt_eq _ _ _ hd]
  cases hr : (execOp a.eval o).run P w with
  | halt x w' => rw [hr] at hv; exact hv.elim
  | ok x w' =>
    rw [hr] at hv
    cases x with
    | value u => obtain ⟨rfl, rfl⟩ := hv; exact h _ _ hw hk
    | skip => obtain ⟨rfl, rfl⟩ := hv; exact h _ _ hw hk
    | enter f args =>
      obtain ⟨rfl, hdep, hc⟩ := hv
      exact ⟨hdep, hc.mono fun e w'' hh => by obtain ⟨rfl, hC⟩ := hh; exact h _ _ hC hk⟩
    | _ => exact hv.elim
theorem wpOp_quiet {i : Nat} {a : Act} {K : Act → Prop} {K' : Act → World → Prop} {Q' : Exit → Act → World → Prop} {w : World} (hd : noDef l = true) (hw : C w) (h : ∀ a w', C w' → K a → K' a w')
    (hq : qOpIn F n P l.toArray C i K a) : wpOpIn F n P l.toArray Q' i K' a w := by
  unfold qOpIn at hq
  unfold wpOpIn
  cases ho : l.toArray[i]? with
  | none => rw [ho] at hq; exact h _ _ hw hq
  | some o =>
    rw [ho] at hq
    obtain ⟨ha, hq⟩ := hq
    by_cases hg : Region.wanted o (yielded l.toArray a.tmps) = true
    · simp only [hg, if_true] at hq ⊢; exact op_quiet (noDef_at hd ho) hw h ha hq
    · simp only [hg, Bool.false_eq_true, if_false] at hq ⊢; exact ⟨ha w hw, h _ _ hw hq⟩
theorem wpAny_quietR {Q : Act → Prop} {Q' : Exit → Act → World → Prop} (hd : noDef l = true) (hQ : ∀ a w, C w → Q a → Q' .normal a w) : ∀ (f : Nat) (listed : Array Bool) (a : Act) (w : World), C w →
    wpAnyQIn F n P md l.toArray C Q f listed a → wpAnyIn F n P md l.toArray Q' f listed a w
  | 0, _, _, _, hw, h => ⟨h.1, hQ _ _ hw h.2⟩
  | f + 1, _, _, _, hw, h => ⟨fun h0 => hQ _ _ hw (h.1 h0), fun i hi => wpOp_quiet hd hw (fun a' w' hw' hk => wpAny_quietR hd hQ f _ a' w' hw' hk) (h.2 i hi)⟩
/-- All of it is quiet. -/
theorem region_quiet {id : Nat} {Q : Exit → Act → World → Prop} {a : Act} {w : World} (hm : P.follows .mixedOrders = true) (hd : noDef l = true) (hB : Region.lexB .any l.toArray = true) (hC : C w.drew)
    (h : wpQuietIn F n P l.toArray C (fun a' => ∀ w', C w' → Q .normal a' w') l a) : (Code.region id l.toArray true).wpIn F n P Q a w := by
  simp only [Region.lexB, Bool.and_eq_true] at hB
  refine wpIn_region_any hm (wpAny_quietR (Q := fun a' => ∀ w', C w' → Q .normal a' w') hd (fun _ w' hw' h => h w' hw') _ _ _ w.drew hC ?_)
  have := wpAnyQIn_lex (F := F) (n := n) (P := P) (C := C) (md := .any) hB.1 l 0 (Array.replicate l.toArray.size false) a (by simp) (by simpa using hB.2) h
  simpa using this
/-- .. at the class 'w after some draws'. -/
theorem region_quiet_drew {id : Nat} {Q : Exit → Act → World → Prop} {a : Act} {w : World} (hm : P.follows .mixedOrders = true) (hd : noDef l = true) (hB : Region.lexB .any l.toArray = true)
    (h : wpQuietIn F n P l.toArray (fun w' => ∃ k, w' = w.drewN k) (fun a' => ∀ w', (∃ k, w' = w.drewN k) → Q .normal a' w') l a) : (Code.region id l.toArray true).wpIn F n P Q a w :=
  region_quiet (C := fun w' => ∃ k, w' = w.drewN k) hm hd hB ⟨1, rfl⟩ h
/-! ### All but a forced end -/
/-- The operations ahead of number m, in whatever order; then T. -/
def headQ (F : Fence) (n : Nat) (P : Program) (md : Region.Mode) (ops : Array Oper) (C : World → Prop) (m : Nat) (T : Array Bool → Act → Prop) : Nat → Array Bool → Act → Prop
  | 0, listed, a => T listed a
  | f + 1, listed, a => Region.ready md ops listed ≠ [] ∧ ∀ i ∈ Region.ready md ops listed, i < m ∧ qOpIn F n P ops C i (headQ F n P md ops C m T f (listed.setIfInBounds i true)) a
theorem headQ_sound {m g : Nat} {T : Array Bool → Act → Prop} {Q' : Exit → Act → World → Prop} (hd : noDef l = true) (hT : ∀ listed a w, C w → T listed a → wpAnyIn F n P md l.toArray Q' g listed a w) :
    ∀ (f : Nat) (listed : Array Bool) (a : Act) (w : World), C w → headQ F n P md l.toArray C m T f listed a → wpAnyIn F n P md l.toArray Q' (f + g) listed a w
  | 0, listed, a, w, hw, h => by rw [Nat.zero_add]; exact hT _ _ _ hw h
  | f + 1, listed, a, w, hw, h => by
    rw [Nat.succ_add]
    exact ⟨fun h0 => absurd h0 h.1, fun i hi => wpOp_quiet hd hw (fun a' w' hw' hk => headQ_sound hd hT f _ a' w' hw' hk) (h.2 i hi).2⟩
theorem headQ_first {ops : Array Oper} {m i : Nat} {oi : Oper} {v : Value} {T : Array Bool → Act → Prop} (hi : ops[i]? = some oi) (hsel : ∀ (j : Nat) (o : Oper) cs b, ops[j]? = some o → o.op ≠ .select cs b)
    (hs : Region.sinkB md ops m = true) (hc : Region.chainB md ops m = true) (hm : m < ops.size) (him : i < m) (hT : ∀ listed a, T listed a → ∀ j ∈ Region.ready md ops listed, m ≤ j) :
    ∀ (f : Nat) (listed : Array Bool) (a : Act), HeadInv md ops m listed →
      (∀ j oj, ops[j]? = some oj → j ≠ i → listed.getD j true = false → (∀ e ∈ oj.after, Region.binds md e = true → e.on ≠ i) → oi.apart ops oj = true) →
      i ∈ Region.ready md ops listed → YieldsQuiet F n P ops C oi v a →
      headQ F n P md ops C m T f (listed.setIfInBounds i true) (a.put oi.dst v) → headQ F n P md ops C m T (f + 1) listed a := by
  intro f
  induction f with
  | zero =>
    intro listed a inv _ hr hy H
    refine ⟨fun h0 => (by rw [h0] at hr; cases hr), fun j hj => ?_⟩
    have hjm : j < m := Nat.lt_of_not_le fun h => tail_waits hs hc hm inv _ i rfl him (mem_ready.1 hr).1 j h hj
    by_cases hji : j = i
    · subst hji; exact ⟨hjm, hy.qOpIn hi H⟩
    · have := hT _ _ H j (ready_mono hj hji)
      omega
  | succ f ih =>
    intro listed a inv hfree hr hy H
    have hun := (mem_ready.1 hr).1
    refine ⟨fun h0 => (by rw [h0] at hr; cases hr), fun j hj => ?_⟩
    have hjm : j < m := Nat.lt_of_not_le fun h => tail_waits hs hc hm inv _ i rfl him hun j h hj
    refine ⟨hjm, ?_⟩
    by_cases hji : j = i
    · subst hji; exact hy.qOpIn hi H
    · obtain ⟨hjun, oj, hoj, hall⟩ := mem_ready.1 hj
      have hnot : ∀ e ∈ oj.after, Region.binds md e = true → e.on ≠ i := fun e he hb heq => by
        have h1 := hall e he hb
        rw [heq, getD_both hun] at h1
        cases h1
      have hstep := qOpIn_put hoj (hfree j oj hoj hji hjun hnot) (fun cs b => hsel i oi cs b hi) (fun cs b => hsel j oj cs b hoj) hy (H.2 j (ready_mono hj hji)).2
      refine qOpIn_mono (fun a' h3 => ih (listed.setIfInBounds j true) a' (inv.set hj hjm) (fun k ok hk hki hkun hno => hfree k ok hk hki ?_ hno) (ready_mono hr (Ne.symm hji)) h3.1 ?_) hstep
      · by_cases hjk : j = k
        · subst hjk; exact hjun
        · rw [getD_set_ne true hjk] at hkun; exact hkun
      · rw [Array.setIfInBounds_comm _ _ hji]
        exact h3.2
theorem headQ_lex {ops : Array Oper} {m g : Nat} {T : Act → Prop} (hsel : Region.noSelect ops = true) (hs : Region.sinkB md ops m = true) (hc : Region.chainB md ops m = true) (hm : m < ops.size) :
    ∀ (h : List Oper) (k : Nat) (listed : Array Bool) (a : Act), (∀ j, j < h.length → h[j]? = ops[k + j]?) → k + h.length = m → HeadInv md ops m listed → Region.lexHead md ops g h.length k listed = true → wpQuietIn F n P ops C T h a →
      headQ F n P md ops C m (fun listed' a' => Region.seqB md ops g m listed' = true ∧ T a') h.length listed a
  | [], k, listed, a, _, hk, _, hB, hq => by
    obtain rfl : k = m := by simpa using hk
    exact ⟨by simpa [Region.lexHead] using hB, hq⟩
  | o :: r, k, listed, a, hl, hk, inv, hB, hq => by
    have h0 : ops[k]? = some o := by simpa using (hl 0 (by simp)).symm
    simp only [List.length_cons, Region.lexHead, Bool.and_eq_true] at hB
    rw [List.length_cons] at hk
    have hr : k ∈ Region.ready md ops listed := by simpa using hB.1.1
    have hst : qOpIn F n P ops C k (wpQuietIn F n P ops C T r) a := by unfold qOpIn; rw [h0]; exact hq
    obtain ⟨v, hy, hK⟩ := yieldsQuiet_of_qOpIn h0 hst
    exact headQ_first h0 (Region.noSelect_spec hsel) hs hc hm (by omega) (fun _ _ hL => seqB_ready hL.1) r.length listed a inv (Region.free_spec h0 hB.1.2) hr hy
      (headQ_lex hsel hs hc hm r (k + 1) _ _ (fun j hj => by have := hl (j + 1) (by simp; omega); simpa [Nat.add_assoc, Nat.add_comm 1 j] using this) (by omega) (inv.set hr (by omega)) hB.2 hK)
theorem seq_sound {ops : Array Oper} {Q' : Exit → Act → World → Prop} : ∀ (r : List Oper) (k : Nat) (listed : Array Bool) (a : Act) (w : World), (∀ j, r[j]? = ops[k + j]?) → Region.seqB md ops r.length k listed = true →
    wpListIn F n P ops Q' r a w → wpAnyIn F n P md ops Q' r.length listed a w
  | [], _, _, _, _, _, hB, h => ⟨by simpa [Region.seqB] using hB, h⟩
  | o :: r, k, listed, a, w, hl, hB, h => by
    have h0 : ops[k]? = some o := by simpa using (hl 0).symm
    simp only [List.length_cons, Region.seqB, Bool.and_eq_true, decide_eq_true_eq] at hB
    refine ⟨fun h1 => (by rw [hB.1] at h1; cases h1), fun i hi => ?_⟩
    rw [hB.1, List.mem_singleton] at hi
    subst hi
    have hw : wpOpIn F n P ops Q' i (wpListIn F n P ops Q' r) a w := by unfold wpOpIn; rw [h0]; exact h
    exact wpOpIn_mono (fun a' w' h' => seq_sound r (i + 1) _ a' w' (fun j => by have := hl (j + 1); simpa [Nat.add_assoc, Nat.add_comm 1 j] using this) hB.2 h') hw
/-- The first m operations are quiet; those behind come in their order. -/
theorem region_quiet_tail {id : Nat} {Q : Exit → Act → World → Prop} {a : Act} {w : World} (m : Nat) (hm : P.follows .mixedOrders = true) (hd : noDef l = true) (hB : Region.lexTailB .any l.toArray m = true) (hC : C w.drew)
    (h : wpQuietIn F n P l.toArray C (fun a' => ∀ w', C w' → wpListIn F n P l.toArray Q (l.drop m) a' w') (l.take m) a) : (Code.region id l.toArray true).wpIn F n P Q a w := by
  simp only [Region.lexTailB, Bool.and_eq_true, decide_eq_true_eq] at hB
  obtain ⟨⟨⟨⟨hsel, hlt⟩, hs⟩, hc⟩, hlex⟩ := hB
  have hlt' : m < l.length := by simpa using hlt
  have htl : (l.take m).length = m := by simp; omega
  have hdl : (l.drop m).length = l.toArray.size - m := by simp
  have inv0 : HeadInv .any l.toArray m (Array.replicate l.toArray.size false) :=
    ⟨by simp, fun j oj _ hl => (by rw [getD_replicate_false] at hl; cases hl), fun t _ ht => getD_in (by simpa using ht) (getD_replicate_false _ _)⟩
  have H := headQ_lex (F := F) (n := n) (P := P) (C := C) (md := .any) (g := l.toArray.size - m) hsel hs hc hlt (l.take m) 0 _ a (fun j hj => by rw [htl] at hj; simp [hj]) (by simpa using htl) inv0 (by rw [htl]; exact hlex) h
  refine wpIn_region_any hm ?_
  have := headQ_sound (Q' := Q) (g := l.toArray.size - m) hd (fun listed a' w' hw' hL => by
    have := seq_sound (F := F) (n := n) (P := P) (md := .any) (Q' := Q) (l.drop m) m listed a' w' (fun j => by simp [List.getElem?_drop]) (by rw [hdl]; exact hL.1) (hL.2 w' hw')
    rwa [hdl] at this) _ _ _ w.drew hC H
  rw [htl, show m + (l.toArray.size - m) = l.toArray.size by omega] at this
  exact this
end
end Go.Proofs.YtlknngplnimdpaaGreatDoor

/- Layer 13: what OciKind keeps; quiet loads of rows. -/
namespace Go.Proofs.YtlknngplnimdpaaGreatDoor
open Go.RowKit

theorem wpQuietIn_load_midG {F : Fence} {n : Nat} {P : Program} {ops : Array Oper} {C : World → Prop} {Q : Act → Prop} {o : Oper} {rest : List Oper} {a : Act} (hF : ∀ f, F.fn f) (hw : Region.wanted o (yielded ops a.tmps) = true) (ty : TypeId) (x : Operand) (ho : o.op = .load ty x)
    (b k : Nat) (hx : a.eval x = .pointer (some ⟨b, k, none⟩)) (cs : List Value) (d : TypeDesc) (hc : ∀ w, C w → w.rangeAt b k cs)
    (hu : P.underlying ty = some d) (hd : d.isRow = true) (hi : (P.info? ty).map (·.size) = some cs.length)
    (h : wpQuietIn F n P ops C Q rest (a.put o.dst (.agg cs.toArray))) : wpQuietIn F n P ops C Q (o :: rest) a :=
  wpQuietIn_step (fun _ _ f _ => hF f) (fun K hK => by
    rw [if_pos hw]
    exact ⟨.agg cs.toArray, fun w hC => by
    unfold Oper.quietAtIn execOp
    simp only [ho, hx, Instr.loadAt, Instr.sureAddr, Sem.run_bind, Sem.run_pure, Result.andThen_ok, run_loadVar_mid w b k ty cs d (hc w hC) hu hd hi]
    exact ⟨rfl, rfl⟩, hK _ h⟩)
/-- Worlds that have no more than new blocks. -/
structure After (w : World) where
  v : World
  h : Below w.heap.size w v
instance (w : World) : Nonempty (After w) := ⟨⟨w, Below.refl _ _⟩⟩
theorem flatD_at {Y : List DV} (hY : ∀ d ∈ Y, goodD d) {i j : Nat} {d : DV} {u : Value} (hi : Y[i]? = some d) (hj : (encL d)[j]? = some u) : (flatD Y)[36 * i + j]? = some u :=
  flat_at Y (fun d hd => by rw [Array.length_toList]; exact encD_size d (hY d hd)) i d j u hi (by rw [encD_list]; exact hj)
/-- A row of descriptors that a call owns, read cell by cell. -/
theorem own_at {w : World} {B : Nat} {a : Option Addr} {n c : Nat} {Y : List DV} (h : w.ownsRow B 28 36 (.slice a n c) Y.length (flatD Y)) (hY : ∀ d ∈ Y, goodD d) {i : Nat} {d : DV} (hi : Y[i]? = some d) :
    ∃ g, a = some ⟨g, 0, none⟩ ∧ B ≤ g ∧ g < w.heap.size ∧ ∀ j u, (encL d)[j]? = some u → w.cell? ⟨g, 36 * i + j, none⟩ = some u := by
  have hp : 0 < Y.length := by have := (List.getElem?_eq_some_iff.1 hi).1; omega
  obtain ⟨g, c', hv⟩ := owns_some h hp
  simp only [Value.slice.injEq] at hv
  obtain ⟨rfl, rfl, rfl⟩ := hv
  obtain ⟨h1, h2⟩ := h.lt g rfl
  refine ⟨g, rfl, h1, h2, fun j u hj => ?_⟩
  have := flatD_at hY hi hj
  rw [h.cellAt _ (by
    have h3 := (List.getElem?_eq_some_iff.1 this).1
    have h4 := h.1
    omega)]
  exact this
theorem own_des {w : World} {B : Nat} {a : Option Addr} {n c : Nat} {Y : List DV} (h : w.ownsRow B 28 36 (.slice a n c) Y.length (flatD Y)) (hY : ∀ d ∈ Y, goodD d) : eDess.at_ w (fun k => k < w.heap.size) Y (.slice a n c) := by
  have h1 := rows_own (enc := encD) (good := goodD) (acc := Y) h (fun d hd => ⟨hY d hd, encD_size d (hY d hd)⟩)
  exact eDess.mono h1 (fun k _ hk => hk)
/-- What is kept: the descriptors, and the platform's box. -/
structure KpA (w : World) (t : Value) (Y : List DV) (q : Bs × Bs) (W : World) : Prop where
  o : W.ownsRow (w.heap.size + 1) 28 36 t Y.length (flatD Y)
  r : rowC W w.heap.size #[.string (str q.1), .string (str q.2)] 26
  b : Below w.heap.size w W
theorem KpA.below {w W W' : World} {t : Value} {Y : List DV} {q : Bs × Bs} (h : KpA w t Y q W) (hb : Below W.heap.size W W') : KpA w t Y q W' :=
  ⟨(Chg.of_below (s := no) hb).owns h.o (fun _ _ h => h), rowC_below h.r hb (rowC_lt h.r), h.b.trans (hb.mono h.b.size)⟩
theorem KpA.set {w W : World} {t : Value} {Y : List DV} {q : Bs × Bs} (h : KpA w t Y q W) (q' : Bs × Bs) : KpA w t Y q' (W.setRow w.heap.size #[.string (str q'.1), .string (str q'.2)]) :=
  ⟨((Chg.refl (fun k => k = w.heap.size) W).setRow w.heap.size _ (.inl rfl)).owns h.o (fun g hg e => by have := (h.o.lt g hg).1; have e : g = w.heap.size := e; omega), rowC_setRow h.r _, below_setRow h.b (Nat.le_refl _) _⟩
theorem pickA_nil (q : Bs × Bs) : pickA [] q = (zeroD, 73) := rfl
theorem pickA_cons (d : DV) (l : List DV) (q : Bs × Bs) : pickA (d :: l) q = if pickQ q d = true then (d, 0) else pickA l q := by
  unfold pickA
  rw [List.find?_cons]
  cases pickQ q d <;> rfl
theorem drop_at {α : Type} {l : List α} {i : Nat} {d : α} (h : l[i]? = some d) : l.drop i = d :: l.drop (i + 1) := by
  obtain ⟨hi, rfl⟩ := List.getElem?_eq_some_iff.1 h
  exact List.drop_eq_getElem_cons hi
end Go.Proofs.YtlknngplnimdpaaGreatDoor

/- Layer 13: OciKind. -/
namespace Go.Proofs.YtlknngplnimdpaaGreatDoor
open Go.RowKit
attribute [local go_sem] wide_fn round_fn

theorem len20 {l : List RG} (h : ofR l 20 = true) : l.length ≤ 20 := by
  unfold ofR at h
  rw [Bool.and_eq_true, decide_eq_true_eq] at h
  omega
theorem good_all {l : List RG} (hok : ∀ r ∈ l, r.ok) {most : Int} (h : ofR l most = true) : ∀ d ∈ l.map descOf, putD d := by
  intro d hd
  obtain ⟨r, hr, rfl⟩ := List.mem_map.1 hd
  unfold ofR at h
  rw [Bool.and_eq_true] at h
  exact good_of (hok r hr) (List.all_eq_true.1 h.1 r hr)
theorem pickA_good {Y : List DV} (hY : ∀ d ∈ Y, goodD d) (q : Bs × Bs) : goodD (pickA Y q).1 := by
  unfold pickA
  cases h : Y.find? (pickQ q) with
  | none => exact ⟨rfl, by simp [zeroD], by simp [zeroD], by simp [zeroD]⟩
  | some d => exact hY d (List.mem_of_find?_eq_some h)
theorem encL_pla {d : DV} (h : d.dig.length = 32) : ∀ (j : Nat) (u : Value), [Value.string (str d.os), .string (str d.arch)][j]? = some u → (encL d)[34 + j]? = some u := by
  intro j u hj
  have hg := encD_get h
  rw [encD_list] at hg
  match j, hj with
  | 0, hj => rw [← List.getElem?_toArray, hg.2.2.1]; exact hj
  | 1, hj => rw [← List.getElem?_toArray, hg.2.2.2]; exact hj
set_option maxRecDepth 100000 in
set_option maxHeartbeats 16000000 in
theorem ocikind_any (s : Bs) (l : List RG) (x : Option Addr) (cc : Nat) (p : Bs × Bs) (w : World) (hE : Env2 w) (hl : l.length * 96 ≤ 140737488351232) (hR : RghsC w x l) :
    Calls Tryz.prog 5 #[.string (str s), .slice x l.length cc, .agg #[.string (str p.1), .string (str p.2)]] w fun e w' => e = .returned (.bool true) ∧ Below w.heap.size w w' := by
  obtain ⟨W0, hW0⟩ : ∃ W0, W0 = w.alloc (.cells #[.string (str p.1), .string (str p.2)] 26) := ⟨_, rfl⟩
  have R0 : rowC W0 w.heap.size #[.string (str p.1), .string (str p.2)] 26 := by rw [hW0]; exact rowC_new _ _ _
  have B0 : Below w.heap.size w W0 := by rw [hW0]; exact (Below.refl _ _).alloc (Nat.le_refl _) _
  have S0 : W0.heap.size = w.heap.size + 1 := by rw [hW0, size_alloc]
  have hR0 : RghsC W0 x l := fun i r hi => by
    obtain ⟨h1, ad, h2, h3, h4⟩ := hR i r hi
    refine ⟨h1, ad, h2, by omega, fun j v hj => ?_⟩
    rw [World.cell?_of_block (w := w) (w' := W0) (B0.block _ (by rw [add_block, add_block]; exact h3))]
    exact h4 j v hj
  have HOF := of_any l x cc 20 W0 hl hR0
  have CX := fun w hE => described_any w hE
  have HOK := Lib.hid (show ∀ r ∈ l, r.ok from fun r hr => by obtain ⟨i, hi⟩ := List.mem_iff_getElem?.1 hr; exact (hR i r hi).1)
  have HE := Lib.hid hE
  have HW0 := Lib.hid hW0
  have HR0 := Lib.hid R0
  have HB0 := Lib.hid B0
  have HS0 := Lib.hid S0
  have zs := str_size s
  clear hW0 R0 B0 hR hR0 hE S0
  go_enter Tryz.func5, Tryz.ntmps5
  go_upto_region 1 with (fail)
  change Code.wp _ _ _ _ (w.alloc (.cells #[.string (str p.1), .string (str p.2)] 26))
  rw [← HW0.out]
  clear HW0
  go_upto_region 2 with (go_at_call 17; (with_reducible refine HOF.mono ?_); rintro e w1 ⟨t, rfl, hown, b1⟩; have HOWN := Lib.hid hown; have HB1 := Lib.hid (HB0.out.trans (b1.mono (by have := HS0.out; omega))); have HR1 := Lib.hid (rowC_below HR0.out b1 (by have := HS0.out; omega)); clear hown b1 HOF)
  cases hof : ofR l 20
  · -- too many, or too long
    clear HOWN
    go_wp2_with (go_at_call 8; (with_reducible refine (CX _ (HE.out.below HB1.out)).mono ?_); rintro e w2 ⟨rfl, b2⟩)
    go_ret
    exact ⟨rfl, HB1.out.trans (b2.mono HB1.out.size)⟩
  by_cases hs : 200 < s.length
  · have g1 : (200 : Int) < (s.length : Int) := by omega
    clear HOWN hs
    go_wp2_with (go_at_call 8; (with_reducible refine (CX _ (HE.out.below HB1.out)).mono ?_); rintro e w2 ⟨rfl, b2⟩)
    go_ret
    exact ⟨rfl, HB1.out.trans (b2.mono HB1.out.size)⟩
  have g1 : ¬ (200 : Int) < (s.length : Int) := by omega
  obtain ⟨Y, hY⟩ : ∃ Y, Y = l.map descOf := ⟨_, rfl⟩
  have hn20 : Y.length ≤ 20 := by rw [hY, List.length_map]; exact len20 hof
  have HGD := Lib.hid (show ∀ d ∈ Y, goodD d from fun d hd => by rw [hY] at hd; exact (good_all HOK.out hof d hd).1)
  have HKP : Hid (KpA w t Y p w1) := Lib.hid ⟨by have h5 := HOWN.out hof; rw [HS0.out] at h5; rw [hY, List.length_map]; exact h5, HR1.out, HB1.out⟩
  clear hof hs HOWN hY HR1 HB1 HR0 HB0 HOK
  obtain ⟨a, c, rfl⟩ := owns_form HKP.out.o
  obtain ⟨N, hN⟩ : ∃ N, N = Y.length := ⟨_, rfl⟩
  have HN := Lib.hid hN
  rw [← hN] at HKP hn20 ⊢
  clear hN
  go_wp2
  -- the nine media types
  go_loopw [9] (fun v wr => ∃ k : Nat, k ≤ 9 ∧ v = .int .i64 k ∧ Hid (KpA w (.slice a N c) Y p wr)) (fun v _ => 9 - (intOf v).toNat)
  case atStart => exact ⟨0, Nat.zero_le _, rfl, HKP⟩
  case round =>
    obtain ⟨k, hk, rfl, hK⟩ := hrel
    clear HKP
    by_cases hlt : k < 9
    · have g2 : (k : Int) < 9 := by omega
      have CM := fun w => media_any k (by omega) w
      have CK := fun w => kind_any (mediaN (k % 9)) w
      have CR := fun w => rkind_any (mediaN (k % 9)) w
      have hwr : IntKind.u8.wrap (k : Int) = (k : Int) := IntWalk.u8_in _ (by omega)
      have hbb : (k : Int) % 256 = (k : Int) := by omega
      generalize kindN (mediaN (k % 9)) = kn at *
      generalize mediaN (k % 9) = md at *
      go_wp2_with (first
        | (go_at_call 25; (with_reducible refine (CM _).mono ?_); rintro e w2 ⟨rfl, b2⟩; have hK2 := hK.out.below b2; have hK := Lib.hid hK2; clear hK2 b2)
        | (go_at_call 24; (with_reducible refine (CK _).mono ?_); rintro e w3 ⟨rfl, rfl⟩)
        | (go_at_call 26; (with_reducible refine (CR _).mono ?_); rintro e w4 ⟨rfl, b4⟩; have hK2 := hK.out.below b4; have hK := Lib.hid hK2; clear hK2 b4))
      go_roundw
      case rel => exact ⟨k + 1, by omega, by go_num, hK⟩
      case measure => simp [intOf] <;> omega
    · go_wp2
      go_loopw [10] (fun v wr => ∃ k : Nat, k ≤ 2 ∧ v = .int .i64 k ∧ Hid (∃ q : Bs × Bs, KpA w (.slice a N c) Y q wr)) (fun v _ => 2 - (intOf v).toNat)
      case atStart => exact ⟨0, Nat.zero_le _, rfl, Lib.hid ⟨p, hK.out⟩⟩
      case round =>
        obtain ⟨k, hk, rfl, hK0⟩ := hrel
        obtain ⟨q, hK1⟩ := hK0.out
        have hK := Lib.hid hK1
        clear hK0 hK1
        by_cases hlt : k < 2
        · have g2 : (k : Int) < 2 := by omega
          have PK0 := pick_any Y q a c
          have PK := fun wx h => PK0 wx (by have := HN.out; omega) h
          rw [← HN.out] at PK
          have HPG := Lib.hid (pickA_good HGD.out q)
          obtain ⟨D, hD⟩ : ∃ D, D = (pickA Y q).1 := ⟨_, rfl⟩
          obtain ⟨E, hE2⟩ : ∃ E, E = (pickA Y q).2 := ⟨_, rfl⟩
          rw [← hD, ← hE2] at PK
          rw [← hD] at HPG
          have HDE := Lib.hid (show pickA Y q = (D, E) by rw [hD, hE2])
          have HID := Lib.hid (fun (d : DV) (h : goodD d) => show (Tryz.prog.info? 28).map (·.size) = some (encD d).size by rw [encD_size d h]; exact info_D)
          have HSZ := Lib.hid (fun (d : DV) (h : goodD d) => show (encD zeroD).size = (encD d).size by rw [encD_size d h]; rfl)
          have HG0 := Lib.hid (show goodD zeroD from ⟨rfl, by simp [zeroD], by simp [zeroD], by simp [zeroD]⟩)
          clear hD hE2 PK0
          go_upto_region 13 with (first
            | ((with_reducible show wpList _ _ _ (⟨some 48, .load _ _, _, _, _, _⟩ :: _) _ _); refine wpList_load_row rfl 26 _ rfl w.heap.size rfl 26 #[.string (str q.1), .string (str q.2)] (0, 0) _ hK.out.r Tryz.underlying26 rfl info_P ?_)
            | (go_at_call 27; (with_reducible refine (PK _ (own_des (by rw [HN.out]; have h5 := hK.out.o; rw [HN.out] at h5; exact h5) HGD.out)).mono ?_); rintro e w2 ⟨rfl, b2⟩; have HK2 := Lib.hid (hK.out.below b2); have HH := Lib.hid (Nat.lt_of_lt_of_le (rowC_lt hK.out.r) b2.size); clear b2)
            | ((with_reducible show wpList _ _ _ (⟨none, .store _ (.tmp 11) _, _, _, _, _⟩ :: _) _ _); refine wpList_store_last rfl 28 _ _ rfl w2.heap.size (encD D) rfl rfl 28 (encD zeroD) rfl (HID.out _ HPG.out) (HSZ.out _ HPG.out) (encD_one _) ?_))
          obtain ⟨Wa, hWa⟩ : ∃ Wa, Wa = w2.alloc (.cells (encD D) 28) := ⟨_, rfl⟩
          rw [← hWa]
          have RA : rowC Wa w2.heap.size (encD D) 28 := by rw [hWa]; exact rowC_new _ _ _
          have BA : Below w2.heap.size w2 Wa := by rw [hWa]; exact (Below.refl _ _).alloc (Nat.le_refl _) _
          have sA : w2.heap.size + 1 ≤ Wa.heap.size := by rw [hWa, size_alloc]; omega
          have HKA := Lib.hid (HK2.out.below BA)
          have HRA := Lib.hid RA
          clear hWa RA BA HK2
          go_upto_region 14 with (first
            | ((with_reducible show wpList _ _ _ (⟨some 52, .build _ _, _, _, _, _⟩ :: _) _ _); refine wpList_build_as rfl 28 _ rfl (encD zeroD) (by kernel_rfl) ?_)
            | ((with_reducible show wpList _ _ _ (⟨none, .store _ (.tmp 13) _, _, _, _, _⟩ :: _) _ _); refine wpList_store_last rfl 28 _ _ rfl Wa.heap.size (encD zeroD) rfl rfl 28 (encD zeroD) rfl info_D rfl (encD_one _) ?_))
          obtain ⟨Wb, hWb⟩ : ∃ Wb, Wb = Wa.alloc (.cells (encD zeroD) 28) := ⟨_, rfl⟩
          rw [← hWb]
          have RB : rowC Wb Wa.heap.size (encD zeroD) 28 := by rw [hWb]; exact rowC_new _ _ _
          have BB : Below Wa.heap.size Wa Wb := by rw [hWb]; exact (Below.refl _ _).alloc (Nat.le_refl _) _
          have HKB := Lib.hid (HKA.out.below BB)
          have HKB2 := Lib.hid HKA.out.o
          have HRAB := Lib.hid (rowC_below HRA.out BB (by omega))
          have HRB := Lib.hid RB
          clear hWb RB BB HKA HRA
          go_wp2
          go_loopw [14, 15] (fun u v wx => ∃ (i E' : Nat) (D' : DV), i ≤ N ∧ v = .int .i64 ((i : Int) - 1) ∧ u = .int .i64 (E' : Int) ∧ Hid (pickA (Y.drop i) q = (D', E')) ∧ Hid (goodD D') ∧ Hid (rowC wx Wa.heap.size (encD D') 28) ∧ Hid (rowC wx w2.heap.size (encD D) 28) ∧ Hid (KpA w (.slice a N c) Y q wx)) (fun _ v _ => (intOf v + 1).toNat)
          case atStart => exact ⟨N, 73, zeroD, Nat.le_refl _, rfl, rfl, Lib.hid (by rw [HN.out, List.drop_length]; rfl), HG0, HRB, HRAB, HKB⟩
          case round =>
            obtain ⟨i, E', D', hi, rfl, rfl, hpk, hgd, hrb, hra, hkx⟩ := hrel
            clear HKB HRAB HRB
            by_cases h0 : i = 0
            · -- all were looked at
              subst h0
              have hDD : Hid (D' = D ∧ E' = E) := Lib.hid (by have h5 := hpk.out; rw [List.drop_zero, HDE.out] at h5; injection h5 with h6 h7; exact ⟨h6.symm, h7.symm⟩)
              obtain ⟨e1, e2⟩ := hDD.out
              subst e1
              subst e2
              have eq1 : ∀ w, (Op.equalIn 10000 28 (.agg (encD D')) (.agg (encD D'))).run Tryz.prog w = .ok true w := fun w => by
                rw [eq_desc w 9997 hgd.out.1 hgd.out.1, (eqDB_iff D' D').2 rfl]
              have gd := guard_desc
              have hu := Tryz.underlying28
              by_cases hn0 : N = 0
              · have g3 : ¬ (0 : Int) < (N : Int) := by omega
                clear hn0
                go_wp2_with (first
                  | ((with_reducible show wpList _ _ _ (⟨some 80, .load _ _, _, _, _, _⟩ :: _) _ _); refine wpList_load_row rfl 28 _ rfl w2.heap.size rfl 28 (encD D') (0, 0) _ hra.out hu rfl (HID.out _ hgd.out) ?_)
                  | ((with_reducible show wpList _ _ _ (⟨some 81, .load _ _, _, _, _, _⟩ :: _) _ _); refine wpList_load_row rfl 28 _ rfl Wa.heap.size rfl 28 (encD D') (0, 0) _ hrb.out hu rfl (HID.out _ hgd.out) ?_))
                go_roundw
                case rel => exact ⟨k + 1, by omega, by go_num, Lib.hid ⟨q, hkx.out⟩⟩
                case measure => simp [intOf] <;> omega
              · have g3 : (0 : Int) < (N : Int) := by omega
                obtain ⟨r, hr⟩ : ∃ r, r = N / 2 := ⟨_, rfl⟩
                have hrN : r < N := by omega
                have hd1 : (N : Int).tdiv 2 = (r : Int) := by rw [Int.tdiv_eq_ediv_of_nonneg (by omega), hr]; omega
                have hd2 : (N : Int) / 2 = (r : Int) := by rw [hr]; omega
                obtain ⟨d, hd⟩ : ∃ d, Y[r]? = some d := ⟨_, List.getElem?_eq_getElem (by have := HN.out; omega)⟩
                obtain ⟨g, rfl, hg1, hg2, hgc⟩ := own_at hkx.out.o HGD.out hd
                have HPL := Lib.hid (show wr.rangeAt g (r * 36 + 34) [.string (str d.os), .string (str d.arch)] from fun j u hj => by
                  have h5 := hgc (34 + j) u (encL_pla (HGD.out d (List.mem_of_getElem? hd)).1 j u hj)
                  rwa [show r * 36 + 34 + j = 36 * r + (34 + j) by omega])
                have g4 : (r : Int) < (N : Int) := by omega
                clear hr hgc hd hn0
                go_wp2_with (first
                  | ((with_reducible show wpList _ _ _ (⟨some 80, .load _ _, _, _, _, _⟩ :: _) _ _); refine wpList_load_row rfl 28 _ rfl w2.heap.size rfl 28 (encD D') (0, 0) _ hra.out hu rfl (HID.out _ hgd.out) ?_)
                  | ((with_reducible show wpList _ _ _ (⟨some 81, .load _ _, _, _, _, _⟩ :: _) _ _); refine wpList_load_row rfl 28 _ rfl Wa.heap.size rfl 28 (encD D') (0, 0) _ hrb.out hu rfl (HID.out _ hgd.out) ?_)
                  | ((with_reducible show wpList _ _ _ (⟨some 97, .load _ _, _, _, _, _⟩ :: _) _ _); refine wpList_load_mid rfl 26 _ rfl g (r * 36 + 34) rfl [.string (str d.os), .string (str d.arch)] _ HPL.out Tryz.underlying26 rfl info_P ?_)
                  | ((with_reducible show wpList _ _ _ (⟨none, .store _ (.tmp 5) _, _, _, _, _⟩ :: _) _ _); refine wpList_store_row rfl 26 _ _ rfl w.heap.size #[.string (str d.os), .string (str d.arch)] rfl rfl 26 _ hkx.out.r info_P rfl (encP_one (d.os, d.arch)) ?_))
                go_roundw
                case rel => exact ⟨k + 1, by omega, by go_num, Lib.hid ⟨(d.os, d.arch), hkx.out.set (d.os, d.arch)⟩⟩
                case measure => simp [intOf] <;> omega
            · obtain ⟨m, rfl⟩ : ∃ m, i = m + 1 := ⟨i - 1, by omega⟩
              have hm1 : (((m + 1 : Nat) : Int) - 1) = (m : Int) := by omega
              rw [hm1]
              clear hm1
              obtain ⟨d, hd⟩ : ∃ d, Y[m]? = some d := ⟨_, List.getElem?_eq_getElem (by have := HN.out; omega)⟩
              obtain ⟨g, rfl, hg1, hg2, hgc⟩ := own_at hkx.out.o HGD.out hd
              have hgdd := HGD.out d (List.mem_of_getElem? hd)
              have HGDD := Lib.hid hgdd
              have HPK := Lib.hid (show pickA (Y.drop m) q = if pickQ q d = true then (d, 0) else (D', E') by rw [drop_at hd, pickA_cons, hpk.out])
              have gm : (m : Int) < (N : Int) := by omega
              have gm0 : ¬ ((m : Int) < 0) := by omega
              have g0 := encD_get hgdd.1
              rw [encD_list] at g0
              have HPL := Lib.hid (fun y : After wr => show y.v.rangeAt g (m * 36 + 34) [.string (str d.os), .string (str d.arch)] from fun j u hj => by
                have h5 := hgc (34 + j) u (encL_pla hgdd.1 j u hj)
                rw [World.cell?_of_block (w := wr) (w' := y.v) (y.h.block g hg2)]
                rwa [show m * 36 + 34 + j = 36 * m + (34 + j) by omega])
              have CL : ∀ y : After wr, y.v.cell? ⟨g, m * 36, none⟩ = some (.string (str d.media)) := fun y => by
                rw [World.cell?_of_block (w := wr) (w' := y.v) (y.h.block g hg2), show m * 36 = 36 * m + 0 by omega]
                exact hgc 0 _ (by rw [← List.getElem?_toArray]; exact g0.1)
              have HQX := Lib.hid (fun y : After wr => show y.v.rangeAt w.heap.size 0 [.string (str q.1), .string (str q.2)] from rowC_range (rowC_below hkx.out.r y.h (rowC_lt hkx.out.r)) 0 _ (fun j v hv => by
                rw [Nat.zero_add, ← List.getElem?_toArray] at *
                exact hv))
              have CR : ∀ y : After wr, CallsIn Fence.wide 3 Tryz.prog 26 #[.string (str d.media)] y.v fun e w'' => e = .returned (.int .i64 (kindN d.media : Int)) ∧ ∃ z : After wr, w'' = z.v := fun y =>
                (callsIn_wide.2 (rkind_any d.media y.v)).mono fun e w'' ⟨he, hb⟩ => ⟨he, ⟨w'', y.h.trans (hb.mono y.h.size)⟩, rfl⟩
              have HLD := Lib.hid (fun y : After wr => show y.v.rangeAt g (m * 36) (encL d) from fun j u hj => by
                rw [World.cell?_of_block (w := wr) (w' := y.v) (y.h.block g hg2), show m * 36 + j = 36 * m + j by omega]
                exact hgc j u hj)
              have HIL := Lib.hid (show (Tryz.prog.info? 28).map (·.size) = some (encL d).length by rw [encL_len hgdd.1]; exact info_D)
              have HEL := Lib.hid (encD_list d)
              clear hgc hd hgdd g0 hpk h0
              have hqd := pickQ_eq q d
              have HQD := Lib.hid hqd
              have eq1 : ∀ w, (Op.equalIn 10000 26 (.agg #[.string (str d.os), .string (str d.arch)]) (.agg #[.string (str q.1), .string (str q.2)])).run Tryz.prog w = .ok (eqPB (d.os, d.arch) q) w := fun w => eq_plat w 9998 (d.os, d.arch) q
              have gp := guard_plat
              have hup := Tryz.underlying26
              clear hqd
              obtain ⟨kd, hkd⟩ : ∃ kd, kd = kindN d.media := ⟨_, rfl⟩
              rw [← hkd] at CR HQD
              obtain ⟨eb, heb⟩ : ∃ eb, eb = eqPB (d.os, d.arch) q := ⟨_, rfl⟩
              rw [← heb] at eq1 HQD
              clear hkd heb
              by_cases h4 : kd = 1
              rotate_left
              · have e0 : Hid (pickQ q d = false) := Lib.hid (by rw [HQD.out, show (kd == 1) = false by simpa using h4]; rfl)
                have h4' : ((kd : Int) == 1) = false := by rw [beq_eq_false_iff_ne]; omega
                clear h4 eq1 HQD
                go_wp2
                refine (wpIn_wide (n := 4)).1 ?_
                refine region_quiet (C := fun w' => ∃ y : After wr, w' = y.v) (by kernel_rfl) (by kernel_rfl) (by kernel_rfl) ⟨⟨wr.drew, (Below.refl _ _).drew⟩, rfl⟩ ?_
                iterate 16 (gi_big_quiet_step ((gi_at_call 26; exact CR _)))
                refine wpQuietIn_nil ?_
                rintro _ ⟨y, rfl⟩
                have HKY := Lib.hid (hkx.out.below y.h)
                have HBY := Lib.hid (rowC_below hrb.out y.h (rowC_lt hrb.out))
                have HAY := Lib.hid (rowC_below hra.out y.h (rowC_lt hra.out))
                clear CL CR HPL HQX HLD
                gi_wp2
                clear gm gm0 h4'
                have hmi : (m : Int) ≤ 20 := by omega
                go_wp2
                go_roundw
                case rel => exact ⟨m, E', D', by omega, rfl, rfl, Lib.hid (by rw [HPK.out, if_neg (by rw [e0.out]; decide)]), hgd, HBY, HAY, HKY⟩
                case measure => simp [intOf] <;> omega
              · subst h4
                cases eb
                · have e0 : Hid (pickQ q d = false) := Lib.hid (by rw [HQD.out]; rfl)
                  clear HQD
                  go_wp2
                  refine (wpIn_wide (n := 4)).1 ?_
                  refine region_quiet (C := fun w' => ∃ y : After wr, w' = y.v) (by kernel_rfl) (by kernel_rfl) (by kernel_rfl) ⟨⟨wr.drew, (Below.refl _ _).drew⟩, rfl⟩ ?_
                  iterate 12 (gi_big_quiet_step ((gi_at_call 26; exact CR _)))
                  refine wpQuietIn_load_midG (fun _ => trivial) rfl 26 _ rfl g (m * 36 + 34) rfl [.string (str d.os), .string (str d.arch)] _ (by rintro _ ⟨y, rfl⟩; exact HPL.out y) hup rfl info_P ?_
                  simp only [Act.put, List.setIfInBounds_toArray, List.set_cons_zero, List.set_cons_succ]
                  refine wpQuietIn_load_midG (fun _ => trivial) rfl 26 _ rfl w.heap.size 0 rfl [.string (str q.1), .string (str q.2)] _ (by rintro _ ⟨y, rfl⟩; exact HQX.out y) hup rfl info_P ?_
                  simp only [Act.put, List.setIfInBounds_toArray, List.set_cons_zero, List.set_cons_succ]
                  iterate 2 (gi_big_quiet_step (fail))
                  refine wpQuietIn_nil ?_
                  rintro _ ⟨y, rfl⟩
                  have HKY := Lib.hid (hkx.out.below y.h)
                  have HBY := Lib.hid (rowC_below hrb.out y.h (rowC_lt hrb.out))
                  have HAY := Lib.hid (rowC_below hra.out y.h (rowC_lt hra.out))
                  clear CL CR HPL HQX HLD
                  gi_wp2
                  clear gm gm0
                  have hmi : (m : Int) ≤ 20 := by omega
                  go_wp2
                  go_roundw
                  case rel => exact ⟨m, E', D', by omega, rfl, rfl, Lib.hid (by rw [HPK.out, if_neg (by rw [e0.out]; decide)]), hgd, HBY, HAY, HKY⟩
                  case measure => simp [intOf] <;> omega
                · have e0 : Hid (pickQ q d = true) := Lib.hid (by rw [HQD.out]; rfl)
                  clear HQD
                  go_wp2
                  refine (wpIn_wide (n := 4)).1 ?_
                  refine region_quiet (C := fun w' => ∃ y : After wr, w' = y.v) (by kernel_rfl) (by kernel_rfl) (by kernel_rfl) ⟨⟨wr.drew, (Below.refl _ _).drew⟩, rfl⟩ ?_
                  iterate 12 (gi_big_quiet_step ((gi_at_call 26; exact CR _)))
                  refine wpQuietIn_load_midG (fun _ => trivial) rfl 26 _ rfl g (m * 36 + 34) rfl [.string (str d.os), .string (str d.arch)] _ (by rintro _ ⟨y, rfl⟩; exact HPL.out y) hup rfl info_P ?_
                  simp only [Act.put, List.setIfInBounds_toArray, List.set_cons_zero, List.set_cons_succ]
                  refine wpQuietIn_load_midG (fun _ => trivial) rfl 26 _ rfl w.heap.size 0 rfl [.string (str q.1), .string (str q.2)] _ (by rintro _ ⟨y, rfl⟩; exact HQX.out y) hup rfl info_P ?_
                  simp only [Act.put, List.setIfInBounds_toArray, List.set_cons_zero, List.set_cons_succ]
                  iterate 2 (gi_big_quiet_step (fail))
                  refine wpQuietIn_nil ?_
                  rintro _ ⟨y, rfl⟩
                  have HKY := Lib.hid (hkx.out.below y.h)
                  have HBY := Lib.hid (rowC_below hrb.out y.h (rowC_lt hrb.out))
                  have HAY := Lib.hid (rowC_below hra.out y.h (rowC_lt hra.out))
                  have HLY := Lib.hid (HLD.out y)
                  clear CL CR HPL HQX HLD
                  gi_wp2
                  clear gm0
                  have hmi : (m : Int) ≤ 20 := by omega
                  go_wp2_with (first
                    | ((with_reducible show wpList _ _ _ (⟨some 79, .load _ _, _, _, _, _⟩ :: _) _ _); refine wpList_load_mid rfl 28 _ rfl g (m * 36) rfl (encL d) _ HLY.out Tryz.underlying28 rfl HIL.out ?_)
                    | ((with_reducible show wpList _ _ _ (⟨none, .store _ (.tmp 13) _, _, _, _, _⟩ :: _) _ _); refine wpList_store_row rfl 28 _ _ rfl Wa.heap.size (encD d) rfl (by rw [HEL.out]; rfl) 28 _ HBY.out (HID.out d HGDD.out) (by rw [encD_size _ hgd.out, encD_size _ HGDD.out]) (encD_one _) ?_))
                  have HKZ : Hid (KpA w (.slice (some ⟨g, 0, none⟩) N c) Y q (y.v.setRow Wa.heap.size (encD d))) := Lib.hid ⟨((Chg.refl (fun k => k = Wa.heap.size) y.v).setRow Wa.heap.size _ (.inl rfl)).owns HKY.out.o (fun g' hg' e => by have e : g' = Wa.heap.size := e; have h5 := (HKB2.out.lt g' hg').2; omega), rowC_setRow_other HKY.out.r _ _ (by have := HH.out; omega), below_setRow HKY.out.b (by have := HH.out; omega) _⟩
                  have HBZ := Lib.hid (rowC_setRow HBY.out (encD d))
                  have HAZ := Lib.hid (rowC_setRow_other HAY.out Wa.heap.size (encD d) (by omega))
                  go_roundw
                  case rel => exact ⟨m, 0, d, by omega, rfl, rfl, Lib.hid (by rw [HPK.out, if_pos e0.out]), HGDD, HBZ, HAZ, HKZ⟩
                  case measure => simp [intOf] <;> omega
        · have CK := fun w => kind_any s w
          have CR := fun w => rkind_any s w
          generalize kindN s = ks at *
          go_wp2_with (first
            | (go_at_call 24; (with_reducible refine (CK _).mono ?_); rintro e w3 ⟨rfl, rfl⟩)
            | (go_at_call 26; (with_reducible refine (CR _).mono ?_); rintro e w4 ⟨rfl, b4⟩; have hKf := Lib.hid (hK.out.below b4); clear b4)
            | (go_at_call 8; (with_reducible refine (CX _ (HE.out.below hKf.out.b)).mono ?_); rintro e w5 ⟨rfl, b5⟩))
          go_ret
          exact ⟨rfl, hKf.out.b.trans (b5.mono hKf.out.b.size)⟩
end Go.Proofs.YtlknngplnimdpaaGreatDoor

