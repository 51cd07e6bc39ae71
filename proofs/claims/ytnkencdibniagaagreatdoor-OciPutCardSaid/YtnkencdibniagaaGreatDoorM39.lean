/- Merged: OfD, OfE, OfF. -/
import Derived.Test.YtnkencdibniagaaGreatDoorM38
/- Layer 13: Pick. -/
namespace Go.Proofs.YtnkencdibniagaaGreatDoor
open Go.RowKit

theorem find_at {α : Type} {q : α → Bool} : ∀ {l : List α} {j : Nat} {d : α}, (∀ i d', i < j → l[i]? = some d' → q d' = false) → l[j]? = some d → q d = true → l.find? q = some d
  | [], _, _, _, hd, _ => by simp at hd
  | x :: l, 0, d, _, hd, hq => by
    simp only [List.getElem?_cons_zero, Option.some.injEq] at hd
    subst hd
    simp [List.find?, hq]
  | x :: l, j + 1, d, h, hd, hq => by
    have hx := h 0 x (by omega) rfl
    rw [List.getElem?_cons_succ] at hd
    have := find_at (fun i d' hi hd' => h (i + 1) d' (by omega) (by rw [List.getElem?_cons_succ]; exact hd')) hd hq
    simp [List.find?, hx, this]
def pickQ (p : Bs × Bs) (d : DV) : Bool := kindN d.media == 1 && (decide (d.os = p.1) && decide (d.arch = p.2))
def pickA (l : List DV) (p : Bs × Bs) : DV × Nat := match l.find? (pickQ p) with | some d => (d, 0) | none => (zeroD, 73)
theorem pickQ_eq (p : Bs × Bs) (d : DV) : pickQ p d = (kindN d.media == 1 && eqPB (d.os, d.arch) p) := rfl
theorem pickA_some {l : List DV} {p : Bs × Bs} {d : DV} (h : l.find? (pickQ p) = some d) : pickA l p = (d, 0) := by unfold pickA; rw [h]
theorem pickA_none {l : List DV} {p : Bs × Bs} (h : ∀ (i : Nat) (d : DV), l[i]? = some d → pickQ p d = false) : pickA l p = (zeroD, 73) := by
  unfold pickA
  rw [List.find?_eq_none.2 (fun d hd => by obtain ⟨i, hi⟩ := List.mem_iff_getElem?.1 hd; rw [h i d hi]; decide)]
set_option maxRecDepth 100000 in
set_option maxHeartbeats 8000000 in
theorem pick_any (l : List DV) (p : Bs × Bs) (x : Option Addr) (cc : Nat) (w : World) (hll : l.length ≤ 65536) (hL : eDess.at_ w (fun k => k < w.heap.size) l (.slice x l.length cc)) :
    Calls Tryz.prog 27 #[.slice x l.length cc, .agg #[.string (str p.1), .string (str p.2)]] w fun e w' => e = .returned (.tuple #[.agg (encD (pickA l p).1), .int .i64 ((pickA l p).2 : Int)]) ∧ Below w.heap.size w w' := by
  obtain ⟨W0, hW0⟩ : ∃ W0, W0 = (w.alloc (.cells #[.string (str p.1), .string (str p.2)] 26)).alloc (.cells (encD zeroD) 28) := ⟨_, rfl⟩
  have s1 : (w.alloc (.cells #[.string (str p.1), .string (str p.2)] 26)).heap.size = w.heap.size + 1 := size_alloc _ _
  have R0 : rowC W0 w.heap.size #[.string (str p.1), .string (str p.2)] 26 := by rw [hW0]; exact rowC_alloc (rowC_new _ _ _) _
  have Z0 : rowC W0 (w.heap.size + 1) (encD zeroD) 28 := by rw [hW0, ← s1]; exact rowC_new _ _ _
  have B0 : Below w.heap.size w W0 := by rw [hW0]; exact ((Below.refl _ _).alloc (Nat.le_refl _) _).alloc (by rw [s1]; omega) _
  have S0 : W0.heap.size = w.heap.size + 2 := by rw [hW0, size_alloc, s1]
  have HCK := Lib.hid (fun (s : Bs) (w : World) => kind_any s w)
  have HW0 := Lib.hid hW0
  have HR0 := Lib.hid R0
  have HZ0 := Lib.hid Z0
  have HB0 := Lib.hid B0
  have HL := Lib.hid hL
  have HID := Lib.hid (fun (d : DV) (h : goodD d) => show (Tryz.prog.info? 28).map (·.size) = some (encD d).size by rw [encD_size d h]; exact info_D)
  have HSZ := Lib.hid (fun (d : DV) (h : goodD d) => show (encD zeroD).size = (encD d).size by rw [encD_size d h]; rfl)
  have gd := guard_plat
  have hu := Tryz.underlying26
  have g0 : goodD zeroD := ⟨rfl, by simp [zeroD], by simp [zeroD], by simp [zeroD]⟩
  have G0 := Lib.hid g0
  clear hW0 R0 Z0 B0 hL g0
  go_enter Tryz.func27, Tryz.ntmps27
  go_upto_region 1 with (fail)
  change Code.wp _ _ _ _ ((w.alloc (.cells #[.string (str p.1), .string (str p.2)] 26)).alloc (.cells (encD zeroD) 28))
  rw [← HW0.out]
  clear HW0
  go_wp2
  go_loopg [10] l.length (fun gk s10 wr => ∃ j : Nat, s10 = .int .i64 (j : Int) ∧ Hid (gk = l.length - j) ∧ Hid (j ≤ l.length) ∧ Hid (∀ i d, i < j → l[i]? = some d → pickQ p d = false) ∧ Hid (Below W0.heap.size W0 wr))
  case atStart => exact ⟨0, rfl, Lib.hid rfl, Lib.hid (Nat.zero_le _), Lib.hid (fun i d h => absurd h (Nat.not_lt_zero _)), Lib.hid (Below.refl _ _)⟩
  case round =>
    obtain ⟨j, rfl, HNj, HNL, HM, HBW⟩ := hrel
    have sw := HBW.out.size
    have hbw : Below w.heap.size w wr := HB0.out.trans (HBW.out.mono (by omega))
    by_cases hj : j < l.length
    · have hj1 : (j : Int) < (l.length : Int) := by omega
      obtain ⟨d, hd⟩ : ∃ d, l[j]? = some d := ⟨_, List.getElem?_eq_getElem hj⟩
      obtain ⟨gd', ad, rfl, hab, hcs⟩ := dess_at HL.out hd
      have HGD := Lib.hid gd'
      have HCS := Lib.hid (show ∀ i u, (encL d)[i]? = some u → wr.cell? ((ad.add (j * 36)).add i) = some u from fun i u hu => by
        rw [World.cell?_of_block (w := w) (w' := wr) (hbw.block _ (by rw [add_block, add_block]; exact hab))]
        exact hcs i u hu)
      have HDJ := Lib.hid hd
      have CD := HCK.out d.media
      have HEL := Lib.hid (encD_list d)
      have HIL := Lib.hid (show (Tryz.prog.info? 28).map (·.size) = some (encL d).length by rw [encL_len gd'.1]; exact info_D)
      have hjm : j ≤ 65536 := by omega
      clear gd' hcs hd hj
      go_upto_region 4 with (first
        | ((with_reducible show wpList _ _ _ (⟨some 13, .load _ _, _, _, _, _⟩ :: _) _ _); refine wpList_load_at rfl 28 _ rfl (ad.add (j * 36)) rfl (encL d) _ HCS.out Tryz.underlying28 rfl HIL.out ?_)
        | ((with_reducible show wpList _ _ _ (⟨none, .store _ (.tmp 7) _, _, _, _, _⟩ :: _) _ _); refine wpList_store_last rfl 28 _ _ rfl wr.heap.size (encD d) rfl (by rw [HEL.out]; rfl) 28 (encD zeroD) rfl (HID.out d HGD.out) (HSZ.out d HGD.out) (encD_one _) ?_))
      obtain ⟨W1, hW1⟩ : ∃ W1, W1 = wr.alloc (.cells (encD d) 28) := ⟨_, rfl⟩
      rw [← hW1]
      have R1 : rowC W1 wr.heap.size (encD d) 28 := by rw [hW1]; exact rowC_new _ _ _
      have q1 : W1.cell? ⟨wr.heap.size, 0, none⟩ = some (.string (str d.media)) := by rw [rowC_cell R1]; exact (encD_get HGD.out.1).1
      have BW1 : Below wr.heap.size wr W1 := by rw [hW1]; exact (Below.refl _ _).alloc (Nat.le_refl _) _
      have B1 := Lib.hid (HBW.out.trans (BW1.mono sw))
      have HP1 := Lib.hid (desc_pla HGD.out.1 R1)
      have HQ1 := Lib.hid (rowC_below (rowC_below HR0.out HBW.out (by omega)) BW1 (by omega))
      have HZ1 := Lib.hid (rowC_below (rowC_below HZ0.out HBW.out (by omega)) BW1 (by omega))
      have HR1 := Lib.hid R1
      have hs1 : wr.heap.size + 1 ≤ W1.heap.size := by rw [hW1, size_alloc]; omega
      clear hW1 R1 BW1
      have HQD := Lib.hid (pickQ_eq p d)
      have eq1 : ∀ w, (Op.equalIn 10000 26 (.agg #[.string (str d.os), .string (str d.arch)]) (.agg #[.string (str p.1), .string (str p.2)])).run Tryz.prog w = .ok (eqPB (d.os, d.arch) p) w := fun w => eq_plat w 9998 (d.os, d.arch) p
      by_cases h4 : kindN d.media = 1
      rotate_left
      · have e0 : Hid (pickQ p d = false) := Lib.hid (by rw [HQD.out, show (kindN d.media == 1) = false by simpa using h4]; rfl)
        have h4' : (((kindN d.media : Nat) : Int) == 1) = false := by rw [beq_eq_false_iff_ne]; omega
        generalize kindN d.media = kd at *
        clear h4 eq1 HQD
        go_wp2_with (go_at_call 24; ((with_reducible refine (CD _).mono ?_); rintro e w2 ⟨rfl, rfl⟩))
        go_roundg (l.length - (j + 1))
        case measure => rw [HNj.out]; omega
        case rel =>
          refine ⟨j + 1, rfl, Lib.hid rfl, Lib.hid (by omega), Lib.hid (fun i d' hi hd' => ?_), B1⟩
          by_cases hij : i = j
          · subst hij
            rw [HDJ.out] at hd'
            injection hd' with hd'
            rw [← hd']
            exact e0.out
          · exact HM.out i d' (by omega) hd'
      rw [h4] at CD HQD
      clear h4
      cases hq : eqPB (d.os, d.arch) p
      · have e0 : Hid (pickQ p d = false) := Lib.hid (by rw [HQD.out, hq]; rfl)
        rw [hq] at eq1
        clear hq HQD
        go_wp2_with (first
          | (go_at_call 24; ((with_reducible refine (CD _).mono ?_); rintro e w2 ⟨rfl, rfl⟩))
          | ((with_reducible show wpList _ _ _ (⟨some 20, .load _ _, _, _, _, _⟩ :: _) _ _); refine wpList_load_midG rfl 26 _ rfl wr.heap.size 34 rfl [.string (str d.os), .string (str d.arch)] _ HP1.out hu rfl info_P ?_)
          | ((with_reducible show wpList _ _ _ (⟨some 21, .load _ _, _, _, _, _⟩ :: _) _ _); refine wpList_load_rowG rfl 26 _ rfl w.heap.size rfl 26 #[.string (str p.1), .string (str p.2)] _ HQ1.out hu rfl info_P ?_))
        go_roundg (l.length - (j + 1))
        case measure => rw [HNj.out]; omega
        case rel =>
          refine ⟨j + 1, rfl, Lib.hid rfl, Lib.hid (by omega), Lib.hid (fun i d' hi hd' => ?_), B1⟩
          by_cases hij : i = j
          · subst hij
            rw [HDJ.out] at hd'
            injection hd' with hd'
            rw [← hd']
            exact e0.out
          · exact HM.out i d' (by omega) hd'
      · have e0 : Hid (pickA l p = (d, 0)) := Lib.hid (pickA_some (find_at (fun i d' hi hd' => HM.out i d' hi hd') HDJ.out (by rw [HQD.out, hq]; rfl)))
        rw [hq] at eq1
        clear hq HQD
        have CC := oclone_any d W1 HGD.out
        go_wp2_with (first
          | (go_at_call 24; ((with_reducible refine (CD _).mono ?_); rintro e w2 ⟨rfl, rfl⟩))
          | ((with_reducible show wpList _ _ _ (⟨some 20, .load _ _, _, _, _, _⟩ :: _) _ _); refine wpList_load_midG rfl 26 _ rfl wr.heap.size 34 rfl [.string (str d.os), .string (str d.arch)] _ HP1.out hu rfl info_P ?_)
          | ((with_reducible show wpList _ _ _ (⟨some 21, .load _ _, _, _, _, _⟩ :: _) _ _); refine wpList_load_rowG rfl 26 _ rfl w.heap.size rfl 26 #[.string (str p.1), .string (str p.2)] _ HQ1.out hu rfl info_P ?_)
          | ((with_reducible show wpList _ _ _ (⟨some 24, .load _ _, _, _, _, _⟩ :: _) _ _); refine wpList_load_row rfl 28 _ rfl wr.heap.size rfl 28 (encD d) (0, 0) _ HR1.out Tryz.underlying28 rfl (HID.out d HGD.out) ?_)
          | (go_at_call 66; refine CC.mono ?_; rintro e w3 ⟨rfl, b3⟩; have HZ3 := Lib.hid (rowC_below HZ1.out b3 (by omega)); have HB3 := Lib.hid b3; clear b3)
          | ((with_reducible show wpList _ _ _ (⟨none, .store _ (.tmp 4) _, _, _, _, _⟩ :: _) _ _); refine wpList_store_row rfl 28 _ _ rfl (w.heap.size + 1) (encD d) rfl rfl 28 _ HZ3.out (HID.out d HGD.out) (HSZ.out d HGD.out) (encD_one _) ?_))
        refine bodyPost_ret (results_row_tmp rfl _ _ (w.heap.size + 1) 28 (encD d) _ rfl (rowC_setRow HZ3.out _) Tryz.underlying28 rfl (HID.out d HGD.out) (.int .i64 0) rfl) rfl ?_
        rw [e0.out]
        have h1 := HB0.out.trans (B1.out.mono (by omega))
        exact ⟨rfl, below_setRow (h1.trans (HB3.out.mono h1.size)) (by omega) _⟩
    · have hj1 : ¬ (j : Int) < (l.length : Int) := by omega
      have e0 : Hid (pickA l p = (zeroD, 73)) := Lib.hid (pickA_none fun i d hi => HM.out i d (by have := (List.getElem?_eq_some_iff.1 hi).1; omega) hi)
      have HZ1 := Lib.hid (rowC_below HZ0.out HBW.out (by omega))
      clear hj
      go_wp2_with (first
        | ((with_reducible show wpList _ _ _ (⟨some 27, .build _ _, _, _, _, _⟩ :: _) _ _); refine wpList_build_as rfl 28 _ rfl (encD zeroD) (by kernel_rfl) ?_)
        | ((with_reducible show wpList _ _ _ (⟨none, .store _ (.tmp 4) _, _, _, _, _⟩ :: _) _ _); refine wpList_store_row rfl 28 _ _ rfl (w.heap.size + 1) (encD zeroD) rfl rfl 28 _ HZ1.out (HID.out _ G0.out) rfl (encD_one _) ?_))
      refine bodyPost_ret (results_row_tmp rfl _ _ (w.heap.size + 1) 28 (encD zeroD) _ rfl (rowC_setRow HZ1.out _) Tryz.underlying28 rfl (HID.out _ G0.out) (.int .i64 73) rfl) rfl ?_
      rw [e0.out]
      exact ⟨rfl, below_setRow hbw (by omega) _⟩
end Go.Proofs.YtnkencdibniagaaGreatDoor

/- Layer 13: the document's Kind; the statements' media types. -/
namespace Go.Proofs.YtnkencdibniagaaGreatDoor
open Go.RowKit

/-- The document's list. -/
def kindL (i : Nat) : Bs := [mMan, dMan, mIdx, dIdx, mCfg, dCfg, mLay, dLay].getD i []
def kindV : Array Value := #[.string (str mMan), .string (str dMan), .string (str mIdx), .string (str dIdx), .string (str mCfg), .string (str dCfg), .string (str mLay), .string (str dLay)]
theorem kindV_at (i : Nat) (h : i < 8) : kindV[i]? = some (.string (str (kindL i))) := by
  match i, h with
  | 0, _ => rfl
  | 1, _ => rfl
  | 2, _ => rfl
  | 3, _ => rfl
  | 4, _ => rfl
  | 5, _ => rfl
  | 6, _ => rfl
  | 7, _ => rfl
  | n + 8, h => omega
theorem kind_at {i : Nat} (h : i < 8) : kindN (kindL i) = 1 + i / 2 := by
  have : ∀ i : Fin 8, kindN (kindL i.val) = 1 + i.val / 2 := by decide +kernel
  exact this ⟨i, h⟩
theorem kind_none {s : Bs} (h : ∀ i, i < 8 → kindL i ≠ s) : kindN s = 0 := by
  have h0 : mMan ≠ s := h 0 (by omega)
  have h1 : dMan ≠ s := h 1 (by omega)
  have h2 : mIdx ≠ s := h 2 (by omega)
  have h3 : dIdx ≠ s := h 3 (by omega)
  have h4 : mCfg ≠ s := h 4 (by omega)
  have h5 : dCfg ≠ s := h 5 (by omega)
  have h6 : mLay ≠ s := h 6 (by omega)
  have h7 : dLay ≠ s := h 7 (by omega)
  unfold kindN
  rw [if_neg (by rintro (e | e); exact h0 e.symm; exact h1 e.symm), if_neg (by rintro (e | e); exact h2 e.symm; exact h3 e.symm), if_neg (by rintro (e | e); exact h4 e.symm; exact h5 e.symm), if_neg (by rintro (e | e); exact h6 e.symm; exact h7 e.symm)]
/-- The statements' list. -/
def txtPlain : Bs := [116, 101, 120, 116, 47, 112, 108, 97, 105, 110]
def mediaN (i : Nat) : Bs := [mMan, mIdx, mCfg, mLay, dMan, dIdx, dCfg, dLay, txtPlain].getD i []
def mediaA : Array Value := #[.string (str mMan), .string (str mIdx), .string (str mCfg), .string (str mLay), .string (str dMan), .string (str dIdx), .string (str dCfg), .string (str dLay), .string (str txtPlain)]
theorem mediaA_at (i : Nat) (h : i < 9) : mediaA[i]? = some (.string (str (mediaN i))) := by
  match i, h with
  | 0, _ => rfl
  | 1, _ => rfl
  | 2, _ => rfl
  | 3, _ => rfl
  | 4, _ => rfl
  | 5, _ => rfl
  | 6, _ => rfl
  | 7, _ => rfl
  | 8, _ => rfl
  | n + 9, h => omega
theorem mediaN_le (i : Nat) : (mediaN i).length ≤ 100 := by
  by_cases h : i < 9
  · have : ∀ i : Fin 9, (mediaN i.val).length ≤ 100 := by decide +kernel
    exact this ⟨i, h⟩
  · unfold mediaN
    rw [List.getD_eq_getElem?_getD, List.getElem?_eq_none (by simp; omega)]
    simp
set_option maxRecDepth 100000 in
set_option maxHeartbeats 4000000 in
theorem media_any (n : Nat) (hn : n < 256) (w : World) : Calls Tryz.prog 25 #[.int .u8 (n : Int)] w fun e w' => e = .returned (.string (str (mediaN (n % 9)))) ∧ Below w.heap.size w w' := by
  have hlt : n % 9 < 9 := Nat.mod_lt _ (by omega)
  have hm1 : (n : Int).tmod 9 = ((n % 9 : Nat) : Int) := by rw [Int.tmod_eq_emod_of_nonneg (by omega)]; omega
  have hm2 : (n : Int) % 9 = ((n % 9 : Nat) : Int) := by omega
  have hmi : IntKind.u8.wrap (n : Int) = (n : Int) := IntWalk.u8_in _ (by omega)
  generalize n % 9 = r at *
  have hr := rowC_new w mediaA 115
  have HP := Lib.hid ((rowC_cell hr r).trans (mediaA_at r hlt))
  have HB := Lib.hid ((Below.refl w.heap.size w).alloc (Nat.le_refl _) (.cells mediaA 115))
  clear hr
  generalize mediaN r = m at *
  obtain ⟨w1, hw1⟩ : ∃ w1, w1 = w.alloc (.cells mediaA 115) := ⟨_, rfl⟩
  rw [← hw1] at HP HB
  have HW1 := Lib.hid hw1
  clear hw1
  go_enter Tryz.func25, Tryz.ntmps25
  go_upto_region 2 with (fail)
  change Code.wp _ _ _ _ (w.alloc (.cells mediaA 115))
  rw [← HW1.out]
  have hp := HP.out
  go_wp2
  go_ret
  exact ⟨rfl, HB.out⟩
end Go.Proofs.YtnkencdibniagaaGreatDoor

/- Layer 13: the statements' descriptors, out of the rough. -/
namespace Go.Proofs.YtnkencdibniagaaGreatDoor
open Go.RowKit

def descOf (r : RG) : DV := ⟨if r.num < 200 then mediaN (r.num % 9) else r.media, r.dig, r.size, r.os, r.arch⟩
def shortR (r : RG) : Bool := decide (r.media.length ≤ 200) && (decide (r.os.length ≤ 200) && decide (r.arch.length ≤ 200))
def ofR (l : List RG) (most : Int) : Bool := l.all shortR && decide ((l.length : Int) ≤ most)
def zeroRG : RG := ⟨0, [], zero32, 0, [], []⟩
def flatD (l : List DV) : List Value := l.flatMap fun d => (encD d).toList
theorem good_of {r : RG} (h : r.ok) (hs : shortR r = true) : putD (descOf r) := by
  unfold shortR at hs
  rw [Bool.and_eq_true, Bool.and_eq_true, decide_eq_true_eq, decide_eq_true_eq, decide_eq_true_eq] at hs
  refine ⟨⟨h.2.1, ?_, ?_, ?_⟩, h.2.2.1, h.2.2.2⟩
  · show (if r.num < 200 then mediaN (r.num % 9) else r.media).length ≤ _
    split
    · have := mediaN_le (r.num % 9); omega
    · omega
  · show r.os.length ≤ _; omega
  · show r.arch.length ≤ _; omega
theorem encR_get {r : RG} (h : r.dig.length = 32) : (encR r)[0]? = some (.int .u8 (r.num : Int)) ∧ (encR r)[1]? = some (.string (str r.media)) ∧ (encR r)[34]? = some (.int .i64 r.size) ∧ (encR r)[35]? = some (.string (str r.os)) ∧ (encR r)[36]? = some (.string (str r.arch)) := by
  unfold encR
  refine ⟨rfl, rfl, ?_, ?_, ?_⟩
  · rw [List.getElem?_append_right (by simp [h])]; simp [h]
  · rw [List.getElem?_append_right (by simp [h])]; simp [h]
  · rw [List.getElem?_append_right (by simp [h])]; simp [h]
theorem encR_dig {r : RG} (h : r.dig.length = 32) : ∀ (j : Nat) (v : Value), (r.dig.map byteV)[j]? = some v → (encR r)[2 + j]? = some v := by
  intro j v hv
  have hj := (List.getElem?_eq_some_iff.1 hv).1
  unfold encR
  rw [List.getElem?_append_left (by simp at hj ⊢; omega), List.getElem?_append_right (by simp)]
  simpa using hv
theorem encR_one (r : RG) : (encR r).toArray.all (·.oneCell') = true := all_oneCell_toArray (fun v hv => by
  unfold encR at hv
  rcases List.mem_append.1 hv with hv | hv
  · rcases List.mem_append.1 hv with hv | hv
    · simp at hv
      rcases hv with rfl | rfl <;> rfl
    · obtain ⟨x, _, rfl⟩ := List.mem_map.1 hv
      rfl
  · simp at hv
    rcases hv with rfl | rfl | rfl <;> rfl)
theorem info_R : (Tryz.prog.info? 46).map (·.size) = some 37 := by kernel_rfl
theorem built_des (d : DV) (h : d.dig.length = 32) : Tryz.prog.built 28 [(0, .string (str d.media)), (1, .agg (d.dig.map byteV).toArray), (2, .int .i64 d.size), (3, .agg #[.string (str d.os), .string (str d.arch)])] = some (encD d) := by
  obtain ⟨media, g, size, os, arch⟩ := d
  match g, h with
  | [a0, a1, a2, a3, a4, a5, a6, a7, a8, a9, b0, b1, b2, b3, b4, b5, b6, b7, b8, b9, c0, c1, c2, c3, c4, c5, c6, c7, c8, c9, d0, d1], _ =>
    show _ = _
    kernel_rfl
theorem rough_mid {w : World} {b : Nat} {r : RG} {t : TypeId} (hd : r.dig.length = 32) (h : rowC w b (encR r).toArray t) : w.rangeAt b 2 (r.dig.map byteV) ∧ w.rangeAt b 35 [.string (str r.os), .string (str r.arch)] := by
  refine ⟨rowC_range h 2 _ (fun j v hv => by rw [List.getElem?_toArray]; exact encR_dig hd j v hv), rowC_range h 35 _ (fun j v hv => ?_)⟩
  rw [List.getElem?_toArray]
  match j, hv with
  | 0, hv => rw [(encR_get hd).2.2.2.1]; exact hv
  | 1, hv => rw [(encR_get hd).2.2.2.2]; exact hv
theorem bad_of {l : List RG} {j : Nat} {r : RG} {most : Int} (h : l[j]? = some r) (hs : shortR r = false) : ofR l most = false := by
  unfold ofR
  rw [Bool.and_eq_false_iff]
  left
  rw [List.all_eq_false]
  exact ⟨r, List.mem_of_getElem? h, by rw [hs]; decide⟩
theorem short_no {r : RG} (h : 200 < r.media.length ∨ 200 < r.os.length ∨ 200 < r.arch.length) : shortR r = false := by
  unfold shortR
  rcases h with h | h | h
  · rw [decide_eq_false (show ¬ r.media.length ≤ 200 by omega)]; rfl
  · rw [decide_eq_false (show ¬ r.os.length ≤ 200 by omega), Bool.false_and, Bool.and_false]
  · rw [decide_eq_false (show ¬ r.arch.length ≤ 200 by omega), Bool.and_false, Bool.and_false]
theorem short_yes {r : RG} (h1 : ¬ 200 < r.media.length) (h2 : ¬ 200 < r.os.length) (h3 : ¬ 200 < r.arch.length) : shortR r = true := by
  unfold shortR
  rw [decide_eq_true (by omega), decide_eq_true (by omega), decide_eq_true (by omega)]
  rfl
set_option maxRecDepth 100000 in
set_option maxHeartbeats 16000000 in
theorem of_any (l : List RG) (x : Option Addr) (cc : Nat) (most : Int) (w : World) (hl : l.length * 96 ≤ 140737488351232) (hR : RghsC w x l) :
    Calls Tryz.prog 17 #[.slice x l.length cc, .int .i64 most] w fun e w' => ∃ t, e = .returned (.tuple #[t, .bool (ofR l most)]) ∧ (ofR l most = true → w'.ownsRow w.heap.size 28 36 t l.length (flatD (l.map descOf))) ∧ Below w.heap.size w w' := by
  obtain ⟨i0, hi0, hz0, hz1, hz2⟩ := info_parts info_des3
  have HL := Lib.hid hR
  obtain ⟨N, hN⟩ : ∃ N, N = l.length := ⟨_, rfl⟩
  have HN := Lib.hid hN
  rw [← hN] at hl ⊢
  clear hR hN
  go_enter Tryz.func17, Tryz.ntmps17
  go_wp2
  go_loopw [6, 7] (fun t v wr => ∃ j : Nat, j ≤ N ∧ v = .int .i64 j ∧ Hid ((l.take j).all shortR = true) ∧ Hid (wr.ownsRow w.heap.size 28 36 t j (flatD ((l.take j).map descOf))) ∧ Hid (Below w.heap.size w wr)) (fun _ v _ => N - (intOf v).toNat)
  case atStart => exact ⟨0, Nat.zero_le _, rfl, Lib.hid rfl, Lib.hid (World.ownsRow_nil _ _ _ _), Lib.hid (Below.refl _ _)⟩
  case round =>
    obtain ⟨j, hjN, rfl, hsh, hO, hB⟩ := hrel
    obtain ⟨xi, ci, rfl⟩ := owns_form hO.out
    have sw := hB.out.size
    by_cases hj : j < N
    · have g1 : (j : Int) < (N : Int) := by omega
      obtain ⟨r, hr⟩ : ∃ r, l[j]? = some r := ⟨_, List.getElem?_eq_getElem (by have := HN.out; omega)⟩
      obtain ⟨hok, ad, rfl, hab, hcs⟩ := HL.out j r hr
      have HCS := Lib.hid (show ∀ i u, (encR r)[i]? = some u → wr.cell? ((ad.add (j * 37)).add i) = some u from fun i u hu => by
        rw [World.cell?_of_block (w := w) (w' := wr) (hB.out.block _ (by rw [add_block, add_block]; exact hab))]
        exact hcs i u hu)
      have HOK := Lib.hid hok
      have HR := Lib.hid hr
      have HIR := Lib.hid (show (Tryz.prog.info? 46).map (·.size) = some (encR r).length by rw [encR_len hok]; exact info_R)
      have HIR2 := Lib.hid (show (Tryz.prog.info? 46).map (·.size) = some (encR r).toArray.size by rw [List.size_toArray, encR_len hok]; exact info_R)
      have HIZ := Lib.hid (show (encR zeroRG).toArray.size = (encR r).toArray.size by rw [List.size_toArray, List.size_toArray, encR_len hok]; rfl)
      clear hok hcs hr hj
      go_upto_region 6 with (first
        | ((with_reducible show wpList _ _ _ (⟨some 19, .load _ _, _, _, _, _⟩ :: _) _ _); refine wpList_load_at rfl 46 _ rfl (ad.add (j * 37)) rfl (encR r) _ HCS.out Tryz.underlying46 rfl HIR.out ?_)
        | ((with_reducible show wpList _ _ _ (⟨none, .store _ (.tmp 8) _, _, _, _, _⟩ :: _) _ _); refine wpList_store_last rfl 46 _ _ rfl wr.heap.size (encR r).toArray rfl rfl 46 (encR zeroRG).toArray rfl HIR2.out HIZ.out (encR_one _) ?_))
      obtain ⟨W1, hW1⟩ : ∃ W1, W1 = wr.alloc (.cells (encR r).toArray 46) := ⟨_, rfl⟩
      rw [← hW1]
      have R1 : rowC W1 wr.heap.size (encR r).toArray 46 := by rw [hW1]; exact rowC_new _ _ _
      have BW1 : Below wr.heap.size wr W1 := by rw [hW1]; exact (Below.refl _ _).alloc (Nat.le_refl _) _
      have s1 : wr.heap.size + 1 ≤ W1.heap.size := by rw [hW1, size_alloc]; omega
      obtain ⟨c0, c1, c34, c35, c36⟩ := encR_get HOK.out.2.1
      have q0 : W1.cell? ⟨wr.heap.size, 0, none⟩ = some (.int .u8 (r.num : Int)) := by rw [rowC_cell R1, List.getElem?_toArray]; exact c0
      have q1 : W1.cell? ⟨wr.heap.size, 1, none⟩ = some (.string (str r.media)) := by rw [rowC_cell R1, List.getElem?_toArray]; exact c1
      have q34 : W1.cell? ⟨wr.heap.size, 34, none⟩ = some (.int .i64 r.size) := by rw [rowC_cell R1, List.getElem?_toArray]; exact c34
      have q35 : W1.cell? ⟨wr.heap.size, 35, none⟩ = some (.string (str r.os)) := by rw [rowC_cell R1, List.getElem?_toArray]; exact c35
      have q36 : W1.cell? ⟨wr.heap.size, 36, none⟩ = some (.string (str r.arch)) := by rw [rowC_cell R1, List.getElem?_toArray]; exact c36
      have HM := Lib.hid (rough_mid HOK.out.2.1 R1)
      have HB1 := Lib.hid (hB.out.trans (BW1.mono sw))
      have HO1 := Lib.hid ((Chg.of_below (s := no) BW1).owns hO.out (fun _ _ h => h))
      have HR1 := Lib.hid R1
      clear hW1 R1 BW1 c0 c1 c34 c35 c36
      have z1 := str_size r.media
      have z2 := str_size r.os
      have z3 := str_size r.arch
      by_cases h1 : 200 < r.media.length
      · have g2 : (200 : Int) < (r.media.length : Int) := by omega
        have e0 : Hid (ofR l most = false) := Lib.hid (bad_of HR.out (short_no (.inl h1)))
        clear h1
        go_wp2
        go_ret2
        rw [e0.out]
        exact ⟨_, rfl, (fun h => by cases h), HB1.out⟩
      have g2 : ¬ (200 : Int) < (r.media.length : Int) := by omega
      by_cases h2 : 200 < r.os.length
      · have g3 : (200 : Int) < (r.os.length : Int) := by omega
        have e0 : Hid (ofR l most = false) := Lib.hid (bad_of HR.out (short_no (.inr (.inl h2))))
        clear h1 h2
        go_wp2
        go_ret2
        rw [e0.out]
        exact ⟨_, rfl, (fun h => by cases h), HB1.out⟩
      have g3 : ¬ (200 : Int) < (r.os.length : Int) := by omega
      by_cases h3 : 200 < r.arch.length
      · have g4 : (200 : Int) < (r.arch.length : Int) := by omega
        have e0 : Hid (ofR l most = false) := Lib.hid (bad_of HR.out (short_no (.inr (.inr h3))))
        clear h1 h2 h3
        go_wp2
        go_ret2
        rw [e0.out]
        exact ⟨_, rfl, (fun h => by cases h), HB1.out⟩
      have g4 : ¬ (200 : Int) < (r.arch.length : Int) := by omega
      have HSR := Lib.hid (short_yes h1 h2 h3)
      have HGP := Lib.hid (good_of HOK.out HSR.out)
      obtain ⟨d0, hd0⟩ : ∃ d0 : DV, d0 = ⟨r.media, r.dig, r.size, r.os, r.arch⟩ := ⟨_, rfl⟩
      have HD0 := Lib.hid hd0
      have hg0 : goodD d0 := by rw [hd0]; exact ⟨HOK.out.2.1, (by show r.media.length ≤ _; omega), (by show r.os.length ≤ _; omega), (by show r.arch.length ≤ _; omega)⟩
      have HBD := Lib.hid (show Tryz.prog.built 28 [(0, .string (str r.media)), (1, .agg (r.dig.map byteV).toArray), (2, .int .i64 r.size), (3, .agg #[.string (str r.os), .string (str r.arch)])] = some (encD d0) by rw [hd0]; exact built_des ⟨r.media, r.dig, r.size, r.os, r.arch⟩ HOK.out.2.1)
      have HID0 := Lib.hid (show (Tryz.prog.info? 28).map (·.size) = some (encD d0).size by rw [encD_size d0 hg0]; exact info_D)
      have HZD0 := Lib.hid (show (encD zeroD).size = (encD d0).size by rw [encD_size d0 hg0]; rfl)
      have HG00 := Lib.hid ((encD_get hg0.1).1)
      have HDL := Lib.hid (show (Tryz.prog.info? 24).map (·.size) = some (r.dig.map byteV).length by rw [List.length_map, HOK.out.2.1]; kernel_rfl)
      have hn256 := HOK.out.1
      clear hg0 hd0 h1 h2 h3
      go_upto_region 9 with (first
        | ((with_reducible show wpList _ _ _ (⟨some 41, .load _ _, _, _, _, _⟩ :: _) _ _); refine wpList_load_mid rfl 24 _ rfl wr.heap.size 2 rfl (r.dig.map byteV) _ HM.out.1 Tryz.underlying24 rfl HDL.out ?_)
        | ((with_reducible show wpList _ _ _ (⟨some 45, .load _ _, _, _, _, _⟩ :: _) _ _); refine wpList_load_mid rfl 26 _ rfl wr.heap.size 35 rfl [.string (str r.os), .string (str r.arch)] _ HM.out.2 Tryz.underlying26 rfl info_P ?_)
        | ((with_reducible show wpList _ _ _ (⟨some 46, .build _ _, _, _, _, _⟩ :: _) _ _); refine wpList_build_as rfl 28 _ rfl (encD d0) (Eq.trans ?_ HBD.out) ?_; kernel_rfl)
        | ((with_reducible show wpList _ _ _ (⟨none, .store _ (.tmp 9) _, _, _, _, _⟩ :: _) _ _); refine wpList_store_last rfl 28 _ _ rfl W1.heap.size (encD d0) rfl rfl 28 (encD zeroD) rfl HID0.out HZD0.out (encD_one _) ?_))
      obtain ⟨W2, hW2⟩ : ∃ W2, W2 = W1.alloc (.cells (encD d0) 28) := ⟨_, rfl⟩
      rw [← hW2]
      have R2 : rowC W2 W1.heap.size (encD d0) 28 := by rw [hW2]; exact rowC_new _ _ _
      have BW2 : Below W1.heap.size W1 W2 := by rw [hW2]; exact (Below.refl _ _).alloc (Nat.le_refl _) _
      have s2 : W1.heap.size + 1 ≤ W2.heap.size := by rw [hW2, size_alloc]; omega
      have p0 : W2.cell? ⟨wr.heap.size, 0, none⟩ = some (.int .u8 (r.num : Int)) := (World.cell?_of_block (BW2.block _ (by show wr.heap.size < _; omega))).trans q0
      have HB2 := Lib.hid (HB1.out.trans (BW2.mono HB1.out.size))
      have HO2 := Lib.hid ((Chg.of_below (s := no) BW2).owns HO1.out (fun _ _ h => h))
      have HR2 := Lib.hid R2
      have HSZ := Lib.hid (encD_size _ HGP.out.1)
      have HN1 : Hid ((encD (descOf r)).toList.length = 1 * 36) := Lib.hid (by rw [Array.length_toList, HSZ.out])
      have H1 := Lib.hid (show ∀ u ∈ (encD (descOf r)).toList, u.oneCell' = true from fun u hu => by
        have := Array.all_eq_true_iff_forall_mem.1 (show (encD (descOf r)).all (·.oneCell') = true from (encD_one _)) u (by simpa using hu)
        exact this)
      clear hW2 R2 BW2 q0 q1 q34 q35 q36 z1 z2 z3 g2 g3 g4
      have CM := fun w => media_any r.num hn256 w
      by_cases hn : r.num < 200
      · have g5 : (r.num : Int) < 200 := by omega
        have HDD : Hid (encD { d0 with media := mediaN (r.num % 9) } = encD (descOf r)) := Lib.hid (by rw [HD0.out]; unfold descOf; rw [if_pos hn])
        go_upto_region 11 with (go_at_call 25; (with_reducible refine (CM _).mono ?_); rintro e w3 ⟨rfl, b3⟩; have R3 := rowC_below HR2.out b3 (by omega); have t0 := rowC_cell R3 0; rw [HG00.out] at t0; have f0 := rowC_free R3 0; have HR3 := Lib.hid R3; have HB3 := Lib.hid (HB2.out.trans (b3.mono HB2.out.size)); have HO3 := Lib.hid ((Chg.of_below (s := no) b3).owns HO2.out (fun _ _ h => h)); clear R3 b3)
        have HX0 := rowC_set HR3.out 0 (.string (str (mediaN (r.num % 9))))
        rw [encD_media, HDD.out] at HX0
        have HX := Lib.hid HX0
        have HBX := Lib.hid (HB3.out.setCell (p := ⟨W1.heap.size, 0, none⟩) HB1.out.size (.string (str (mediaN (r.num % 9)))))
        have HOX := Lib.hid (show (w3.setCell ⟨W1.heap.size, 0, none⟩ (.string (str (mediaN (r.num % 9))))).ownsRow w.heap.size 28 36 (.slice xi j ci) j (flatD ((l.take j).map descOf)) from ((Chg.refl (fun k => k = W1.heap.size) w3).setCell ⟨W1.heap.size, 0, none⟩ _ (.inl rfl)).owns HO3.out (fun g hg e => by have h9 := (HO1.out.lt g hg).2; have e : g = W1.heap.size := e; omega))
        generalize w3.setCell ⟨W1.heap.size, 0, none⟩ (.string (str (mediaN (r.num % 9)))) = wx at *
        clear HX0 t0 f0 p0 CM HR3 HB3 HO3
        go_upto_region 4 with (first
          | ((with_reducible show wpList _ _ _ (⟨some 55, .load _ _, _, _, _, _⟩ :: _) _ _); refine wpList_load_row rfl 28 _ rfl W1.heap.size rfl 28 (encD (descOf r)) (0, 0) _ HX.out Tryz.underlying28 rfl (by rw [HSZ.out]; exact info_D) ?_)
          | ((with_reducible show wpList _ _ _ (⟨some 56, .buildSlice _ _ _, _, _, _, _⟩ :: _) _ _); refine wpList_oneR rfl 29 28 36 _ rfl (encD (descOf r)) rfl i0 _ Tryz.underlying29 hi0 hz0 hz1 HSZ.out (by decide) (by decide) ?_)
          | ((with_reducible show wpList _ _ _ (⟨some 57, _, _, _, _, _⟩ :: _) _ _); refine wpList_append_lies _ rfl _ _ 29 rfl w.heap.size 28 i0 _ 36 88 Tryz.underlying29 hi0 hz0 hz1 hz2 (by rfl) (by decide) (.slice xi j ci) j (flatD ((l.take j).map descOf)) rfl (HOX.out.alloc _) ⟨wx.heap.size, 0, none⟩ 1 1 (encD (descOf r)).toList rfl HN1.out (World.news_of_block (heap_alloc_new wx _)) H1.out (by decide) (by unfold maxLen; omega) (by omega) (by rw [size_alloc]; have := HBX.out.size; omega) _ rfl ?_; intro g cap w7 hown7 hgrow7 hat7 hlt7; have HOW7 := Lib.hid hown7; have HG7 := Lib.hid hgrow7; clear hown7 hgrow7 hat7 hlt7))
        go_wp2
        go_roundw
        case rel =>
          refine ⟨j + 1, by omega, by go_num, Lib.hid ?_, Lib.hid ?_, Lib.hid ?_⟩
          · rw [take_one HR.out, List.all_append, hsh.out, List.all_cons, HSR.out]
            rfl
          · rw [take_one HR.out, List.map_append, flatD, List.flatMap_append]
            have := HOW7.out
            simpa [flatD] using this
          · exact (HBX.out.alloc HBX.out.size _).grown HG7.out (by rw [size_alloc]; have := HBX.out.size; omega) (fun k hk => (HOX.out.lt k hk).1)
        case measure => simp [intOf]; omega
      · have g5 : ¬ (r.num : Int) < 200 := by omega
        have HDD : Hid (encD d0 = encD (descOf r)) := Lib.hid (by rw [HD0.out]; unfold descOf; rw [if_neg hn])
        have HX0 := HR2.out
        rw [HDD.out] at HX0
        have HX := Lib.hid HX0
        have HBX := Lib.hid HB2.out
        have HOX := Lib.hid HO2.out
        clear HX0 CM
        go_upto_region 11 with (fail)
        generalize W2 = wx at *
        clear p0
        go_upto_region 4 with (first
          | ((with_reducible show wpList _ _ _ (⟨some 55, .load _ _, _, _, _, _⟩ :: _) _ _); refine wpList_load_row rfl 28 _ rfl W1.heap.size rfl 28 (encD (descOf r)) (0, 0) _ HX.out Tryz.underlying28 rfl (by rw [HSZ.out]; exact info_D) ?_)
          | ((with_reducible show wpList _ _ _ (⟨some 56, .buildSlice _ _ _, _, _, _, _⟩ :: _) _ _); refine wpList_oneR rfl 29 28 36 _ rfl (encD (descOf r)) rfl i0 _ Tryz.underlying29 hi0 hz0 hz1 HSZ.out (by decide) (by decide) ?_)
          | ((with_reducible show wpList _ _ _ (⟨some 57, _, _, _, _, _⟩ :: _) _ _); refine wpList_append_lies _ rfl _ _ 29 rfl w.heap.size 28 i0 _ 36 88 Tryz.underlying29 hi0 hz0 hz1 hz2 (by rfl) (by decide) (.slice xi j ci) j (flatD ((l.take j).map descOf)) rfl (HOX.out.alloc _) ⟨wx.heap.size, 0, none⟩ 1 1 (encD (descOf r)).toList rfl HN1.out (World.news_of_block (heap_alloc_new wx _)) H1.out (by decide) (by unfold maxLen; omega) (by omega) (by rw [size_alloc]; have := HBX.out.size; omega) _ rfl ?_; intro g cap w7 hown7 hgrow7 hat7 hlt7; have HOW7 := Lib.hid hown7; have HG7 := Lib.hid hgrow7; clear hown7 hgrow7 hat7 hlt7))
        go_wp2
        go_roundw
        case rel =>
          refine ⟨j + 1, by omega, by go_num, Lib.hid ?_, Lib.hid ?_, Lib.hid ?_⟩
          · rw [take_one HR.out, List.all_append, hsh.out, List.all_cons, HSR.out]
            rfl
          · rw [take_one HR.out, List.map_append, flatD, List.flatMap_append]
            have := HOW7.out
            simpa [flatD] using this
          · exact (HBX.out.alloc HBX.out.size _).grown HG7.out (by rw [size_alloc]; have := HBX.out.size; omega) (fun k hk => (HOX.out.lt k hk).1)
        case measure => simp [intOf]; omega
    · have e0 : Hid (l.take j = l) := Lib.hid (List.take_of_length_le (by have := HN.out; omega))
      have hjn : j = N := by omega
      subst hjn
      have HOF := Lib.hid (show ofR l most = decide ((j : Int) ≤ most) by
        have h5 := hsh.out
        rw [e0.out] at h5
        unfold ofR
        rw [h5, Bool.true_and, HN.out])
      have HOE : Hid (wr.ownsRow w.heap.size 28 36 (.slice xi j ci) j (flatD (l.map descOf))) := Lib.hid (by have h5 := hO.out; rwa [e0.out] at h5)
      clear hj hsh hO
      go_wp2
      go_ret2
      rw [HOF.out]
      exact ⟨_, rfl, (fun _ => HOE.out), hB.out⟩
end Go.Proofs.YtnkencdibniagaaGreatDoor

