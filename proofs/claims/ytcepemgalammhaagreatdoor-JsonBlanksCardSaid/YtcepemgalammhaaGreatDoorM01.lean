/- Merged: JuH, JuI, JuJ, JuK, JuL, JuO, JuP, JuQ, JuR. -/
import Derived.Test.YtcepemgalammhaaGreatDoorJuG
import Derived.Test.YtcepemgalammhaaGreatDoorJsV
import Derived.Test.YtcepemgalammhaaGreatDoorJtN
/- Layer 11: the parts of a list, or of an object, are written. -/
namespace Go.Proofs.YtcepemgalammhaaGreatDoor
open Go.RowKit
set_option linter.unusedSimpArgs false

/-- What is asked of 'value' at one value. -/
def PvOk (v : JV) : Prop := ∀ (w : World) (B b : Nat) (l : Bs) (a b' c d : Value), PrAt w B b l → B ≤ w.heap.size → Env w → 10 ≤ B → HoldsC w (fun k => k < B) v a b' c d →
  Calls Tryz.prog 15 #[.pointer (some ⟨b, 0, none⟩), .agg #[a, b', c, d]] w fun e w' => e = .returned (.tuple #[]) ∧ PrS w B b (putsL l (psJ v)) w'
theorem psL_cons (k : Int) (first : Bool) (x : JV) (l : List JV) (keys : List Bs) : psL k first (x :: l) keys = (if first = true then [] else [[44]]) ++ (if k = 6 then quoPs (keys.headD []) ++ [[58]] else []) ++ psJ x ++ psL k false l keys.tail := by rw [psL]
theorem psL_nil (k : Int) (first : Bool) (keys : List Bs) : psL k first [] keys = [] := by rw [psL]
/-- What is written of parts from the n-th one on. -/
def restP (k : Int) (items : List JV) (keys : List Bs) (n : Nat) : List Bs := psL k (decide (n = 0)) (items.drop n) (keys.drop n)
theorem restP_step {k : Int} {items : List JV} {keys : List Bs} {n : Nat} {x : JV} (hx : items[n]? = some x) :
    restP k items keys n = (if n = 0 then [] else [[44]]) ++ (if k = 6 then quoPs (keys.getD n []) ++ [[58]] else []) ++ psJ x ++ restP k items keys (n + 1) := by
  have hn : n < items.length := (List.getElem?_eq_some_iff.1 hx).1
  have e : items.drop n = x :: items.drop (n + 1) := by
    rw [List.drop_eq_getElem_cons hn]
    congr 1
    exact (List.getElem?_eq_some_iff.1 hx).2
  have h2 : (keys.drop n).headD [] = keys.getD n [] := by
    rw [List.headD_eq_head?_getD, List.head?_drop, List.getD_eq_getElem?_getD]
  unfold restP
  rw [e, psL_cons, h2, List.tail_drop]
  by_cases h : n = 0
  · subst h; simp
  · simp [h]
theorem restP_end {k : Int} {items : List JV} {keys : List Bs} {n : Nat} (h : items.length ≤ n) : restP k items keys n = [] := by
  unfold restP
  rw [List.drop_eq_nil_of_le h, psL_nil]
set_option maxRecDepth 100000 in
set_option maxHeartbeats 8000000 in
theorem pparts_any {k : Int} {t : Bs} {items : List JV} {keys : List Bs} (hk : k = 5 ∨ k = 6) (hkl : k = 6 → keys.length = items.length) (hlen : items.length ≤ 4611686018427387904) (IH : ∀ x ∈ items, PvOk x) (p q : UInt8) (sp sq : ByteArray) (hp : sp = str [p]) (hq : sq = str [q])
    {w : World} {B b : Nat} {l : Bs} {a b' c d : Value} (h : PrAt w B b l) (hB : B ≤ w.heap.size) (hE : Env w) (h10 : 10 ≤ B) (hH : HoldsC w (fun k => k < B) (.mk k t items keys) a b' c d) :
    Calls Tryz.prog 31 #[.pointer (some ⟨b, 0, none⟩), .string sp, .string sq, .agg #[a, b', c, d]] w fun e w' => e = .returned (.tuple #[]) ∧ PrS w B b (putsL l ([p] :: (psL k true items keys ++ [[q]]))) w' := by
  have hbB := h.lt
  obtain ⟨rfl, rfl, ht, ⟨x1, c1, rfl, hI⟩, ⟨x2, c2, rfl, hK⟩⟩ := hH.opens
  have C1 := fun (w2 : World) (acc : Bs) (g : PrAt w2 B b acc) (hB2 : B ≤ w2.heap.size) => put_any [p] g hB2 (show ([p] : Bs).length ≤ 70368744177664 by simp)
  have C2 := fun (w2 : World) (acc : Bs) (g : PrAt w2 B b acc) (hB2 : B ≤ w2.heap.size) => put_any [q] g hB2 (show ([q] : Bs).length ≤ 70368744177664 by simp)
  rw [← hp] at C1
  rw [← hq] at C2
  have C44 : ∀ (w2 : World) (acc : Bs), PrAt w2 B b acc → B ≤ w2.heap.size → Calls Tryz.prog 29 #[.pointer (some ⟨b, 0, none⟩), .string ⟨#[44]⟩] w2 fun e w' => e = .returned (.tuple #[]) ∧ PrS w2 B b (putL acc [44]) w' := fun w2 acc g hB2 => put_any [44] g hB2 (by decide)
  have C58 : ∀ (w2 : World) (acc : Bs), PrAt w2 B b acc → B ≤ w2.heap.size → Calls Tryz.prog 29 #[.pointer (some ⟨b, 0, none⟩), .string ⟨#[58]⟩] w2 fun e w' => e = .returned (.tuple #[]) ∧ PrS w2 B b (putL acc [58]) w' := fun w2 acc g hB2 => put_any [58] g hB2 (by decide)
  have HFin : Hid (putsL l ([p] :: (psL k true items keys ++ [[q]])) = putL (putsL (putL l [p]) (restP k items keys 0)) [q]) := Lib.hid (by
    rw [← List.singleton_append, putsL_app, putsL_app]
    rfl)
  obtain ⟨W0, hW0⟩ : ∃ W0, W0 = w.alloc (.cells #[.int .i64 k, .string (str t), .slice x1 items.length c1, .slice x2 keys.length c2] 27) := ⟨_, rfl⟩
  have R0 : rowC W0 w.heap.size (row4 k (str t) x1 items.length c1 x2 keys.length c2) 27 := by rw [hW0]; exact rowC_new w _ _
  have S0 : PrS w B b l W0 := by rw [hW0]; exact (PrS.start h).below hB ((Below.refl _ _).alloc (Nat.le_refl _) _)
  have s0 : W0.heap.size = w.heap.size + 1 := by rw [hW0]; exact size_alloc _ _
  have HS0 := Lib.hid S0
  have HR0 := Lib.hid R0
  have Hs0 := Lib.hid s0
  have HW0 := Lib.hid hW0
  have HE := Lib.hid hE
  have HB := Lib.hid hB
  have H10 := Lib.hid h10
  have HbB := Lib.hid hbB
  have HII := Lib.hid hI
  have HKK := Lib.hid hK
  have HKL := Lib.hid hkl
  unfold PvOk at IH
  have HIH := Lib.hid IH
  have HIF := Lib.hid info_V
  have HLN := Lib.hid hlen
  clear hW0 S0 R0 s0 hE hbB hI hK hkl IH hp hq ht hH
  go_enter Tryz.func31, Tryz.ntmps31
  go_upto_region 1 with (fail)
  rw [← HW0.out]
  go_upto_region 2 with (go_at_call 29; ((with_reducible refine (C1 _ _ HS0.out.pr (by have := Hs0.out; have := HB.out; omega)).mono ?_); rintro e w1 ⟨rfl, h1⟩))
  have g2 : w1.cell? ⟨w.heap.size, 2, none⟩ = some (.slice x1 items.length c1) := rowC_cell (h1.row HR0.out (by have := HbB.out; omega) (by decide)) 2
  have P1 := HS0.out.trans h1
  go_wp2
  go_loopg [8, 16] items.length (fun kk s8 s16 wr => ∃ (n : Nat) (acc : Bs), s16 = .int .i64 (n : Int) ∧ Hid (kk = items.length - n) ∧ Hid (n ≤ items.length) ∧ Hid (PrS w B b acc wr) ∧ Hid (rowC wr w.heap.size (row4 k (str t) x1 items.length c1 x2 keys.length c2) 27) ∧ Hid (putsL acc (restP k items keys n) = putsL (putL l [p]) (restP k items keys 0)))
  case atStart => exact ⟨0, _, rfl, Lib.hid rfl, Lib.hid (Nat.zero_le _), Lib.hid P1, Lib.hid (h1.row HR0.out (by have := HbB.out; omega) (by decide)), Lib.hid rfl⟩
  case round =>
    obtain ⟨n, acc, rfl, HN, HNL, HP, HR, HQ⟩ := hrel
    clear g2
    by_cases hn : n < items.length
    · obtain ⟨x, hx⟩ : ∃ x, items[n]? = some x := ⟨_, List.getElem?_eq_getElem hn⟩
      obtain ⟨ad, a1, a2, a3, a4, rfl, hF, h4c, hHx⟩ := HII.out n x hx
      obtain ⟨rfl, rfl, ⟨y1, yc1, rfl⟩, y2, yc2, rfl⟩ := hHx.form
      have hbq : B ≤ wr.heap.size := by have := HB.out; have := HP.out.size; omega
      have hc := chg_of_below HP.out.bel
      have L4 := Lib.hid (h4c.chg hc (by rw [add_block]; omega))
      have hHx0 := hHx
      have HIX := Lib.hid (HIH.out x (List.mem_of_getElem? hx))
      have HST := Lib.hid (restP_step (k := k) (keys := keys) hx)
      have hlen2 : (n : Int) < (items.length : Int) := by omega
      obtain ⟨W2, hW2⟩ : ∃ W2, W2 = wr.alloc (.cells (row4 x.kind (str x.text) y1 x.items.length yc1 y2 x.keys.length yc2) 27) := ⟨_, rfl⟩
      have P2 : PrS w B b acc W2 := by rw [hW2]; exact HP.out.below hbq ((Below.refl _ _).alloc (Nat.le_refl _) _)
      have R2 : rowC W2 w.heap.size (row4 k (str t) (some ad) items.length c1 x2 keys.length c2) 27 := by rw [hW2]; exact rowC_alloc HR.out _
      have X2 : rowC W2 wr.heap.size (row4 x.kind (str x.text) y1 x.items.length yc1 y2 x.keys.length yc2) 27 := by rw [hW2]; exact rowC_new _ _ _
      have hsz := HP.out.size
      have hbW2 : B ≤ W2.heap.size := by have := P2.size; have := HB.out; omega
      have g0 : W2.cell? ⟨w.heap.size, 0, none⟩ = some (.int .i64 k) := rowC_cell R2 0
      have g3 : W2.cell? ⟨w.heap.size, 3, none⟩ = some (.slice x2 keys.length c2) := rowC_cell R2 3
      have HW2 := Lib.hid hW2
      have HP2 := Lib.hid P2
      have HR2 := Lib.hid R2
      have HX2 := Lib.hid X2
      clear hW2 hx hF h4c hHx hc
      go_upto_region 5 with (first
        | ((with_reducible show wpList _ _ _ (⟨some 20, .load _ (.tmp 19), _, _, _, _⟩ :: _) _ _); refine wpList_load_at rfl 27 _ rfl (ad.add (n * 4)) rfl [.int .i64 x.kind, .string (str x.text), .slice y1 x.items.length yc1, .slice y2 x.keys.length yc2] _ L4.out Tryz.underlying27 rfl HIF.out ?_)
        | ((with_reducible show wpList _ _ _ (⟨none, .store _ (.tmp 9) (.tmp 20), _, _, _, _⟩ :: _) _ _); refine wpList_store_last rfl 27 _ _ rfl wr.heap.size (row4 x.kind (str x.text) y1 x.items.length yc1 y2 x.keys.length yc2) rfl rfl 27 zeroV4 rfl HIF.out rfl (row4_all _ _ _ _ _ _ _ _) ?_))
      rw [← HW2.out]
      have HX0 := Lib.hid hHx0
      clear hHx0
      rcases hk with rfl | rfl
      · clear HKK C58 g3
        by_cases h0 : n = 0
        · subst h0
          go_wp2_with (first
          | (go_at_call 29; first
              | ((with_reducible refine (C44 _ _ P2.pr hbW2).mono ?_); rintro e w3 ⟨rfl, h3⟩; have P2 := P2.trans h3; have hbW2 := Nat.le_trans hbW2 h3.size; have R2 := h3.row R2 (by have := HbB.out; omega) (by decide); have X2 := h3.row X2 (by have := HbB.out; omega) (by decide); have g0 : w3.cell? ⟨w.heap.size, 0, none⟩ = some (.int .i64 5) := rowC_cell R2 0)
              | ((with_reducible refine (C58 _ _ P2.pr hbW2).mono ?_); rintro e w5 ⟨rfl, h5⟩; have P2 := P2.trans h5; have hbW2 := Nat.le_trans hbW2 h5.size; have R2 := h5.row R2 (by have := HbB.out; omega) (by decide); have X2 := h5.row X2 (by have := HbB.out; omega) (by decide)))
          | (go_at_call 15; ((with_reducible refine (HIX.out _ B b _ _ _ _ _ P2.pr hbW2 (HE.out.far P2.bel H10.out) H10.out (HX0.out.far P2.bel)).mono ?_); rintro e w6 ⟨rfl, h6⟩; have P2 := P2.trans h6; have R2 := h6.row R2 (by have := HbB.out; omega) (by decide)))
          | ((with_reducible show wpList _ _ _ (⟨some 38, .load _ (.tmp 9), _, _, _, _⟩ :: _) _ _); refine wpList_load_row rfl 27 _ rfl wr.heap.size rfl 27 #[.int .i64 x.kind, .string (str x.text), .slice y1 x.items.length yc1, .slice y2 x.keys.length yc2] (0, 0) _ X2 Tryz.underlying27 rfl HIF.out ?_))
          go_roundg (items.length - (0 + 1))
          case measure => rw [HN.out]; omega
          case rel => exact ⟨0 + 1, _, rfl, Lib.hid rfl, Lib.hid (by omega), Lib.hid P2, Lib.hid R2, Lib.hid (by
            rw [← HQ.out, HST.out]
            simp only [reduceIte, Int.reduceEq, putsL_app, putsL_one, List.nil_append]
            try rfl)⟩
        · have hpos : (0 : Int) < (n : Int) := by omega
          go_wp2_with (first
          | (go_at_call 29; first
              | ((with_reducible refine (C44 _ _ P2.pr hbW2).mono ?_); rintro e w3 ⟨rfl, h3⟩; have P2 := P2.trans h3; have hbW2 := Nat.le_trans hbW2 h3.size; have R2 := h3.row R2 (by have := HbB.out; omega) (by decide); have X2 := h3.row X2 (by have := HbB.out; omega) (by decide); have g0 : w3.cell? ⟨w.heap.size, 0, none⟩ = some (.int .i64 5) := rowC_cell R2 0)
              | ((with_reducible refine (C58 _ _ P2.pr hbW2).mono ?_); rintro e w5 ⟨rfl, h5⟩; have P2 := P2.trans h5; have hbW2 := Nat.le_trans hbW2 h5.size; have R2 := h5.row R2 (by have := HbB.out; omega) (by decide); have X2 := h5.row X2 (by have := HbB.out; omega) (by decide)))
          | (go_at_call 15; ((with_reducible refine (HIX.out _ B b _ _ _ _ _ P2.pr hbW2 (HE.out.far P2.bel H10.out) H10.out (HX0.out.far P2.bel)).mono ?_); rintro e w6 ⟨rfl, h6⟩; have P2 := P2.trans h6; have R2 := h6.row R2 (by have := HbB.out; omega) (by decide)))
          | ((with_reducible show wpList _ _ _ (⟨some 38, .load _ (.tmp 9), _, _, _, _⟩ :: _) _ _); refine wpList_load_row rfl 27 _ rfl wr.heap.size rfl 27 #[.int .i64 x.kind, .string (str x.text), .slice y1 x.items.length yc1, .slice y2 x.keys.length yc2] (0, 0) _ X2 Tryz.underlying27 rfl HIF.out ?_))
          go_roundg (items.length - (n + 1))
          case measure => rw [HN.out]; omega
          case rel => exact ⟨n + 1, _, rfl, Lib.hid rfl, Lib.hid (by omega), Lib.hid P2, Lib.hid R2, Lib.hid (by
            rw [← HQ.out, HST.out]
            simp only [h0, reduceIte, Int.reduceEq, putsL_app, putsL_one, List.nil_append]
            try rfl)⟩
      · have hkl := HKL.out rfl
        obtain ⟨adk, rfl, hFk, hck⟩ := HKK.out n (by omega)
        have HKC : Hid (∀ w', Below B w w' → w'.cell? (adk.add n) = some (.string (str (keys.getD n [])))) := Lib.hid fun w' hb => cell_chg (chg_of_below hb) hck (by rw [add_block]; omega)
        have gk := HKC.out _ P2.bel
        have hn2 : (n : Int) < (keys.length : Int) := by omega
        clear HKK HKL hck hFk hkl
        generalize keys.getD n [] = kt at *
        by_cases h0 : n = 0
        · subst h0
          replace gk : W2.cell? adk = some (.string (str kt)) := gk
          go_wp2_with (first
          | (go_at_call 29; first
              | ((with_reducible refine (C44 _ _ P2.pr hbW2).mono ?_); rintro e w3 ⟨rfl, h3⟩; have P2 := P2.trans h3; have hbW2 := Nat.le_trans hbW2 h3.size; have R2 := h3.row R2 (by have := HbB.out; omega) (by decide); have X2 := h3.row X2 (by have := HbB.out; omega) (by decide); have g0 : w3.cell? ⟨w.heap.size, 0, none⟩ = some (.int .i64 6) := rowC_cell R2 0; have g3 : w3.cell? ⟨w.heap.size, 3, none⟩ = some (.slice (some adk) keys.length c2) := rowC_cell R2 3; have gk := HKC.out _ P2.bel)
              | ((with_reducible refine (C58 _ _ P2.pr hbW2).mono ?_); rintro e w5 ⟨rfl, h5⟩; have P2 := P2.trans h5; have hbW2 := Nat.le_trans hbW2 h5.size; have R2 := h5.row R2 (by have := HbB.out; omega) (by decide); have X2 := h5.row X2 (by have := HbB.out; omega) (by decide)))
          | (go_at_call 15; ((with_reducible refine (HIX.out _ B b _ _ _ _ _ P2.pr hbW2 (HE.out.far P2.bel H10.out) H10.out (HX0.out.far P2.bel)).mono ?_); rintro e w6 ⟨rfl, h6⟩; have P2 := P2.trans h6; have R2 := h6.row R2 (by have := HbB.out; omega) (by decide)))
          | (go_at_call 30; ((with_reducible refine (pquoted_any (kt) P2.pr hbW2 H10.out (HE.out.far P2.bel H10.out).tz).mono ?_); rintro e w4 ⟨rfl, h4⟩; have P2 := P2.trans h4; have hbW2 := Nat.le_trans hbW2 h4.size; have R2 := h4.row R2 (by have := HbB.out; omega) (by decide); have X2 := h4.row X2 (by have := HbB.out; omega) (by decide)))
          | ((with_reducible show wpList _ _ _ (⟨some 38, .load _ (.tmp 9), _, _, _, _⟩ :: _) _ _); refine wpList_load_row rfl 27 _ rfl wr.heap.size rfl 27 #[.int .i64 x.kind, .string (str x.text), .slice y1 x.items.length yc1, .slice y2 x.keys.length yc2] (0, 0) _ X2 Tryz.underlying27 rfl HIF.out ?_))
          go_roundg (items.length - (0 + 1))
          case measure => rw [HN.out]; omega
          case rel => exact ⟨0 + 1, _, rfl, Lib.hid rfl, Lib.hid (by omega), Lib.hid P2, Lib.hid R2, Lib.hid (by
            rw [← HQ.out, HST.out]
            simp only [reduceIte, Int.reduceEq, putsL_app, putsL_one, List.nil_append]
            try rfl)⟩
        · have hpos : (0 : Int) < (n : Int) := by omega
          go_wp2_with (first
          | (go_at_call 29; first
              | ((with_reducible refine (C44 _ _ P2.pr hbW2).mono ?_); rintro e w3 ⟨rfl, h3⟩; have P2 := P2.trans h3; have hbW2 := Nat.le_trans hbW2 h3.size; have R2 := h3.row R2 (by have := HbB.out; omega) (by decide); have X2 := h3.row X2 (by have := HbB.out; omega) (by decide); have g0 : w3.cell? ⟨w.heap.size, 0, none⟩ = some (.int .i64 6) := rowC_cell R2 0; have g3 : w3.cell? ⟨w.heap.size, 3, none⟩ = some (.slice (some adk) keys.length c2) := rowC_cell R2 3; have gk := HKC.out _ P2.bel)
              | ((with_reducible refine (C58 _ _ P2.pr hbW2).mono ?_); rintro e w5 ⟨rfl, h5⟩; have P2 := P2.trans h5; have hbW2 := Nat.le_trans hbW2 h5.size; have R2 := h5.row R2 (by have := HbB.out; omega) (by decide); have X2 := h5.row X2 (by have := HbB.out; omega) (by decide)))
          | (go_at_call 15; ((with_reducible refine (HIX.out _ B b _ _ _ _ _ P2.pr hbW2 (HE.out.far P2.bel H10.out) H10.out (HX0.out.far P2.bel)).mono ?_); rintro e w6 ⟨rfl, h6⟩; have P2 := P2.trans h6; have R2 := h6.row R2 (by have := HbB.out; omega) (by decide)))
          | (go_at_call 30; ((with_reducible refine (pquoted_any (kt) P2.pr hbW2 H10.out (HE.out.far P2.bel H10.out).tz).mono ?_); rintro e w4 ⟨rfl, h4⟩; have P2 := P2.trans h4; have hbW2 := Nat.le_trans hbW2 h4.size; have R2 := h4.row R2 (by have := HbB.out; omega) (by decide); have X2 := h4.row X2 (by have := HbB.out; omega) (by decide)))
          | ((with_reducible show wpList _ _ _ (⟨some 38, .load _ (.tmp 9), _, _, _, _⟩ :: _) _ _); refine wpList_load_row rfl 27 _ rfl wr.heap.size rfl 27 #[.int .i64 x.kind, .string (str x.text), .slice y1 x.items.length yc1, .slice y2 x.keys.length yc2] (0, 0) _ X2 Tryz.underlying27 rfl HIF.out ?_))
          go_roundg (items.length - (n + 1))
          case measure => rw [HN.out]; omega
          case rel => exact ⟨n + 1, _, rfl, Lib.hid rfl, Lib.hid (by omega), Lib.hid P2, Lib.hid R2, Lib.hid (by
            rw [← HQ.out, HST.out]
            simp only [h0, reduceIte, Int.reduceEq, putsL_app, putsL_one, List.nil_append]
            try rfl)⟩
    · have hn' : ¬ (n : Int) < (items.length : Int) := by omega
      have hbq : B ≤ wr.heap.size := by have := HB.out; have := HP.out.size; omega
      have HE2 : Hid (acc = putsL (putL l [p]) (restP k items keys 0)) := Lib.hid (by rw [← HQ.out, restP_end (by omega)]; rfl)
      clear HQ hn
      go_wp2_with (go_at_call 29; ((with_reducible refine (C2 _ _ HP.out.pr hbq).mono ?_); rintro e w4 ⟨rfl, h4⟩))
      go_end0
      rw [HFin.out, ← HE2.out]
      exact ⟨rfl, HP.out.trans h4⟩
end Go.Proofs.YtcepemgalammhaaGreatDoor

/- Layer 11: a value is written. -/
namespace Go.Proofs.YtcepemgalammhaaGreatDoor
open Go.RowKit

mutual
/-- Numbers' texts, and lists, are no longer than memory takes. -/
def okJ : JV → Prop
  | .mk k t items keys => (k = 3 → t.length ≤ 70368744177664) ∧ (items.length ≤ 65536 ∧ keys.length ≤ 65536 ∧ ∀ y ∈ keys, y.length ≤ 262144) ∧ okJL items
def okJL : List JV → Prop
  | [] => True
  | x :: l => okJ x ∧ okJL l
end
theorem okJL_mem : ∀ {l : List JV}, okJL l → ∀ x ∈ l, okJ x
  | _ :: _, h, x, hx => by
    rw [okJL] at h
    rcases List.mem_cons.1 hx with rfl | hx
    · exact h.1
    · exact okJL_mem h.2 x hx
theorem okJL_of : ∀ {l : List JV}, (∀ x ∈ l, okJ x) → okJL l
  | [], _ => by rw [okJL]; trivial
  | x :: l, h => by rw [okJL]; exact ⟨h x (by simp), okJL_of fun y hy => h y (by simp [hy])⟩
theorem wordOf_le (k : Int) : (wordOf k).length ≤ 5 := by
  unfold wordOf
  split
  · decide
  split <;> decide
set_option maxRecDepth 100000 in
set_option maxHeartbeats 8000000 in
theorem pvalue_any : ∀ (n : Nat) (v : JV), SizeOf.sizeOf v ≤ n → may v → okJ v → PvOk v := by
  intro n
  induction n with
  | zero =>
    intro v hs
    obtain ⟨k, t, items, keys⟩ := v
    simp at hs
  | succ n ih =>
    intro v hs hm ho w B b l a b' c d h hB hE h10 hH
    obtain ⟨k, t, items, keys⟩ := v
    have IH : ∀ x ∈ items, PvOk x := fun x hx => by
      have := List.sizeOf_lt_of_mem hx
      simp at hs
      rw [may] at hm
      rw [okJ] at ho
      exact ih x (by omega) (mayL_mem hm.1 x hx) (okJL_mem ho.2.2 x hx)
    rw [okJ] at ho
    have hbB := h.lt
    have hH0 := hH
    obtain ⟨rfl, rfl, ht, ⟨x1, c1, rfl, hI⟩, ⟨x2, c2, rfl, hK⟩⟩ := hH.opens
    obtain ⟨W0, hW0⟩ : ∃ W0, W0 = w.alloc (.cells #[.int .i64 k, .string (str t), .slice x1 items.length c1, .slice x2 keys.length c2] 27) := ⟨_, rfl⟩
    have R0 : rowC W0 w.heap.size #[.int .i64 k, .string (str t), .slice x1 items.length c1, .slice x2 keys.length c2] 27 := by rw [hW0]; exact rowC_new w _ _
    have S0 : PrS w B b l W0 := by rw [hW0]; exact (PrS.start h).below hB ((Below.refl _ _).alloc (Nat.le_refl _) _)
    have s0 : B ≤ W0.heap.size := by have := S0.size; omega
    have E0 : Env W0 := hE.far S0.bel h10
    have H0 := hH0.far S0.bel
    have g0 : W0.cell? ⟨w.heap.size, 0, none⟩ = some (.int .i64 k) := rowC_cell R0 0
    have g1 : W0.cell? ⟨w.heap.size, 1, none⟩ = some (.string (str t)) := rowC_cell R0 1
    have HIF := Lib.hid info_V
    have HS := Lib.hid S0
    have HR := Lib.hid R0
    have HW0 := Lib.hid hW0
    have CP := fun (s : Bs) (hs : s.length ≤ 70368744177664) => put_any s S0.pr s0 hs
    by_cases h3 : k = 3
    · subst h3
      have hp : Hid (psJ (.mk 3 t items keys) = [t]) := Lib.hid (by rw [psJ]; rfl)
      have C := CP t (ho.1 rfl)
      clear CP hI hK hH hH0 H0 IH hm ho hs hE h10 R0 S0 hW0 E0 h ih
      go_enter Tryz.func15, Tryz.ntmps15
      go_upto_region 1 with (fail)
      rw [← HW0.out]
      go_wp2_with (go_at_call 29; ((with_reducible refine C.mono ?_); rintro e w3 ⟨rfl, h3⟩))
      go_end0
      rw [hp.out]
      exact ⟨rfl, HS.out.trans h3⟩
    by_cases h4 : k = 4
    · subst h4
      have hp : Hid (psJ (.mk 4 t items keys) = quoPs t) := Lib.hid (by rw [psJ]; rfl)
      have C := pquoted_any t S0.pr s0 h10 E0.tz
      clear CP hI hK hH hH0 H0 IH hm ho hs hE h10 R0 S0 hW0 E0 h ih
      go_enter Tryz.func15, Tryz.ntmps15
      go_upto_region 1 with (fail)
      rw [← HW0.out]
      go_wp2_with (go_at_call 30; ((with_reducible refine C.mono ?_); rintro e w3 ⟨rfl, h3⟩))
      go_end0
      rw [hp.out]
      exact ⟨rfl, HS.out.trans h3⟩
    by_cases h5 : k = 5
    · subst h5
      have hp : Hid (psJ (.mk 5 t items keys) = [91] :: (psL 5 true items keys ++ [[93]])) := Lib.hid (by rw [psJ]; rfl)
      have C := pparts_any (k := 5) (.inl rfl) (fun e => absurd e (by decide)) (Nat.le_trans ho.2.1.1 (by decide)) IH 91 93 ⟨#[91]⟩ ⟨#[93]⟩ rfl rfl S0.pr s0 E0 h10 H0
      clear CP hI hK hH hH0 H0 IH hm ho hs hE h10 R0 S0 hW0 E0 h ih
      go_enter Tryz.func15, Tryz.ntmps15
      go_upto_region 1 with (fail)
      rw [← HW0.out]
      go_wp2_with (first
        | (go_at_call 31; ((with_reducible refine C.mono ?_); rintro e w3 ⟨rfl, h3⟩))
        | ((with_reducible show wpList _ _ _ (⟨some 27, .load _ (.tmp 3), _, _, _, _⟩ :: _) _ _); refine wpList_load_row rfl 27 _ rfl w.heap.size rfl 27 _ (0, 0) _ HR.out Tryz.underlying27 rfl HIF.out ?_))
      go_end0
      rw [hp.out]
      exact ⟨rfl, HS.out.trans h3⟩
    by_cases h6 : k = 6
    · subst h6
      have hp : Hid (psJ (.mk 6 t items keys) = [123] :: (psL 6 true items keys ++ [[125]])) := Lib.hid (by rw [psJ]; rfl)
      have C := pparts_any (k := 6) (.inr rfl) (fun _ => (may_obj hm).2.2.1) (Nat.le_trans ho.2.1.1 (by decide)) IH 123 125 ⟨#[123]⟩ ⟨#[125]⟩ rfl rfl S0.pr s0 E0 h10 H0
      clear CP hI hK hH hH0 H0 IH hm ho hs hE h10 R0 S0 hW0 E0 h ih
      go_enter Tryz.func15, Tryz.ntmps15
      go_upto_region 1 with (fail)
      rw [← HW0.out]
      go_wp2_with (first
        | (go_at_call 31; ((with_reducible refine C.mono ?_); rintro e w3 ⟨rfl, h3⟩))
        | ((with_reducible show wpList _ _ _ (⟨some 32, .load _ (.tmp 3), _, _, _, _⟩ :: _) _ _); refine wpList_load_row rfl 27 _ rfl w.heap.size rfl 27 _ (0, 0) _ HR.out Tryz.underlying27 rfl HIF.out ?_))
      go_end0
      rw [hp.out]
      exact ⟨rfl, HS.out.trans h3⟩
    · have hk := (may_word hm h3 h4 h5 h6).1
      have hp : Hid (psJ (.mk k t items keys) = [wordOf k]) := Lib.hid (by rw [psJ, if_neg h3, if_neg h4, if_neg h5, if_neg h6])
      obtain ⟨i, hi, rfl⟩ : ∃ i : Nat, i < 3 ∧ k = (i : Int) := ⟨k.toNat, by omega, by omega⟩
      have gw := E0.words i hi
      have C := CP (wordOf (i : Int)) (Nat.le_trans (wordOf_le _) (by decide))
      generalize wordOf (i : Int) = wd at *
      have i3 : (i : Int) < 3 := by omega
      clear CP hI hK hH hH0 H0 IH hm ho hs hE h10 R0 S0 hW0 E0 h ih h3 h4 h5 h6 hk
      have n3 : ((i : Int) == 3) = false := by rw [beq_eq_false_iff_ne]; omega
      have n4 : ((i : Int) == 4) = false := by rw [beq_eq_false_iff_ne]; omega
      have n5 : ((i : Int) == 5) = false := by rw [beq_eq_false_iff_ne]; omega
      have n6 : ((i : Int) == 6) = false := by rw [beq_eq_false_iff_ne]; omega
      clear hi
      go_enter Tryz.func15, Tryz.ntmps15
      go_upto_region 1 with (fail)
      rw [← HW0.out]
      go_wp2_with (go_at_call 29; ((with_reducible refine C.mono ?_); rintro e w3 ⟨rfl, h3⟩))
      go_end0
      rw [hp.out]
      exact ⟨rfl, HS.out.trans h3⟩
end Go.Proofs.YtcepemgalammhaaGreatDoor

/- Layer 11: is a text a number; may keys be. -/
namespace Go.Proofs.YtcepemgalammhaaGreatDoor
open Go.RowKit Go.Maps

set_option maxRecDepth 100000 in
set_option maxHeartbeats 4000000 in
theorem isNumber_any (t : Bs) (ht : okT t) (w : World) : Calls Tryz.prog 19 #[.string (str t)] w fun e w' => e = .returned (.bool (isNumB t)) ∧ Below w.heap.size w w' := by
  obtain ⟨W0, hW0⟩ : ∃ W0, W0 = w.alloc (.cells #[.string (str t), .int .i64 0, .int .i64 0] 49) := ⟨_, rfl⟩
  have R0 : RdAt W0 w.heap.size t t 0 := ⟨by
    rw [hW0, Nat.sub_self]
    exact rowC_new w _ _, List.suffix_refl t⟩
  have B0 : Below w.heap.size w W0 := by rw [hW0]; exact (Below.refl _ _).alloc (Nat.le_refl _) _
  have C := number_any ht R0
  have HW0 := Lib.hid hW0
  have HB0 := Lib.hid B0
  have hsz := str_size t
  have HIs : Hid (isNumB t = match numP t with | .ok _ r => decide (r = []) | .bad _ _ => false) := Lib.hid rfl
  clear hW0 B0 R0 ht
  cases hn : numP t with
  | bad code x =>
    rw [hn] at C HIs
    unfold saysU errAt errV at C
    go_enter Tryz.func19, Tryz.ntmps19
    go_wp2_with ((go_at_call 35; (try rw [← HW0.out]); ((with_reducible refine C.mono ?_); rintro e w2 ⟨rfl, h2⟩)))
    go_ret
    rw [HIs.out]
    exact ⟨rfl, HB0.out.trans ((h2.2).below HB0.out.size (fun k hk e => by omega))⟩
  | ok u x =>
    rw [hn] at C HIs
    unfold saysU okP at C
    by_cases hx : x = []
    · subst hx
      go_enter Tryz.func19, Tryz.ntmps19
      go_wp2_with ((go_at_call 35; (try rw [← HW0.out]); ((with_reducible refine C.mono ?_); rintro e w2 ⟨rfl, h2, c2⟩; have g1 : w2.cell? ⟨w.heap.size, 1, none⟩ = some (.int .i64 (t.length : Int)) := h2.cell.2.1; have HC := Lib.hid c2; clear h2 c2)))
      go_ret
      rw [HIs.out]
      exact ⟨rfl, HB0.out.trans (HC.out.below HB0.out.size (fun k hk e => by omega))⟩
    · have hd : decide (x = []) = false := by simpa using hx
      go_enter Tryz.func19, Tryz.ntmps19
      go_wp2_with ((go_at_call 35; (try rw [← HW0.out]); ((with_reducible refine C.mono ?_); rintro e w2 ⟨rfl, h2, c2⟩; have g1 := h2.cell.2.1; have hne : (((t.length - x.length : Nat) : Int) == (t.length : Int)) = false := (by have h3 := h2.le; have h4 := List.length_pos_iff.2 hx; rw [beq_eq_false_iff_ne]; omega); generalize t.length - x.length = kk at g1 hne; have HC := Lib.hid c2; clear h2 c2)))
      go_ret
      rw [HIs.out]
      exact ⟨by rw [hd]; rfl, HB0.out.trans (HC.out.below HB0.out.size (fun k hk e => by omega))⟩
/-! ### Keys -/
theorem size_setS (l : List Bs) (t : Bs) : Maps.size (setS (l ++ [t])) = if t ∈ l then Maps.size (setS l) else Maps.size (setS l) + 1 := by
  have e : setS (l ++ [t]) = (setS l).put (litS t) (.agg []) := by unfold setS; rw [List.map_append]; exact setOf_snoc _ _ _
  rw [e, size_put (show Tidy (setS l) from tidy_setOf _ _ (fun x hx => by obtain ⟨_, _, rfl⟩ := List.mem_map.1 hx; trivial)), has_setS]
  by_cases h : t ∈ l
  · simp [h]
  · simp [h]
theorem size_nil : Maps.size (setS []) = 0 := rfl
theorem nodup_snoc (l : List Bs) (t : Bs) : (l ++ [t]).Nodup ↔ l.Nodup ∧ t ∉ l := by
  rw [List.nodup_append]
  constructor
  · rintro ⟨h1, _, h3⟩
    exact ⟨h1, fun hm => h3 t hm t (by simp) rfl⟩
  · rintro ⟨h1, h2⟩
    refine ⟨h1, by simp, ?_⟩
    intro a ha b hb
    simp at hb
    subst hb
    rintro rfl
    exact h2 ha
theorem size_take (l : List Bs) : ∀ n, n ≤ l.length → Maps.size (setS (l.take n)) ≤ n ∧ (Maps.size (setS (l.take n)) = n ↔ (l.take n).Nodup)
  | 0, _ => by rw [List.take_zero]; exact ⟨Nat.le_of_eq size_nil, by simp [size_nil]⟩
  | n + 1, h => by
    obtain ⟨h1, h2⟩ := size_take l n (by omega)
    rw [← List.take_append_getElem (show n < l.length by omega), size_setS, nodup_snoc, ← h2]
    split
    · rename_i hm
      exact ⟨by omega, ⟨fun e => by omega, fun e => absurd hm e.2⟩⟩
    · rename_i hm
      exact ⟨by omega, ⟨fun e => ⟨by omega, hm⟩, fun e => by omega⟩⟩
theorem size_keys (l : List Bs) : (Maps.size (setS l) : Int) = (l.length : Int) ↔ l.Nodup := by
  have := (size_take l l.length (Nat.le_refl _)).2
  rw [List.take_length] at this
  rw [← this]
  omega
theorem keysOk_false {l : List Bs} {x : Bs} (h : x ∈ l) (hx : Lib.validD x = false) : keysOk l = false := by
  unfold keysOk
  rw [Bool.and_eq_false_iff]
  exact .inl (List.all_eq_false.2 ⟨x, h, by rw [hx]; decide⟩)
theorem keysOk_end {l : List Bs} (h : ∀ x ∈ l, Lib.validD x = true) : keysOk l = decide l.Nodup := by
  unfold keysOk
  rw [List.all_eq_true.2 h, Bool.true_and]
set_option maxRecDepth 100000 in
set_option maxHeartbeats 4000000 in
theorem areKeys_any {w : World} {F : Nat → Prop} {keys : List Bs} {x2 : Option Addr} {c2 : Nat} (hE : Env w) (hF : ∀ k, F k → k < w.heap.size) (hl : keys.length ≤ 65536) (hs : ∀ y ∈ keys, y.length ≤ 262144)
    (hK : ∀ i, i < keys.length → ∃ ad, x2 = some ad ∧ F ad.block ∧ w.cell? (ad.add i) = some (.string (str (keys.getD i [])))) :
    Calls Tryz.prog 49 #[.slice x2 keys.length c2] w fun e w' => e = .returned (.bool (keysOk keys)) ∧ Below w.heap.size w w' := by
  obtain ⟨W0, hW0⟩ : ∃ W0, W0 = w.alloc (.map #[] 0) := ⟨_, rfl⟩
  have S0 : SetM W0 w.heap.size [] := by rw [hW0]; exact World.ownsMap_made w _ _ _
  have B0 : Below w.heap.size w W0 := by rw [hW0]; exact (Below.refl _ _).alloc (Nat.le_refl _) _
  have HW0 := Lib.hid hW0
  have HS0 := Lib.hid S0
  have HB0 := Lib.hid B0
  have HE := Lib.hid hE
  have HKK := Lib.hid hK
  have HSS := Lib.hid hs
  have HF := Lib.hid hF
  have HL := Lib.hid hl
  have hmm := @run_makeMap Tryz.prog
  clear hW0 S0 B0 hE hK hs hF
  go_enter Tryz.func49, Tryz.ntmps49
  go_wp2
  go_loopg [5, 9] keys.length (fun kk s5 s9 wr => ∃ (n : Nat), s9 = .int .i64 (n : Int) ∧ Hid (kk = keys.length - n) ∧ Hid (n ≤ keys.length) ∧ Hid (SetM wr w.heap.size (keys.take n)) ∧ Hid (∀ x ∈ keys.take n, Lib.validD x = true) ∧ Hid (Below w.heap.size w wr))
  case atStart => exact ⟨0, rfl, Lib.hid rfl, Lib.hid (Nat.zero_le _), Lib.hid (by rw [← HW0.out]; exact HS0.out), Lib.hid (by simp), Lib.hid (by rw [← HW0.out]; exact HB0.out)⟩
  case round =>
    obtain ⟨n, rfl, HN, HNL, HM, HV, HB⟩ := hrel
    by_cases hn : n < keys.length
    · obtain ⟨ad, rfl, hFk, hck⟩ := HKK.out n hn
      have gk : wr.cell? (ad.add n) = some (.string (str (keys.getD n []))) := cell_chg (chg_of_below HB.out) hck (by rw [add_block]; have := HF.out _ hFk; omega)
      have HX : Hid (keys.take (n + 1) = keys.take n ++ [keys.getD n []]) := Lib.hid (by
        rw [List.getD_eq_getElem?_getD, List.getElem?_eq_getElem hn]
        exact (List.take_append_getElem hn).symm)
      have hmem : keys.getD n [] ∈ keys := by rw [List.getD_eq_getElem?_getD, List.getElem?_eq_getElem hn]; exact List.getElem_mem hn
      have hkl := HSS.out _ hmem
      have hn1 : (n : Int) < (keys.length : Int) := by omega
      have CV := Tryz.utf8_ValidString (str (keys.getD n [])) wr (by rw [str_size]; omega) ((HE.out.below HB.out).tabs)
      rw [str_toList] at CV
      have HMEM := Lib.hid hmem
      have HKY := Lib.hid (key_str _ hkl)
      clear hck hFk hmem
      generalize keys.getD n [] = kt at *
      by_cases hv : Lib.validD kt = true
      · rw [hv] at CV
        have HVT := Lib.hid hv
        clear hv
        go_wp2_with (first
          | (go_at_call 48; ((with_reducible refine CV.mono ?_); rintro e w2 ⟨rfl, hb2⟩; have M2 : SetM w2 w.heap.size (keys.take n) := HM.out.chg (s := fun _ => False) (Chg.of_below hb2) id))
          | (at_mapUpdate; refine wpList_mapUpdate_own _ rfl _ _ _ 125 rfl 9 133 law_str Tryz.underlying125 (unitElem (H := Unit)) w.heap.size (keys.take n).length _ rfl M2 (by rw [List.length_take]; have := HL.out; unfold maxLen; omega) _ _ _ rfl rfl HKY.out _ [] unitElem_mk ?_; intro w3 hown3 hgrow3; have M3 := Lib.hid hown3; clear hown3))
        go_roundg (keys.length - (n + 1))
        case measure => rw [HN.out]; omega
        case rel => exact ⟨n + 1, rfl, Lib.hid rfl, Lib.hid (by omega), Lib.hid (by
            rw [HX.out]
            unfold SetM
            rw [List.length_append, List.length_singleton, show setS (keys.take n ++ [kt]) = (setS (keys.take n)).put (litS kt) (.agg []) by unfold setS; rw [List.map_append]; exact setOf_snoc _ _ _]
            exact M3.out), Lib.hid (by
            rw [HX.out]
            intro x hx
            rcases List.mem_append.1 hx with hx | hx
            · exact HV.out x hx
            · rw [List.mem_singleton.1 hx]; exact HVT.out), Lib.hid (by
            have hc : Chg (fun k => k = w.heap.size) w2 w3 := (Chg.refl _ w2).grown hgrow3 (fun k hk => .inl (Option.some.inj hk).symm)
            exact (HB.out.trans (hb2.mono HB.out.size)).trans (hc.below (Nat.le_trans HB.out.size hb2.size) (fun k hk e => by omega)))⟩
      · have hv' : Lib.validD kt = false := by simpa using hv
        rw [hv'] at CV
        have HF2 := Lib.hid (keysOk_false HMEM.out hv')
        clear hv hv'
        go_wp2_with (go_at_call 48; ((with_reducible refine CV.mono ?_); rintro e w2 ⟨rfl, hb2⟩))
        go_ret
        rw [HF2.out]
        exact ⟨rfl, HB.out.trans (hb2.mono HB.out.size)⟩
    · obtain rfl : n = keys.length := by have := HNL.out; omega
      have hmt := HM.out
      have hvv := HV.out
      rw [List.take_length] at hmt hvv
      have HE2 := Lib.hid (keysOk_end hvv)
      have HSZ := Lib.hid (size_keys keys)
      clear hvv hn
      go_wp2_with (at_len; refine wpList_len_own _ rfl _ 125 rfl 9 133 Tryz.underlying125 _ w.heap.size _ _ rfl hmt ?_)
      go_ret
      rw [HE2.out]
      have hz : ((Maps.size (setS keys) : Int) == (keys.length : Int)) = decide keys.Nodup := by rw [Bool.eq_iff_iff, beq_iff_eq, decide_eq_true_eq]; exact HSZ.out
      exact ⟨retBool hz, HB.out⟩
end Go.Proofs.YtcepemgalammhaaGreatDoor

/- Layer 11: may a value be, but for its items. -/
namespace Go.Proofs.YtcepemgalammhaaGreatDoor
open Go.RowKit

theorem emp_str (t : Bs) : (str t).toList.isEmpty = decide (t = []) := by
  unfold str
  rw [ByteArray.toList_mk]
  cases t <;> simp
set_option maxRecDepth 100000 in
set_option maxHeartbeats 8000000 in
theorem mayBe_any {w : World} {F : Nat → Prop} {k : Int} {t : Bs} {items : List JV} {keys : List Bs} {a b c d : Value} (hE : Env w) (hF : ∀ j, F j → j < w.heap.size) (hl : keys.length ≤ 65536) (hs : ∀ y ∈ keys, y.length ≤ 262144)
    (hH : HoldsC w F (.mk k t items keys) a b c d) :
    Calls Tryz.prog 28 #[.agg #[a, b, c, d]] w fun e w' => e = .returned (.bool (aloneK k t items.length keys)) ∧ Below w.heap.size w w' := by
  obtain ⟨rfl, rfl, ht, ⟨x1, c1, rfl, hI⟩, ⟨x2, c2, rfl, hK⟩⟩ := hH.opens
  obtain ⟨W0, hW0⟩ : ∃ W0, W0 = w.alloc (.cells #[.int .i64 k, .string (str t), .slice x1 items.length c1, .slice x2 keys.length c2] 27) := ⟨_, rfl⟩
  have R0 : rowC W0 w.heap.size #[.int .i64 k, .string (str t), .slice x1 items.length c1, .slice x2 keys.length c2] 27 := by rw [hW0]; exact rowC_new w _ _
  have B0 : Below w.heap.size w W0 := by rw [hW0]; exact (Below.refl _ _).alloc (Nat.le_refl _) _
  have E0 : Env W0 := hE.below B0
  have CK := areKeys_any (c2 := c2) E0 (F := F) (x2 := x2) (keys := keys) (fun j hj => Nat.lt_of_lt_of_le (hF j hj) B0.size) hl hs (fun i hi => by
    obtain ⟨ad, h1, h2, h3⟩ := hK i hi
    exact ⟨ad, h1, h2, cell_chg (s := fun _ => False) (Chg.of_below B0) h3 id⟩)
  have CN := isNumber_any t (show okT t by unfold okT; omega) W0
  have CV := Tryz.utf8_ValidString (str t) W0 (by rw [str_size]; omega) E0.tabs
  rw [str_toList] at CV
  have g0 : W0.cell? ⟨w.heap.size, 0, none⟩ = some (.int .i64 k) := rowC_cell R0 0
  have g1 : W0.cell? ⟨w.heap.size, 1, none⟩ = some (.string (str t)) := rowC_cell R0 1
  have g2 : W0.cell? ⟨w.heap.size, 2, none⟩ = some (.slice x1 items.length c1) := rowC_cell R0 2
  have g3 : W0.cell? ⟨w.heap.size, 3, none⟩ = some (.slice x2 keys.length c2) := rowC_cell R0 3
  have HW0 := Lib.hid hW0
  have HB0 := Lib.hid B0
  have fin : ∀ {W2 : World}, Below W0.heap.size W0 W2 → Below w.heap.size w W2 := fun hb => B0.trans (hb.mono B0.size)
  have het := emp_str t
  clear hW0 R0 B0 E0 hE hI hK hH hl hs ht
  generalize items.length = n at *
  obtain ⟨m, hm⟩ : ∃ m, keys.length = m := ⟨_, rfl⟩
  rw [hm] at g3 HW0 CK ⊢
  have HM := Lib.hid hm
  by_cases h6 : k = 6
  · subst h6
    by_cases h0 : t = []
    · by_cases hkn : m = n
      · have HA : Hid (aloneK 6 t n keys = keysOk keys) := Lib.hid (by unfold aloneK; rw [if_neg (by omega), if_neg (by decide), if_neg (by decide), if_neg (by decide), if_pos rfl]; simp [h0, hm, hkn])
        have hz : (str t).toList.isEmpty = true := by rw [het]; simpa using h0
        have hq : ((m : Int) == (n : Int)) = true := by rw [beq_iff_eq]; omega
        clear hm het h0 hkn CN CV
        go_enter Tryz.func28, Tryz.ntmps28
        go_upto_region 1 with (fail)
        rw [← HW0.out]
        go_wp2_with (go_at_call 49; ((with_reducible refine CK.mono ?_); rintro e w2 ⟨rfl, hb2⟩))
        go_ret
        rw [HA.out]
        exact ⟨rfl, fin hb2⟩
      · have HA : Hid (aloneK 6 t n keys = false) := Lib.hid (by unfold aloneK; rw [if_neg (by omega), if_neg (by decide), if_neg (by decide), if_neg (by decide), if_pos rfl]; simp [hm, hkn])
        have hz : (str t).toList.isEmpty = true := by rw [het]; simpa using h0
        have hq : ((m : Int) == (n : Int)) = false := by rw [beq_eq_false_iff_ne]; omega
        clear hm het h0 hkn CN CV CK
        go_enter Tryz.func28, Tryz.ntmps28
        go_upto_region 1 with (fail)
        rw [← HW0.out]
        go_wp2
        go_ret
        rw [HA.out]
        exact ⟨rfl, HB0.out⟩
    · have HA : Hid (aloneK 6 t n keys = false) := Lib.hid (by unfold aloneK; rw [if_neg (by omega), if_neg (by decide), if_neg (by decide), if_neg (by decide), if_pos rfl]; simp [h0])
      have hz : (str t).toList.isEmpty = false := by rw [het]; simpa using h0
      clear hm het h0 CN CV CK
      go_enter Tryz.func28, Tryz.ntmps28
      go_upto_region 1 with (fail)
      rw [← HW0.out]
      go_wp2
      go_ret
      rw [HA.out]
      exact ⟨rfl, HB0.out⟩
  by_cases h5 : k = 5
  · subst h5
    by_cases hk0 : 0 < m
    · have HA : Hid (aloneK 5 t n keys = false) := Lib.hid (by unfold aloneK; rw [if_pos (.inl ⟨by decide, by omega⟩)])
      have hk1 : (0 : Int) < (m : Int) := by omega
      clear hm het hk0 CN CV CK
      go_enter Tryz.func28, Tryz.ntmps28
      go_upto_region 1 with (fail)
      rw [← HW0.out]
      go_wp2
      go_ret
      rw [HA.out]
      exact ⟨rfl, HB0.out⟩
    · have HA : Hid (aloneK 5 t n keys = decide (t = [])) := Lib.hid (by unfold aloneK; rw [if_neg (by omega), if_pos (by decide)])
      have hk1 : ¬ (0 : Int) < (m : Int) := by omega
      have HZ := Lib.hid het
      clear hm het hk0 CN CV CK
      go_enter Tryz.func28, Tryz.ntmps28
      go_upto_region 1 with (fail)
      rw [← HW0.out]
      go_wp2
      go_ret
      rw [HA.out]
      exact ⟨retBool HZ.out, HB0.out⟩
  have n6 : (k != 6) = true := by rw [bne_iff_ne]; exact h6
  have n5 : (k != 5) = true := by rw [bne_iff_ne]; exact h5
  by_cases hk0 : 0 < m
  · have HA : Hid (aloneK k t n keys = false) := Lib.hid (by unfold aloneK; rw [if_pos (.inl ⟨h6, by omega⟩)])
    have hk1 : (0 : Int) < (m : Int) := by omega
    clear hm het hk0 CN CV CK h5 h6
    go_enter Tryz.func28, Tryz.ntmps28
    go_upto_region 1 with (fail)
    rw [← HW0.out]
    go_wp2
    go_ret
    rw [HA.out]
    exact ⟨rfl, HB0.out⟩
  have hk1 : ¬ (0 : Int) < (m : Int) := by omega
  by_cases hn0 : 0 < n
  · have HA : Hid (aloneK k t n keys = false) := Lib.hid (by unfold aloneK; rw [if_pos (.inr ⟨h6, h5, hn0⟩)])
    have hn1 : (0 : Int) < (n : Int) := by omega
    clear hm het hk0 hn0 CN CV CK h5 h6
    go_enter Tryz.func28, Tryz.ntmps28
    go_upto_region 1 with (fail)
    rw [← HW0.out]
    go_wp2
    go_ret
    rw [HA.out]
    exact ⟨rfl, HB0.out⟩
  have hn1 : ¬ (0 : Int) < (n : Int) := by omega
  have HN := Lib.hid (show ¬ ((k ≠ 6 ∧ 0 < keys.length) ∨ (k ≠ 6 ∧ k ≠ 5 ∧ 0 < n)) by omega)
  by_cases h0 : k = 0
  · subst h0
    have HA : Hid (aloneK 0 t n keys = decide (t = [])) := Lib.hid (by unfold aloneK; rw [if_neg HN.out, if_pos (by decide)])
    have HZ := Lib.hid het
    clear hm het hk0 hn0 CN CV CK h5 h6 n5 n6
    go_enter Tryz.func28, Tryz.ntmps28
    go_upto_region 1 with (fail)
    rw [← HW0.out]
    go_wp2
    go_ret
    rw [HA.out]
    exact ⟨retBool HZ.out, HB0.out⟩
  by_cases h1 : k = 1
  · subst h1
    have HA : Hid (aloneK 1 t n keys = decide (t = [])) := Lib.hid (by unfold aloneK; rw [if_neg HN.out, if_pos (by decide)])
    have HZ := Lib.hid het
    clear hm het hk0 hn0 CN CV CK h5 h6 n5 n6
    go_enter Tryz.func28, Tryz.ntmps28
    go_upto_region 1 with (fail)
    rw [← HW0.out]
    go_wp2
    go_ret
    rw [HA.out]
    exact ⟨retBool HZ.out, HB0.out⟩
  by_cases h2 : k = 2
  · subst h2
    have HA : Hid (aloneK 2 t n keys = decide (t = [])) := Lib.hid (by unfold aloneK; rw [if_neg HN.out, if_pos (by decide)])
    have HZ := Lib.hid het
    clear hm het hk0 hn0 CN CV CK h5 h6 n5 n6
    go_enter Tryz.func28, Tryz.ntmps28
    go_upto_region 1 with (fail)
    rw [← HW0.out]
    go_wp2
    go_ret
    rw [HA.out]
    exact ⟨retBool HZ.out, HB0.out⟩
  by_cases h3 : k = 3
  · subst h3
    have HA : Hid (aloneK 3 t n keys = isNumB t) := Lib.hid (by unfold aloneK; rw [if_neg HN.out, if_neg (by decide), if_pos rfl])
    clear hm het hk0 hn0 CV CK h5 h6 n5 n6
    go_enter Tryz.func28, Tryz.ntmps28
    go_upto_region 1 with (fail)
    rw [← HW0.out]
    go_wp2_with (go_at_call 19; ((with_reducible refine CN.mono ?_); rintro e w2 ⟨rfl, hb2⟩))
    go_ret
    rw [HA.out]
    exact ⟨rfl, fin hb2⟩
  by_cases h4 : k = 4
  · subst h4
    have HA : Hid (aloneK 4 t n keys = Lib.validD t) := Lib.hid (by unfold aloneK; rw [if_neg HN.out, if_neg (by decide), if_neg (by decide), if_pos rfl])
    clear hm het hk0 hn0 CN CK h5 h6 n5 n6
    go_enter Tryz.func28, Tryz.ntmps28
    go_upto_region 1 with (fail)
    rw [← HW0.out]
    go_wp2_with (go_at_call 48; ((with_reducible refine CV.mono ?_); rintro e w2 ⟨rfl, hb2⟩))
    go_ret
    rw [HA.out]
    exact ⟨rfl, fin hb2⟩
  · have HA : Hid (aloneK k t n keys = false) := Lib.hid (by unfold aloneK; rw [if_neg HN.out, if_neg (by omega), if_neg h3, if_neg h4, if_neg h6])
    have m0 : (k == 0) = false := by rw [beq_eq_false_iff_ne]; exact h0
    have m1 : (k == 1) = false := by rw [beq_eq_false_iff_ne]; exact h1
    have m2 : (k == 2) = false := by rw [beq_eq_false_iff_ne]; exact h2
    have m3 : (k == 3) = false := by rw [beq_eq_false_iff_ne]; exact h3
    have m4 : (k == 4) = false := by rw [beq_eq_false_iff_ne]; exact h4
    have m5 : (k == 5) = false := by rw [beq_eq_false_iff_ne]; exact h5
    have m6 : (k == 6) = false := by rw [beq_eq_false_iff_ne]; exact h6
    clear hm het hk0 hn0 CN CV CK h0 h1 h2 h3 h4 h5 h6
    go_enter Tryz.func28, Tryz.ntmps28
    go_upto_region 1 with (fail)
    rw [← HW0.out]
    go_wp2
    go_ret
    rw [HA.out]
    exact ⟨rfl, HB0.out⟩
end Go.Proofs.YtcepemgalammhaaGreatDoor

/- Layer 11: how deep a value is. -/
namespace Go.Proofs.YtcepemgalammhaaGreatDoor
open Go.RowKit

/-- What depth answers. -/
def depD : Option Nat → Int
  | some d => d
  | none => 0
def depO : Option Nat → Bool
  | some _ => true
  | none => false
theorem maxO_le {l : List (Option Nat)} {n m k : Nat} (h : maxO n l = some m) (hn : n ≤ k) (hl : ∀ x ∈ l, ∀ d, x = some d → d ≤ k) : m ≤ k := by
  induction l generalizing n with
  | nil => rw [maxO, Option.some.injEq] at h; omega
  | cons x l ih =>
    cases x with
    | none => cases h
    | some d =>
      rw [maxO] at h
      have := hl (some d) (by simp) d rfl
      exact ih h (by omega) (fun y hy => hl y (by simp [hy]))
theorem depthF_le : ∀ (n : Nat) (v : JV) (m : Nat), depthF n v = some m → m ≤ n
  | 0, v, m, h => by
    rw [depthF] at h
    split at h
    · rw [Option.some.injEq] at h; omega
    · cases h
  | n + 1, v, m, h => by
    rw [depthF] at h
    split at h
    · cases hx : maxO 0 (v.items.map (depthF n)) with
      | none => rw [hx] at h; cases h
      | some d =>
        rw [hx, Option.map_some, Option.some.injEq] at h
        have := maxO_le hx (Nat.zero_le n) (fun x hx d hd => by
          obtain ⟨y, _, rfl⟩ := List.mem_map.1 hx
          exact depthF_le n y d hd)
        unfold up at h
        split at h <;> omega
    · cases h
/-- What is asked of 'depth' at one value. -/
def DpOk (v : JV) : Prop := ∀ (n : Nat) (w : World) (x : Int) (a b c d : Value), n ≤ 65536 → x = (n : Int) → Env w → HoldsC w (fun k => k < w.heap.size) v a b c d →
  Calls Tryz.prog 14 #[.agg #[a, b, c, d], .int .i64 x] w fun e w' => e = .returned (.tuple #[.int .i64 (depD (depthF n v)), .bool (depO (depthF n v))]) ∧ Below w.heap.size w w'
theorem HoldsC.on {w w' : World} {v : JV} {a b c d : Value} (h : HoldsC w (fun k => k < w.heap.size) v a b c d) (hb : Below w.heap.size w w') : HoldsC w' (fun k => k < w'.heap.size) v a b c d :=
  HoldsC.mono (fun _ _ hlt => hlt) _ _ _ _ _ (HoldsC.chg (s := fun _ => False) (Chg.of_below hb) (fun _ _ => id) _ _ _ _ _ h)
set_option maxRecDepth 100000 in
set_option maxHeartbeats 8000000 in
theorem depth_any : ∀ (s : Nat) (v : JV), SizeOf.sizeOf v ≤ s → okJ v → DpOk v := by
  intro s
  induction s with
  | zero =>
    intro v hs
    obtain ⟨k, t, items, keys⟩ := v
    simp at hs
  | succ s ih =>
    intro v hs ho n w x a b c d hn hx hE hH
    obtain ⟨k, t, items, keys⟩ := v
    have IH : ∀ y ∈ items, DpOk y := fun y hy => by
      have := List.sizeOf_lt_of_mem hy
      simp at hs
      rw [okJ] at ho
      exact ih y (by omega) (okJL_mem ho.2.2 y hy)
    unfold DpOk at IH
    rw [okJ] at ho
    have hH0 := hH
    obtain ⟨rfl, rfl, ht, ⟨x1, c1, rfl, hI⟩, ⟨x2, c2, rfl, hK⟩⟩ := hH.opens
    obtain ⟨W0, hW0⟩ : ∃ W0, W0 = w.alloc (.cells #[.int .i64 k, .string (str t), .slice x1 items.length c1, .slice x2 keys.length c2] 27) := ⟨_, rfl⟩
    have R0 : rowC W0 w.heap.size #[.int .i64 k, .string (str t), .slice x1 items.length c1, .slice x2 keys.length c2] 27 := by rw [hW0]; exact rowC_new w _ _
    have B0 : Below w.heap.size w W0 := by rw [hW0]; exact (Below.refl _ _).alloc (Nat.le_refl _) _
    have s0 : W0.heap.size = w.heap.size + 1 := by rw [hW0]; exact size_alloc _ _
    have E0 : Env W0 := hE.below B0
    have CM := mayBe_any E0 (fun j hj => hj) ho.2.1.2.1 ho.2.1.2.2 (hH0.on B0)
    have hal : alone (.mk k t items keys) = aloneK k t items.length keys := rfl
    have HIF := Lib.hid info_V
    have HW0 := Lib.hid hW0
    have HB0 := Lib.hid B0
    have HR0 := Lib.hid R0
    have HE := Lib.hid hE
    have HII := Lib.hid hI
    have HIH := Lib.hid IH
    have Hs0 := Lib.hid s0
    have HLN := Lib.hid ho.2.1.1
    clear hW0 B0 E0 hE hI hK hH hH0 ih ho s0 IH ht hs
    cases ha : aloneK k t items.length keys with
    | false =>
      rw [ha] at CM
      have HD : Hid (depthF n (.mk k t items keys) = none) := Lib.hid (by
        cases n with
        | zero => rw [depthF, hal, ha]; rfl
        | succ n => rw [depthF, hal, ha]; rfl)
      clear hx hn
      go_enter Tryz.func14, Tryz.ntmps14
      go_upto_region 1 with (fail)
      rw [← HW0.out]
      go_wp2_with (first
        | ((with_reducible show wpList _ _ _ (⟨some 10, .load _ (.tmp 2), _, _, _, _⟩ :: _) _ _); refine wpList_load_row rfl 27 _ rfl w.heap.size rfl 27 #[.int .i64 k, .string (str t), .slice x1 items.length c1, .slice x2 keys.length c2] (0, 0) _ HR0.out Tryz.underlying27 rfl HIF.out ?_)
        | (go_at_call 28; ((with_reducible refine CM.mono ?_); rintro e w2 ⟨rfl, hb2⟩)))
      go_ret2
      rw [HD.out]
      exact ⟨rfl, HB0.out.trans (hb2.mono HB0.out.size)⟩
    | true =>
      rw [ha] at CM
      cases n with
      | zero =>
        have HD : Hid (depthF 0 (.mk k t items keys) = some 0) := Lib.hid (by rw [depthF, hal, ha]; rfl)
        obtain rfl : x = 0 := hx
        clear hn
        go_enter Tryz.func14, Tryz.ntmps14
        go_upto_region 1 with (fail)
        rw [← HW0.out]
        go_wp2_with (first
          | ((with_reducible show wpList _ _ _ (⟨some 10, .load _ (.tmp 2), _, _, _, _⟩ :: _) _ _); refine wpList_load_row rfl 27 _ rfl w.heap.size rfl 27 #[.int .i64 k, .string (str t), .slice x1 items.length c1, .slice x2 keys.length c2] (0, 0) _ HR0.out Tryz.underlying27 rfl HIF.out ?_)
          | (go_at_call 28; ((with_reducible refine CM.mono ?_); rintro e w2 ⟨rfl, hb2⟩)))
        go_ret2
        rw [HD.out]
        exact ⟨rfl, HB0.out.trans (hb2.mono HB0.out.size)⟩
      | succ n =>
        have HD : Hid (depthF (n + 1) (.mk k t items keys) = (maxO 0 (items.map (depthF n))).map (up (.mk k t items keys))) := Lib.hid (by rw [depthF, hal, ha]; rfl)
        have HUP : Hid (∀ m, up (.mk k t items keys) m = if k = 5 ∨ k = 6 then m + 1 else m) := Lib.hid fun m => rfl
        have hx0 : (x == 0) = false := by rw [beq_eq_false_iff_ne]; omega
        have hx1 : x ≤ 65536 := by omega
        have hx2 : 0 < x := by omega
        have HX1 : Hid (x - 1 = (n : Int)) := Lib.hid (by omega)
        have HNN : Hid (n ≤ 65536) := Lib.hid (by omega)
        clear hx hn hal ha
        go_enter Tryz.func14, Tryz.ntmps14
        go_upto_region 1 with (fail)
        rw [← HW0.out]
        go_upto_region 5 with (first
          | ((with_reducible show wpList _ _ _ (⟨some 10, .load _ (.tmp 2), _, _, _, _⟩ :: _) _ _); refine wpList_load_row rfl 27 _ rfl w.heap.size rfl 27 #[.int .i64 k, .string (str t), .slice x1 items.length c1, .slice x2 keys.length c2] (0, 0) _ HR0.out Tryz.underlying27 rfl HIF.out ?_)
          | (go_at_call 28; ((with_reducible refine CM.mono ?_); rintro e w2 ⟨rfl, hb2⟩)))
        have R2 : rowC w2 w.heap.size #[.int .i64 k, .string (str t), .slice x1 items.length c1, .slice x2 keys.length c2] 27 := rowC_below HR0.out hb2 (rowC_lt HR0.out)
        have B2 := HB0.out.trans (hb2.mono HB0.out.size)
        have g2 : w2.cell? ⟨w.heap.size, 2, none⟩ = some (.slice x1 items.length c1) := rowC_cell R2 2
        clear CM
        go_wp2
        go_loopg [4, 18] items.length (fun kk s4 s18 wr => ∃ (j acc : Nat), s18 = .int .i64 (j : Int) ∧ s4 = .int .i64 (acc : Int) ∧ Hid (kk = items.length - j) ∧ Hid (j ≤ items.length) ∧ Hid (acc ≤ n) ∧ Hid (maxO acc ((items.drop j).map (depthF n)) = maxO 0 (items.map (depthF n))) ∧ Hid (Below w.heap.size w wr) ∧ Hid (rowC wr w.heap.size #[.int .i64 k, .string (str t), .slice x1 items.length c1, .slice x2 keys.length c2] 27) ∧ Hid (w.heap.size < wr.heap.size))
        case atStart => exact ⟨0, 0, rfl, rfl, Lib.hid rfl, Lib.hid (Nat.zero_le _), Lib.hid (Nat.zero_le _), Lib.hid rfl, Lib.hid B2, Lib.hid R2, Lib.hid (rowC_lt R2)⟩
        case round =>
          obtain ⟨j, acc, rfl, rfl, HJ, HJL, HAC, HMX, HB, HR, HZ⟩ := hrel
          clear g2 R2 B2
          have hacc : (acc : Int) ≤ 65536 := by have := HAC.out; have := HNN.out; omega
          by_cases hj : j < items.length
          · obtain ⟨y, hy⟩ : ∃ y, items[j]? = some y := ⟨_, List.getElem?_eq_getElem hj⟩
            obtain ⟨ad, a1, a2, a3, a4, rfl, hF, h4c, hHy⟩ := HII.out j y hy
            obtain ⟨rfl, rfl, ⟨y1, yc1, rfl⟩, y2, yc2, rfl⟩ := hHy.form
            have HST : Hid (items.drop j = y :: items.drop (j + 1)) := Lib.hid (by
              rw [List.drop_eq_getElem_cons hj]
              congr 1
              exact (List.getElem?_eq_some_iff.1 hy).2)
            have L4 := Lib.hid (h4c.chg (chg_of_below HB.out) (by rw [add_block]; omega))
            obtain ⟨W2, hW2⟩ : ∃ W2, W2 = wr.alloc (.cells (row4 y.kind (str y.text) y1 y.items.length yc1 y2 y.keys.length yc2) 27) := ⟨_, rfl⟩
            have B2 : Below w.heap.size w W2 := by rw [hW2]; exact HB.out.alloc (by have := HZ.out; omega) _
            have R2 : rowC W2 w.heap.size #[.int .i64 k, .string (str t), .slice (some ad) items.length c1, .slice x2 keys.length c2] 27 := by rw [hW2]; exact rowC_alloc HR.out _
            have X2 : rowC W2 wr.heap.size (row4 y.kind (str y.text) y1 y.items.length yc1 y2 y.keys.length yc2) 27 := by rw [hW2]; exact rowC_new _ _ _
            have CD := HIH.out y (List.mem_of_getElem? hy) n W2 (x - 1) _ _ _ _ HNN.out HX1.out (HE.out.below B2) (hHy.on B2)
            have hlen2 : (j : Int) < (items.length : Int) := by omega
            have hlen3 : (j : Int) + 1 ≤ 65536 := by have := HLN.out; omega
            have HW2 := Lib.hid hW2
            have HX2 := Lib.hid X2
            have HR2 := Lib.hid R2
            have HB2 := Lib.hid B2
            have HLE := Lib.hid (fun dd (hd : depthF n y = some dd) => depthF_le n y dd hd)
            clear hW2 R2 X2 B2 hy hF h4c hHy hj
            cases hdy : depthF n y with
            | none =>
              rw [hdy] at CD
              have HEN : Hid (maxO 0 (items.map (depthF n)) = none) := Lib.hid (by rw [← HMX.out, HST.out, List.map_cons, hdy]; rfl)
              simp only [depD, depO] at CD
              go_wp2_with (first
                | ((with_reducible show wpList _ _ _ (⟨some 21, .load _ (.tmp 20), _, _, _, _⟩ :: _) _ _); refine wpList_load_at rfl 27 _ rfl (ad.add (j * 4)) rfl [.int .i64 y.kind, .string (str y.text), .slice y1 y.items.length yc1, .slice y2 y.keys.length yc2] _ L4.out Tryz.underlying27 rfl HIF.out ?_)
                | ((with_reducible show wpList _ _ _ (⟨none, .store _ (.tmp 7) (.tmp 21), _, _, _, _⟩ :: _) _ _); refine wpList_store_last rfl 27 _ _ rfl wr.heap.size (row4 y.kind (str y.text) y1 y.items.length yc1 y2 y.keys.length yc2) rfl rfl 27 zeroV4 rfl HIF.out rfl (row4_all _ _ _ _ _ _ _ _) ?_; rw [← HW2.out])
                | ((with_reducible show wpList _ _ _ (⟨some 23, .load _ (.tmp 7), _, _, _, _⟩ :: _) _ _); refine wpList_load_row rfl 27 _ rfl wr.heap.size rfl 27 #[.int .i64 y.kind, .string (str y.text), .slice y1 y.items.length yc1, .slice y2 y.keys.length yc2] (0, 0) _ HX2.out Tryz.underlying27 rfl HIF.out ?_)
                | (go_at_call 14; ((with_reducible refine CD.mono ?_); rintro e w3 ⟨rfl, hb3⟩)))
              go_ret2
              rw [HD.out, HEN.out]
              exact ⟨rfl, HB2.out.trans (hb3.mono HB2.out.size)⟩
            | some dd =>
              rw [hdy] at CD
              have hdl := HLE.out dd hdy
              have HEN : Hid (maxO (max acc dd) ((items.drop (j + 1)).map (depthF n)) = maxO 0 (items.map (depthF n))) := Lib.hid (by rw [← HMX.out, HST.out, List.map_cons, hdy]; rfl)
              simp only [depD, depO] at CD
              have hdd : (dd : Int) ≤ 65536 := by have := HNN.out; omega
              have HDL := Lib.hid hdl
              clear hdl
              go_wp2_with (first
                | ((with_reducible show wpList _ _ _ (⟨some 21, .load _ (.tmp 20), _, _, _, _⟩ :: _) _ _); refine wpList_load_at rfl 27 _ rfl (ad.add (j * 4)) rfl [.int .i64 y.kind, .string (str y.text), .slice y1 y.items.length yc1, .slice y2 y.keys.length yc2] _ L4.out Tryz.underlying27 rfl HIF.out ?_)
                | ((with_reducible show wpList _ _ _ (⟨none, .store _ (.tmp 7) (.tmp 21), _, _, _, _⟩ :: _) _ _); refine wpList_store_last rfl 27 _ _ rfl wr.heap.size (row4 y.kind (str y.text) y1 y.items.length yc1 y2 y.keys.length yc2) rfl rfl 27 zeroV4 rfl HIF.out rfl (row4_all _ _ _ _ _ _ _ _) ?_; rw [← HW2.out])
                | ((with_reducible show wpList _ _ _ (⟨some 23, .load _ (.tmp 7), _, _, _, _⟩ :: _) _ _); refine wpList_load_row rfl 27 _ rfl wr.heap.size rfl 27 #[.int .i64 y.kind, .string (str y.text), .slice y1 y.items.length yc1, .slice y2 y.keys.length yc2] (0, 0) _ HX2.out Tryz.underlying27 rfl HIF.out ?_)
                | (go_at_call 14; ((with_reducible refine CD.mono ?_); rintro e w3 ⟨rfl, hb3⟩)))
              go_roundg (items.length - (j + 1))
              case measure => rw [HJ.out]; omega
              case rel => exact ⟨j + 1, max acc dd, rfl, congrArg (Value.int .i64) (by omega), Lib.hid rfl, Lib.hid (by omega), Lib.hid (by have := HAC.out; have := HDL.out; omega), HEN, Lib.hid (HB2.out.trans (hb3.mono HB2.out.size)), Lib.hid (rowC_below HR2.out hb3 (rowC_lt HR2.out)), Lib.hid (Nat.lt_of_lt_of_le (rowC_lt HR2.out) hb3.size)⟩
          · have hj' : ¬ (j : Int) < (items.length : Int) := by omega
            have hdr : items.drop j = [] := List.drop_eq_nil_of_le (by omega)
            have HEN : Hid (maxO 0 (items.map (depthF n)) = some acc) := Lib.hid (by rw [← HMX.out, hdr]; rfl)
            have g0 : wr.cell? ⟨w.heap.size, 0, none⟩ = some (.int .i64 k) := rowC_cell HR.out 0
            clear hdr hj
            by_cases h5 : k = 5
            · subst h5
              go_wp2
              go_ret2
              rw [HD.out, HEN.out, Option.map_some, HUP.out, if_pos (by simp)]
              exact ⟨rfl, HB.out⟩
            by_cases h6 : k = 6
            · subst h6
              go_wp2
              go_ret2
              rw [HD.out, HEN.out, Option.map_some, HUP.out, if_pos (by simp)]
              exact ⟨rfl, HB.out⟩
            · have m5 : (k == 5) = false := by rw [beq_eq_false_iff_ne]; exact h5
              have m6 : (k == 6) = false := by rw [beq_eq_false_iff_ne]; exact h6
              have HK := Lib.hid (show ¬ (k = 5 ∨ k = 6) by omega)
              clear h5 h6
              go_wp2
              go_ret2
              rw [HD.out, HEN.out, Option.map_some, HUP.out, if_neg HK.out]
              exact ⟨rfl, HB.out⟩
end Go.Proofs.YtcepemgalammhaaGreatDoor

/- Layer 11: Same, of values that are the same. -/
namespace Go.Proofs.YtcepemgalammhaaGreatDoor
open Go.RowKit

/-- Texts, one behind the other, as a slice has them. -/
def hasK (w : World) (F : Nat → Prop) (keys : List Bs) (x : Option Addr) : Prop := ∀ i, i < keys.length → ∃ ad, x = some ad ∧ F ad.block ∧ w.cell? (ad.add i) = some (.string (str (keys.getD i [])))
set_option maxRecDepth 100000 in
set_option maxHeartbeats 4000000 in
theorem eqKeys_any {w : World} {F G : Nat → Prop} {keys : List Bs} {x y : Option Addr} {c d : Nat} (hx : hasK w F keys x) (hy : hasK w G keys y) (hl : keys.length ≤ 65536) :
    Calls Tryz.prog 32 #[.slice x keys.length c, .slice y keys.length d] w fun e w' => e = .returned (.bool true) ∧ Below w.heap.size w w' := by
  have HX := Lib.hid hx
  have HY := Lib.hid hy
  have HL := Lib.hid hl
  unfold hasK at HX HY
  clear hx hy hl
  go_enter Tryz.func32, Tryz.ntmps32
  go_wp2
  go_loopg [13] keys.length (fun kk s13 wr => ∃ n : Nat, s13 = .int .i64 (n : Int) ∧ Hid (kk = keys.length - n) ∧ Hid (n ≤ keys.length) ∧ Hid (∃ m, wr = w.drewN m))
  case atStart => exact ⟨0, rfl, Lib.hid rfl, Lib.hid (Nat.zero_le _), Lib.hid ⟨0, rfl⟩⟩
  case round =>
    obtain ⟨n, rfl, HN, HNL, HM⟩ := hrel
    by_cases hn : n < keys.length
    · obtain ⟨ad, rfl, _, h1⟩ := HX.out n hn
      obtain ⟨bd, rfl, _, h2⟩ := HY.out n hn
      have hn1 : (n : Int) < (keys.length : Int) := by omega
      have hn2 : (n : Int) + 1 ≤ 65536 := by have := HL.out; omega
      have e1 : wr.cell? (ad.add n) = some (.string (str (keys.getD n []))) := by obtain ⟨m, rfl⟩ := HM.out; exact h1
      have e2 : wr.cell? (bd.add n) = some (.string (str (keys.getD n []))) := by obtain ⟨m, rfl⟩ := HM.out; exact h2
      have HKK := Lib.hid (show n + 1 ≤ keys.length from hn)
      generalize keys.getD n [] = kt at *
      clear hn h1 h2
      go_wp2
      go_quiet (fail)
      go_wp2
      go_roundg (keys.length - (n + 1))
      case measure => rw [HN.out]; have := HKK.out; omega
      case rel => exact ⟨n + 1, rfl, Lib.hid rfl, HKK, Lib.hid (by obtain ⟨m, rfl⟩ := HM.out; exact ⟨_, World.drewN_drewN _ _ _⟩)⟩
    · have hn1 : ¬ (n : Int) < (keys.length : Int) := by omega
      clear hn
      go_wp2
      go_ret
      obtain ⟨m, rfl⟩ := HM.out
      exact ⟨rfl, below_drewN (Below.refl _ _) _⟩
/-- What is asked of 'same' at one value. -/
def SmOk (v : JV) : Prop := ∀ (n : Nat) (w : World) (x : Int) (a b c d a' b' c' d' : Value), n ≤ 65536 → x = (n : Int) → HoldsC w (fun k => k < w.heap.size) v a b c d → HoldsC w (fun k => k < w.heap.size) v a' b' c' d' →
  Calls Tryz.prog 18 #[.agg #[a, b, c, d], .agg #[a', b', c', d'], .int .i64 x] w fun e w' => e = .returned (.bool true) ∧ Below w.heap.size w w'
set_option maxRecDepth 100000 in
set_option maxHeartbeats 4000000 in
theorem same1_any {v : JV} (hv : SmOk v) {n bl : Nat} {w : World} {x : Int} {a b c d a' b' c' d' : Value} (hn : n ≤ 65536) (hx : x - 1 = (n : Int)) (hx1 : x ≤ 65536) (hx2 : 0 < x) (hb : w.cell? ⟨bl, 0, none⟩ = some (.int .i64 x))
    (hH : HoldsC w (fun k => k < w.heap.size) v a b c d) (hH' : HoldsC w (fun k => k < w.heap.size) v a' b' c' d') :
    Calls Tryz.prog 34 #[.agg #[a, b, c, d], .agg #[a', b', c', d'], .pointer (some ⟨bl, 0, none⟩)] w fun e w' => e = .returned (.bool true) ∧ Below w.heap.size w w' := by
  have hH0 := hH
  have hH0' := hH'
  obtain ⟨rfl, rfl, ⟨x1, c1, rfl⟩, x2, c2, rfl⟩ := hH.form
  obtain ⟨rfl, rfl, ⟨y1, d1, rfl⟩, y2, d2, rfl⟩ := hH'.form
  obtain ⟨W0, hW0⟩ : ∃ W0, W0 = (w.alloc (.cells #[.int .i64 v.kind, .string (str v.text), .slice x1 v.items.length c1, .slice x2 v.keys.length c2] 27)).alloc (.cells #[.int .i64 v.kind, .string (str v.text), .slice y1 v.items.length d1, .slice y2 v.keys.length d2] 27) := ⟨_, rfl⟩
  have R0 : rowC W0 w.heap.size #[.int .i64 v.kind, .string (str v.text), .slice x1 v.items.length c1, .slice x2 v.keys.length c2] 27 := by rw [hW0]; exact rowC_alloc (rowC_new w _ _) _
  have R1 : rowC W0 (w.heap.size + 1) #[.int .i64 v.kind, .string (str v.text), .slice y1 v.items.length d1, .slice y2 v.keys.length d2] 27 := by
    rw [hW0, ← size_alloc w (.cells #[.int .i64 v.kind, .string (str v.text), .slice x1 v.items.length c1, .slice x2 v.keys.length c2] 27)]
    exact rowC_new _ _ _
  have B0 : Below w.heap.size w W0 := by rw [hW0]; exact ((Below.refl _ _).alloc (Nat.le_refl _) _).alloc (by rw [size_alloc]; omega) _
  have b0 : W0.cell? ⟨bl, 0, none⟩ = some (.int .i64 x) := (B0.cell (World.block_lt_of_cell? w _ hb)).trans hb
  unfold SmOk at hv
  have C := hv n W0 (x - 1) _ _ _ _ _ _ _ _ hn hx (hH0.on B0) (hH0'.on B0)
  have HIF := Lib.hid info_V
  have HW0 := Lib.hid hW0
  have HR0 := Lib.hid R0
  have HR1 := Lib.hid R1
  have HB0 := Lib.hid B0
  clear hW0 R0 R1 B0 hH hH' hH0 hH0' hv hn hx hb
  go_enter Tryz.func34, Tryz.ntmps34
  go_upto_region 1 with (fail)
  rw [← HW0.out]
  go_wp2_with (first
    | ((with_reducible show wpList _ _ _ (⟨some 6, .load _ (.tmp 3), _, _, _, _⟩ :: _) _ _); refine wpList_load_row rfl 27 _ rfl w.heap.size rfl 27 #[.int .i64 v.kind, .string (str v.text), .slice x1 v.items.length c1, .slice x2 v.keys.length c2] (0, 0) _ HR0.out Tryz.underlying27 rfl HIF.out ?_)
    | ((with_reducible show wpList _ _ _ (⟨some 7, .load _ (.tmp 4), _, _, _, _⟩ :: _) _ _); refine wpList_load_row rfl 27 _ rfl (w.heap.size + 1) rfl 27 #[.int .i64 v.kind, .string (str v.text), .slice y1 v.items.length d1, .slice y2 v.keys.length d2] (0, 0) _ HR1.out Tryz.underlying27 rfl HIF.out ?_)
    | (go_at_call 18; ((with_reducible refine C.mono ?_); rintro e w2 ⟨rfl, hb2⟩)))
  go_ret
  exact ⟨rfl, HB0.out.trans (hb2.mono HB0.out.size)⟩
end Go.Proofs.YtcepemgalammhaaGreatDoor

/- Layer 11: slices.EqualFunc over values that are the same; Same. -/
namespace Go.Proofs.YtcepemgalammhaaGreatDoor
open Go.RowKit

theorem enter_same1 (args : Array Value) (w : World) : (callFunc 34 args).run Tryz.prog w = .ok (.enter 34 args) w := by kernel_rfl
/-- Values, one behind the other, as a slice has them. -/
def hasV (w : World) (F : Nat → Prop) (items : List JV) (x : Option Addr) : Prop := ∀ i v, items[i]? = some v → ∃ ad a b c d, x = some ad ∧ F ad.block ∧ at4 w (ad.add (i * 4)) a b c d ∧ HoldsC w F v a b c d
set_option maxRecDepth 100000 in
set_option maxHeartbeats 8000000 in
theorem eqFunc_any {items : List JV} (IH : ∀ v ∈ items, SmOk v) {n bl : Nat} {w : World} {x : Int} {p q : Option Addr} {c d : Nat} (hn : n ≤ 65536) (hx : x - 1 = (n : Int)) (hx1 : x ≤ 65536) (hx2 : 0 < x) (hb : w.cell? ⟨bl, 0, none⟩ = some (.int .i64 x)) (hl : items.length ≤ 65536)
    (hP : hasV w (fun k => k < w.heap.size) items p) (hQ : hasV w (fun k => k < w.heap.size) items q) :
    Calls Tryz.prog 33 #[.slice p items.length c, .slice q items.length d, .func (.func 34) #[] #[.pointer (some ⟨bl, 0, none⟩)]] w fun e w' => e = .returned (.bool true) ∧ Below w.heap.size w w' := by
  have hen := enter_same1
  have HPP := Lib.hid hP
  have HQQ := Lib.hid hQ
  unfold hasV at HPP HQQ
  have HIH := Lib.hid IH
  have HB := Lib.hid hb
  have HL := Lib.hid hl
  have HN := Lib.hid hn
  have HX := Lib.hid (And.intro hx (And.intro hx1 hx2))
  have HIF := Lib.hid info_V
  clear hP hQ IH hb hl hn hx hx1 hx2
  go_enter Tryz.func33, Tryz.ntmps33
  go_wp2
  go_loopg [17] items.length (fun kk s17 wr => ∃ j : Nat, s17 = .int .i64 (j : Int) ∧ Hid (kk = items.length - j) ∧ Hid (j ≤ items.length) ∧ Hid (Below w.heap.size w wr))
  case atStart => exact ⟨0, rfl, Lib.hid rfl, Lib.hid (Nat.zero_le _), Lib.hid (Below.refl _ _)⟩
  case round =>
    obtain ⟨j, rfl, HJ, HJL, HBW⟩ := hrel
    by_cases hj : j < items.length
    · obtain ⟨y, hy⟩ : ∃ y, items[j]? = some y := ⟨_, List.getElem?_eq_getElem hj⟩
      obtain ⟨ad, a1, a2, a3, a4, rfl, hF, h4c, hHy⟩ := HPP.out j y hy
      obtain ⟨bd, b1, b2, b3, b4, rfl, hG, h4d, hHz⟩ := HQQ.out j y hy
      obtain ⟨rfl, rfl, ⟨y1, yc1, rfl⟩, y2, yc2, rfl⟩ := hHy.form
      obtain ⟨rfl, rfl, ⟨z1, zc1, rfl⟩, z2, zc2, rfl⟩ := hHz.form
      obtain ⟨W2, hW2⟩ : ∃ W2, W2 = wr.alloc (.cells (row4 y.kind (str y.text) y1 y.items.length yc1 y2 y.keys.length yc2) 27) := ⟨_, rfl⟩
      obtain ⟨W3, hW3⟩ : ∃ W3, W3 = W2.alloc (.cells (row4 y.kind (str y.text) z1 y.items.length zc1 z2 y.keys.length zc2) 27) := ⟨_, rfl⟩
      have hb1 := HBW.out
      have s2 : W2.heap.size = wr.heap.size + 1 := by rw [hW2]; exact size_alloc _ _
      have B2 : Below w.heap.size w W2 := by rw [hW2]; exact hb1.alloc hb1.size _
      have B3 : Below w.heap.size w W3 := by rw [hW3]; exact B2.alloc B2.size _
      have X3 : rowC W3 wr.heap.size (row4 y.kind (str y.text) y1 y.items.length yc1 y2 y.keys.length yc2) 27 := by rw [hW3, hW2]; exact rowC_alloc (rowC_new _ _ _) _
      have Z3 : rowC W3 (wr.heap.size + 1) (row4 y.kind (str y.text) z1 y.items.length zc1 z2 y.keys.length zc2) 27 := by rw [hW3, ← s2]; exact rowC_new _ _ _
      have L4 := Lib.hid (h4c.chg (chg_of_below hb1) (by rw [add_block]; omega))
      have L5 := Lib.hid (h4d.chg (chg_of_below B2) (by rw [add_block]; omega))
      have b0 := (B3.cell (World.block_lt_of_cell? w _ HB.out)).trans HB.out
      have CS := same1_any (HIH.out y (List.mem_of_getElem? hy)) HN.out HX.out.1 HX.out.2.1 HX.out.2.2 b0 (hHy.on B3) (hHz.on B3)
      have hlen2 : (j : Int) < (items.length : Int) := by omega
      have hlen3 : (j : Int) + 1 ≤ 65536 := by have := HL.out; omega
      have HW2 := Lib.hid hW2
      have HW3 := Lib.hid hW3
      have HX3 := Lib.hid X3
      have HZ3 := Lib.hid Z3
      have HB3 := Lib.hid B3
      have Hs2 := Lib.hid s2
      have HJ1 := Lib.hid (show j + 1 ≤ items.length from hj)
      clear hW2 hW3 X3 Z3 B2 B3 hy hF hG h4c h4d hHy hHz hj b0 hb1 s2
      go_wp2_with (first
        | ((with_reducible show wpList _ _ _ (⟨some 21, .load _ (.tmp 20), _, _, _, _⟩ :: _) _ _); refine wpList_load_at rfl 27 _ rfl (ad.add (j * 4)) rfl [.int .i64 y.kind, .string (str y.text), .slice y1 y.items.length yc1, .slice y2 y.keys.length yc2] _ L4.out Tryz.underlying27 rfl HIF.out ?_)
        | ((with_reducible show wpList _ _ _ (⟨none, .store _ (.tmp 8) (.tmp 21), _, _, _, _⟩ :: _) _ _); refine wpList_store_last rfl 27 _ _ rfl wr.heap.size (row4 y.kind (str y.text) y1 y.items.length yc1 y2 y.keys.length yc2) rfl rfl 27 zeroV4 rfl HIF.out rfl (row4_all _ _ _ _ _ _ _ _) ?_; rw [← HW2.out])
        | ((with_reducible show wpList _ _ _ (⟨some 25, .load _ (.tmp 24), _, _, _, _⟩ :: _) _ _); refine wpList_load_at rfl 27 _ rfl (bd.add (j * 4)) rfl [.int .i64 y.kind, .string (str y.text), .slice z1 y.items.length zc1, .slice z2 y.keys.length zc2] _ L5.out Tryz.underlying27 rfl HIF.out ?_)
        | ((with_reducible show wpList _ _ _ (⟨none, .store _ (.tmp 9) (.tmp 25), _, _, _, _⟩ :: _) _ _); refine wpList_store_last rfl 27 _ _ rfl W2.heap.size (row4 y.kind (str y.text) z1 y.items.length zc1 z2 y.keys.length zc2) rfl rfl 27 zeroV4 rfl HIF.out rfl (row4_all _ _ _ _ _ _ _ _) ?_; rw [← HW3.out])
        | ((with_reducible show wpList _ _ _ (⟨some 27, .load _ (.tmp 8), _, _, _, _⟩ :: _) _ _); refine wpList_load_row rfl 27 _ rfl wr.heap.size rfl 27 #[.int .i64 y.kind, .string (str y.text), .slice y1 y.items.length yc1, .slice y2 y.keys.length yc2] (0, 0) _ HX3.out Tryz.underlying27 rfl HIF.out ?_)
        | ((with_reducible show wpList _ _ _ (⟨some 28, .load _ (.tmp 9), _, _, _, _⟩ :: _) _ _); refine wpList_load_row rfl 27 _ rfl W2.heap.size rfl 27 #[.int .i64 y.kind, .string (str y.text), .slice z1 y.items.length zc1, .slice z2 y.keys.length zc2] (0, 0) _ (by rw [Hs2.out]; exact HZ3.out) Tryz.underlying27 rfl HIF.out ?_)
        | (go_at_call 34; ((with_reducible refine CS.mono ?_); rintro e w3 ⟨rfl, hb3⟩)))
      go_roundg (items.length - (j + 1))
      case measure => rw [HJ.out]; have := HJ1.out; omega
      case rel => exact ⟨j + 1, rfl, Lib.hid rfl, HJ1, Lib.hid (HB3.out.trans (hb3.mono HB3.out.size))⟩
    · have hj' : ¬ (j : Int) < (items.length : Int) := by omega
      clear hj
      go_wp2
      go_ret
      exact ⟨rfl, HBW.out⟩
end Go.Proofs.YtcepemgalammhaaGreatDoor

/- Layer 11: Same, of values that are the same. -/
namespace Go.Proofs.YtcepemgalammhaaGreatDoor
open Go.RowKit

theorem hasV.on {w w' : World} {items : List JV} {x : Option Addr} (h : hasV w (fun k => k < w.heap.size) items x) (hb : Below w.heap.size w w') : hasV w' (fun k => k < w'.heap.size) items x := fun i v hv => by
  obtain ⟨ad, a, b, c, d, h1, h2, h3, h4⟩ := h i v hv
  exact ⟨ad, a, b, c, d, h1, Nat.lt_of_lt_of_le h2 hb.size, h3.chg (chg_of_below hb) (by rw [add_block]; omega), h4.on hb⟩
theorem hasK.on {w w' : World} {keys : List Bs} {x : Option Addr} (h : hasK w (fun k => k < w.heap.size) keys x) (hb : Below w.heap.size w w') : hasK w' (fun k => k < w'.heap.size) keys x := fun i hi => by
  obtain ⟨ad, h1, h2, h3⟩ := h i hi
  exact ⟨ad, h1, Nat.lt_of_lt_of_le h2 hb.size, cell_chg (chg_of_below hb) h3 (by rw [add_block]; omega)⟩
set_option maxRecDepth 100000 in
set_option maxHeartbeats 8000000 in
theorem same_any : ∀ (s : Nat) (v : JV), SizeOf.sizeOf v ≤ s → okJ v → SmOk v := by
  intro s
  induction s with
  | zero =>
    intro v hs
    obtain ⟨k, t, items, keys⟩ := v
    simp at hs
  | succ s ih =>
    intro v hs ho n w x a b c d a' b' c' d' hn hx hH hH'
    obtain ⟨k, t, items, keys⟩ := v
    have IH : ∀ y ∈ items, SmOk y := fun y hy => by
      have := List.sizeOf_lt_of_mem hy
      simp at hs
      rw [okJ] at ho
      exact ih y (by omega) (okJL_mem ho.2.2 y hy)
    rw [okJ] at ho
    obtain ⟨rfl, rfl, ht, ⟨x1, c1, rfl, hI⟩, ⟨x2, c2, rfl, hK⟩⟩ := hH.opens
    obtain ⟨rfl, rfl, _, ⟨y1, d1, rfl, hJ⟩, ⟨y2, d2, rfl, hM⟩⟩ := hH'.opens
    have hI : hasV w (fun k => k < w.heap.size) items x1 := hI
    have hJ : hasV w (fun k => k < w.heap.size) items y1 := hJ
    have hK : hasK w (fun k => k < w.heap.size) keys x2 := hK
    have hM : hasK w (fun k => k < w.heap.size) keys y2 := hM
    obtain ⟨W0, hW0⟩ : ∃ W0, W0 = ((w.alloc (.cells #[.int .i64 k, .string (str t), .slice x1 items.length c1, .slice x2 keys.length c2] 27)).alloc (.cells #[.int .i64 k, .string (str t), .slice y1 items.length d1, .slice y2 keys.length d2] 27)).alloc (.cells #[.int .i64 x] 3) := ⟨_, rfl⟩
    have R0 : rowC W0 w.heap.size #[.int .i64 k, .string (str t), .slice x1 items.length c1, .slice x2 keys.length c2] 27 := by rw [hW0]; exact rowC_alloc (rowC_alloc (rowC_new w _ _) _) _
    have R1 : rowC W0 (w.heap.size + 1) #[.int .i64 k, .string (str t), .slice y1 items.length d1, .slice y2 keys.length d2] 27 := by
      rw [hW0, ← size_alloc w (.cells #[.int .i64 k, .string (str t), .slice x1 items.length c1, .slice x2 keys.length c2] 27)]
      exact rowC_alloc (rowC_new _ _ _) _
    have R2 : rowC W0 (w.heap.size + 1 + 1) #[.int .i64 x] 3 := by
      rw [hW0, ← size_alloc w (.cells #[.int .i64 k, .string (str t), .slice x1 items.length c1, .slice x2 keys.length c2] 27), ← size_alloc (w.alloc _) (.cells #[.int .i64 k, .string (str t), .slice y1 items.length d1, .slice y2 keys.length d2] 27)]
      exact rowC_new _ _ _
    have B0 : Below w.heap.size w W0 := by rw [hW0]; exact (((Below.refl _ _).alloc (Nat.le_refl _) _).alloc (by rw [size_alloc]; omega) _).alloc (by rw [size_alloc, size_alloc]; omega) _
    have CK := eqKeys_any (c := c2) (d := d2) (hK.on B0) (hM.on B0) ho.2.1.2.1
    have g0 : W0.cell? ⟨w.heap.size, 0, none⟩ = some (.int .i64 k) := rowC_cell R0 0
    have g1 : W0.cell? ⟨w.heap.size, 1, none⟩ = some (.string (str t)) := rowC_cell R0 1
    have g3 : W0.cell? ⟨w.heap.size, 3, none⟩ = some (.slice x2 keys.length c2) := rowC_cell R0 3
    have e0 : W0.cell? ⟨w.heap.size + 1, 0, none⟩ = some (.int .i64 k) := rowC_cell R1 0
    have e1 : W0.cell? ⟨w.heap.size + 1, 1, none⟩ = some (.string (str t)) := rowC_cell R1 1
    have e3 : W0.cell? ⟨w.heap.size + 1, 3, none⟩ = some (.slice y2 keys.length d2) := rowC_cell R1 3
    have HW0 := Lib.hid hW0
    have HR0 := Lib.hid R0
    have HR1 := Lib.hid R1
    have HR2 := Lib.hid R2
    have HB0 := Lib.hid B0
    have HI := Lib.hid hI
    have HJ := Lib.hid hJ
    have HIH := Lib.hid IH
    have HL := Lib.hid ho.2.1.1
    clear hW0 R0 R1 R2 B0 hI hJ hK hM IH ih hs ho hH hH' ht
    have after : ∀ {w2 : World}, Below W0.heap.size W0 w2 → w2.cell? ⟨w.heap.size + 1 + 1, 0, none⟩ = some (.int .i64 x) ∧ w2.cell? ⟨w.heap.size, 2, none⟩ = some (.slice x1 items.length c1) ∧ w2.cell? ⟨w.heap.size + 1, 2, none⟩ = some (.slice y1 items.length d1) := fun hb =>
      ⟨rowC_cell (rowC_below HR2.out hb (rowC_lt HR2.out)) 0, rowC_cell (rowC_below HR0.out hb (rowC_lt HR0.out)) 2, rowC_cell (rowC_below HR1.out hb (rowC_lt HR1.out)) 2⟩
    cases n with
    | zero =>
      obtain rfl : x = 0 := hx
      clear hn
      go_enter Tryz.func18, Tryz.ntmps18
      go_upto_region 1 with (fail)
      rw [← HW0.out]
      go_wp2_with (go_at_call 32; ((with_reducible refine CK.mono ?_); rintro e w2 ⟨rfl, hb2⟩; obtain ⟨q0, q1, q2⟩ := after hb2))
      go_ret
      exact ⟨rfl, HB0.out.trans (hb2.mono HB0.out.size)⟩
    | succ n =>
      have hx0 : (x == 0) = false := by rw [beq_eq_false_iff_ne]; omega
      have HX : Hid (n ≤ 65536 ∧ x - 1 = (n : Int) ∧ x ≤ 65536 ∧ 0 < x) := Lib.hid (by omega)
      clear hn hx
      go_enter Tryz.func18, Tryz.ntmps18
      go_upto_region 1 with (fail)
      rw [← HW0.out]
      go_wp2_with (first
        | (go_at_call 32; ((with_reducible refine CK.mono ?_); rintro e w2 ⟨rfl, hb2⟩; obtain ⟨q0, q1, q2⟩ := after hb2; have BB := HB0.out.trans (hb2.mono HB0.out.size)))
        | (go_at_call 33; ((with_reducible refine (eqFunc_any HIH.out HX.out.1 HX.out.2.1 HX.out.2.2.1 HX.out.2.2.2 q0 HL.out (HI.out.on BB) (HJ.out.on BB)).mono ?_); rintro e w3 ⟨rfl, hb3⟩)))
      go_ret
      exact ⟨rfl, BB.trans (hb3.mono BB.size)⟩
/-- Same, of two that are the same. -/
theorem Same_any {v : JV} (ho : okJ v) {w : World} {a b c d a' b' c' d' : Value} (hH : HoldsC w (fun k => k < w.heap.size) v a b c d) (hH' : HoldsC w (fun k => k < w.heap.size) v a' b' c' d') :
    Calls Tryz.prog 9 #[.agg #[a, b, c, d], .agg #[a', b', c', d']] w fun e w' => e = .returned (.bool true) ∧ Below w.heap.size w w' := by
  have hH0 := hH
  have hH0' := hH'
  obtain ⟨rfl, rfl, ⟨x1, c1, rfl⟩, x2, c2, rfl⟩ := hH.form
  obtain ⟨rfl, rfl, ⟨y1, d1, rfl⟩, y2, d2, rfl⟩ := hH'.form
  obtain ⟨W0, hW0⟩ : ∃ W0, W0 = (w.alloc (.cells #[.int .i64 v.kind, .string (str v.text), .slice x1 v.items.length c1, .slice x2 v.keys.length c2] 27)).alloc (.cells #[.int .i64 v.kind, .string (str v.text), .slice y1 v.items.length d1, .slice y2 v.keys.length d2] 27) := ⟨_, rfl⟩
  have R0 : rowC W0 w.heap.size #[.int .i64 v.kind, .string (str v.text), .slice x1 v.items.length c1, .slice x2 v.keys.length c2] 27 := by rw [hW0]; exact rowC_alloc (rowC_new w _ _) _
  have R1 : rowC W0 (w.heap.size + 1) #[.int .i64 v.kind, .string (str v.text), .slice y1 v.items.length d1, .slice y2 v.keys.length d2] 27 := by
    rw [hW0, ← size_alloc w (.cells #[.int .i64 v.kind, .string (str v.text), .slice x1 v.items.length c1, .slice x2 v.keys.length c2] 27)]
    exact rowC_new _ _ _
  have B0 : Below w.heap.size w W0 := by rw [hW0]; exact ((Below.refl _ _).alloc (Nat.le_refl _) _).alloc (by rw [size_alloc]; omega) _
  have hv := same_any _ v (Nat.le_refl _) ho
  unfold SmOk at hv
  have C := hv 65536 W0 65536 _ _ _ _ _ _ _ _ (Nat.le_refl _) rfl (hH0.on B0) (hH0'.on B0)
  have HIF := Lib.hid info_V
  have HW0 := Lib.hid hW0
  have HR0 := Lib.hid R0
  have HR1 := Lib.hid R1
  have HB0 := Lib.hid B0
  clear hW0 R0 R1 B0 hH hH' hH0 hH0' hv ho
  go_enter Tryz.func9, Tryz.ntmps9
  go_upto_region 1 with (fail)
  rw [← HW0.out]
  go_wp2_with (first
    | ((with_reducible show wpList _ _ _ (⟨some 5, .load _ (.tmp 2), _, _, _, _⟩ :: _) _ _); refine wpList_load_row rfl 27 _ rfl w.heap.size rfl 27 #[.int .i64 v.kind, .string (str v.text), .slice x1 v.items.length c1, .slice x2 v.keys.length c2] (0, 0) _ HR0.out Tryz.underlying27 rfl HIF.out ?_)
    | ((with_reducible show wpList _ _ _ (⟨some 6, .load _ (.tmp 3), _, _, _, _⟩ :: _) _ _); refine wpList_load_row rfl 27 _ rfl (w.heap.size + 1) rfl 27 #[.int .i64 v.kind, .string (str v.text), .slice y1 v.items.length d1, .slice y2 v.keys.length d2] (0, 0) _ HR1.out Tryz.underlying27 rfl HIF.out ?_)
    | (go_at_call 18; ((with_reducible refine C.mono ?_); rintro e w2 ⟨rfl, hb2⟩)))
  go_ret
  exact ⟨rfl, HB0.out.trans (hb2.mono HB0.out.size)⟩
end Go.Proofs.YtcepemgalammhaaGreatDoor

/- Layer 11: Int, at the chapter's texts. -/
namespace Go.Proofs.YtcepemgalammhaaGreatDoor
open Go.RowKit

set_option maxRecDepth 100000 in
set_option maxHeartbeats 4000000 in
theorem int_no (w : World) (hE : Env w) : Calls Tryz.prog 11 #[.agg #[.int .i64 3, .string ⟨#[49, 101, 51]⟩, .slice none 0 0, .slice none 0 0]] w fun e w' => e = .returned (.tuple #[.int .i64 0, .bool false]) ∧ Below w.heap.size w w' := by
  obtain ⟨W0, hW0⟩ : ∃ W0, W0 = w.alloc (.cells #[.int .i64 3, .string ⟨#[49, 101, 51]⟩, .slice none 0 0, .slice none 0 0] 27) := ⟨_, rfl⟩
  have R0 : rowC W0 w.heap.size #[.int .i64 3, .string ⟨#[49, 101, 51]⟩, .slice none 0 0, .slice none 0 0] 27 := by rw [hW0]; exact rowC_new w _ _
  have B0 : Below w.heap.size w W0 := by rw [hW0]; exact (Below.refl _ _).alloc (Nat.le_refl _) _
  have C0 := isNumber_any [49, 101, 51] (by unfold okT; decide) W0
  have hn : isNumB [49, 101, 51] = true := by rfl
  rw [hn] at C0
  have C1 : Calls Tryz.prog 19 #[.string ⟨#[49, 101, 51]⟩] W0 fun e w' => e = .returned (.bool true) ∧ Below W0.heap.size W0 w' := C0
  have g0 : W0.cell? ⟨w.heap.size, 0, none⟩ = some (.int .i64 3) := rowC_cell R0 0
  have g1 : W0.cell? ⟨w.heap.size, 1, none⟩ = some (.string ⟨#[49, 101, 51]⟩) := rowC_cell R0 1
  have HW0 := Lib.hid hW0
  have HR0 := Lib.hid R0
  have HB0 := Lib.hid B0
  have HE0 := Lib.hid (hE.below B0)
  clear hW0 R0 B0 C0 hn hE
  go_enter Tryz.func11, Tryz.ntmps11
  go_upto_region 1 with (fail)
  rw [← HW0.out]
  go_upto_region 3 with (go_at_call 19; ((with_reducible refine C1.mono ?_); rintro e w2 ⟨rfl, hb2⟩))
  have q1 : w2.cell? ⟨w.heap.size, 1, none⟩ = some (.string ⟨#[49, 101, 51]⟩) := rowC_cell (rowC_below HR0.out hb2 (rowC_lt HR0.out)) 1
  obtain ⟨tp, p, hv⟩ := (HE0.out.below hb2).syn
  have CA := Tryz.strconv_Atoi_syntax_var ⟨#[49, 101, 51]⟩ (by decide) (by rfl) tp p w2 hv
  clear hv
  go_wp2_with (go_at_call 20; ((with_reducible refine CA.mono ?_); rintro e w3 ⟨N, rfl, _, _, hb3⟩))
  go_ret2
  exact ⟨rfl, (HB0.out.trans (hb2.mono HB0.out.size)).trans (hb3.mono (HB0.out.trans (hb2.mono HB0.out.size)).size)⟩
set_option maxRecDepth 100000 in
set_option maxHeartbeats 4000000 in
theorem int_yes (w : World) (hE : Env w) : Calls Tryz.prog 11 #[.agg #[.int .i64 3, .string ⟨#[45, 55]⟩, .slice none 0 0, .slice none 0 0]] w fun e w' => e = .returned (.tuple #[.int .i64 (-7), .bool true]) ∧ Below w.heap.size w w' := by
  obtain ⟨W0, hW0⟩ : ∃ W0, W0 = w.alloc (.cells #[.int .i64 3, .string ⟨#[45, 55]⟩, .slice none 0 0, .slice none 0 0] 27) := ⟨_, rfl⟩
  have R0 : rowC W0 w.heap.size #[.int .i64 3, .string ⟨#[45, 55]⟩, .slice none 0 0, .slice none 0 0] 27 := by rw [hW0]; exact rowC_new w _ _
  have B0 : Below w.heap.size w W0 := by rw [hW0]; exact (Below.refl _ _).alloc (Nat.le_refl _) _
  have C0 := isNumber_any [45, 55] (by unfold okT; decide) W0
  have hn : isNumB [45, 55] = true := by rfl
  rw [hn] at C0
  have C1 : Calls Tryz.prog 19 #[.string ⟨#[45, 55]⟩] W0 fun e w' => e = .returned (.bool true) ∧ Below W0.heap.size W0 w' := C0
  have g0 : W0.cell? ⟨w.heap.size, 0, none⟩ = some (.int .i64 3) := rowC_cell R0 0
  have g1 : W0.cell? ⟨w.heap.size, 1, none⟩ = some (.string ⟨#[45, 55]⟩) := rowC_cell R0 1
  have HW0 := Lib.hid hW0
  have HR0 := Lib.hid R0
  have HB0 := Lib.hid B0
  have HE0 := Lib.hid (hE.below B0)
  clear hW0 R0 B0 C0 hn hE
  go_enter Tryz.func11, Tryz.ntmps11
  go_upto_region 1 with (fail)
  rw [← HW0.out]
  go_upto_region 3 with (go_at_call 19; ((with_reducible refine C1.mono ?_); rintro e w2 ⟨rfl, hb2⟩))
  have q1 : w2.cell? ⟨w.heap.size, 1, none⟩ = some (.string ⟨#[45, 55]⟩) := rowC_cell (rowC_below HR0.out hb2 (rowC_lt HR0.out)) 1
  have CA := Tryz.strconv_Atoi_ok ⟨#[45, 55]⟩ (by decide) (-7) (by rfl) w2
  have HB2 := Lib.hid (HB0.out.trans (hb2.mono HB0.out.size))
  go_wp2_with (go_at_call 20; ((with_reducible refine CA.mono ?_); rintro e w3 ⟨rfl, h3⟩; have HB3 : Hid (Below w2.heap.size w2 w3) := Lib.hid (by rcases h3 with rfl | ⟨t, rfl⟩; exact Below.refl _ _; exact Lib.bytesWorld_below _ _ _); clear h3))
  go_ret2
  exact ⟨rfl, HB2.out.trans (HB3.out.mono HB2.out.size)⟩
end Go.Proofs.YtcepemgalammhaaGreatDoor

