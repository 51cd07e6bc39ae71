/- Merged: OgD, OgE, OcT. -/
import Derived.Test.YtnkencdibniagaaGreatDoorM38
import Derived.Test.YtnkencdibniagaaGreatDoorM41
import Derived.Test.YtnkencdibniagaaGreatDoorM40
import Derived.Deep.DeepCutAuto
import Derived.Test.YtnkencdibniagaaGreatDoorM17
import Derived.Lib.LaidTab
import Derived.Test.YtnkencdibniagaaGreatDoorRows
import Derived.ProofKit
import Derived.LaidMore
import Derived.LaidLaws
import Derived.LaidHandle
import Derived.Lib.LaidU8T
import Derived.Stop.LaidErr
import Derived.OpenShut
import Derived.Stop.Joined
/- Layer 13: OciOrder. -/
namespace Go.Proofs.YtnkencdibniagaaGreatDoor
open Go.RowKit
attribute [local go_sem] wide_fn round_fn

theorem lenO {l : List RG} {m : Nat} (h : ofR l m = true) : l.length ≤ m := by
  unfold ofR at h
  rw [Bool.and_eq_true, decide_eq_true_eq] at h
  omega
theorem putsO {l : List RG} (hok : ∀ r ∈ l, r.ok) {most : Int} (h : ofR l most = true) : ∀ d ∈ l.map descOf, putD d ∧ d.media.length ≤ 200 ∧ d.os.length ≤ 200 ∧ d.arch.length ≤ 200 := by
  intro d hd
  obtain ⟨r, hr, rfl⟩ := List.mem_map.1 hd
  unfold ofR at h
  rw [Bool.and_eq_true, List.all_eq_true] at h
  have hs := h.1 r hr
  refine ⟨good_of (hok r hr) hs, ?_⟩
  unfold shortR at hs
  rw [Bool.and_eq_true, Bool.and_eq_true, decide_eq_true_eq, decide_eq_true_eq, decide_eq_true_eq] at hs
  refine ⟨?_, hs.2.1, hs.2.2⟩
  show (if r.num < 200 then mediaN (r.num % 9) else r.media).length ≤ _
  split
  · have := mediaN_le (r.num % 9); omega
  · omega
theorem same_yesO (L : List DV) (x a : Option Addr) (N k c : Nat) (hN : N = L.length) (h40 : N < 2 ^ 48) (w : World) (hA : eDess.at_ w (fun k => k < w.heap.size) L (.slice x N k)) (hB : eDess.at_ w (fun k => k < w.heap.size) L (.slice a N c)) :
    Calls Tryz.prog 15 #[.slice x N k, .slice a N c] w fun e w' => e = .returned (.bool true) ∧ Below w.heap.size w w' := by
  subst hN
  exact (same_any L L x a k c w hA hB h40).mono fun e w' ⟨b, he, hb, hB⟩ => ⟨by rw [he, hb.2 rfl], hB⟩
theorem samedig_yesO (L : List Bs) (x a : Option Addr) (k c : Nat) (h40 : L.length < 2 ^ 48) (w : World) (hA : eDigs.at_ w (fun k => k < w.heap.size) L (.slice x L.length k)) (hB : eDigs.at_ w (fun k => k < w.heap.size) L (.slice a L.length c)) :
    Calls Tryz.prog 16 #[.slice x L.length k, .slice a L.length c] w fun e w' => e = .returned (.bool true) ∧ Below w.heap.size w w' :=
  (samedig_any L L x a k c w hA hB h40).mono fun e w' ⟨b, he, hb, hB⟩ => ⟨by rw [he, hb.2 rfl], hB⟩
theorem built_imgO (p : Bs × Bs) (a : Option Addr) (n c : Nat) : Tryz.prog.built 39 [(0, .agg #[.string (str p.1), .string (str p.2)]), (1, .slice a n c)] = some (row3 (str p.1) (str p.2) a n c) := by kernel_rfl
theorem row3_rangeO {w : World} {g : Nat} {p : Bs × Bs} {x : Option Addr} {n c : Nat} {T : TypeId} (h : rowC w g (row3 (str p.1) (str p.2) x n c) T) : w.rangeAt g 0 [.string (str p.1), .string (str p.2)] ∧ w.cell? ⟨g, 2, none⟩ = some (.slice x n c) :=
  ⟨rowC_range h 0 _ (fun j v hv => by
    match j, hv with
    | 0, hv => exact hv
    | 1, hv => exact hv), (rowC_cell h 2).trans rfl⟩
/-- The first row's platform. -/
theorem own_plat0 {w : World} {B g n c : Nat} {d : DV} {Y : List DV} (h : w.ownsRow B 28 36 (.slice (some ⟨g, 0, none⟩) n c) n (flatD (d :: Y))) (hd : d.dig.length = 32) : w.rangeAt g 34 [.string (str d.os), .string (str d.arch)] := by
  have e : flatD (d :: Y) = ([.string (str d.media)] ++ d.dig.map byteV ++ [.int .i64 d.size]) ++ ([.string (str d.os), .string (str d.arch)] ++ flatD Y) := by
    unfold flatD
    rw [List.flatMap_cons, encD_list]
    unfold encL
    simp
  have hl : ([.string (str d.media)] ++ d.dig.map byteV ++ [.int .i64 d.size] : List Value).length = 34 := by simp [hd]
  intro j v hj
  have hj2 : j < 2 := by have := (List.getElem?_eq_some_iff.1 hj).1; simpa using this
  have := h.cells (g := g) rfl (34 + j) v (by
    rw [e, List.getElem?_append_right (by omega), hl, Nat.add_sub_cancel_left, List.getElem?_append_left (by simpa using hj2)]
    exact hj)
  have ea : (⟨g, 0, none⟩ : Addr).add (34 + j) = ⟨g, 34 + j, none⟩ := by simp [Addr.add]
  rwa [ea] at this
/-- Two values that are held, each in a box; the image's box; the rows; the digests: what every later world still has. -/
theorem dess_far {W W' : World} {L : List DV} {v : Value} (h : eDess.at_ W (fun k => k < W.heap.size) L v) (hb : Below W.heap.size W W') : eDess.at_ W' (fun k => k < W'.heap.size) L v :=
  eDess.mono (eDess.chg h (Chg.of_below (s := no) hb) (fun _ _ h => h)) (fun _ _ hk => hk)
theorem digs_far {W W' : World} {L : List Bs} {v : Value} (h : eDigs.at_ W (fun k => k < W.heap.size) L v) (hb : Below W.heap.size W W') : eDigs.at_ W' (fun k => k < W'.heap.size) L v :=
  eDigs.mono (eDigs.chg h (Chg.of_below (s := no) hb) (fun _ _ h => h)) (fun _ _ hk => hk)
/-- A value, in a box. -/
structure BoxV (v : JV) (b : Nat) (K : Int) (T : ByteArray) (x1 : Option Addr) (n1 c1 : Nat) (x2 : Option Addr) (n2 c2 : Nat) (W : World) : Prop where
  h : HoldsC W (fun k => k < W.heap.size) v (.int .i64 K) (.string T) (.slice x1 n1 c1) (.slice x2 n2 c2)
  r : rowC W b (row4 K T x1 n1 c1 x2 n2 c2) 63
theorem BoxV.below {v : JV} {b : Nat} {K : Int} {T : ByteArray} {x1 : Option Addr} {n1 c1 : Nat} {x2 : Option Addr} {n2 c2 : Nat} {W W' : World} (h : BoxV v b K T x1 n1 c1 x2 n2 c2 W) (hb : Below W.heap.size W W') : BoxV v b K T x1 n1 c1 x2 n2 c2 W' :=
  ⟨h.h.on hb, rowC_below h.r hb (rowC_lt h.r)⟩
/-- What a parse answers, put into a box of its own. -/
theorem BoxV.new {v : JV} {W : World} {F : Nat → Prop} {K : Int} {T : ByteArray} {x1 : Option Addr} {n1 c1 : Nat} {x2 : Option Addr} {n2 c2 : Nat} (h : HoldsC W F v (.int .i64 K) (.string T) (.slice x1 n1 c1) (.slice x2 n2 c2)) :
    BoxV v W.heap.size K T x1 n1 c1 x2 n2 c2 (W.alloc (.cells (row4 K T x1 n1 c1 x2 n2 c2) 63)) ∧ Below W.heap.size W (W.alloc (.cells (row4 K T x1 n1 c1 x2 n2 c2) 63)) := by
  have hb : Below W.heap.size W (W.alloc (.cells (row4 K T x1 n1 c1 x2 n2 c2) 63)) := (Below.refl _ _).alloc (Nat.le_refl _) _
  exact ⟨⟨(HoldsC.mono (G := fun k => k < W.heap.size) (fun _ _ hk => hk) _ _ _ _ _ h).on hb, rowC_new _ _ _⟩, hb⟩
/-- Parse's answer in parts. -/
theorem Tn.parse4 {v : JV} {S T : Bs} {b : Nat} (h : Tn v S b T) (w : World) (hE : Env2 w) :
    Calls Tryz.prog 28 #[.string (str S)] w fun e w' => ∃ K t x1 n1 c1 x2 n2 c2, e = .returned (.tuple #[.agg (row4 K t x1 n1 c1 x2 n2 c2), .int .i64 0, .int .i64 0]) ∧ (∃ F, HoldsC w' F v (.int .i64 K) (.string t) (.slice x1 n1 c1) (.slice x2 n2 c2)) ∧ Below w.heap.size w w' := by
  refine (h.parse w hE).mono ?_
  rintro e w' ⟨V, rfl, ⟨a, b', c, d, rfl, hx⟩, hb⟩
  obtain ⟨rfl, rfl, ⟨p1, q1, rfl⟩, p2, q2, rfl⟩ := hx.form
  exact ⟨_, _, _, _, _, _, _, _, rfl, ⟨_, hx⟩, hb⟩
theorem Tn.turn4 {v : JV} {S T : Bs} {b : Nat} (h : Tn v S b T) (hb : b ≤ 255) {w : World} {g : Nat} {K : Int} {t : ByteArray} {x1 : Option Addr} {n1 c1 : Nat} {x2 : Option Addr} {n2 c2 : Nat} (hV : BoxV v g K t x1 n1 c1 x2 n2 c2 w) :
    Calls Tryz.prog 30 #[.agg (row4 K t x1 n1 c1 x2 n2 c2), .int .i64 (b : Int)] w fun e w' => ∃ V', e = .returned V' ∧ HoldsJ w' (fun k => k < w'.heap.size) (turnJ b v) V' ∧ Below w.heap.size w w' := by
  refine (h.turn hb w _ ⟨_, _, _, _, rfl, hV.h⟩).mono ?_
  rintro e w' ⟨V', rfl, ⟨a, b', c, d, rfl, hx⟩, hb⟩
  exact ⟨_, rfl, ⟨_, _, _, _, rfl, HoldsC.mono (fun _ _ hk => hk) _ _ _ _ _ hx⟩, hb⟩
set_option maxRecDepth 100000 in
set_option maxHeartbeats 16000000 in
theorem ociorder_any (l : List RG) (x : Option Addr) (cc : Nat) (D : List Bs) (y : Option Addr) (cy : Nat) (by_ : Nat) (hby : by_ ≤ 255) (w : World) (hE : Env2 w) (hl : l.length * 96 ≤ 140737488351232) (hR : RghsC w x l) (hD : eDigs.at_ w (fun k => k < w.heap.size) D (.slice y D.length cy)) :
    Calls Tryz.prog 7 #[.slice x l.length cc, .slice y D.length cy, .int .u8 (by_ : Int)] w fun e w' => e = .returned (.bool true) ∧ Below w.heap.size w w' := by
  have CX := fun w hE => described_any w hE
  have HOL := Lib.hid (show ∀ r ∈ l, r.ok from fun r hr => by obtain ⟨i, hi⟩ := List.mem_iff_getElem?.1 hr; exact (hR i r hi).1)
  have HE := Lib.hid hE
  have HD := Lib.hid hD
  have HRR := Lib.hid hR
  have HLL := Lib.hid hl
  have HDG := Lib.hid (show ∀ d ∈ D, d.length = 32 from fun d hd => by obtain ⟨i, hi⟩ := List.mem_iff_getElem?.1 hd; exact (digs_at hD hi).1)
  have HI := Lib.hid info_V
  clear hR hE hD hl
  go_enter Tryz.func7, Tryz.ntmps7
  go_upto_region 2 with (go_at_call 17; (with_reducible refine (of_any l x cc 8 w HLL.out HRR.out).mono ?_); rintro e w1 ⟨t1, rfl, hown, b1⟩; have HOY := Lib.hid hown; have HB1 := Lib.hid b1; clear hown b1)
  cases h1 : ofR l 8
  · go_wp2_with (go_at_call 8; (with_reducible refine (CX _ (HE.out.below HB1.out)).mono ?_); rintro e w3 ⟨rfl, b3⟩)
    go_ret
    exact ⟨rfl, HB1.out.trans (b3.mono HB1.out.size)⟩
  by_cases h3 : 8 < D.length
  · have g3 : (8 : Int) < (D.length : Int) := by omega
    clear h3
    go_wp2_with (go_at_call 8; (with_reducible refine (CX _ (HE.out.below HB1.out)).mono ?_); rintro e w3 ⟨rfl, b3⟩)
    go_ret
    exact ⟨rfl, HB1.out.trans (b3.mono HB1.out.size)⟩
  have g3 : ¬ (8 : Int) < (D.length : Int) := by omega
  obtain ⟨N, hNl⟩ : ∃ N, N = l.length := ⟨_, rfl⟩
  have HNL := Lib.hid hNl
  rw [← hNl]
  by_cases h0 : N = 0
  · have g0 : ((N : Int) == 0) = true := by rw [beq_iff_eq]; omega
    clear h0 h3 hNl
    go_wp2_with (go_at_call 8; (with_reducible refine (CX _ (HE.out.below HB1.out)).mono ?_); rintro e w3 ⟨rfl, b3⟩)
    go_ret
    exact ⟨rfl, HB1.out.trans (b3.mono HB1.out.size)⟩
  have g0 : ((N : Int) == 0) = false := by rw [beq_eq_false_iff_ne]; omega
  obtain ⟨Y, hY⟩ : ∃ Y, Y = l.map descOf := ⟨_, rfl⟩
  have HPY := Lib.hid (show ∀ d ∈ Y, putD d ∧ d.media.length ≤ 200 ∧ d.os.length ≤ 200 ∧ d.arch.length ≤ 200 by rw [hY]; exact putsO HOL.out h1)
  have hOY := HOY.out h1
  rw [← hY, ← hNl] at hOY
  have hN : N = Y.length := by rw [hY, List.length_map, hNl]
  have hN8 : N ≤ 8 := by rw [hNl]; exact lenO (m := 8) h1
  have HN := Lib.hid hN
  have hg : ∃ g c1, t1 = .slice (some ⟨g, 0, none⟩) N c1 := by
    rcases hOY.2 with ⟨_, h5⟩ | ⟨g, c, cur, hv, _⟩
    · exact absurd h5 h0
    · exact ⟨g, c, hv⟩
  obtain ⟨g, c1, rfl⟩ := hg
  have hd0 : ∃ d0 Y', Y = d0 :: Y' := by
    cases Y with
    | nil => exact absurd hN h0
    | cons d0 Y' => exact ⟨d0, Y', rfl⟩
  obtain ⟨d0, Y', hY0⟩ := hd0
  have HP0 := Lib.hid (HPY.out d0 (by rw [hY0]; exact List.mem_cons_self ..))
  have hR0 := hOY
  rw [hY0] at hR0
  have HRP := Lib.hid (own_plat0 hR0 HP0.out.1.1.1)
  have HDY := Lib.hid (show eDess.at_ w1 (fun k => k < w1.heap.size) Y (.slice (some ⟨g, 0, none⟩) N c1) from own_des (by rw [← hN]; exact hOY) (fun d hd => (HPY.out d hd).1.1))
  have HGL := Lib.hid (hOY.lt g rfl).2
  clear hR0 hOY hY0 hY hNl h1 HOY HNL
  obtain ⟨T1, hT1⟩ : ∃ T, T = (idxA Y).1 := ⟨_, rfl⟩
  obtain ⟨e1, he1⟩ : ∃ d, d = (idxA Y).2 := ⟨_, rfl⟩
  have PX : Calls Tryz.prog 20 #[.slice (some ⟨g, 0, none⟩) N c1] w1 fun e w' => e = .returned (.tuple #[.string (str T1), .int .i64 (e1 : Int)]) ∧ Below w1.heap.size w1 w' := by
    rw [hT1, he1]
    have h := putIndex_any Y (some ⟨g, 0, none⟩) c1 w1 (HE.out.below HB1.out) (by omega) (fun d hd => (HPY.out d hd).1) (by rw [← HN.out]; exact HDY.out)
    rwa [← HN.out] at h
  have HT1 := Lib.hid (show T1 = (idxA Y).1 ∧ e1 = (idxA Y).2 from ⟨hT1, he1⟩)
  clear hT1 he1 hN
  go_upto_region 5 with (go_at_call 20; (with_reducible refine PX.mono ?_); rintro e w2 ⟨rfl, b2⟩; have HB12 := Lib.hid b2; have HB2 := Lib.hid (HB1.out.trans (b2.mono HB1.out.size)); clear b2)
  have HRP2 := Lib.hid (show w2.rangeAt g 34 [.string (str d0.os), .string (str d0.arch)] from fun j v hj => (World.cell?_of_block (w := w1) (w' := w2) (HB12.out.block _ HGL.out)).trans (HRP.out j v hj))
  have HBI := Lib.hid (built_imgO (d0.os, d0.arch) y D.length cy)
  have HII := Lib.hid (fun (x : Option Addr) (cc : Nat) => show (Tryz.prog.info? 39).map (·.size) = some (row3 (str d0.os) (str d0.arch) x D.length cc).size from info_I)
  clear PX HRP
  go_upto_region 6 with (first
    | ((with_reducible show wpList _ _ _ (⟨some 54, .load _ _, _, _, _, _⟩ :: _) _ _); refine wpList_load_mid rfl 26 _ rfl g 34 rfl [.string (str d0.os), .string (str d0.arch)] _ HRP2.out Tryz.underlying26 rfl info_P ?_)
    | ((with_reducible show wpList _ _ _ (⟨some 56, .build _ _, _, _, _, _⟩ :: _) _ _); refine wpList_build_as rfl 39 _ rfl (row3 (str d0.os) (str d0.arch) y D.length cy) (Eq.trans ?_ HBI.out) ?_; kernel_rfl)
    | ((with_reducible show wpList _ _ _ (⟨none, .store _ (.tmp 11) _, _, _, _, _⟩ :: _) _ _); refine wpList_store_last rfl 39 _ _ rfl w2.heap.size (row3 (str d0.os) (str d0.arch) y D.length cy) rfl rfl 39 zeroI rfl (HII.out _ _) rfl (row3_all _ _ _ _ _) ?_))
  obtain ⟨WI, hWI⟩ : ∃ WI, WI = w2.alloc (.cells (row3 (str d0.os) (str d0.arch) y D.length cy) 39) := ⟨_, rfl⟩
  rw [← hWI]
  have BI : Below w2.heap.size w2 WI := by rw [hWI]; exact (Below.refl _ _).alloc (Nat.le_refl _) _
  have HRI := Lib.hid (show rowC WI w2.heap.size (row3 (str d0.os) (str d0.arch) y D.length cy) 39 by rw [hWI]; exact rowC_new _ _ _)
  have HBW := Lib.hid (HB2.out.trans (BI.mono HB2.out.size))
  have HDYW := Lib.hid (dess_far (dess_far HDY.out HB12.out) BI)
  have HDW := Lib.hid (fun (W : World) (h : Below w.heap.size w W) => digs_far HD.out h)
  obtain ⟨T2, hT2⟩ : ∃ T, T = (imgA (d0.os, d0.arch) D).1 := ⟨_, rfl⟩
  obtain ⟨f1, hf1⟩ : ∃ d, d = (imgA (d0.os, d0.arch) D).2 := ⟨_, rfl⟩
  have PM : Calls Tryz.prog 22 #[.agg (row3 (str d0.os) (str d0.arch) y D.length cy)] WI fun e w' => e = .returned (.tuple #[.string (str T2), .int .i64 (f1 : Int)]) ∧ Below WI.heap.size WI w' := by
    rw [hT2, hf1]
    exact putImage_any (d0.os, d0.arch) D y cy WI (HE.out.below HBW.out) (by omega) HP0.out.1.1.2.2.1 HP0.out.1.1.2.2.2 (HDW.out _ HBW.out)
  have HT2 := Lib.hid (show T2 = (imgA (d0.os, d0.arch) D).1 ∧ f1 = (imgA (d0.os, d0.arch) D).2 from ⟨hT2, hf1⟩)
  clear hT2 hf1 hWI BI HB2 HB12 HDY HRP2 HBI HGL
  go_upto_region 7 with (first
    | ((with_reducible show wpList _ _ _ (⟨some 58, .load _ _, _, _, _, _⟩ :: _) _ _); refine wpList_load_row rfl 39 _ rfl w2.heap.size rfl 39 (row3 (str d0.os) (str d0.arch) y D.length cy) (0, 0) _ HRI.out Tryz.underlying39 rfl (HII.out _ _) ?_)
    | (go_at_call 22; (with_reducible refine PM.mono ?_); rintro e w3 ⟨rfl, b3⟩; have HB3 := Lib.hid (HBW.out.trans (b3.mono HBW.out.size)); have HR3 := Lib.hid (rowC_below HRI.out b3 (rowC_lt HRI.out)); have HDY3 := Lib.hid (dess_far HDYW.out b3); clear b3))
  clear HBW HRI HDYW PM
  by_cases he : e1 = 0
  rotate_left
  · have g2 : ((e1 : Int) == 0) = false := by rw [beq_eq_false_iff_ne]; omega
    have g4 : ¬ (e1 : Int) = 0 := by omega
    clear he
    go_wp2_with (go_at_call 8; (with_reducible refine (CX _ (HE.out.below HB3.out)).mono ?_); rintro e w4 ⟨rfl, b4⟩)
    go_ret
    exact ⟨rfl, HB3.out.trans (b4.mono HB3.out.size)⟩
  by_cases hf : f1 = 0
  rotate_left
  · have g2 : ((f1 : Int) == 0) = false := by rw [beq_eq_false_iff_ne]; omega
    have g4 : ¬ (f1 : Int) = 0 := by omega
    subst he
    clear hf
    go_wp2_with (go_at_call 8; (with_reducible refine (CX _ (HE.out.below HB3.out)).mono ?_); rintro e w4 ⟨rfl, b4⟩)
    go_ret
    exact ⟨rfl, HB3.out.trans (b4.mono HB3.out.size)⟩
  subst he
  subst hf
  obtain ⟨ix, U1, TN1⟩ := tn_of_idx (l := Y) HT1.out.2.symm HPY.out (by rw [← HN.out]; exact hN8) by_
  obtain ⟨jx, U2, TN2⟩ := tn_of_img (p := (d0.os, d0.arch)) (l := D) HT2.out.2.symm HP0.out.2.2.1 HP0.out.2.2.2 HDG.out (by omega) by_
  rw [← HT1.out.1] at TN1
  rw [← HT2.out.1] at TN2
  have HTN1 := Lib.hid TN1
  have HTN2 := Lib.hid TN2
  have HIX := Lib.hid ix
  have HJX := Lib.hid jx
  clear TN1 TN2 ix jx HT1 HT2
  go_upto_region 10 with (first
    | (go_at_call 28; (with_reducible refine (HTN1.out.parse4 _ (HE.out.below HB3.out)).mono ?_); rintro e w4 ⟨K1, t1, x1, n1, m1, y1, k1, o1, rfl, ⟨F1, hx1⟩, b4⟩; have HV1 := Lib.hid (BoxV.new hx1); have HB4 := Lib.hid (HB3.out.trans (b4.mono HB3.out.size)); have HR4 := Lib.hid (rowC_below HR3.out b4 (rowC_lt HR3.out)); have HDY4 := Lib.hid (dess_far HDY3.out b4); clear b4 hx1)
    | ((with_reducible show wpList _ _ _ (⟨none, .store _ (.tmp 14) _, _, _, _, _⟩ :: _) _ _); refine wpList_store_last rfl 63 _ _ rfl w4.heap.size (row4 K1 t1 x1 n1 m1 y1 k1 o1) rfl rfl 63 zeroV4 rfl HI.out rfl (row4_all _ _ _ _ _ _ _ _) ?_))
  clear HB3 HR3 HDY3
  generalize w4.alloc (.cells (row4 K1 t1 x1 n1 m1 y1 k1 o1) 63) = WA at *
  have HBA := Lib.hid (HB4.out.trans (HV1.out.2.mono HB4.out.size))
  have HRA := Lib.hid (rowC_below HR4.out HV1.out.2 (rowC_lt HR4.out))
  have HDYA := Lib.hid (dess_far HDY4.out HV1.out.2)
  clear HB4 HR4 HDY4
  go_upto_region 11 with (first
    | (go_at_call 28; (with_reducible refine (HTN2.out.parse4 _ (HE.out.below HBA.out)).mono ?_); rintro e w5 ⟨K2, t2, x2, n2, m2, y2, k2, o2, rfl, ⟨F2, hx2⟩, b5⟩; have HV2 := Lib.hid (BoxV.new hx2); have HB5 := Lib.hid (HBA.out.trans (b5.mono HBA.out.size)); have HR5 := Lib.hid (rowC_below HRA.out b5 (rowC_lt HRA.out)); have HDY5 := Lib.hid (dess_far HDYA.out b5); have HVA := Lib.hid (HV1.out.1.below b5); clear b5 hx2)
    | ((with_reducible show wpList _ _ _ (⟨none, .store _ (.tmp 17) _, _, _, _, _⟩ :: _) _ _); refine wpList_store_last rfl 63 _ _ rfl w5.heap.size (row4 K2 t2 x2 n2 m2 y2 k2 o2) rfl rfl 63 zeroV4 rfl HI.out rfl (row4_all _ _ _ _ _ _ _ _) ?_))
  clear HBA HRA HDYA HV1
  generalize w5.alloc (.cells (row4 K2 t2 x2 n2 m2 y2 k2 o2) 63) = WB at *
  have HBB := Lib.hid (HB5.out.trans (HV2.out.2.mono HB5.out.size))
  have HRB := Lib.hid (rowC_below HR5.out HV2.out.2 (rowC_lt HR5.out))
  have HDYB := Lib.hid (dess_far HDY5.out HV2.out.2)
  have HVB := Lib.hid (HVA.out.below HV2.out.2)
  have HV2B := Lib.hid HV2.out.1
  clear HB5 HR5 HDY5 HVA HV2
  go_upto_region 12 with (first
    | ((with_reducible show wpList _ _ _ (⟨some 82, .load _ _, _, _, _, _⟩ :: _) _ _); refine wpList_load_row rfl 63 _ rfl w4.heap.size rfl 63 (row4 K1 t1 x1 n1 m1 y1 k1 o1) (0, 0) _ HVB.out.r Tryz.underlying63 rfl HI.out ?_)
    | (go_at_call 30; (with_reducible refine (HTN1.out.turn4 hby HVB.out).mono ?_); rintro e w6 ⟨V1, rfl, hv1, b6⟩; have HW1 := Lib.hid hv1; have HB6 := Lib.hid (HBB.out.trans (b6.mono HBB.out.size)); have HR6 := Lib.hid (rowC_below HRB.out b6 (rowC_lt HRB.out)); have HDY6 := Lib.hid (dess_far HDYB.out b6); have HV6 := Lib.hid (HV2B.out.below b6); clear b6 hv1)
    | (go_at_call 29; (with_reducible refine (HTN1.out.print _ (HE.out.below HB6.out) _ HW1.out).mono ?_); rintro e w7 ⟨rfl, b7⟩; have HB7 := Lib.hid (HB6.out.trans (b7.mono HB6.out.size)); have HR7 := Lib.hid (rowC_below HR6.out b7 (rowC_lt HR6.out)); have HDY7 := Lib.hid (dess_far HDY6.out b7); have HV7 := Lib.hid (HV6.out.below b7); clear b7))
  clear HBB HRB HDYB HVB HV2B HB6 HR6 HDY6 HV6 HW1
  go_upto_region 13 with (first
    | ((with_reducible show wpList _ _ _ (⟨some 90, .load _ _, _, _, _, _⟩ :: _) _ _); refine wpList_load_row rfl 63 _ rfl w5.heap.size rfl 63 (row4 K2 t2 x2 n2 m2 y2 k2 o2) (0, 0) _ HV7.out.r Tryz.underlying63 rfl HI.out ?_)
    | (go_at_call 30; (with_reducible refine (HTN2.out.turn4 hby HV7.out).mono ?_); rintro e w8 ⟨V2, rfl, hv2, b8⟩; have HW2 := Lib.hid hv2; have HB8 := Lib.hid (HB7.out.trans (b8.mono HB7.out.size)); have HR8 := Lib.hid (rowC_below HR7.out b8 (rowC_lt HR7.out)); have HDY8 := Lib.hid (dess_far HDY7.out b8); clear b8 hv2)
    | (go_at_call 29; (with_reducible refine (HTN2.out.print _ (HE.out.below HB8.out) _ HW2.out).mono ?_); rintro e w9 ⟨rfl, b9⟩; have HB9 := Lib.hid (HB8.out.trans (b9.mono HB8.out.size)); have HR9 := Lib.hid (rowC_below HR8.out b9 (rowC_lt HR8.out)); have HDY9 := Lib.hid (dess_far HDY8.out b9); clear b9))
  clear HB7 HR7 HDY7 HV7 HB8 HR8 HDY8 HW2
  go_upto_region 14 with (go_at_call 11; (with_reducible refine (HTN1.out.index HIX.out _ (HE.out.below HB9.out)).mono ?_); rintro e wI ⟨xI, cI, rfl, hLI, bI⟩; have HLI := Lib.hid (eDess.mono hLI (G := fun k => k < wI.heap.size) (fun k _ hk => hk)); have HBI := Lib.hid (HB9.out.trans (bI.mono HB9.out.size)); have HRI := Lib.hid (rowC_below HR9.out bI (rowC_lt HR9.out)); have HDYI := Lib.hid (dess_far HDY9.out bI); clear bI hLI)
  clear HB9 HR9 HDY9
  go_upto_region 15 with (first
    | (go_at_call 13; (with_reducible refine (HTN2.out.image HJX.out _ (HE.out.below HBI.out)).mono ?_); rintro e wJ ⟨xJ, cJ, rfl, hLJ, bJ⟩; have HLJ := Lib.hid (eDigs.mono hLJ (G := fun k => k < wJ.heap.size) (fun k _ hk => hk)); have HBJ := Lib.hid (HBI.out.trans (bJ.mono HBI.out.size)); have HRJ := Lib.hid (rowC_below HRI.out bJ (rowC_lt HRI.out)); have HDYJ := Lib.hid (dess_far HDYI.out bJ); have HLIJ := Lib.hid (dess_far HLI.out bJ); clear bJ hLJ)
    | ((with_reducible show wpList _ _ _ (⟨none, .store _ (.tmp 26) _, _, _, _, _⟩ :: _) _ _); refine wpList_store_last rfl 39 _ _ rfl wJ.heap.size (row3 (str d0.os) (str d0.arch) xJ D.length cJ) rfl rfl 39 zeroI rfl (HII.out _ _) rfl (row3_all _ _ _ _ _) ?_))
  clear HBI HRI HDYI HLI
  obtain ⟨WK, hWK⟩ : ∃ WK, WK = wJ.alloc (.cells (row3 (str d0.os) (str d0.arch) xJ D.length cJ) 39) := ⟨_, rfl⟩
  rw [← hWK]
  have BK : Below wJ.heap.size wJ WK := by rw [hWK]; exact (Below.refl _ _).alloc (Nat.le_refl _) _
  have HRK := Lib.hid (show rowC WK wJ.heap.size (row3 (str d0.os) (str d0.arch) xJ D.length cJ) 39 by rw [hWK]; exact rowC_new _ _ _)
  have HBK := Lib.hid (HBJ.out.trans (BK.mono HBJ.out.size))
  have HLK := Lib.hid (digs_far HLJ.out BK)
  have HRW := Lib.hid (rowC_below HRJ.out BK (rowC_lt HRJ.out))
  have HDYK := Lib.hid (dess_far HDYJ.out BK)
  have HLIK := Lib.hid (dess_far HLIJ.out BK)
  clear hWK BK HRJ HBJ HLJ HDYJ HLIJ
  have eq1 : ∀ w, (Op.equalIn 10000 26 (.agg #[.string (str d0.os), .string (str d0.arch)]) (.agg #[.string (str d0.os), .string (str d0.arch)])).run Tryz.prog w = .ok true w := fun w => by
    have h5 := eq_plat w 9998 (d0.os, d0.arch) (d0.os, d0.arch)
    rw [(eqPB_iff _ _).2 rfl] at h5
    exact h5
  have gp := guard_plat
  have hup := Tryz.underlying26
  have SYa := fun W (h1 : eDess.at_ W (fun k => k < W.heap.size) Y (.slice xI N cI)) h2 => same_yesO Y xI (some ⟨g, 0, none⟩) N cI c1 HN.out (by omega) W h1 h2
  have SYb := fun W (h1 : eDigs.at_ W (fun k => k < W.heap.size) D (.slice xJ D.length cJ)) h2 => samedig_yesO D xJ y cJ cy (by omega) W h1 h2
  have HLIK2 := Lib.hid (show eDess.at_ WK (fun k => k < WK.heap.size) Y (.slice xI N cI) by rw [HN.out]; exact HLIK.out)
  rw [← HN.out]
  go_wp2_with (first
    | (go_at_call 15; (with_reducible refine (SYa _ HLIK2.out HDYK.out).mono ?_); rintro e wL ⟨rfl, bL⟩; have HRL := Lib.hid (row3_rangeO (p := (d0.os, d0.arch)) (rowC_below HRK.out bL (rowC_lt HRK.out))); have q2 := HRL.out.2; have HQL := Lib.hid (row3_rangeO (p := (d0.os, d0.arch)) (rowC_below HRW.out bL (rowC_lt HRW.out))); have HLL2 := Lib.hid (digs_far HLK.out bL); have HBL := Lib.hid (HBK.out.trans (bL.mono HBK.out.size)); clear bL)
    | ((with_reducible show wpList _ _ _ (⟨some 136, .load _ _, _, _, _, _⟩ :: _) _ _); refine wpList_load_midG rfl 26 _ rfl wJ.heap.size 0 rfl [.string (str d0.os), .string (str d0.arch)] _ HRL.out.1 hup rfl info_P ?_)
    | ((with_reducible show wpList _ _ _ (⟨some 138, .load _ _, _, _, _, _⟩ :: _) _ _); refine wpList_load_midG rfl 26 _ rfl w2.heap.size 0 rfl [.string (str d0.os), .string (str d0.arch)] _ HQL.out.1 hup rfl info_P ?_)
    | (go_at_call 16; (with_reducible refine (SYb _ HLL2.out (HDW.out _ HBL.out)).mono ?_); rintro e wM ⟨rfl, bM⟩; have HBM := Lib.hid (HBL.out.trans (bM.mono HBL.out.size)); clear bM)
    | (go_at_call 8; (with_reducible refine (CX _ (HE.out.below HBM.out)).mono ?_); rintro e wN ⟨rfl, bN⟩))
  go_ret
  exact ⟨rfl, HBM.out.trans (bN.mono HBM.out.size)⟩
end Go.Proofs.YtnkencdibniagaaGreatDoor

/- Layer 13: OciOrder, of what is handed in. -/
namespace Go.Proofs.YtnkencdibniagaaGreatDoor
open Go.RowKit Go.ChangeShapes Go.WideShapes Go.Deep

theorem rough_bytesO : Tryz.prog.bytesOf 46 = 96 := by kernel_rfl
/-- The roughs that come in, and how many they may be. -/
theorem open_sizedO {H : Type} {enc : TypeId × Value → H} {W : World} {base : Nat} {sp : Nat → Bool} {held : Bool} {d : DataW H} {p : List MemPlace} {a : Option Addr} {len cap : Nat}
    (k : DataW.Trod enc Tryz.prog W base sp held 47 (.slice a len cap) d p) (sz : ∀ el sp', d = .slice el sp' → (el.length + sp'.length) * Tryz.prog.bytesOf 46 ≤ reachBytes) :
    ∃ l : List RG, len = l.length ∧ RghsC W a l ∧ l.length * 96 ≤ 140737488351232 := by
  obtain ⟨fuel, hf⟩ := k
  obtain ⟨l, xp, cp, he, hR, _, hB⟩ := open_roughs hf
  obtain ⟨rfl, rfl, rfl⟩ := Value.slice.inj he
  refine ⟨l, rfl, hR, ?_⟩
  have := hB reachBytes (fun el sp' h => sz el sp' h)
  rw [rough_bytesO] at this
  exact this
theorem order_w {H : Type} {enc : TypeId × Value → H} {base1 base2 : Nat} {sp1 sp2 : Nat → Bool} {held1 held2 : Bool} {d1 d2 : DataW H} {p1 p2 : List MemPlace} (a0 : Option Addr) (len0 cap0 : Nat) (a1 : Option Addr) (len1 cap1 : Nat) (a2 : Int) (W : World)
    (k0 : DataW.Trod enc Tryz.prog W base1 sp1 held1 47 (.slice a0 len0 cap0) d1 p1) (sz0 : ∀ el sp', d1 = .slice el sp' → (el.length + sp'.length) * Tryz.prog.bytesOf 46 ≤ reachBytes)
    (k1 : DataW.Trod enc Tryz.prog W base2 sp2 held2 37 (.slice a1 len1 cap1) d2 p2) (_sz1 : ∀ el sp', d2 = .slice el sp' → (el.length + sp'.length) * Tryz.prog.bytesOf 24 ≤ reachBytes) (w2 : (Lit.int .u8 a2).wf = true) (hE : Env2 W) :
    Calls Tryz.prog 7 #[.slice a0 len0 cap0, .slice a1 len1 cap1, .int .u8 a2] W fun e w' => e = .returned (.bool true) ∧ Below W.heap.size W w' := by
  obtain ⟨l, rfl, hR, hl⟩ := open_sizedO k0 sz0
  obtain ⟨fuel, hf⟩ := k1
  obtain ⟨D, xp, cp, he, hD, _, _⟩ := open_digs hf
  obtain ⟨rfl, rfl, rfl⟩ := Value.slice.inj he
  have hw : 0 ≤ a2 ∧ a2 ≤ 255 := by
    have := w2
    simp [Lit.wf, IntKind.min, IntKind.max, IntKind.bits, IntKind.signed] at this
    omega
  obtain ⟨b, rfl⟩ : ∃ b : Nat, a2 = (b : Int) := ⟨a2.toNat, by omega⟩
  exact ociorder_any l a0 cap0 D a1 cap1 b (by omega) W hE hl hR hD
end Go.Proofs.YtnkencdibniagaaGreatDoor
#print axioms Go.Proofs.YtnkencdibniagaaGreatDoor.order_w

/- Layer 13: what the variables that start-up laid give. -/
namespace Go.Proofs.YtnkencdibniagaaGreatDoor
open Go.ChangeShapes Go.WideShapes Go.ChangeAt Go.WideElems Go.RowKit

theorem own : ownKnob Tryz.prog.godebug = none := by kernel_rfl
def laid2 : List (String × DataW Unit) := [("math/bits.deBruijn32tab", Rows.laid_math_bits_deBruijn32tab), ("math/bits.deBruijn64tab", Rows.laid_math_bits_deBruijn64tab), ("internal/strconv.uint64pow10", Rows.laid_internal_strconv_uint64pow10), ("unicode/utf8.acceptRanges", Rows.laid_unicode_utf8_acceptRanges), ("errors.errorType", Rows.laid_errors_errorType), ("strconv.ErrRange", Rows.laid_strconv_ErrRange), ("strconv.ErrSyntax", Rows.laid_strconv_ErrSyntax), ("lighter/json.words", Rows.laid_lighter_json_words), ("unicode/utf8.first", Rows.laid_unicode_utf8_first)]
def laidD : List (String × DataW Unit) := [("math/bits.deBruijn32tab", Rows.laid_math_bits_deBruijn32tab), ("math/bits.deBruijn64tab", Rows.laid_math_bits_deBruijn64tab), ("internal/strconv.uint64pow10", Rows.laid_internal_strconv_uint64pow10), ("unicode/utf8.acceptRanges", Rows.laid_unicode_utf8_acceptRanges), ("strconv.ErrRange", Rows.laid_strconv_ErrRange), ("strconv.ErrSyntax", Rows.laid_strconv_ErrSyntax), ("lighter/json.words", Rows.laid_lighter_json_words), ("unicode/utf8.first", Rows.laid_unicode_utf8_first)]
theorem row_err (u : TypeId) (h : Tryz.prog.typeName? 3 u = some "*errors.errorString") : u = 274 :=
  have star : "*" ++ "errors.errorString" = "*errors.errorString" := by decide
  typeName_ptr_named (nm := "errors.errorString") (by rw [star]; kernel_rfl) (by kernel_rfl) (by decide) u (by rw [star]; exact h)
theorem rt_err : (Tryz.prog.cutTypes.find? (·.1 == "internal/reflectlite.rtype")).map (·.2) = some 206 := by kernel_rfl
/-- A table of texts. -/
theorem table_str {H : Type} {enc : TypeId × Value → H} {P : Program} {w : World} {base fuel n : Nat} {spare : Nat → Bool} {held : Bool} {T e : TypeId} {cs : List Value} {q : List MemPlace} (hT : P.underlying T = some (.array n e)) (he : P.underlying e = some .string) (h1 : P.cellsOf e = 1)
    (L : List (List UInt8)) (hd : DataW.trod enc P w base spare held fuel T cs = some (.agg (L.map fun x => .lit (.string x)), q)) (j : Nat) (hj : j < L.length) : cs[j]? = some (.string (str (L.getD j []))) := by
  obtain ⟨xs, m, rfl, hx, hlen, hn, hel⟩ := DataW.trod_array hT hd
  simp only [Prod.mk.injEq, DataW.agg.injEq] at hx
  have hxl : xs.length = L.length := by have := congrArg List.length hx.1; simpa using this.symm
  have hg := hel j (by omega)
  rw [List.getElem?_eq_getElem (by omega)] at hg
  obtain ⟨s, e1, e2, _⟩ := DataW.trod_string he hg
  have hjx : j < xs.length := by omega
  have e3 : (xs[j]'hjx).1 = .lit (.string (L.getD j [])) := by
    have := congrArg (fun l => l[j]?) hx.1
    simp only [List.getElem?_map, List.getElem?_eq_getElem hj, List.getElem?_eq_getElem hjx, Option.map_some, Option.some.injEq] at this
    rw [← this, List.getD_eq_getElem?_getD, List.getElem?_eq_getElem hj]
    rfl
  rw [e2] at e3
  simp only [DataW.lit.injEq, Lit.string.injEq] at e3
  have e4 : s = str (L.getD j []) := bytes_toList (by rw [str_toList]; exact e3)
  rw [e4] at e1
  rw [h1, Nat.mul_one] at e1
  have := congrArg (fun l => l[0]?) e1
  simp only [List.getElem?_take, List.getElem?_drop, Nat.add_zero, List.getElem?_cons_zero] at this
  simpa using this
set_option maxRecDepth 100000 in
theorem laid_split {W : World} (h : laidMetH Tryz.prog laid2 W) : laidMet Tryz.prog laidD W ∧ handlesMet Tryz.prog [("errors.errorType", Rows.laid_errors_errorType)] W := h
theorem gWords : Tryz.prog.globalNamed "lighter/json.words" = some 1 := by kernel_rfl
theorem tWords : (Tryz.prog.globals[1]?).map (·.type) = some 179 := by kernel_rfl
theorem gTz : Tryz.prog.globalNamed "math/bits.deBruijn64tab" = some 9 := by kernel_rfl
theorem tTz : (Tryz.prog.globals[9]?).map (·.type) = some 278 := by kernel_rfl
theorem gErr : Tryz.prog.globalNamed "errors.errorType" = some 0 := by kernel_rfl
def tz64 : List Int := [0, 1, 56, 2, 57, 49, 28, 3, 61, 58, 42, 50, 38, 29, 17, 4, 62, 47, 59, 36, 45, 43, 51, 22, 53, 39, 33, 30, 24, 18, 12, 5, 63, 55, 48, 27, 60, 41, 37, 16, 46, 35, 44, 21, 52, 32, 23, 11, 54, 26, 40, 15, 34, 20, 31, 10, 25, 14, 19, 9, 13, 8, 7, 6]
/-- What the condition gives. -/
theorem env_of_laid {W : World} (h : laidMetH Tryz.prog laid2 W) : Env W := by
  obtain ⟨hd, hh⟩ := laid_split h
  have rw_ := Lib.laidMet.reads hd (n := "lighter/json.words") (d := Rows.laid_lighter_json_words) (.tail _ (.tail _ (.tail _ (.tail _ (.tail _ (.tail _ (.head _)))))))
  have rt_ := Lib.laidMet.reads hd (n := "math/bits.deBruijn64tab") (d := Rows.laid_math_bits_deBruijn64tab) (.tail _ (.head _))
  have ra_ := Lib.laidMet.reads hd (n := "unicode/utf8.acceptRanges") (d := Rows.laid_unicode_utf8_acceptRanges) (.tail _ (.tail _ (.tail _ (.head _))))
  have rf_ := Lib.laidMet.reads hd (n := "unicode/utf8.first") (d := Rows.laid_unicode_utf8_first) (.tail _ (.tail _ (.tail _ (.tail _ (.tail _ (.tail _ (.tail _ (.head _))))))))
  have e1 : Rows.laid_unicode_utf8_first = Lib.firstData := by kernel_rfl
  have e2 : (Rows.laid_unicode_utf8_acceptRanges : DataW Unit) = Lib.acceptData := by kernel_rfl
  rw [e1] at rf_
  rw [e2] at ra_
  have hU : Lib.Utf8Tabs 2 3 W :=
    utf8Tabs_of_readsT (ρ := Tryz.laysValid_ren) (U8Types.of196 Tryz.laysValid) ⟨by kernel_rfl, by kernel_rfl, by kernel_rfl, by kernel_rfl, by kernel_rfl, by kernel_rfl, by kernel_rfl⟩ rf_ ra_
  obtain ⟨a0, s0, hv0, _⟩ := laid_sentinel (g := 4) (ti := 122) (tp := 274) (te := 276) (ts := 9) hd.tail.tail.tail.tail.tail (by kernel_rfl) (by kernel_rfl) Tryz.underlying122 row_err Tryz.underlying274 Tryz.underlying276 rfl rfl Tryz.underlying9 (by kernel_rfl) (by kernel_rfl)
  have htz : W.cell? ⟨9, 15, none⟩ = some (.int .u8 4) := by
    obtain ⟨g, t, cs, fuel, p, h1, h2, h3, h4⟩ := rt_
    obtain rfl := Option.some.inj (gTz.symm.trans h1)
    obtain rfl := Option.some.inj (tTz.symm.trans h2)
    have hcs := Lib.cells_of_tab (zs := tz64) Tryz.underlying278 Tryz.underlying5 (by kernel_rfl) (by kernel_rfl) h4
    rw [World.var?_cell h1 h3 15, ← Array.getElem?_toList, hcs]
    rfl
  have hbig : 10 ≤ W.heap.size := World.block_lt_of_cell? W _ htz
  refine ⟨fun i hi => ?_, hU, ?_, ⟨_, _, hv0⟩, hbig, htz⟩
  · obtain ⟨g, t, cs, fuel, p, h1, h2, h3, h4⟩ := rw_
    obtain rfl := Option.some.inj (gWords.symm.trans h1)
    obtain rfl := Option.some.inj (tWords.symm.trans h2)
    have r := table_str Tryz.underlying179 Tryz.underlying9 (by kernel_rfl) [nullT, falseT, trueT] h4 i hi
    rw [World.var?_cell h1 h3 i, ← Array.getElem?_toList, r]
    match i, hi with
    | 0, _ => rfl
    | 1, _ => rfl
    | 2, _ => rfl
  · obtain ⟨name, u, ty, e1, e2, e3, e4, e5⟩ := hh _ (List.mem_singleton.2 rfl)
    have en : name = [101, 114, 114, 111, 114] := (Option.some.inj e1).symm
    subst en
    obtain rfl := Option.some.inj (rt_err.symm.trans e2)
    have one : ((List.range Tryz.prog.types.size).filter fun t => Tryz.prog.rowNamed t [101, 114, 114, 111, 114]) = [122] := by kernel_rfl
    have hm : ty ∈ (List.range Tryz.prog.types.size).filter fun t => Tryz.prog.rowNamed t [101, 114, 114, 111, 114] := List.mem_filter.2 ⟨List.mem_range.2 e3, e4⟩
    rw [one] at hm
    obtain rfl := List.mem_singleton.1 hm
    have hty : typeHandle Tryz.prog 122 = .pointer (some ⟨10, 122, none⟩) := by kernel_rfl
    rw [hty] at e5
    simpa using World.var?_cell gErr e5 0
/-- The door's own heap, with the library's great table laid. -/
noncomputable def startW (os : Os) : World :=
  let w0 := World.doorLaid Tryz.prog 400 os
  { w0 with heap := w0.heap.modify 2 fun
      | .cells _ t frozen => .cells (Go.Pinned.utf8FirstZ.map fun (z : Nat) => Value.int .u8 (z : Int)).toArray t frozen
      | o => o }
/-- It meets the condition. -/
theorem door_met (os : Os) (args : Array Value) : laidMetH Tryz.prog laid2 ((startW os).forCall (fun _ _ => 0) ⟨#[], args, []⟩).memory :=
  laidMetH_of_parts3 (fuel := 8) (laidMet_of_run' 8 (by kernel_rfl) (by kernel_rfl)) (by kernel_rfl) (by kernel_rfl)
set_option maxRecDepth 100000 in
theorem of_laid {W : World} (h : laidMetH Tryz.prog laid2 W) : Env2 W := by
  refine ⟨env_of_laid h, ?_, ?_⟩
  · obtain ⟨hd, _⟩ := laid_split h
    obtain ⟨a0, s0, hv0, _⟩ := laid_sentinel (g := 5) (ti := 122) (tp := 274) (te := 276) (ts := 9) hd.tail.tail.tail.tail (by kernel_rfl) (by kernel_rfl) Tryz.underlying122 row_err Tryz.underlying274 Tryz.underlying276 rfl rfl Tryz.underlying9 (by kernel_rfl) (by kernel_rfl)
    exact ⟨_, _, hv0⟩
  · obtain ⟨hd, _⟩ := laid_split h
    have h2 := hd.tail.tail
    have e : (Rows.laid_internal_strconv_uint64pow10 : DataW Unit) = Lib.tabData .u64 Lib.pow10Tab := by kernel_rfl
    rw [e] at h2
    exact Lib.tabIs_of_head (g := 6) (t := 269) (e := 225) (n := 20) (by kernel_rfl) (by kernel_rfl) Tryz.underlying269 Tryz.underlying225 (by kernel_rfl) (by kernel_rfl) h2
end Go.Proofs.YtnkencdibniagaaGreatDoor

