/- Merged: OgC, OgD, OhJ. -/
import Derived.Test.YtnkencdibniagaaGreatDoorM34
import Derived.Test.YtnkencdibniagaaGreatDoorM45
import Derived.Test.YtnkencdibniagaaGreatDoorM37
import Derived.Test.YtnkencdibniagaaGreatDoorM31
import Derived.Test.YtnkencdibniagaaGreatDoorM43
import Derived.Test.YtnkencdibniagaaGreatDoorM39
import Derived.Test.YtnkencdibniagaaGreatDoorM40
import Derived.Deep.DeepCutAuto
import Derived.Test.YtnkencdibniagaaGreatDoorM42
import Derived.Test.YtnkencdibniagaaGreatDoorM44
/- Layer 13: what is put, turned, put again, and read, is what it was: the calls as contracts. -/
namespace Go.Proofs.YtnkencdibniagaaGreatDoor
open Go.RowKit

/-- A value v, its text S; turned by b: its text T. -/
structure Tn (v : JV) (S : Bs) (b : Nat) (T : Bs) : Prop where
  s : okS S ∧ ∃ q, allP q S = some (.ok v [])
  o : okJ v ∧ may v
  o2 : okJ (turnJ b v)
  p : printA (turnJ b v) = (T, 0)
  t : T.length ≤ 65536 ∧ ∃ q, allP q T = some (.ok (turnJ b v) [])
theorem Tn.print {v : JV} {S T : Bs} {b : Nat} (h : Tn v S b T) (w : World) (hE : Env2 w) (V : Value) (hV : HoldsJ w (fun k => k < w.heap.size) (turnJ b v) V) :
    Calls Tryz.prog 29 #[V] w fun e w' => e = .returned (.tuple #[.string (str T), .int .i64 0]) ∧ Below w.heap.size w w' := by
  obtain ⟨a, b', c, d, rfl, hH⟩ := hV
  have := print_any h.o2 hE.env hH
  rw [h.p] at this
  exact this
theorem Tn.index {l : List DV} {S T : Bs} {b : Nat} (h : Tn (idxJ l) S b T) (hl : idxV (idxJ l) = .ok l) (w : World) (hE : Env2 w) :
    Calls Tryz.prog 11 #[.string (str T)] w fun e w' => ∃ x cc, e = .returned (.tuple #[.slice x l.length cc, .int .i64 0]) ∧ eDess.at_ w' (fun k => w.heap.size ≤ k ∧ k < w'.heap.size) l (.slice x l.length cc) ∧ Below w.heap.size w w' := by
  obtain ⟨hS, q, hq⟩ := h.t
  refine (index_any2 hS w hE hq).mono ?_
  rintro e w' ⟨l', t, code, rfl, h1, h3, h4⟩
  have e2 : idxV (turnJ b (idxJ l)) = .ok l := by rw [idxV_turn b h.o.2, hl]
  rcases h3 with ⟨h3, rfl⟩ | ⟨h3, _⟩
  · have h5 : idxV (turnJ b (idxJ l)) = .ok l' := h3
    rw [e2] at h5
    injection h5 with h5
    subst h5
    rcases h1 with ⟨rfl, rfl⟩ | ⟨ad, cap, rfl, h6⟩
    · exact ⟨none, 0, rfl, .inl ⟨rfl, rfl⟩, h4⟩
    · exact ⟨some ad, cap, rfl, .inr ⟨ad, cap, rfl, h6⟩, h4⟩
  · have h5 : idxV (turnJ b (idxJ l)) = .bad code := h3
    rw [e2] at h5
    cases h5
end Go.Proofs.YtnkencdibniagaaGreatDoor

/- Layer 13: OciOrder. -/
namespace Go.Proofs.YtnkencdibniagaaGreatDoor
open Go.RowKit
attribute [local go_sem] wide_fn round_fn

theorem putsO {l : List RG} (hok : ∀ r ∈ l, r.ok) {most : Int} (h : ofR l most = true) : ∀ d ∈ l.map descOf, putD d ∧ d.media.length ≤ 200 ∧ d.os.length ≤ 200 ∧ d.arch.length ≤ 200 := by
  intro d hd
  obtain ⟨r, hr, rfl⟩ := List.mem_map.1 hd
  unfold ofR at h
  rw [Bool.and_eq_true, List.all_eq_true] at h
  have hs := h.1 r hr
  refine ⟨good_of (hok r hr) hs, ?_⟩
  unfold shortR at hs
  rw [Bool.and_eq_true, Bool.and_eq_true, decide_eq_true_eq, decide_eq_true_eq, decide_eq_true_eq] at hs
  refine ⟨?_, hs.2.1, hs.2.2⟩
  show (if r.num < 200 then mediaN (r.num % 9) else r.media).length ≤ _
  split
  · have := mediaN_le (r.num % 9); omega
  · omega
theorem built_imgO (p : Bs × Bs) (a : Option Addr) (n c : Nat) : Tryz.prog.built 39 [(0, .agg #[.string (str p.1), .string (str p.2)]), (1, .slice a n c)] = some (row3 (str p.1) (str p.2) a n c) := by kernel_rfl
/-- The first row's platform. -/
theorem own_plat0 {w : World} {B g n c : Nat} {d : DV} {Y : List DV} (h : w.ownsRow B 28 36 (.slice (some ⟨g, 0, none⟩) n c) n (flatD (d :: Y))) (hd : d.dig.length = 32) : w.rangeAt g 34 [.string (str d.os), .string (str d.arch)] := by
  have e : flatD (d :: Y) = ([.string (str d.media)] ++ d.dig.map byteV ++ [.int .i64 d.size]) ++ ([.string (str d.os), .string (str d.arch)] ++ flatD Y) := by
    unfold flatD
    rw [List.flatMap_cons, encD_list]
    unfold encL
    simp
  have hl : ([.string (str d.media)] ++ d.dig.map byteV ++ [.int .i64 d.size] : List Value).length = 34 := by simp [hd]
  intro j v hj
  have hj2 : j < 2 := by have := (List.getElem?_eq_some_iff.1 hj).1; simpa using this
  have := h.cells (g := g) rfl (34 + j) v (by
    rw [e, List.getElem?_append_right (by omega), hl, Nat.add_sub_cancel_left, List.getElem?_append_left (by simpa using hj2)]
    exact hj)
  have ea : (⟨g, 0, none⟩ : Addr).add (34 + j) = ⟨g, 34 + j, none⟩ := by simp [Addr.add]
  rwa [ea] at this
/-- Two values that are held, each in a box; the image's box; the rows; the digests: what every later world still has. -/
theorem dess_far {W W' : World} {L : List DV} {v : Value} (h : eDess.at_ W (fun k => k < W.heap.size) L v) (hb : Below W.heap.size W W') : eDess.at_ W' (fun k => k < W'.heap.size) L v :=
  eDess.mono (eDess.chg h (Chg.of_below (s := no) hb) (fun _ _ h => h)) (fun _ _ hk => hk)
theorem digs_far {W W' : World} {L : List Bs} {v : Value} (h : eDigs.at_ W (fun k => k < W.heap.size) L v) (hb : Below W.heap.size W W') : eDigs.at_ W' (fun k => k < W'.heap.size) L v :=
  eDigs.mono (eDigs.chg h (Chg.of_below (s := no) hb) (fun _ _ h => h)) (fun _ _ hk => hk)
/-- A value, in a box. -/
structure BoxV (v : JV) (b : Nat) (K : Int) (T : ByteArray) (x1 : Option Addr) (n1 c1 : Nat) (x2 : Option Addr) (n2 c2 : Nat) (W : World) : Prop where
  h : HoldsC W (fun k => k < W.heap.size) v (.int .i64 K) (.string T) (.slice x1 n1 c1) (.slice x2 n2 c2)
  r : rowC W b (row4 K T x1 n1 c1 x2 n2 c2) 63
theorem BoxV.below {v : JV} {b : Nat} {K : Int} {T : ByteArray} {x1 : Option Addr} {n1 c1 : Nat} {x2 : Option Addr} {n2 c2 : Nat} {W W' : World} (h : BoxV v b K T x1 n1 c1 x2 n2 c2 W) (hb : Below W.heap.size W W') : BoxV v b K T x1 n1 c1 x2 n2 c2 W' :=
  ⟨h.h.on hb, rowC_below h.r hb (rowC_lt h.r)⟩
end Go.Proofs.YtnkencdibniagaaGreatDoor

/- Layer 13: OciPut. -/
namespace Go.Proofs.YtnkencdibniagaaGreatDoor
open Go.RowKit
attribute [local go_sem] wide_fn round_fn

/-- Of any world behind W the contracts of the two that put. -/
structure PutsM (w : World) (X : DV) (Y : List DV) (a2 : Option Addr) (N c2 : Nat) (p : Bs × Bs) (D : List Bs) (y : Option Addr) (cy : Nat) (T1 T2 T3 : Bs) (e1 e2 e3 : Nat) : Prop where
  m1 : ∀ W, Below w.heap.size w W → eDess.at_ W (fun k => k < W.heap.size) Y (.slice a2 N c2) → Calls Tryz.prog 18 #[.agg (encM X (.slice a2 N c2))] W fun e w' => e = .returned (.tuple #[.string (str T1), .int .i64 (e1 : Int)]) ∧ Below W.heap.size W w'
  m2 : ∀ W, Below w.heap.size w W → eDess.at_ W (fun k => k < W.heap.size) Y (.slice a2 N c2) → Calls Tryz.prog 19 #[.agg (encM X (.slice a2 N c2))] W fun e w' => e = .returned (.tuple #[.string (str T1), .int .i64 (e1 : Int)]) ∧ Below W.heap.size W w'
  i1 : ∀ W, Below w.heap.size w W → eDess.at_ W (fun k => k < W.heap.size) Y (.slice a2 N c2) → Calls Tryz.prog 20 #[.slice a2 N c2] W fun e w' => e = .returned (.tuple #[.string (str T2), .int .i64 (e2 : Int)]) ∧ Below W.heap.size W w'
  i2 : ∀ W, Below w.heap.size w W → eDess.at_ W (fun k => k < W.heap.size) Y (.slice a2 N c2) → Calls Tryz.prog 21 #[.slice a2 N c2] W fun e w' => e = .returned (.tuple #[.string (str T2), .int .i64 (e2 : Int)]) ∧ Below W.heap.size W w'
  g1 : ∀ W, Below w.heap.size w W → Calls Tryz.prog 22 #[.agg (row3 (str p.1) (str p.2) y D.length cy)] W fun e w' => e = .returned (.tuple #[.string (str T3), .int .i64 (e3 : Int)]) ∧ Below W.heap.size W w'
  g2 : ∀ W, Below w.heap.size w W → Calls Tryz.prog 23 #[.agg (row3 (str p.1) (str p.2) y D.length cy)] W fun e w' => e = .returned (.tuple #[.string (str T3), .int .i64 (e3 : Int)]) ∧ Below W.heap.size W w'
theorem puts_of {w : World} {X : DV} {Y : List DV} {a2 : Option Addr} {c2 : Nat} {p : Bs × Bs} {D : List Bs} {y : Option Addr} {cy : Nat} (hE : Env2 w) (hX : putD X ∧ X.media.length ≤ 200 ∧ X.os.length ≤ 200 ∧ X.arch.length ≤ 200) (hY : ∀ d ∈ Y, putD d ∧ d.media.length ≤ 200 ∧ d.os.length ≤ 200 ∧ d.arch.length ≤ 200) (hN : Y.length ≤ 40) (h12 : D.length ≤ 12)
    (h1 : p.1.length ≤ 200) (h2 : p.2.length ≤ 200) (hD : eDigs.at_ w (fun k => k < w.heap.size) D (.slice y D.length cy)) :
    ∃ T1 T2 T3 e1 e2 e3, PutsM w X Y a2 Y.length c2 p D y cy T1 T2 T3 e1 e2 e3 := by
  have sX : smallD X := ⟨hX.1.1, by omega, by omega, by omega⟩
  have sY : ∀ d ∈ Y, smallD d := fun d hd => by
    obtain ⟨b1, b2, b3, b4⟩ := hY d hd
    exact ⟨b1.1, by omega, by omega, by omega⟩
  refine ⟨(manA X Y).1, (idxA Y).1, (imgA p D).1, (manA X Y).2, (idxA Y).2, (imgA p D).2, ?_, ?_, ?_, ?_, ?_, ?_⟩
  · intro W hB hL
    exact putManifest_any X Y a2 c2 W (hE.below hB) (by omega) hX.1 (fun d hd => (hY d hd).1) hL
  · intro W hB hL
    exact rputMan_any X Y a2 c2 W (by omega) sX sY hL
  · intro W hB hL
    exact putIndex_any Y a2 c2 W (hE.below hB) (by omega) (fun d hd => (hY d hd).1) hL
  · intro W hB hL
    exact rputIndex_any Y a2 c2 W (by omega) sY hL
  · intro W hB
    exact putImage_any p D y cy W (hE.below hB) (by omega) (by omega) (by omega) (digs_far hD hB)
  · intro W hB
    exact rputImage_any p D y cy W (by omega) (by omega) (by omega) (digs_far hD hB)
set_option maxRecDepth 100000 in
set_option maxHeartbeats 16000000 in
theorem ociput_any (r : RG) (hr : r.ok) (l : List RG) (x : Option Addr) (cc : Nat) (D : List Bs) (y : Option Addr) (cy : Nat) (w : World) (hE : Env2 w) (hl : l.length * 96 ≤ 140737488351232) (hR : RghsC w x l) (hD : eDigs.at_ w (fun k => k < w.heap.size) D (.slice y D.length cy)) :
    Calls Tryz.prog 4 #[.agg (encR r).toArray, .slice x l.length cc, .slice y D.length cy] w fun e w' => e = .returned (.bool true) ∧ Below w.heap.size w w' := by
  obtain ⟨W0, hW0⟩ : ∃ W0, W0 = w.alloc (.cells (encR r).toArray 46) := ⟨_, rfl⟩
  have R0 : rowC W0 w.heap.size (encR r).toArray 46 := by rw [hW0]; exact rowC_new _ _ _
  have B0 : Below w.heap.size w W0 := by rw [hW0]; exact (Below.refl _ _).alloc (Nat.le_refl _) _
  have S0 : W0.heap.size = w.heap.size + 1 := by rw [hW0, size_alloc]
  have HRW := Lib.hid (fun (W : World) (h : Below w.heap.size w W) => show RghsC W x l from fun i r hi => by
    obtain ⟨h1, ad, h2, h3, h4⟩ := hR i r hi
    refine ⟨h1, ad, h2, Nat.lt_of_lt_of_le h3 h.size, fun j v hj => ?_⟩
    rw [World.cell?_of_block (w := w) (w' := W) (h.block _ (by rw [add_block, add_block]; exact h3))]
    exact h4 j v hj)
  have CX := fun w hE => described_any w hE
  have HRL := Lib.hid (show (encR r).toArray.size = 37 by rw [List.size_toArray, encR_len hr])
  have HOL := Lib.hid (show ∀ r ∈ l, r.ok from fun r hr => by obtain ⟨i, hi⟩ := List.mem_iff_getElem?.1 hr; exact (hR i r hi).1)
  have HOR := Lib.hid hr
  have HE := Lib.hid hE
  have HD := Lib.hid hD
  have HW0 := Lib.hid hW0
  have HR0 := Lib.hid R0
  have HB0 := Lib.hid B0
  have HS0 := Lib.hid S0
  have HLL := Lib.hid hl
  have HIR := Lib.hid (show (Tryz.prog.info? 46).map (·.size) = some (encR r).toArray.size by rw [HRL.out]; exact info_R)
  obtain ⟨iR, hiR, hzR0, hzR1, _⟩ := info_parts info_R3
  clear hW0 R0 B0 hR hE S0 hD hr hl
  go_enter Tryz.func4, Tryz.ntmps4
  go_upto_region 1 with (fail)
  change Code.wp _ _ _ _ (w.alloc (.cells (encR r).toArray 46))
  rw [← HW0.out]
  clear HW0
  go_upto_region 2 with (first
    | ((with_reducible show wpList _ _ _ (⟨some 26, .load _ _, _, _, _, _⟩ :: _) _ _); refine wpList_load_row rfl 46 _ rfl w.heap.size rfl 46 (encR r).toArray (0, 0) _ HR0.out Tryz.underlying46 rfl HIR.out ?_)
    | ((with_reducible show wpList _ _ _ (⟨some 27, .buildSlice _ _ _, _, _, _, _⟩ :: _) _ _); refine wpList_oneR rfl 47 46 37 _ rfl (encR r).toArray rfl iR _ Tryz.underlying47 hiR hzR0 hzR1 HRL.out (by decide) (by decide) ?_)
    | (go_at_call 17; (with_reducible refine (of_one r HOR.out W0.heap.size _ (rowC_new _ _ _)).mono ?_); rintro e w1 ⟨t1, rfl, hown, b1⟩; have HOX2 := Lib.hid (fun h => own_lower (hown h) (show w.heap.size + 1 ≤ _ from by rw [size_alloc]; have := HS0.out; omega)); have HB1 := Lib.hid (HB0.out.trans ((((Below.refl _ W0).alloc (Nat.le_refl _) (.cells (encR r).toArray 46)).trans (b1.mono (by rw [size_alloc]; omega))).mono (by have := HS0.out; omega))); clear hown b1))
  go_upto_region 3 with (go_at_call 17; (with_reducible refine (of_any l x cc 40 w1 HLL.out (HRW.out _ HB1.out)).mono ?_); rintro e w2 ⟨t2, rfl, hown, b2⟩; have HOY := Lib.hid hown; have HB2 := Lib.hid (HB1.out.trans (b2.mono HB1.out.size)); have HXY := Lib.hid b2; clear hown b2)
  cases h1 : ofR [r] 1
  · go_wp2_with (go_at_call 8; (with_reducible refine (CX _ (HE.out.below HB2.out)).mono ?_); rintro e w3 ⟨rfl, b3⟩)
    go_ret
    exact ⟨rfl, HB2.out.trans (b3.mono HB2.out.size)⟩
  cases h2 : ofR l 40
  · go_wp2_with (go_at_call 8; (with_reducible refine (CX _ (HE.out.below HB2.out)).mono ?_); rintro e w3 ⟨rfl, b3⟩)
    go_ret
    exact ⟨rfl, HB2.out.trans (b3.mono HB2.out.size)⟩
  by_cases h3 : 12 < D.length
  · have g3 : (12 : Int) < (D.length : Int) := by omega
    clear h3
    go_wp2_with (go_at_call 8; (with_reducible refine (CX _ (HE.out.below HB2.out)).mono ?_); rintro e w3 ⟨rfl, b3⟩)
    go_ret
    exact ⟨rfl, HB2.out.trans (b3.mono HB2.out.size)⟩
  have g3 : ¬ (12 : Int) < (D.length : Int) := by omega
  obtain ⟨Y, hY⟩ : ∃ Y, Y = l.map descOf := ⟨_, rfl⟩
  obtain ⟨X, hX⟩ : ∃ X, X = descOf r := ⟨_, rfl⟩
  have hPY : ∀ d ∈ Y, putD d ∧ d.media.length ≤ 200 ∧ d.os.length ≤ 200 ∧ d.arch.length ≤ 200 := by rw [hY]; exact putsO HOL.out h2
  have hPX : putD X ∧ X.media.length ≤ 200 ∧ X.os.length ≤ 200 ∧ X.arch.length ≤ 200 := by rw [hX]; exact putsO (l := [r]) (fun e he => by rw [List.mem_singleton.1 he]; exact HOR.out) h1 _ (by simp)
  have hOX := HOX2.out h1
  have hOY := HOY.out h2
  rw [← hX] at hOX
  rw [← hY] at hOY
  have hNY : l.length = Y.length := by rw [hY, List.length_map]
  have h40 : Y.length ≤ 40 := by rw [← hNY]; exact len40 (m := 40) h2
  rw [hNY] at hOY
  obtain ⟨a2, c2, rfl⟩ := owns_form hOY
  have HDY := Lib.hid (show eDess.at_ w2 (fun k => k < w2.heap.size) Y (.slice a2 Y.length c2) from own_des hOY (fun d hd => (hPY d hd).1.1))
  obtain ⟨T1, T2, T3, e1, e2, e3, HP⟩ := puts_of (a2 := a2) (c2 := c2) (p := (X.os, X.arch)) HE.out hPX hPY h40 (by omega) hPX.2.2.1 hPX.2.2.2 HD.out
  have HPP := Lib.hid HP
  obtain ⟨N, hN⟩ : ∃ N, N = Y.length := ⟨_, rfl⟩
  rw [← hN] at HDY HPP ⊢
  obtain ⟨gx, cx, hv⟩ := owns_some hOX (by decide)
  subst hv
  have hOX2 := (Chg.of_below (s := no) HXY.out).owns hOX (fun _ _ h => h)
  have HXR := Lib.hid (own_range hOX2)
  have HXP := Lib.hid (show w2.rangeAt gx 34 [.string (str X.os), .string (str X.arch)] from own_plat0 hOX2 hPX.1.1.1)
  have HGX := Lib.hid (hOX2.lt gx rfl).2
  have HIX := Lib.hid (show (Tryz.prog.info? 28).map (·.size) = some (encL X).length by rw [encL_len hPX.1.1.1]; exact info_D)
  have HBM := Lib.hid (show Tryz.prog.built 31 [(0, .agg (encL X).toArray), (1, .slice a2 N c2)] = some (encM X (.slice a2 N c2)) by rw [← encD_list]; exact built_man X hPX.1.1.1 a2 N c2)
  have HMS := Lib.hid (show (encM X (.slice a2 N c2)).size = 37 by unfold encM; rw [List.size_toArray, List.length_append, encL_len hPX.1.1.1]; rfl)
  have HIM := Lib.hid (show (Tryz.prog.info? 31).map (·.size) = some (encM X (.slice a2 N c2)).size by rw [HMS.out]; exact info_M)
  have HZM := Lib.hid (show zeroM.size = (encM X (.slice a2 N c2)).size by rw [HMS.out]; rfl)
  have HBI := Lib.hid (built_imgO (X.os, X.arch) y D.length cy)
  have HII := Lib.hid (show (Tryz.prog.info? 39).map (·.size) = some (row3 (str X.os) (str X.arch) y D.length cy).size from info_I)
  clear hY hX hN hNY hOX hOY hOX2 hPY hPX HOX2 HOY h1 h2 h3 HR0 HS0 HB0 HP h40 HB1 HXY HRW HRL HOL HOR HLL HIR hiR hzR0 hzR1
  go_upto_region 6 with (first
    | ((with_reducible show wpList _ _ _ (⟨some 50, .load _ _, _, _, _, _⟩ :: _) _ _); refine wpList_load_mid rfl 28 _ rfl gx 0 rfl (encL X) _ HXR.out Tryz.underlying28 rfl HIX.out ?_)
    | ((with_reducible show wpList _ _ _ (⟨some 52, .build _ _, _, _, _, _⟩ :: _) _ _); refine wpList_build_as rfl 31 _ rfl (encM X (.slice a2 N c2)) (Eq.trans ?_ HBM.out) ?_; kernel_rfl)
    | ((with_reducible show wpList _ _ _ (⟨none, .store _ (.tmp 11) _, _, _, _, _⟩ :: _) _ _); refine wpList_store_last rfl 31 _ _ rfl w2.heap.size (encM X (.slice a2 N c2)) rfl rfl 31 zeroM rfl HIM.out HZM.out (encM_all _ _ _ _) ?_))
  obtain ⟨WM, hWM⟩ : ∃ WM, WM = w2.alloc (.cells (encM X (.slice a2 N c2)) 31) := ⟨_, rfl⟩
  rw [← hWM]
  have BM : Below w2.heap.size w2 WM := by rw [hWM]; exact (Below.refl _ _).alloc (Nat.le_refl _) _
  have RM : rowC WM w2.heap.size (encM X (.slice a2 N c2)) 31 := by rw [hWM]; exact rowC_new _ _ _
  have HXP2 := Lib.hid (show WM.rangeAt gx 34 [.string (str X.os), .string (str X.arch)] from fun j v hj => (World.cell?_of_block (w := w2) (w' := WM) (BM.block _ HGX.out)).trans (HXP.out j v hj))
  have HBM2 := Lib.hid BM
  have HRM2 := Lib.hid RM
  clear hWM BM RM HXR HXP HGX HBM HZM HIX HMS
  go_upto_region 7 with (first
    | ((with_reducible show wpList _ _ _ (⟨some 56, .load _ _, _, _, _, _⟩ :: _) _ _); refine wpList_load_mid rfl 26 _ rfl gx 34 rfl [.string (str X.os), .string (str X.arch)] _ HXP2.out Tryz.underlying26 rfl info_P ?_)
    | ((with_reducible show wpList _ _ _ (⟨some 58, .build _ _, _, _, _, _⟩ :: _) _ _); refine wpList_build_as rfl 39 _ rfl (row3 (str X.os) (str X.arch) y D.length cy) (Eq.trans ?_ HBI.out) ?_; kernel_rfl)
    | ((with_reducible show wpList _ _ _ (⟨none, .store _ (.tmp 12) _, _, _, _, _⟩ :: _) _ _); refine wpList_store_last rfl 39 _ _ rfl WM.heap.size (row3 (str X.os) (str X.arch) y D.length cy) rfl rfl 39 zeroI rfl HII.out rfl (row3_all _ _ _ _ _) ?_))
  obtain ⟨WI, hWI⟩ : ∃ WI, WI = WM.alloc (.cells (row3 (str X.os) (str X.arch) y D.length cy) 39) := ⟨_, rfl⟩
  rw [← hWI]
  have BI : Below WM.heap.size WM WI := by rw [hWI]; exact (Below.refl _ _).alloc (Nat.le_refl _) _
  have RI : rowC WI WM.heap.size (row3 (str X.os) (str X.arch) y D.length cy) 39 := by rw [hWI]; exact rowC_new _ _ _
  have RMI : rowC WI w2.heap.size (encM X (.slice a2 N c2)) 31 := rowC_below HRM2.out BI (rowC_lt HRM2.out)
  have DI := dess_far (dess_far HDY.out HBM2.out) BI
  have BWI : Below w.heap.size w WI := HB2.out.trans ((HBM2.out.trans (BI.mono HBM2.out.size)).mono HB2.out.size)
  have HA := Lib.hid (fun (W : World) (h : Below WI.heap.size WI W) => show rowC W w2.heap.size (encM X (.slice a2 N c2)) 31 ∧ rowC W WM.heap.size (row3 (str X.os) (str X.arch) y D.length cy) 39 ∧ eDess.at_ W (fun k => k < W.heap.size) Y (.slice a2 N c2) ∧ Below w.heap.size w W from
    ⟨rowC_below RMI h (rowC_lt RMI), rowC_below RI h (rowC_lt RI), dess_far DI h, BWI.trans (h.mono BWI.size)⟩)
  clear hWI BI RI RMI DI BWI HXP2 HBM2 HRM2 HBI HDY HB2 HD
  go_upto_region 9 with (first
    | ((with_reducible show wpList _ _ _ (⟨some 60, .load _ _, _, _, _, _⟩ :: _) _ _); refine wpList_load_row rfl 31 _ rfl w2.heap.size rfl 31 (encM X (.slice a2 N c2)) (0, 0) _ (HA.out _ (Below.refl _ _)).1 Tryz.underlying31 rfl HIM.out ?_)
    | (go_at_call 18; (with_reducible refine (HPP.out.m1 _ (HA.out _ (Below.refl _ _)).2.2.2 (HA.out _ (Below.refl _ _)).2.2.1).mono ?_); rintro e w3 ⟨rfl, b3⟩; have HB3 := Lib.hid b3; clear b3)
    | ((with_reducible show wpList _ _ _ (⟨some 65, .load _ _, _, _, _, _⟩ :: _) _ _); refine wpList_load_row rfl 31 _ rfl w2.heap.size rfl 31 (encM X (.slice a2 N c2)) (0, 0) _ (HA.out _ HB3.out).1 Tryz.underlying31 rfl HIM.out ?_)
    | (go_at_call 19; (with_reducible refine (HPP.out.m2 _ (HA.out _ HB3.out).2.2.2 (HA.out _ HB3.out).2.2.1).mono ?_); rintro e w4 ⟨rfl, b4⟩; have HB4 := Lib.hid (HB3.out.trans (b4.mono HB3.out.size)); clear b4))
  clear HB3
  go_upto_region 11 with (first
    | (go_at_call 20; (with_reducible refine (HPP.out.i1 _ (HA.out _ HB4.out).2.2.2 (HA.out _ HB4.out).2.2.1).mono ?_); rintro e w5 ⟨rfl, b5⟩; have HB5 := Lib.hid (HB4.out.trans (b5.mono HB4.out.size)); clear b5)
    | (go_at_call 21; (with_reducible refine (HPP.out.i2 _ (HA.out _ HB5.out).2.2.2 (HA.out _ HB5.out).2.2.1).mono ?_); rintro e w6 ⟨rfl, b6⟩; have HB6 := Lib.hid (HB5.out.trans (b6.mono HB5.out.size)); clear b6))
  clear HB4 HB5
  go_upto_region 13 with (first
    | ((with_reducible show wpList _ _ _ (⟨some 80, .load _ _, _, _, _, _⟩ :: _) _ _); refine wpList_load_row rfl 39 _ rfl WM.heap.size rfl 39 (row3 (str X.os) (str X.arch) y D.length cy) (0, 0) _ (HA.out _ HB6.out).2.1 Tryz.underlying39 rfl HII.out ?_)
    | (go_at_call 22; (with_reducible refine (HPP.out.g1 _ (HA.out _ HB6.out).2.2.2).mono ?_); rintro e w7 ⟨rfl, b7⟩; have HB7 := Lib.hid (HB6.out.trans (b7.mono HB6.out.size)); clear b7)
    | ((with_reducible show wpList _ _ _ (⟨some 85, .load _ _, _, _, _, _⟩ :: _) _ _); refine wpList_load_row rfl 39 _ rfl WM.heap.size rfl 39 (row3 (str X.os) (str X.arch) y D.length cy) (0, 0) _ (HA.out _ HB7.out).2.1 Tryz.underlying39 rfl HII.out ?_)
    | (go_at_call 23; (with_reducible refine (HPP.out.g2 _ (HA.out _ HB7.out).2.2.2).mono ?_); rintro e w8 ⟨rfl, b8⟩; have HB8 := Lib.hid (HB7.out.trans (b8.mono HB7.out.size)); clear b8))
  clear HB6 HB7 HPP
  generalize str T1 = U1 at *
  generalize str T2 = U2 at *
  generalize str T3 = U3 at *
  go_wp2_with (go_at_call 8; (with_reducible refine (CX _ (HE.out.below (HA.out _ HB8.out).2.2.2)).mono ?_); rintro e w9 ⟨rfl, b9⟩)
  go_ret
  exact ⟨rfl, (HA.out _ HB8.out).2.2.2.trans (b9.mono (HA.out _ HB8.out).2.2.2.size)⟩
end Go.Proofs.YtnkencdibniagaaGreatDoor

