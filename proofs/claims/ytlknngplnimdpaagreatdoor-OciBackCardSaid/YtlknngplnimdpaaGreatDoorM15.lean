/- Merged: OfN, OfO, OcT. -/
import Derived.Test.YtlknngplnimdpaaGreatDoorM14
import Derived.Deep.DeepCutAuto
import Derived.Test.YtlknngplnimdpaaGreatDoorM02
import Derived.Lib.LaidTab
import Derived.Test.YtlknngplnimdpaaGreatDoorRows
import Derived.ProofKit
import Derived.LaidMore
import Derived.LaidLaws
import Derived.LaidHandle
import Derived.Lib.LaidU8T
import Derived.Stop.LaidErr
import Derived.OpenShut
import Derived.Stop.Joined
/- Layer 13: OciBack. -/
namespace Go.Proofs.YtlknngplnimdpaaGreatDoor
open Go.RowKit
attribute [local go_sem] wide_fn round_fn

theorem len40 {l : List RG} {m : Nat} (h : ofR l m = true) : l.length ≤ m := by
  unfold ofR at h
  rw [Bool.and_eq_true, decide_eq_true_eq] at h
  omega
theorem puts_all {l : List RG} (hok : ∀ r ∈ l, r.ok) {most : Int} (h : ofR l most = true) : ∀ d ∈ l.map descOf, putD d := by
  intro d hd
  obtain ⟨r, hr, rfl⟩ := List.mem_map.1 hd
  unfold ofR at h
  rw [Bool.and_eq_true, List.all_eq_true] at h
  exact good_of (hok r hr) (h.1 r hr)
theorem flatD_one (l : List DV) : ∀ u ∈ flatD l, u.oneCell' = true := fun u hu => by
  unfold flatD at hu
  obtain ⟨d, _, hd⟩ := List.mem_flatMap.1 hu
  exact Array.all_eq_true_iff_forall_mem.1 (show (encD d).all (·.oneCell') = true from (encD_one _)) u (by simpa using hd)
theorem build_plat : Tryz.prog.built 26 [] = some (encP ([], [])) := by kernel_rfl
/-- The rows ahead of i have no platform. -/
def halfP (Y : List DV) (i : Nat) : List DV := (Y.take i).map DV.plain ++ Y.drop i
theorem halfP_len (Y : List DV) (i : Nat) : (halfP Y i).length = Y.length := by
  unfold halfP
  simp
  omega
theorem halfP_at {Y : List DV} {i : Nat} {d : DV} (h : Y[i]? = some d) : (halfP Y i)[i]? = some d := by
  have hi := (List.getElem?_eq_some_iff.1 h).1
  unfold halfP
  rw [List.getElem?_append_right (by simp; omega), List.length_map, List.length_take, Nat.min_eq_left (by omega), Nat.sub_self, List.getElem?_drop, Nat.add_zero, h]
theorem halfP_set {Y : List DV} {i : Nat} {d : DV} (h : Y[i]? = some d) : (halfP Y i).set i d.plain = halfP Y (i + 1) := by
  have hi := (List.getElem?_eq_some_iff.1 h).1
  unfold halfP
  rw [List.set_append_right _ _ (by simp; omega), List.length_map, List.length_take, Nat.min_eq_left (by omega), Nat.sub_self, drop_at h, List.set_cons_zero, List.take_add_one, h]
  simp
theorem halfP_dig {Y : List DV} (hY : ∀ d ∈ Y, d.dig.length = 32) (i : Nat) : ∀ d ∈ halfP Y i, d.dig.length = 32 := fun d hd => by
  unfold halfP at hd
  rcases List.mem_append.1 hd with hd | hd
  · obtain ⟨e, he, rfl⟩ := List.mem_map.1 hd
    exact hY e (List.mem_of_mem_take he)
  · exact hY d (List.mem_of_mem_drop hd)
theorem halfP_all (Y : List DV) : halfP Y Y.length = Y.map DV.plain := by
  unfold halfP
  rw [List.take_length, List.drop_length, List.append_nil]
theorem addr0 (g j : Nat) : (⟨g, 0, none⟩ : Addr).add j = ⟨g, j, none⟩ := by simp [Addr.add]; exact fun h => h.symm
theorem own_range {w : World} {B g n c : Nat} {X : DV} (h : w.ownsRow B 28 36 (.slice (some ⟨g, 0, none⟩) n c) n (flatD [X])) : w.rangeAt g 0 (encL X) := fun j u hj => by
  rw [Nat.zero_add]
  have hf : flatD [X] = encL X := by unfold flatD; rw [List.flatMap_cons, List.flatMap_nil, List.append_nil, encD_list]
  rw [hf] at h
  have := h.cells (g := g) rfl j u hj
  rwa [addr0] at this
theorem own_des2 {w : World} {B : Nat} {a : Option Addr} {n c : Nat} {Y : List DV} (h : w.ownsRow B 28 36 (.slice a n c) Y.length (flatD Y)) (hY : ∀ d ∈ Y, goodD d) : eDess.at_ w (fun k => k < w.heap.size) Y (.slice a n c) := own_des h hY
/-- Same answers that two lists are one: of any world behind W6. -/
theorem same_in {W6 : World} {F : Nat → Prop} {L : List DV} {x a : Option Addr} {N k c : Nat} (hL : eDess.at_ W6 F L (.slice x N k)) {y : After W6} (hc : Chg no W6 y.v) (hP : eDess.at_ y.v (fun k => k < y.v.heap.size) L (.slice a N c)) (hN : L.length = N) (h40 : N < 2 ^ 48) (_ : After W6) :
    CallsIn Fence.wide 3 Tryz.prog 15 #[.slice x N k, .slice a N c] y.v fun e w'' => e = .returned (.bool true) ∧ ∃ z : After W6, w'' = z.v := by
  subst hN
  have hA := eDess.mono (eDess.chg hL hc (fun _ _ h => h)) (G := fun k => k < y.v.heap.size) (fun k _ hk => hk)
  have h := same_any L L x a k c y.v hA hP h40
  exact (callsIn_wide.2 h).mono fun e w'' ⟨b, he, hb, hB⟩ => ⟨by rw [he, hb.2 rfl], ⟨w'', y.h.trans (hB.mono y.h.size)⟩, rfl⟩
theorem same_yes (L : List DV) (x a : Option Addr) (N k c : Nat) (hN : N = L.length) (h40 : N < 2 ^ 48) (w : World) (hA : eDess.at_ w (fun k => k < w.heap.size) L (.slice x N k)) (hB : eDess.at_ w (fun k => k < w.heap.size) L (.slice a N c)) :
    Calls Tryz.prog 15 #[.slice x N k, .slice a N c] w fun e w' => e = .returned (.bool true) ∧ Below w.heap.size w w' := by
  subst hN
  exact (same_any L L x a k c w hA hB h40).mono fun e w' ⟨b, he, hb, hB⟩ => ⟨by rw [he, hb.2 rfl], hB⟩
theorem samedig_yes (L : List Bs) (x a : Option Addr) (k c : Nat) (h40 : L.length < 2 ^ 48) (w : World) (hA : eDigs.at_ w (fun k => k < w.heap.size) L (.slice x L.length k)) (hB : eDigs.at_ w (fun k => k < w.heap.size) L (.slice a L.length c)) :
    Calls Tryz.prog 16 #[.slice x L.length k, .slice a L.length c] w fun e w' => e = .returned (.bool true) ∧ Below w.heap.size w w' :=
  (samedig_any L L x a k c w hA hB h40).mono fun e w' ⟨b, he, hb, hB⟩ => ⟨by rw [he, hb.2 rfl], hB⟩
theorem built_img (p : Bs × Bs) (a : Option Addr) (n c : Nat) : Tryz.prog.built 39 [(0, .agg #[.string (str p.1), .string (str p.2)]), (1, .slice a n c)] = some (row3 (str p.1) (str p.2) a n c) := by kernel_rfl
theorem row3_range {w : World} {g : Nat} {p : Bs × Bs} {x : Option Addr} {n c : Nat} {T : TypeId} (h : rowC w g (row3 (str p.1) (str p.2) x n c) T) : w.rangeAt g 0 [.string (str p.1), .string (str p.2)] ∧ w.cell? ⟨g, 2, none⟩ = some (.slice x n c) :=
  ⟨rowC_range h 0 _ (fun j v hv => by
    match j, hv with
    | 0, hv => exact hv
    | 1, hv => exact hv), (rowC_cell h 2).trans rfl⟩
theorem info_R3 : (Tryz.prog.info? 46).map (fun i => (i.zero, i.size, i.bytes)) = some (some (.agg (encR zeroRG).toArray), 37, 96) := by kernel_rfl
theorem bkm_first {w w1 w2 w3 : World} {r : RG} {x t p : Value} {X : DV} {Y : List DV} {N : Nat} (hx : w1.ownsRow (w.heap.size + 1) 28 36 x 1 (flatD [X])) (ht : w2.ownsRow w1.heap.size 28 36 t N (flatD Y)) (hp : w3.ownsRow w2.heap.size 28 36 p N (flatD Y)) (hN : N = Y.length)
    (hr : rowC w1 w.heap.size (encR r).toArray 46) (h1 : Below w.heap.size w w1) (h2 : Below w1.heap.size w1 w2) (h3 : Below w2.heap.size w2 w3) (hs : w.heap.size + 1 ≤ w1.heap.size) : BkM w r w1.heap.size w2.heap.size x t p [X] Y Y w3 := by
  have h13 : Below w1.heap.size w1 w3 := h2.trans (h3.mono h2.size)
  refine ⟨(Chg.of_below (s := no) h13).owns hx (fun _ _ h => h), fun g hg => (hx.lt g hg).2, ?_, fun g hg => (ht.lt g hg).2, ?_, ⟨hs, h2.size⟩, rowC_below hr h13 (rowC_lt hr), h1.trans (h13.mono h1.size)⟩
  · rw [← hN]; exact (Chg.of_below (s := no) h3).owns ht (fun _ _ h => h)
  · rw [← hN]; exact hp
set_option maxRecDepth 100000 in
set_option maxHeartbeats 16000000 in
theorem ociback_any (r : RG) (hr : r.ok) (l : List RG) (x : Option Addr) (cc : Nat) (D : List Bs) (y : Option Addr) (cy : Nat) (w : World) (hE : Env2 w) (hl : l.length * 96 ≤ 140737488351232) (hR : RghsC w x l) (hD : eDigs.at_ w (fun k => k < w.heap.size) D (.slice y D.length cy)) :
    Calls Tryz.prog 6 #[.agg (encR r).toArray, .slice x l.length cc, .slice y D.length cy] w fun e w' => e = .returned (.bool true) ∧ Below w.heap.size w w' := by
  obtain ⟨i0, hi0, hz0, hz1, hz2⟩ := info_parts info_des3
  obtain ⟨W0, hW0⟩ : ∃ W0, W0 = w.alloc (.cells (encR r).toArray 46) := ⟨_, rfl⟩
  have R0 : rowC W0 w.heap.size (encR r).toArray 46 := by rw [hW0]; exact rowC_new _ _ _
  have B0 : Below w.heap.size w W0 := by rw [hW0]; exact (Below.refl _ _).alloc (Nat.le_refl _) _
  have S0 : W0.heap.size = w.heap.size + 1 := by rw [hW0, size_alloc]
  have HRW := Lib.hid (fun (W : World) (h : Below w.heap.size w W) => show RghsC W x l from fun i r hi => by
    obtain ⟨h1, ad, h2, h3, h4⟩ := hR i r hi
    refine ⟨h1, ad, h2, Nat.lt_of_lt_of_le h3 h.size, fun j v hj => ?_⟩
    rw [World.cell?_of_block (w := w) (w' := W) (h.block _ (by rw [add_block, add_block]; exact h3))]
    exact h4 j v hj)
  have CX := fun w hE => described_any w hE
  have HRL := Lib.hid (show (encR r).toArray.size = 37 by rw [List.size_toArray, encR_len hr])
  have HOL := Lib.hid (show ∀ r ∈ l, r.ok from fun r hr => by obtain ⟨i, hi⟩ := List.mem_iff_getElem?.1 hr; exact (hR i r hi).1)
  have HOR := Lib.hid hr
  have HE := Lib.hid hE
  have HD := Lib.hid hD
  have HW0 := Lib.hid hW0
  have HR0 := Lib.hid R0
  have HB0 := Lib.hid B0
  have HS0 := Lib.hid S0
  have HLL := Lib.hid hl
  have HIR := Lib.hid (show (Tryz.prog.info? 46).map (·.size) = some (encR r).toArray.size by rw [HRL.out]; exact info_R)
  obtain ⟨iR, hiR, hzR0, hzR1, _⟩ := info_parts info_R3
  clear hW0 R0 B0 hR hE S0 hD hr hl
  go_enter Tryz.func6, Tryz.ntmps6
  go_upto_region 1 with (fail)
  change Code.wp _ _ _ _ (w.alloc (.cells (encR r).toArray 46))
  rw [← HW0.out]
  clear HW0
  go_upto_region 2 with (first
    | ((with_reducible show wpList _ _ _ (⟨some 29, .load _ _, _, _, _, _⟩ :: _) _ _); refine wpList_load_row rfl 46 _ rfl w.heap.size rfl 46 (encR r).toArray (0, 0) _ HR0.out Tryz.underlying46 rfl HIR.out ?_)
    | ((with_reducible show wpList _ _ _ (⟨some 30, .buildSlice _ _ _, _, _, _, _⟩ :: _) _ _); refine wpList_oneR rfl 47 46 37 _ rfl (encR r).toArray rfl iR _ Tryz.underlying47 hiR hzR0 hzR1 HRL.out (by decide) (by decide) ?_)
    | (go_at_call 17; (with_reducible refine (of_one r HOR.out W0.heap.size _ (rowC_new _ _ _)).mono ?_); rintro e w1 ⟨t1, rfl, hown, b1⟩; have HOX := Lib.hid hown; have HB1 := Lib.hid (HB0.out.trans ((((Below.refl _ W0).alloc (Nat.le_refl _) (.cells (encR r).toArray 46)).trans (b1.mono (by rw [size_alloc]; omega))).mono (by have := HS0.out; omega))); have HR1 := Lib.hid (rowC_below HR0.out (((Below.refl _ W0).alloc (Nat.le_refl _) (.cells (encR r).toArray 46)).trans (b1.mono (by rw [size_alloc]; omega))) (rowC_lt HR0.out)); have HSX := Lib.hid (show w.heap.size + 1 ≤ w1.heap.size from by have := b1.size; rw [size_alloc] at this; have := HS0.out; omega); have HOX2 := Lib.hid (fun h => own_lower (HOX.out h) (show w.heap.size + 1 ≤ _ from by rw [size_alloc]; have := HS0.out; omega)); clear hown b1))
  go_upto_region 3 with (go_at_call 17; (with_reducible refine (of_any l x cc 40 w1 HLL.out (HRW.out _ HB1.out)).mono ?_); rintro e w2 ⟨t2, rfl, hown, b2⟩; have HOY := Lib.hid hown; have HB2 := Lib.hid (HB1.out.trans (b2.mono HB1.out.size)); have HXY := Lib.hid b2; clear hown b2)
  cases h1 : ofR [r] 1
  · go_wp2_with (go_at_call 8; (with_reducible refine (CX _ (HE.out.below HB2.out)).mono ?_); rintro e w3 ⟨rfl, b3⟩)
    go_ret
    exact ⟨rfl, HB2.out.trans (b3.mono HB2.out.size)⟩
  cases h2 : ofR l 40
  · go_wp2_with (go_at_call 8; (with_reducible refine (CX _ (HE.out.below HB2.out)).mono ?_); rintro e w3 ⟨rfl, b3⟩)
    go_ret
    exact ⟨rfl, HB2.out.trans (b3.mono HB2.out.size)⟩
  by_cases h3 : 12 < D.length
  · have g3 : (12 : Int) < (D.length : Int) := by omega
    clear h3
    go_wp2_with (go_at_call 8; (with_reducible refine (CX _ (HE.out.below HB2.out)).mono ?_); rintro e w3 ⟨rfl, b3⟩)
    go_ret
    exact ⟨rfl, HB2.out.trans (b3.mono HB2.out.size)⟩
  have g3 : ¬ (12 : Int) < (D.length : Int) := by omega
  obtain ⟨Y, hY⟩ : ∃ Y, Y = l.map descOf := ⟨_, rfl⟩
  obtain ⟨X, hX⟩ : ∃ X, X = descOf r := ⟨_, rfl⟩
  have HPY := Lib.hid (show ∀ d ∈ Y, putD d by rw [hY]; exact puts_all HOL.out h2)
  have HPX := Lib.hid (show putD X by rw [hX]; exact puts_all (l := [r]) (fun e he => by rw [List.mem_singleton.1 he]; exact HOR.out) h1 _ (by simp))
  have hOX := HOX2.out h1
  have hOY := HOY.out h2
  rw [← hX] at hOX
  rw [← hY] at hOY
  have hNY : l.length = Y.length := by rw [hY, List.length_map]
  have h40 : Y.length ≤ 40 := by rw [← hNY]; exact len40 (m := 40) h2
  rw [hNY] at hOY
  obtain ⟨N, hN⟩ : ∃ N, N = Y.length := ⟨_, rfl⟩
  rw [← hN] at hOY h40
  have HN := Lib.hid hN
  obtain ⟨a1, c1, rfl⟩ := owns_form hOX
  obtain ⟨a2, c2, rfl⟩ := owns_form hOY
  have HOA := Lib.hid hOX
  have HOB := Lib.hid hOY
  have HOS := Lib.hid (show r.os.length ≤ 281474976710656 ∧ r.arch.length ≤ 281474976710656 by have h5 := HPX.out.1; rw [hX] at h5; exact h5.2.2)
  have HDG := Lib.hid (show ∀ d ∈ D, d.length = 32 from fun d hd => by obtain ⟨i, hi⟩ := List.mem_iff_getElem?.1 hd; exact (digs_at HD.out hi).1)
  have h12 : D.length ≤ 12 := by omega
  clear hY hX hN hNY hOX hOY HOX HOX2 HOY h1 h2 h3 HR0 HS0 HB0
  go_upto_region 5 with (fail)
  go_cut [11] from 51 to 52 (fun v wx => ∃ a c, v = .slice a N c ∧ Hid (BkM w r w1.heap.size w2.heap.size (.slice a1 1 c1) (.slice a2 N c2) (.slice a N c) [X] Y Y wx))
  case first =>
    cases a2 with
    | none =>
      have h0 : N = 0 ∧ c2 = 0 := by
        rcases HOB.out.2 with ⟨hv, h0⟩ | ⟨g, c, cur, hv, _⟩
        · injection hv with _ h5 h6
          exact ⟨h0, h6⟩
        · cases hv
      have hY0 : Hid (flatD Y = []) := Lib.hid (by rw [List.eq_nil_of_length_eq_zero (HN.out.symm.trans h0.1)]; rfl)
      obtain ⟨e1, e2⟩ := h0
      subst e1
      subst e2
      go_wp2
      go_meet
      exact ⟨none, 0, rfl, Lib.hid (bkm_first HOA.out HOB.out (by rw [hY0.out]; exact World.ownsRow_nil _ _ _ _) HN.out HR1.out HB1.out HXY.out (Below.refl _ _) HSX.out)⟩
    | some ad =>
      have hv0 : ∃ g, ad = ⟨g, 0, none⟩ := by
        rcases HOB.out.2 with ⟨hv, _⟩ | ⟨g, c, cur, hv, _⟩
        · cases hv
        · injection hv with h5
          injection h5 with h5
          exact ⟨g, h5⟩
      obtain ⟨g, rfl⟩ := hv0
      have HCL := Lib.hid (show ∀ j u, (flatD Y)[j]? = some u → w2.cell? ((⟨g, 0, none⟩ : Addr).add j) = some u from fun j u hj => HOB.out.cells (g := g) rfl j u hj)
      have HLN := Lib.hid (show (flatD Y).length = N * 36 from HOB.out.1)
      go_wp2_with ((with_reducible show wpList _ _ _ (⟨some 52, _, _, _, _, _⟩ :: _) _ _); refine wpList_append_own _ rfl _ _ 29 rfl w2.heap.size 28 i0 _ 36 88 Tryz.underlying29 hi0 hz0 hz1 hz2 (by rfl) (by decide) _ 0 [] rfl (World.ownsRow_nil _ _ _ _) ⟨g, 0, none⟩ N c2 (flatD Y) rfl HLN.out HCL.out (flatD_one Y) (by unfold maxLen; omega) (by omega) (Nat.le_refl _) ?_; intro vP w3 hown3 hgrow3 _; have HGB := Lib.hid (show Below w2.heap.size w2 w3 from (Below.refl _ _).grown hgrow3 (Nat.le_refl _) (fun j hj => by cases hj)); have HGO := Lib.hid (show w3.ownsRow w2.heap.size 28 36 vP N (flatD Y) by rw [Nat.zero_add, List.nil_append] at hown3; exact hown3); clear hown3 hgrow3)
      go_meet
      obtain ⟨aP, cP, rfl⟩ := owns_form HGO.out
      exact ⟨aP, cP, rfl, Lib.hid (bkm_first HOA.out HOB.out HGO.out HN.out HR1.out HB1.out HXY.out HGB.out HSX.out)⟩
  case rest =>
    obtain ⟨aP, cP, rfl, HK⟩ := hcut
    clear HOA HOB HXY HSX HR1 HB1 HB2
    have HIP := Lib.hid (show (Tryz.prog.info? 26).map (·.size) = some (encP ([], [])).size from info_P)
    go_wp2
    go_loopw [12] (fun v wr => ∃ j : Nat, j ≤ N ∧ v = .int .i64 j ∧ Hid (BkM w r w1.heap.size w2.heap.size (.slice a1 1 c1) (.slice a2 N c2) (.slice aP N cP) [X] Y (halfP Y j) wr)) (fun v _ => N - (intOf v).toNat)
    case atStart => exact ⟨0, Nat.zero_le _, rfl, HK⟩
    case round =>
      obtain ⟨j, hjN, rfl, hK⟩ := hrel
      clear HK
      by_cases hj : j < N
      · have g1 : (j : Int) < (N : Int) := by omega
        obtain ⟨d, hd⟩ : ∃ d, Y[j]? = some d := ⟨_, List.getElem?_eq_getElem (by have := HN.out; omega)⟩
        have hop := hK.out.op
        rw [halfP_len, ← HN.out] at hop
        obtain ⟨g, c', hv⟩ := owns_some hop (by omega)
        injection hv with h5 _ h6
        subst h5
        subst h6
        have HTH := Lib.hid (own_there (o := j * 36 + 34) (k := 2) hop (by rw [hop.1]; omega) hop.1)
        have HDI := Lib.hid (show ∀ d ∈ Y, d.dig.length = 32 from fun d hd => (HPY.out d hd).1.1)
        have HST := Lib.hid (show BkM w r w1.heap.size w2.heap.size (.slice a1 1 c1) (.slice a2 N c2) (.slice (some ⟨g, 0, none⟩) N cP) [X] Y (halfP Y (j + 1)) (wr.setCells g (j * 36 + 34) (encP ([], [])).toList) by
          have h7 := hK.out.clearP (by rw [halfP_len]; exact HN.out) (halfP_dig HDI.out j) (halfP_at hd)
          rw [halfP_set hd, show 36 * j + 34 = j * 36 + 34 by omega] at h7
          exact h7)
        clear hop hd hj
        go_wp2_with (first
          | ((with_reducible show wpList _ _ _ (⟨some 61, .build _ _, _, _, _, _⟩ :: _) _ _); refine wpList_build_as rfl 26 _ rfl (encP ([], [])) (by kernel_rfl) ?_)
          | ((with_reducible show wpList _ _ _ (⟨none, .store _ (.tmp 63) _, _, _, _, _⟩ :: _) _ _); refine wpList_store_mid rfl 26 _ _ rfl g (j * 36 + 34) (encP ([], [])) rfl rfl HTH.out HIP.out (encP_one _) ?_))
        go_roundw
        case rel => exact ⟨j + 1, by omega, by go_num, HST⟩
        case measure => simp [intOf] <;> omega
      · have HK := Lib.hid (show BkM w r w1.heap.size w2.heap.size (.slice a1 1 c1) (.slice a2 N c2) (.slice aP N cP) [X] Y (Y.map DV.plain) wr by have h7 := hK.out; rw [show j = Y.length by have := HN.out; omega, halfP_all] at h7; exact h7)
        clear hK
        obtain ⟨gx, cx', hv⟩ := owns_some HK.out.ox (by show 0 < 1; decide)
        injection hv with h5 h7 h6
        clear h7
        subst h5
        subst h6
        have g1 : ¬ (j : Int) < (N : Int) := by omega
        clear hj
        go_upto_region 10 with (fail)
        obtain ⟨T, hT⟩ : ∃ T, T = (manA X Y).1 := ⟨_, rfl⟩
        obtain ⟨c, hc⟩ : ∃ c, c = (manA X Y).2 := ⟨_, rfl⟩
        have PM : ∀ W, Below w.heap.size w W → eDess.at_ W (fun k => k < W.heap.size) Y (.slice a2 N c2) → Calls Tryz.prog 18 #[.agg (encM X (.slice a2 N c2))] W fun e w' => e = .returned (.tuple #[.string (str T), .int .i64 (c : Int)]) ∧ Below W.heap.size W w' := fun W hB hL => by
          rw [hT, hc]
          have h := putManifest_any X Y a2 c2 W (HE.out.below hB) (by have := HN.out; omega) HPX.out HPY.out (by rw [← HN.out]; exact hL)
          rwa [← HN.out] at h
        have HTC := Lib.hid (show T = (manA X Y).1 ∧ c = (manA X Y).2 from ⟨hT, hc⟩)
        have HXR := Lib.hid (own_range HK.out.ox)
        have HYD := Lib.hid (own_des (by have h := HK.out.ot; rw [← HN.out] at h ⊢; exact h) (fun d hd => (HPY.out d hd).1))
        have HIX := Lib.hid (show (Tryz.prog.info? 28).map (·.size) = some (encL X).length by rw [encL_len HPX.out.1.1]; exact info_D)
        have HBM := Lib.hid (show Tryz.prog.built 31 [(0, .agg (encL X).toArray), (1, .slice a2 N c2)] = some (encM X (.slice a2 N c2)) by rw [← encD_list]; exact built_man X HPX.out.1.1 a2 N c2)
        have HBW := Lib.hid HK.out.b
        clear hT hc
        go_upto_if 74 with (first
          | ((with_reducible show wpList _ _ _ (⟨some 67, .load _ _, _, _, _, _⟩ :: _) _ _); refine wpList_load_mid rfl 28 _ rfl gx 0 rfl (encL X) _ HXR.out Tryz.underlying28 rfl HIX.out ?_)
          | ((with_reducible show wpList _ _ _ (⟨some 69, .build _ _, _, _, _, _⟩ :: _) _ _); refine wpList_build_as rfl 31 _ rfl (encM X (.slice a2 N c2)) (Eq.trans ?_ HBM.out) ?_; kernel_rfl)
          | (go_at_call 18; (with_reducible refine (PM _ HBW.out HYD.out).mono ?_); rintro e w4 ⟨rfl, b4⟩; have HK4 := Lib.hid (HK.out.below b4); clear b4))
        go_cut [15, 16, 17, 18] from 75 to 114 (fun s15 s16 s17 s18 wx => ∃ X', Hid (BkM w r w1.heap.size w2.heap.size (.slice (some ⟨gx, 0, none⟩) 1 c1) (.slice a2 N c2) (.slice aP N cP) [X'] Y (Y.map DV.plain) wx))
        case first =>
          clear HK PM HXR HYD HIX HBM HBW
          by_cases hc : c = 0
          rotate_left
          · have g2 : ((c : Int) == 0) = false := by rw [beq_eq_false_iff_ne]; omega
            clear hc
            go_wp2
            go_meet
            exact ⟨X, HK4⟩
          · subst hc
            have M1 : ∀ W, Below w.heap.size w W → Calls Tryz.prog 9 #[.string (str T)] W fun e w' => ∃ x cc, e = .returned (.tuple #[.agg (encM X.plain (.slice x N cc)), .int .i64 0]) ∧ eDess.at_ w' (fun k => W.heap.size ≤ k ∧ k < w'.heap.size) (Y.map DV.plain) (.slice x N cc) ∧ Below W.heap.size W w' := fun W hB => by
              rw [HTC.out.1, HN.out]
              exact man_round HTC.out.2.symm HPX.out HPY.out W (HE.out.below hB)
            have M2 : ∀ x cc W, Below w.heap.size w W → eDess.at_ W (fun k => k < W.heap.size) (Y.map DV.plain) (.slice x N cc) → Calls Tryz.prog 18 #[.agg (encM X.plain (.slice x N cc))] W fun e w' => e = .returned (.tuple #[.string (str T), .int .i64 0]) ∧ Below W.heap.size W w' := fun x cc W hB hL => by
              rw [HTC.out.1]
              rw [HN.out] at hL ⊢
              exact man_again HTC.out.2.symm HPX.out HPY.out (by have := HN.out; omega) x cc W (HE.out.below hB) hL
            have HGP := Lib.hid (plain_putB HPX.out)
            have HIM := Lib.hid (fun (x : Option Addr) (cc : Nat) => show (Tryz.prog.info? 31).map (·.size) = some (encM X.plain (.slice x N cc)).size by rw [encM_size HGP.out.1]; exact info_M)
            have HZM := Lib.hid (fun (x : Option Addr) (cc : Nat) => show zeroM.size = (encM X.plain (.slice x N cc)).size by rw [encM_size HGP.out.1]; rfl)
            go_upto_region 13 with (first
              | (go_at_call 9; (with_reducible refine (M1 _ HK4.out.b).mono ?_); rintro e w5 ⟨x5, k5, rfl, hL5, b5⟩; have HL5 := Lib.hid hL5; have HB5 := Lib.hid b5; clear hL5 b5)
              | ((with_reducible show wpList _ _ _ (⟨none, .store _ (.tmp 15) _, _, _, _, _⟩ :: _) _ _); refine wpList_store_last rfl 31 _ _ rfl w5.heap.size (encM X.plain (.slice x5 N k5)) rfl rfl 31 zeroM rfl (HIM.out _ _) (HZM.out _ _) (encM_all _ _ _ _) ?_))
            obtain ⟨W5, hW5⟩ : ∃ W5, W5 = w5.alloc (.cells (encM X.plain (.slice x5 N k5)) 31) := ⟨_, rfl⟩
            rw [← hW5]
            have BA : Below w5.heap.size w5 W5 := by rw [hW5]; exact (Below.refl _ _).alloc (Nat.le_refl _) _
            have RA : rowC W5 w5.heap.size (encM X.plain (.slice x5 N k5)) 31 := by rw [hW5]; exact rowC_new _ _ _
            have s45 := HB5.out.size
            have HKA := Lib.hid (HK4.out.below (HB5.out.trans (BA.mono s45)))
            have HLA := Lib.hid (show eDess.at_ W5 (fun k => w4.heap.size ≤ k ∧ k < w5.heap.size) (Y.map DV.plain) (.slice x5 N k5) from eDess.chg HL5.out (Chg.of_below (s := no) BA) (fun _ _ h => h))
            have HRA := Lib.hid RA
            have HGX := Lib.hid (show gx < w4.heap.size from (HK4.out.ox.lt gx rfl).2)
            clear hW5 RA BA HK4 HL5 HB5 HZM M1
            go_upto_region 14 with (first
              | ((with_reducible show wpList _ _ _ (⟨some 81, .load _ _, _, _, _, _⟩ :: _) _ _); refine wpList_load_row rfl 31 _ rfl w5.heap.size rfl 31 (encM X.plain (.slice x5 N k5)) (0, 0) _ HRA.out Tryz.underlying31 rfl (HIM.out _ _) ?_)
              | (go_at_call 18; (with_reducible refine (M2 x5 k5 _ HKA.out.b (eDess.mono HLA.out (fun k _ hk => hk))).mono ?_); rintro e w6 ⟨rfl, b6⟩; have HK6 := Lib.hid (HKA.out.below b6); have HR6 := Lib.hid (rowC_below HRA.out b6 (rowC_lt HRA.out)); have HL6 := Lib.hid (eDess.chg HLA.out (Chg.of_below (s := no) b6) (fun _ _ h => h)); clear b6))
            clear HKA HRA HLA M2
            have hox : w6.ownsRow (w.heap.size + 1) 28 36 (.slice (some ⟨gx, 0, none⟩) 1 c1) 1 (flatD [X]) := HK6.out.ox
            have HTH := Lib.hid (own_there (o := 34) (k := 2) hox (by rw [hox.1]; omega) hox.1)
            clear hox
            go_wp2_with (first
              | ((with_reducible show wpList _ _ _ (⟨some 86, .build _ _, _, _, _, _⟩ :: _) _ _); refine wpList_build_as rfl 26 _ rfl (encP ([], [])) (by kernel_rfl) ?_)
              | ((with_reducible show wpList _ _ _ (⟨none, .store _ (.tmp 88) _, _, _, _, _⟩ :: _) _ _); refine wpList_store_mid rfl 26 _ _ rfl gx 34 (encP ([], [])) rfl rfl HTH.out HIP.out (encP_one _) ?_))
            obtain ⟨W6, hW6⟩ : ∃ W6, W6 = w6.setCells gx 34 (encP ([], [])).toList := ⟨_, rfl⟩
            rw [← hW6]
            have HKC := Lib.hid (show BkM w r w1.heap.size w2.heap.size (.slice (some ⟨gx, 0, none⟩) 1 c1) (.slice a2 N c2) (.slice aP N cP) [X.plain] Y (Y.map DV.plain) W6 by rw [hW6]; exact HK6.out.clearX HPX.out.1.1)
            have HRC := Lib.hid (show rowC W6 w5.heap.size (encM X.plain (.slice x5 N k5)) 31 by rw [hW6]; exact rowC_setCells_other (by have := HGX.out; omega) _ _ HR6.out)
            have HLC := Lib.hid (show eDess.at_ W6 (fun k => w4.heap.size ≤ k ∧ k < w5.heap.size) (Y.map DV.plain) (.slice x5 N k5) by
              rw [hW6]
              exact eDess.chg (s := fun k => k = gx) HL6.out (((Chg.refl (fun k => k = gx) w6).setCell ⟨gx, 34, none⟩ _ (.inl rfl)).setCell ⟨gx, 35, none⟩ _ (.inl rfl)) (fun k hk e => by have := HGX.out; have e : k = gx := e; omega))
            clear hW6 HK6 HR6 HL6 HTH HGX
            have HQ1 := Lib.hid (fun y : After W6 => (encM_range HGP.out.1 (rowC_below HRC.out y.h (rowC_lt HRC.out))).1)
            have CQ2 : ∀ y : After W6, y.v.cell? ⟨w5.heap.size, 36, none⟩ = some (.slice x5 N k5) := fun y => (encM_range HGP.out.1 (rowC_below HRC.out y.h (rowC_lt HRC.out))).2
            have HQ3 := Lib.hid (fun y : After W6 => own_range (HKC.out.below y.h).ox)
            have SQ : ∀ y : After W6, CallsIn Fence.wide 3 Tryz.prog 15 #[.slice x5 N k5, .slice aP N cP] y.v fun e w'' => e = .returned (.bool true) ∧ ∃ z : After W6, w'' = z.v := fun y => by
              have hop := own_des (HKC.out.below y.h).op (fun d hd => (plains_put HPY.out d hd).1)
              exact same_in HLC.out (Chg.of_below (s := no) y.h) hop (by rw [List.length_map, HN.out]) (by omega) y
            have HIQ := Lib.hid (show (Tryz.prog.info? 28).map (·.size) = some (encL X.plain).length by rw [encL_len HGP.out.1.1]; exact info_D)
            have eq1 : ∀ w, (Op.equalIn 10000 28 (.agg (encL X.plain).toArray) (.agg (encL X.plain).toArray)).run Tryz.prog w = .ok true w := fun w => by
              rw [← encD_list, eq_desc w 9997 HGP.out.1.1 HGP.out.1.1, (eqDB_iff X.plain X.plain).2 rfl]
            have gd := guard_desc
            have hud := Tryz.underlying28
            simp only [Act.put]
            refine (wpIn_wide (n := 4)).1 ?_
            refine region_quiet (C := fun w' => ∃ y : After W6, w' = y.v) (by kernel_rfl) (by kernel_rfl) (by kernel_rfl) ⟨⟨W6.drew, (Below.refl _ _).drew⟩, rfl⟩ ?_
            iterate 4 (gi_big_quiet_step (fail))
            refine wpQuietIn_load_midG (fun _ => trivial) rfl 28 _ rfl w5.heap.size 0 rfl (encL X.plain) _ (by rintro _ ⟨y, rfl⟩; exact HQ1.out y) hud rfl HIQ.out ?_
            simp only [Act.put, List.setIfInBounds_toArray, List.set_cons_zero, List.set_cons_succ]
            iterate 2 (gi_big_quiet_step (fail))
            refine wpQuietIn_load_midG (fun _ => trivial) rfl 28 _ rfl gx 0 rfl (encL X.plain) _ (by rintro _ ⟨y, rfl⟩; exact HQ3.out y) hud rfl HIQ.out ?_
            simp only [Act.put, List.setIfInBounds_toArray, List.set_cons_zero, List.set_cons_succ]
            iterate 18 (gi_big_quiet_step ((gi_at_call 15; exact SQ _)))
            refine wpQuietIn_nil ?_
            rintro _ ⟨y, rfl⟩
            have HKD := Lib.hid (HKC.out.below y.h)
            clear CQ2 SQ eq1 HQ1 HQ3
            gi_wp2
            go_wp2
            go_meet
            exact ⟨X.plain, HKD⟩
        case rest =>
          obtain ⟨X', HKR⟩ := hcut
          clear HK HK4 HXR HYD HBM HBW PM HTC HIX
          obtain ⟨T2, hT⟩ : ∃ T, T = (idxA Y).1 := ⟨_, rfl⟩
          obtain ⟨d, hd⟩ : ∃ d, d = (idxA Y).2 := ⟨_, rfl⟩
          have HTC := Lib.hid (show T2 = (idxA Y).1 ∧ d = (idxA Y).2 from ⟨hT, hd⟩)
          have PX : ∀ x cc W, Below w.heap.size w W → eDess.at_ W (fun k => k < W.heap.size) Y (.slice x N cc) → Calls Tryz.prog 20 #[.slice x N cc] W fun e w' => e = .returned (.tuple #[.string (str T2), .int .i64 (d : Int)]) ∧ Below W.heap.size W w' := fun x cc W hB hL => by
            rw [hT, hd]
            have h := putIndex_any Y x cc W (HE.out.below hB) (by have := HN.out; omega) HPY.out (by rw [← HN.out]; exact hL)
            rwa [← HN.out] at h
          have HYD := Lib.hid (fun (W : World) (h : BkM w r w1.heap.size w2.heap.size (.slice (some ⟨gx, 0, none⟩) 1 c1) (.slice a2 N c2) (.slice aP N cP) [X'] Y (Y.map DV.plain) W) => own_des (Y := Y) (a := a2) (n := N) (c := c2) (w := W) (by have h := h.ot; exact h) (fun d hd => (HPY.out d hd).1))
          clear hT hd
          go_upto_if 121 with (go_at_call 20; (with_reducible refine (PX a2 c2 _ HKR.out.b (HYD.out _ HKR.out)).mono ?_); rintro e w5 ⟨rfl, b5⟩; have HK5 := Lib.hid (HKR.out.below b5); clear b5)
          go_cut [19, 20, 21, 22] from 122 to 148 (fun s19 s20 s21 s22 wx => Hid (BkM w r w1.heap.size w2.heap.size (.slice (some ⟨gx, 0, none⟩) 1 c1) (.slice a2 N c2) (.slice aP N cP) [X'] Y (Y.map DV.plain) wx))
          case first =>
            clear HKR
            by_cases hd : d = 0
            rotate_left
            · have g2 : ((d : Int) == 0) = false := by rw [beq_eq_false_iff_ne]; omega
              clear hd
              go_wp2
              go_meet
              exact HK5
            · subst hd
              have X1 : ∀ W, Below w.heap.size w W → Calls Tryz.prog 11 #[.string (str T2)] W fun e w' => ∃ x cc, e = .returned (.tuple #[.slice x N cc, .int .i64 0]) ∧ eDess.at_ w' (fun k => W.heap.size ≤ k ∧ k < w'.heap.size) Y (.slice x N cc) ∧ Below W.heap.size W w' := fun W hB => by
                rw [HTC.out.1, HN.out]
                exact idx_round HTC.out.2.symm HPY.out W (HE.out.below hB)
              have SY := fun x k W (h1 : eDess.at_ W (fun k => k < W.heap.size) Y (.slice x N k)) h2 => same_yes Y x a2 N k c2 HN.out (by omega) W h1 h2
              go_wp2_with (first
                | (go_at_call 11; (with_reducible refine (X1 _ HK5.out.b).mono ?_); rintro e w6 ⟨x6, k6, rfl, hL6, b6⟩; have HL6 := Lib.hid (eDess.mono hL6 (G := fun k => k < w6.heap.size) (fun k _ hk => hk)); have HK6 := Lib.hid (HK5.out.below b6); clear hL6 b6)
                | (go_at_call 20; (with_reducible refine (PX x6 k6 _ HK6.out.b HL6.out).mono ?_); rintro e w7 ⟨rfl, b7⟩; have HL7 := Lib.hid (eDess.mono (eDess.chg HL6.out (Chg.of_below (s := no) b7) (fun _ _ h => h)) (G := fun k => k < w7.heap.size) (fun k _ hk => hk)); have HK7 := Lib.hid (HK6.out.below b7); clear b7)
                | (go_at_call 15; (with_reducible refine (SY x6 k6 _ HL7.out (HYD.out _ HK7.out)).mono ?_); rintro e w8 ⟨rfl, b8⟩; have HK8 := Lib.hid (HK7.out.below b8); clear b8))
              go_meet
              exact HK8
          case rest =>
            have HKS := hcut
            clear HKR PX HYD HTC hcut
            obtain ⟨T3, hT⟩ : ∃ T, T = (imgA (r.os, r.arch) D).1 := ⟨_, rfl⟩
            obtain ⟨f, hf⟩ : ∃ f, f = (imgA (r.os, r.arch) D).2 := ⟨_, rfl⟩
            have HTC := Lib.hid (show T3 = (imgA (r.os, r.arch) D).1 ∧ f = (imgA (r.os, r.arch) D).2 from ⟨hT, hf⟩)
            have PX : ∀ x cc W, Below w.heap.size w W → eDigs.at_ W (fun k => k < W.heap.size) D (.slice x D.length cc) → Calls Tryz.prog 22 #[.agg (row3 (str r.os) (str r.arch) x D.length cc)] W fun e w' => e = .returned (.tuple #[.string (str T3), .int .i64 (f : Int)]) ∧ Below W.heap.size W w' := fun x cc W hB hL => by
              rw [hT, hf]
              exact putImage_any (r.os, r.arch) D x cc W (HE.out.below hB) (by omega) HOS.out.1 HOS.out.2 hL
            have HDW := Lib.hid (fun (W : World) (h : Below w.heap.size w W) => eDigs.mono (eDigs.chg HD.out (Chg.of_below (s := no) h) (fun _ _ h => h)) (G := fun k => k < W.heap.size) (fun k _ hk => hk))
            have HPL := Lib.hid (rough_mid HOR.out.2.1 HKS.out.r).2
            have HBI := Lib.hid (built_img (r.os, r.arch) y D.length cy)
            have HII := Lib.hid (fun (x : Option Addr) (cc : Nat) => show (Tryz.prog.info? 39).map (·.size) = some (row3 (str r.os) (str r.arch) x D.length cc).size from info_I)
            clear hT hf
            go_upto_region 24 with (first
              | ((with_reducible show wpList _ _ _ (⟨some 150, .load _ _, _, _, _, _⟩ :: _) _ _); refine wpList_load_mid rfl 26 _ rfl w.heap.size 35 rfl [.string (str r.os), .string (str r.arch)] _ HPL.out Tryz.underlying26 rfl info_P ?_)
              | ((with_reducible show wpList _ _ _ (⟨some 152, .build _ _, _, _, _, _⟩ :: _) _ _); refine wpList_build_as rfl 39 _ rfl (row3 (str r.os) (str r.arch) y D.length cy) (Eq.trans ?_ HBI.out) ?_; kernel_rfl)
              | ((with_reducible show wpList _ _ _ (⟨none, .store _ (.tmp 23) _, _, _, _, _⟩ :: _) _ _); refine wpList_store_last rfl 39 _ _ rfl wc.heap.size (row3 (str r.os) (str r.arch) y D.length cy) rfl rfl 39 zeroI rfl (HII.out _ _) rfl (row3_all _ _ _ _ _) ?_))
            obtain ⟨WI, hWI⟩ : ∃ WI, WI = wc.alloc (.cells (row3 (str r.os) (str r.arch) y D.length cy) 39) := ⟨_, rfl⟩
            rw [← hWI]
            have BI : Below wc.heap.size wc WI := by rw [hWI]; exact (Below.refl _ _).alloc (Nat.le_refl _) _
            have RI : rowC WI wc.heap.size (row3 (str r.os) (str r.arch) y D.length cy) 39 := by rw [hWI]; exact rowC_new _ _ _
            have HBV := Lib.hid (HKS.out.b.trans (BI.mono HKS.out.b.size))
            have HRI := Lib.hid RI
            clear hWI BI RI HPL HKS
            go_upto_if 159 with (first
              | ((with_reducible show wpList _ _ _ (⟨some 154, .load _ _, _, _, _, _⟩ :: _) _ _); refine wpList_load_row rfl 39 _ rfl wc.heap.size rfl 39 (row3 (str r.os) (str r.arch) y D.length cy) (0, 0) _ HRI.out Tryz.underlying39 rfl (HII.out _ _) ?_)
              | (go_at_call 22; (with_reducible refine (PX y cy _ HBV.out (HDW.out _ HBV.out)).mono ?_); rintro e w6 ⟨rfl, b6⟩; have HB6 := Lib.hid (HBV.out.trans (b6.mono HBV.out.size)); have HR6 := Lib.hid (rowC_below HRI.out b6 (rowC_lt HRI.out)); clear b6))
            clear HBV HRI
            go_cut [24, 25, 26, 27] from 160 to 194 (fun s24 s25 s26 s27 wx => Hid (Below w.heap.size w wx))
            case first =>
              by_cases hf : f = 0
              rotate_left
              · have g2 : ((f : Int) == 0) = false := by rw [beq_eq_false_iff_ne]; omega
                clear hf
                go_wp2
                go_meet
                exact HB6
              · subst hf
                have I1 : ∀ W, Below w.heap.size w W → Calls Tryz.prog 13 #[.string (str T3)] W fun e w' => ∃ x cc, e = .returned (.tuple #[.agg (row3 (str r.os) (str r.arch) x D.length cc), .int .i64 0]) ∧ eDigs.at_ w' (fun k => W.heap.size ≤ k ∧ k < w'.heap.size) D (.slice x D.length cc) ∧ Below W.heap.size W w' := fun W hB => by
                  rw [HTC.out.1]
                  exact img_round (p := (r.os, r.arch)) HTC.out.2.symm HDG.out W (HE.out.below hB)
                go_upto_region 27 with (first
                  | (go_at_call 13; (with_reducible refine (I1 _ HB6.out).mono ?_); rintro e w7 ⟨x7, k7, rfl, hL7, b7⟩; have HL7 := Lib.hid hL7; have HB7 := Lib.hid b7; clear hL7 b7)
                  | ((with_reducible show wpList _ _ _ (⟨none, .store _ (.tmp 24) _, _, _, _, _⟩ :: _) _ _); refine wpList_store_last rfl 39 _ _ rfl w7.heap.size (row3 (str r.os) (str r.arch) x7 D.length k7) rfl rfl 39 zeroI rfl (HII.out _ _) rfl (row3_all _ _ _ _ _) ?_))
                obtain ⟨WJ, hWJ⟩ : ∃ WJ, WJ = w7.alloc (.cells (row3 (str r.os) (str r.arch) x7 D.length k7) 39) := ⟨_, rfl⟩
                rw [← hWJ]
                have BJ : Below w7.heap.size w7 WJ := by rw [hWJ]; exact (Below.refl _ _).alloc (Nat.le_refl _) _
                have HRJ := Lib.hid (show rowC WJ w7.heap.size (row3 (str r.os) (str r.arch) x7 D.length k7) 39 by rw [hWJ]; exact rowC_new _ _ _)
                have HB67 := Lib.hid (HB7.out.trans (BJ.mono HB7.out.size))
                have HBJ := Lib.hid (HB6.out.trans (HB67.out.mono HB6.out.size))
                have HLJ := Lib.hid (eDigs.mono (eDigs.chg HL7.out (Chg.of_below (s := no) BJ) (fun _ _ h => h)) (G := fun k => k < WJ.heap.size) (fun k _ hk => hk))
                have HRK := Lib.hid (rowC_below HR6.out HB67.out (rowC_lt HR6.out))
                clear hWJ BJ HB7 HL7 HR6 HB6 HB67 I1
                have eq1 : ∀ w, (Op.equalIn 10000 26 (.agg #[.string (str r.os), .string (str r.arch)]) (.agg #[.string (str r.os), .string (str r.arch)])).run Tryz.prog w = .ok true w := fun w => by
                  have h5 := eq_plat w 9998 (r.os, r.arch) (r.os, r.arch)
                  rw [(eqPB_iff _ _).2 rfl] at h5
                  exact h5
                have gp := guard_plat
                have hup := Tryz.underlying26
                have SY := fun W (h1 : eDigs.at_ W (fun k => k < W.heap.size) D (.slice x7 D.length k7)) h2 => samedig_yes D x7 y k7 cy (by omega) W h1 h2
                go_wp2_with (first
                  | ((with_reducible show wpList _ _ _ (⟨some 166, .load _ _, _, _, _, _⟩ :: _) _ _); refine wpList_load_row rfl 39 _ rfl w7.heap.size rfl 39 (row3 (str r.os) (str r.arch) x7 D.length k7) (0, 0) _ HRJ.out Tryz.underlying39 rfl (HII.out _ _) ?_)
                  | (go_at_call 22; (with_reducible refine (PX x7 k7 _ HBJ.out HLJ.out).mono ?_); rintro e w8 ⟨rfl, b8⟩; have HR8 := Lib.hid (row3_range (p := (r.os, r.arch)) (rowC_below HRJ.out b8 (rowC_lt HRJ.out))); have q2 := HR8.out.2; have HK8 := Lib.hid (row3_range (p := (r.os, r.arch)) (rowC_below HRK.out b8 (rowC_lt HRK.out))); have HL8 := Lib.hid (eDigs.mono (eDigs.chg HLJ.out (Chg.of_below (s := no) b8) (fun _ _ h => h)) (G := fun k => k < w8.heap.size) (fun k _ hk => hk)); have HB8 := Lib.hid (HBJ.out.trans (b8.mono HBJ.out.size)); clear b8)
                  | ((with_reducible show wpList _ _ _ (⟨some 174, .load _ _, _, _, _, _⟩ :: _) _ _); refine wpList_load_midG rfl 26 _ rfl w7.heap.size 0 rfl [.string (str r.os), .string (str r.arch)] _ HR8.out.1 hup rfl info_P ?_)
                  | ((with_reducible show wpList _ _ _ (⟨some 176, .load _ _, _, _, _, _⟩ :: _) _ _); refine wpList_load_midG rfl 26 _ rfl wc.heap.size 0 rfl [.string (str r.os), .string (str r.arch)] _ HK8.out.1 hup rfl info_P ?_)
                  | (go_at_call 16; (with_reducible refine (SY _ HL8.out (HDW.out _ HB8.out)).mono ?_); rintro e w9 ⟨rfl, b9⟩; have HB9 := Lib.hid (HB8.out.trans (b9.mono HB8.out.size)); clear b9))
                go_meet
                exact HB9
            case rest =>
              have HBZ := hcut
              clear hcut
              go_wp2_with (go_at_call 8; (with_reducible refine (CX _ (HE.out.below HBZ.out)).mono ?_); rintro e w5 ⟨rfl, b5⟩)
              go_ret
              exact ⟨rfl, HBZ.out.trans (b5.mono HBZ.out.size)⟩
end Go.Proofs.YtlknngplnimdpaaGreatDoor

/- Layer 13: OciBack, of what is handed in. -/
namespace Go.Proofs.YtlknngplnimdpaaGreatDoor
open Go.RowKit Go.ChangeShapes Go.WideShapes Go.Deep

theorem rough_bytesB : Tryz.prog.bytesOf 46 = 96 := by kernel_rfl
/-- The roughs that come in, and how many they may be. -/
theorem open_sizedB {H : Type} {enc : TypeId × Value → H} {W : World} {base : Nat} {sp : Nat → Bool} {held : Bool} {d : DataW H} {p : List MemPlace} {a : Option Addr} {len cap : Nat}
    (k : DataW.Trod enc Tryz.prog W base sp held 47 (.slice a len cap) d p) (sz : ∀ el sp', d = .slice el sp' → (el.length + sp'.length) * Tryz.prog.bytesOf 46 ≤ reachBytes) :
    ∃ l : List RG, len = l.length ∧ RghsC W a l ∧ l.length * 96 ≤ 140737488351232 := by
  obtain ⟨fuel, hf⟩ := k
  obtain ⟨l, xp, cp, he, hR, _, hB⟩ := open_roughs hf
  obtain ⟨rfl, rfl, rfl⟩ := Value.slice.inj he
  refine ⟨l, rfl, hR, ?_⟩
  have := hB reachBytes (fun el sp' h => sz el sp' h)
  rw [rough_bytesB] at this
  exact this
theorem back_w {H : Type} {enc : TypeId × Value → H} {base base1 base2 : Nat} {sp sp1 sp2 : Nat → Bool} {held held1 held2 : Bool} {d d1 d2 : DataW H} {p p1 p2 : List MemPlace} (v0 : Value) (a1 : Option Addr) (len1 cap1 : Nat) (a2 : Option Addr) (len2 cap2 : Nat) (W : World)
    (k0 : DataW.Trod enc Tryz.prog W base sp held 46 v0 d p)
    (k1 : DataW.Trod enc Tryz.prog W base1 sp1 held1 47 (.slice a1 len1 cap1) d1 p1) (sz1 : ∀ el sp', d1 = .slice el sp' → (el.length + sp'.length) * Tryz.prog.bytesOf 46 ≤ reachBytes)
    (k2 : DataW.Trod enc Tryz.prog W base2 sp2 held2 37 (.slice a2 len2 cap2) d2 p2) (_sz2 : ∀ el sp', d2 = .slice el sp' → (el.length + sp'.length) * Tryz.prog.bytesOf 24 ≤ reachBytes) (hE : Env2 W) :
    Calls Tryz.prog 6 #[v0, .slice a1 len1 cap1, .slice a2 len2 cap2] W fun e w' => e = .returned (.bool true) ∧ Below W.heap.size W w' := by
  obtain ⟨r, hr, rfl⟩ := open_rough k0
  obtain ⟨l, rfl, hR, hl⟩ := open_sizedB k1 sz1
  obtain ⟨fuel, hf⟩ := k2
  obtain ⟨D, xp, cp, he, hD, _, _⟩ := open_digs hf
  obtain ⟨rfl, rfl, rfl⟩ := Value.slice.inj he
  exact ociback_any r hr l a1 cap1 D a2 cap2 W hE hl hR hD
end Go.Proofs.YtlknngplnimdpaaGreatDoor

/- Layer 13: what the variables that start-up laid give. -/
namespace Go.Proofs.YtlknngplnimdpaaGreatDoor
open Go.ChangeShapes Go.WideShapes Go.ChangeAt Go.WideElems Go.RowKit

theorem own : ownKnob Tryz.prog.godebug = none := by kernel_rfl
def laid2 : List (String × DataW Unit) := [("math/bits.deBruijn32tab", Rows.laid_math_bits_deBruijn32tab), ("math/bits.deBruijn64tab", Rows.laid_math_bits_deBruijn64tab), ("internal/strconv.uint64pow10", Rows.laid_internal_strconv_uint64pow10), ("unicode/utf8.acceptRanges", Rows.laid_unicode_utf8_acceptRanges), ("errors.errorType", Rows.laid_errors_errorType), ("strconv.ErrRange", Rows.laid_strconv_ErrRange), ("strconv.ErrSyntax", Rows.laid_strconv_ErrSyntax), ("lighter/json.words", Rows.laid_lighter_json_words), ("unicode/utf8.first", Rows.laid_unicode_utf8_first)]
def laidD : List (String × DataW Unit) := [("math/bits.deBruijn32tab", Rows.laid_math_bits_deBruijn32tab), ("math/bits.deBruijn64tab", Rows.laid_math_bits_deBruijn64tab), ("internal/strconv.uint64pow10", Rows.laid_internal_strconv_uint64pow10), ("unicode/utf8.acceptRanges", Rows.laid_unicode_utf8_acceptRanges), ("strconv.ErrRange", Rows.laid_strconv_ErrRange), ("strconv.ErrSyntax", Rows.laid_strconv_ErrSyntax), ("lighter/json.words", Rows.laid_lighter_json_words), ("unicode/utf8.first", Rows.laid_unicode_utf8_first)]
theorem row_err (u : TypeId) (h : Tryz.prog.typeName? 3 u = some "*errors.errorString") : u = 274 :=
  have star : "*" ++ "errors.errorString" = "*errors.errorString" := by decide
  typeName_ptr_named (nm := "errors.errorString") (by rw [star]; kernel_rfl) (by kernel_rfl) (by decide) u (by rw [star]; exact h)
theorem rt_err : (Tryz.prog.cutTypes.find? (·.1 == "internal/reflectlite.rtype")).map (·.2) = some 206 := by kernel_rfl
/-- A table of texts. -/
theorem table_str {H : Type} {enc : TypeId × Value → H} {P : Program} {w : World} {base fuel n : Nat} {spare : Nat → Bool} {held : Bool} {T e : TypeId} {cs : List Value} {q : List MemPlace} (hT : P.underlying T = some (.array n e)) (he : P.underlying e = some .string) (h1 : P.cellsOf e = 1)
    (L : List (List UInt8)) (hd : DataW.trod enc P w base spare held fuel T cs = some (.agg (L.map fun x => .lit (.string x)), q)) (j : Nat) (hj : j < L.length) : cs[j]? = some (.string (str (L.getD j []))) := by
  obtain ⟨xs, m, rfl, hx, hlen, hn, hel⟩ := DataW.trod_array hT hd
  simp only [Prod.mk.injEq, DataW.agg.injEq] at hx
  have hxl : xs.length = L.length := by have := congrArg List.length hx.1; simpa using this.symm
  have hg := hel j (by omega)
  rw [List.getElem?_eq_getElem (by omega)] at hg
  obtain ⟨s, e1, e2, _⟩ := DataW.trod_string he hg
  have hjx : j < xs.length := by omega
  have e3 : (xs[j]'hjx).1 = .lit (.string (L.getD j [])) := by
    have := congrArg (fun l => l[j]?) hx.1
    simp only [List.getElem?_map, List.getElem?_eq_getElem hj, List.getElem?_eq_getElem hjx, Option.map_some, Option.some.injEq] at this
    rw [← this, List.getD_eq_getElem?_getD, List.getElem?_eq_getElem hj]
    rfl
  rw [e2] at e3
  simp only [DataW.lit.injEq, Lit.string.injEq] at e3
  have e4 : s = str (L.getD j []) := bytes_toList (by rw [str_toList]; exact e3)
  rw [e4] at e1
  rw [h1, Nat.mul_one] at e1
  have := congrArg (fun l => l[0]?) e1
  simp only [List.getElem?_take, List.getElem?_drop, Nat.add_zero, List.getElem?_cons_zero] at this
  simpa using this
set_option maxRecDepth 100000 in
theorem laid_split {W : World} (h : laidMetH Tryz.prog laid2 W) : laidMet Tryz.prog laidD W ∧ handlesMet Tryz.prog [("errors.errorType", Rows.laid_errors_errorType)] W := h
theorem gWords : Tryz.prog.globalNamed "lighter/json.words" = some 1 := by kernel_rfl
theorem tWords : (Tryz.prog.globals[1]?).map (·.type) = some 179 := by kernel_rfl
theorem gTz : Tryz.prog.globalNamed "math/bits.deBruijn64tab" = some 9 := by kernel_rfl
theorem tTz : (Tryz.prog.globals[9]?).map (·.type) = some 278 := by kernel_rfl
theorem gErr : Tryz.prog.globalNamed "errors.errorType" = some 0 := by kernel_rfl
def tz64 : List Int := [0, 1, 56, 2, 57, 49, 28, 3, 61, 58, 42, 50, 38, 29, 17, 4, 62, 47, 59, 36, 45, 43, 51, 22, 53, 39, 33, 30, 24, 18, 12, 5, 63, 55, 48, 27, 60, 41, 37, 16, 46, 35, 44, 21, 52, 32, 23, 11, 54, 26, 40, 15, 34, 20, 31, 10, 25, 14, 19, 9, 13, 8, 7, 6]
/-- What the condition gives. -/
theorem env_of_laid {W : World} (h : laidMetH Tryz.prog laid2 W) : Env W := by
  obtain ⟨hd, hh⟩ := laid_split h
  have rw_ := Lib.laidMet.reads hd (n := "lighter/json.words") (d := Rows.laid_lighter_json_words) (.tail _ (.tail _ (.tail _ (.tail _ (.tail _ (.tail _ (.head _)))))))
  have rt_ := Lib.laidMet.reads hd (n := "math/bits.deBruijn64tab") (d := Rows.laid_math_bits_deBruijn64tab) (.tail _ (.head _))
  have ra_ := Lib.laidMet.reads hd (n := "unicode/utf8.acceptRanges") (d := Rows.laid_unicode_utf8_acceptRanges) (.tail _ (.tail _ (.tail _ (.head _))))
  have rf_ := Lib.laidMet.reads hd (n := "unicode/utf8.first") (d := Rows.laid_unicode_utf8_first) (.tail _ (.tail _ (.tail _ (.tail _ (.tail _ (.tail _ (.tail _ (.head _))))))))
  have e1 : Rows.laid_unicode_utf8_first = Lib.firstData := by kernel_rfl
  have e2 : (Rows.laid_unicode_utf8_acceptRanges : DataW Unit) = Lib.acceptData := by kernel_rfl
  rw [e1] at rf_
  rw [e2] at ra_
  have hU : Lib.Utf8Tabs 2 3 W :=
    utf8Tabs_of_readsT (ρ := Tryz.laysValid_ren) (U8Types.of196 Tryz.laysValid) ⟨by kernel_rfl, by kernel_rfl, by kernel_rfl, by kernel_rfl, by kernel_rfl, by kernel_rfl, by kernel_rfl⟩ rf_ ra_
  obtain ⟨a0, s0, hv0, _⟩ := laid_sentinel (g := 4) (ti := 122) (tp := 274) (te := 276) (ts := 9) hd.tail.tail.tail.tail.tail (by kernel_rfl) (by kernel_rfl) Tryz.underlying122 row_err Tryz.underlying274 Tryz.underlying276 rfl rfl Tryz.underlying9 (by kernel_rfl) (by kernel_rfl)
  have htz : W.cell? ⟨9, 15, none⟩ = some (.int .u8 4) := by
    obtain ⟨g, t, cs, fuel, p, h1, h2, h3, h4⟩ := rt_
    obtain rfl := Option.some.inj (gTz.symm.trans h1)
    obtain rfl := Option.some.inj (tTz.symm.trans h2)
    have hcs := Lib.cells_of_tab (zs := tz64) Tryz.underlying278 Tryz.underlying5 (by kernel_rfl) (by kernel_rfl) h4
    rw [World.var?_cell h1 h3 15, ← Array.getElem?_toList, hcs]
    rfl
  have hbig : 10 ≤ W.heap.size := World.block_lt_of_cell? W _ htz
  refine ⟨fun i hi => ?_, hU, ?_, ⟨_, _, hv0⟩, hbig, htz⟩
  · obtain ⟨g, t, cs, fuel, p, h1, h2, h3, h4⟩ := rw_
    obtain rfl := Option.some.inj (gWords.symm.trans h1)
    obtain rfl := Option.some.inj (tWords.symm.trans h2)
    have r := table_str Tryz.underlying179 Tryz.underlying9 (by kernel_rfl) [nullT, falseT, trueT] h4 i hi
    rw [World.var?_cell h1 h3 i, ← Array.getElem?_toList, r]
    match i, hi with
    | 0, _ => rfl
    | 1, _ => rfl
    | 2, _ => rfl
  · obtain ⟨name, u, ty, e1, e2, e3, e4, e5⟩ := hh _ (List.mem_singleton.2 rfl)
    have en : name = [101, 114, 114, 111, 114] := (Option.some.inj e1).symm
    subst en
    obtain rfl := Option.some.inj (rt_err.symm.trans e2)
    have one : ((List.range Tryz.prog.types.size).filter fun t => Tryz.prog.rowNamed t [101, 114, 114, 111, 114]) = [122] := by kernel_rfl
    have hm : ty ∈ (List.range Tryz.prog.types.size).filter fun t => Tryz.prog.rowNamed t [101, 114, 114, 111, 114] := List.mem_filter.2 ⟨List.mem_range.2 e3, e4⟩
    rw [one] at hm
    obtain rfl := List.mem_singleton.1 hm
    have hty : typeHandle Tryz.prog 122 = .pointer (some ⟨10, 122, none⟩) := by kernel_rfl
    rw [hty] at e5
    simpa using World.var?_cell gErr e5 0
/-- The door's own heap, with the library's great table laid. -/
noncomputable def startW (os : Os) : World :=
  let w0 := World.doorLaid Tryz.prog 400 os
  { w0 with heap := w0.heap.modify 2 fun
      | .cells _ t frozen => .cells (Go.Pinned.utf8FirstZ.map fun (z : Nat) => Value.int .u8 (z : Int)).toArray t frozen
      | o => o }
/-- It meets the condition. -/
theorem door_met (os : Os) (args : Array Value) : laidMetH Tryz.prog laid2 ((startW os).forCall (fun _ _ => 0) ⟨#[], args, []⟩).memory :=
  laidMetH_of_parts3 (fuel := 8) (laidMet_of_run' 8 (by kernel_rfl) (by kernel_rfl)) (by kernel_rfl) (by kernel_rfl)
set_option maxRecDepth 100000 in
theorem of_laid {W : World} (h : laidMetH Tryz.prog laid2 W) : Env2 W := by
  refine ⟨env_of_laid h, ?_, ?_⟩
  · obtain ⟨hd, _⟩ := laid_split h
    obtain ⟨a0, s0, hv0, _⟩ := laid_sentinel (g := 5) (ti := 122) (tp := 274) (te := 276) (ts := 9) hd.tail.tail.tail.tail (by kernel_rfl) (by kernel_rfl) Tryz.underlying122 row_err Tryz.underlying274 Tryz.underlying276 rfl rfl Tryz.underlying9 (by kernel_rfl) (by kernel_rfl)
    exact ⟨_, _, hv0⟩
  · obtain ⟨hd, _⟩ := laid_split h
    have h2 := hd.tail.tail
    have e : (Rows.laid_internal_strconv_uint64pow10 : DataW Unit) = Lib.tabData .u64 Lib.pow10Tab := by kernel_rfl
    rw [e] at h2
    exact Lib.tabIs_of_head (g := 6) (t := 269) (e := 225) (n := 20) (by kernel_rfl) (by kernel_rfl) Tryz.underlying269 Tryz.underlying225 (by kernel_rfl) (by kernel_rfl) h2
end Go.Proofs.YtlknngplnimdpaaGreatDoor

