/- Merged: VkE, VkF. -/
import Derived.Test.YtbjgmkjinnbokaaGreatDoorM33
import Derived.Test.YtbjgmkjinnbokaaGreatDoorM34
import Derived.Test.YtbjgmkjinnbokaaGreatDoorM31
/- Layer 16: TreesKeep, walked. -/
namespace Go.Proofs.YtbjgmkjinnbokaaGreatDoor
open Go.RowKit
attribute [local go_sem] wide_fn round_fn

/-- Layers in memory. -/
def LayersAt (W : World) (ad : Option Addr) (ls : List (List En)) : Prop := ∀ i x, ls[i]? = some x → ∃ a ax cx, ad = some a ∧ a.block < W.heap.size ∧ W.cell? (a.add i) = some (.slice ax x.length cx) ∧ x.length ≤ maxLen ∧ EnsAt W ax x
theorem apply_none {l : List Nd} {x : List En} (h : (applyT l x).2 ≠ 0) : (applyT l x).1 = [] := by
  unfold applyT at h ⊢
  split
  · rename_i h1
    rw [if_pos h1] at h
    split
    · rename_i h2
      rw [if_pos h2] at h
      exact absurd rfl h
    · rfl
  · rfl
/-- What a tree that came of few entries is. -/
structure OkL (l : List Nd) : Prop where
  c : checkT l = 0
  d : ∀ n ∈ l, n.data.length ≤ 300
theorem OkL.nil : OkL [] := ⟨by decide, fun n hn => by cases hn⟩
theorem OkL.len {l : List Nd} (h : OkL l) : l.length ≤ 400 ∧ ∀ n ∈ l, n.path.length ≤ 200 ∧ n.data.length ≤ 300 := by
  obtain ⟨h4, ht⟩ := check_zero h.c
  exact ⟨h4, fun n hn => ⟨(may_sz (tree_may ht n hn)).1, h.d n hn⟩⟩
theorem ok_next {l : List Nd} {x : List En} (h : OkL l) (hx : FewE x 40) (h2 : (applyT l x).2 = 0) :
    OkL (applyT l x).1 ∧ applyT (applyT l x).1 [] = ((applyT l x).1, 0) ∧ (PlainE x → applyT (applyT l x).1 x = ((applyT l x).1, 0)) := by
  have hb : ∀ y ∈ x, y.data.length ≤ 300 ∧ y.to.length ≤ 300 := fun y hy => ⟨(hx.2 y hy).2.2, (hx.2 y hy).2.1⟩
  obtain ⟨h3, h4, h5⟩ := again_none h.c h.d hb h2
  exact ⟨⟨h4, h5⟩, h3, fun hp => again_plain h.c h.d hb h2 hp⟩
/-- Put, and Get of it. -/
theorem put_get {m : List Nd} (h : OkL m) : ∃ (S : List UInt8) (PE : Int) (lz : List Nd) (GE : Int), put16 m = (S, PE) ∧ get16 S = (lz, GE) ∧ S.length ≤ 65000 ∧ ((PE = 0 ∧ lz = m ∧ GE = 0) ∨ (PE = 3 ∧ S = [] ∧ 50 < m.length)) := by
  rcases put_cases h.c with ⟨h1, h2⟩ | ⟨h1, h2⟩
  · exact ⟨_, 0, m, 0, h1, get_put h.c h1, h2, .inl ⟨rfl, rfl, rfl⟩⟩
  · exact ⟨[], 3, (get16 []).1, (get16 []).2, h1, rfl, by decide, .inr ⟨rfl, rfl, long_many h.c h.d h2⟩⟩
set_option maxRecDepth 100000 in
set_option maxHeartbeats 32000000 in
theorem keep_any (ls : List (List En)) (ad : Option Addr) (c : Nat) (hl : ls.length ≤ maxLen) (w : World) (h : LayersAt w ad ls) :
    Calls Tryz.prog 3 #[.slice ad ls.length c] w fun e w' => e = .returned (.bool true) ∧ Below w.heap.size w w' := by
  have CL := laidT w
  obtain ⟨N, hN⟩ : ∃ N, N = ls.length := ⟨_, rfl⟩
  rw [← hN] at hl ⊢
  have HN := Lib.hid hN
  have HLS := Lib.hid h
  clear hN h
  unfold maxLen at hl
  by_cases h5 : 5 < N
  · have g1 : (5 : Int) < (N : Int) := by omega
    go_enter Tryz.func3, Tryz.ntmps3
    go_wp2_with (go_at_call 4; ((with_reducible refine (CL _ (Below.refl _ _)).mono ?_); rintro e w2 ⟨rfl, hb2⟩))
    go_ret
    exact ⟨rfl, hb2⟩
  · have g1 : ¬ (5 : Int) < (N : Int) := by omega
    go_enter Tryz.func3, Tryz.ntmps3
    go_upto_region 5 with (fail)
    go_loopw [3, 4, 5, 6, 7, 8, 9, 10, 11, 12, 13, 14, 15] (fun v i _ _ _ _ _ _ _ _ _ _ _ wr => ∃ (k : Nat) (l : List Nd) (al : Option Addr) (cl : Nat), k ≤ N ∧ i = .int .i64 k ∧ v = .slice al l.length cl ∧ l.length ≤ cl ∧ Hid (OkL l) ∧ Hid (NodesAt wr al l) ∧ Hid (Below w.heap.size w wr)) (fun _ i _ _ _ _ _ _ _ _ _ _ _ _ => N - (intOf i).toNat)
    case atStart => exact ⟨0, [], none, 0, Nat.zero_le _, rfl, rfl, Nat.zero_le _, Lib.hid OkL.nil, Lib.hid (NodesAt.nil _ _), Lib.hid (Below.refl _ _)⟩
    case round =>
      obtain ⟨k, l, al, cl, hk, rfl, rfl, hcl, hOK, hNA, hB⟩ := hrel
      by_cases hlt : k < N
      · have g2 : (k : Int) < (N : Int) := by omega
        obtain ⟨x, hx⟩ : ∃ x, ls[k]? = some x := ⟨_, List.getElem?_eq_getElem (by rw [← HN.out]; exact hlt)⟩
        obtain ⟨a, ax, cx, rfl, hab, hca, hxl, hxe⟩ := HLS.out k x hx
        have hc1 : wr.cell? (a.add k) = some (.slice ax x.length cx) := by rw [cell_far hB.out (by rw [add_blk]; exact hab)]; exact hca
        have HE := Lib.hid (hxe.below hB.out)
        have CG := great_any x ax cx 40 hxl wr HE.out
        rw [show ((40 : Nat) : Int) = 40 from rfl] at CG
        have HXE := Lib.hid hxe
        have HCA : Hid (∀ W, Below w.heap.size w W → W.cell? (a.add k) = some (.slice ax x.length cx)) := Lib.hid fun W hW => by rw [cell_far hW (by rw [add_blk]; exact hab)]; exact hca
        clear hx hab hca hxe
        cases hgr : grE x 40
        rotate_left
        · unfold GrB at CG
          rw [hgr] at CG
          clear hgr
          go_wp2_with (first
            | (go_at_call 5; ((with_reducible refine CG.mono ?_); rintro e w2 ⟨rfl, rfl⟩))
            | (go_at_call 4; ((with_reducible refine (CL _ hB.out).mono ?_); rintro e w3 ⟨rfl, hb3⟩)))
          go_ret
          exact ⟨rfl, hb3⟩
        · have hfew := grE_no hgr
          unfold GrB at CG
          rw [hgr] at CG
          go_upto_region 9 with (go_at_call 5; ((with_reducible refine CG.mono ?_); rintro e w2 ⟨rfl, rfl⟩))
          clear CG hgr
          have HFEW := Lib.hid hfew
          have CA := apply_any l al cl (by have := hOK.out.len.1; unfold maxLen; omega) hcl (fun n hn => by have := hOK.out.len.2 n hn; omega) x ax cx hxl (fun y hy => by have := hfew.2 y hy; omega) wr hNA.out HE.out
          by_cases he : (applyT l x).2 = 0
          rotate_left
          · rw [apply_none he] at CA
            have b1 : ((applyT l x).2 != (0 : Int)) = true := by rw [bne_iff_ne]; exact he
            generalize (applyT l x).2 = E at *
            clear he hfew
            go_wp2_with (go_at_call 6; ((with_reducible refine CA.mono ?_); rintro e w1 ⟨⟨am, cm, rfl, -, -⟩, hb1⟩))
            have HNA2 := Lib.hid (hNA.out.below hb1)
            have HB2 := Lib.hid (hB.out.trans (hb1.mono hB.out.size))
            clear hNA hB hb1 CA
            go_roundw
            case rel => exact ⟨k + 1, l, al, cl, by omega, by go_num, rfl, hcl, hOK, HNA2, HB2⟩
            case measure => simp [intOf] <;> omega
          · obtain ⟨hokm, hag, hpl⟩ := ok_next hOK.out hfew he
            rw [he] at CA
            generalize (applyT l x).1 = m at *
            have HOKM := Lib.hid hokm
            have HAG := Lib.hid hag
            have HPL := Lib.hid hpl
            obtain ⟨S, PE, lz, GE, hput, hget, hSl, hcase⟩ := put_get hokm
            have HPUT := Lib.hid hput
            have HGET := Lib.hid hget
            have hm4 := hokm.len.1
            have HML := Lib.hid hokm.len.2
            clear he hokm hag hpl hput hget hfew hOK hNA
            go_upto_region 13 with (go_at_call 6; ((with_reducible refine CA.mono ?_); rintro e w1 ⟨⟨am, cm, rfl, hcm, hnm⟩, hb1⟩))
            have HB1 := Lib.hid (hB.out.trans (hb1.mono hB.out.size))
            have HN1 := Lib.hid hnm
            have CP := put16_any m am cm (by unfold maxLen; omega) hcm (fun n hn => by have := HML.out n hn; omega) w1 hnm
            rw [HPUT.out] at CP
            clear hb1 hnm CA hB hcl HE
            go_upto_region 14 with (go_at_call 7; ((with_reducible refine CP.mono ?_); rintro e w2 ⟨rfl, hb2⟩))
            have HB2 := Lib.hid hb2
            have CG := get16_any S (by omega) w2
            rw [HGET.out] at CG
            clear hb2 CP
            go_upto_region 15 with (go_at_call 8; ((with_reducible refine CG.mono ?_); rintro e w3 ⟨⟨an, cn, rfl, hn3⟩, hb3⟩))
            have HB3 := Lib.hid (HB2.out.trans (hb3.mono HB2.out.size))
            have HN3 := Lib.hid hn3
            have CA := apply_any m am cm (by unfold maxLen; omega) hcm (fun n hn => by have := HML.out n hn; omega) [] none 0 (Nat.zero_le _) (fun y hy => by cases hy) w3 (HN1.out.below HB3.out) (EnsAt.nil _ _)
            rw [HAG.out, show ([] : List En).length = 0 from rfl] at CA
            clear hb3 hn3 CG
            go_upto_region 16 with (go_at_call 6; ((with_reducible refine CA.mono ?_); rintro e w4 ⟨⟨ak, ck, rfl, -, hn4⟩, hb4⟩))
            have HB4 := Lib.hid (HB3.out.trans (hb4.mono HB3.out.size))
            have HN4 := Lib.hid hn4
            have HN3b := Lib.hid (HN3.out.below hb4)
            have HN1b := Lib.hid (HN1.out.below HB4.out)
            have HBW := Lib.hid (HB1.out.trans (HB4.out.mono HB1.out.size))
            have CC := on_below (w0 := w4) fun W hb => check_any m am cm (by unfold maxLen; omega) hcm (fun n hn => by have := HML.out n hn; omega) W (HN1b.out.below hb)
            rw [HOKM.out.c] at CC
            have CS1 := on_below (w0 := w4) fun W hb => sameT (sameN_any m m am ak cm ck W (HN1b.out.below hb) (HN4.out.below hb) (by omega)) (show (true : Bool) = true ↔ m = m by simp)
            clear CA hb4 hn4 HB3 HB2 HB1 HN3 HN1
            have CPL : ∀ W, Below w4.heap.size w4 W → Calls Tryz.prog 11 #[.slice ax x.length cx] W fun e w' => e = .returned (.bool (plE x)) ∧ Below w4.heap.size w4 w' := on_below (w0 := w4) fun W hb => plain_any x ax cx (by have := HFEW.out.1; omega) (fun y hy => by have := HFEW.out.2 y hy; omega) W (HXE.out.below (HBW.out.trans (hb.mono HBW.out.size)))
            have CA2 : ∀ W, Below w4.heap.size w4 W → PlainE x → Calls Tryz.prog 6 #[.slice am m.length cm, .slice ax x.length cx] W fun e w' => (∃ a' c', e = .returned (.tuple #[.slice a' m.length c', .int .i64 0]) ∧ NodesAt w' a' m) ∧ Below w4.heap.size w4 w' := fun W hb hp =>
              (apply_any m am cm (by unfold maxLen; omega) hcm (fun n hn => by have := HML.out n hn; omega) x ax cx hxl (fun y hy => by have := HFEW.out.2 y hy; omega) W (HN1b.out.below hb) (HXE.out.below (HBW.out.trans (hb.mono HBW.out.size)))).mono fun e w' ⟨⟨a', c', h1, _, h2⟩, h3⟩ => by
                rw [HPL.out hp] at h1 h2
                exact ⟨⟨a', c', h1, h2⟩, hb.trans (h3.mono hb.size)⟩
            have CS3 : ∀ W (a' : Option Addr) (c' : Nat), Below w4.heap.size w4 W → NodesAt W a' m → Calls Tryz.prog 10 #[.slice a' m.length c', .slice am m.length cm] W fun e w' => e = .returned (.bool true) ∧ Below w4.heap.size w4 w' := fun W a' c' hb hn =>
              (sameT (sameN_any m m a' am c' cm W hn (HN1b.out.below hb) (by omega)) (show (true : Bool) = true ↔ m = m by simp)).mono fun e w' ⟨h1, h2⟩ => ⟨h1, hb.trans (h2.mono hb.size)⟩
            have HCW : Hid (∀ W, Below w4.heap.size w4 W → W.cell? (a.add k) = some (.slice ax x.length cx)) := Lib.hid fun W hb => HCA.out W (HBW.out.trans (hb.mono HBW.out.size))
            clear HCA HXE hxl HFEW HPL HPUT HGET HAG hc1
            rcases hcase with ⟨rfl, rfl, rfl⟩ | ⟨rfl, rfl, h50⟩
            · have CS2 := on_below (w0 := w4) fun W hb => sameT (sameN_any lz lz am an cm cn W (HN1b.out.below hb) (HN3b.out.below hb) (by omega)) (show (true : Bool) = true ↔ lz = lz by simp)
              go_upto_region 19 with (first
                | (go_at_call 9; ((with_reducible refine (CC _ (Below.refl _ _)).mono ?_); rintro e v1 ⟨rfl, b1⟩))
                | (go_at_call 10; first
                  | ((with_reducible refine (CS1 _ b1).mono ?_); rintro e v2 ⟨rfl, b2⟩)
                  | ((with_reducible refine (CS2 _ b2).mono ?_); rintro e v3 ⟨rfl, b3⟩)))
              have hcz := HCW.out v3 b3
              cases hplb : plE x
              · rw [hplb] at CPL
                clear CS3 CA2 CC CS1 hplb
                go_wp2_with (go_at_call 11; ((with_reducible refine (CPL _ b3).mono ?_); rintro e v4 ⟨rfl, b4⟩))
                have HN9 := Lib.hid (HN1b.out.below b4)
                have HB9 := Lib.hid (HBW.out.trans (b4.mono HBW.out.size))
                go_roundw
                case rel => exact ⟨k + 1, lz, am, cm, by omega, by go_num, rfl, hcm, HOKM, HN9, HB9⟩
                case measure => simp [intOf] <;> omega
              · have hpp := plE_yes hplb
                rw [hplb] at CPL
                clear CC CS1 hplb
                go_upto_region 20 with (go_at_call 11; ((with_reducible refine (CPL _ b3).mono ?_); rintro e v4 ⟨rfl, b4⟩))
                have hcy := HCW.out v4 b4
                go_wp2_with (first
                  | (go_at_call 6; ((with_reducible refine (CA2 _ b4 hpp).mono ?_); rintro e v5 ⟨⟨a5, c5, rfl, n5⟩, b5⟩))
                  | (go_at_call 10; ((with_reducible refine (CS3 _ _ _ b5 n5).mono ?_); rintro e v6 ⟨rfl, b6⟩)))
                have HN9 := Lib.hid (HN1b.out.below b6)
                have HB9 := Lib.hid (HBW.out.trans (b6.mono HBW.out.size))
                go_roundw
                case rel => exact ⟨k + 1, lz, am, cm, by omega, by go_num, rfl, hcm, HOKM, HN9, HB9⟩
                case measure => simp [intOf] <;> omega
            · have i50 : (50 : Int) < (m.length : Int) := by omega
              rw [show str [] = (⟨#[]⟩ : ByteArray) from rfl]
              go_upto_region 19 with (first
                | (go_at_call 9; ((with_reducible refine (CC _ (Below.refl _ _)).mono ?_); rintro e v1 ⟨rfl, b1⟩))
                | (go_at_call 10; ((with_reducible refine (CS1 _ b1).mono ?_); rintro e v2 ⟨rfl, b2⟩)))
              have hcz := HCW.out v2 b2
              cases hplb : plE x
              · rw [hplb] at CPL
                clear CS3 CA2 CC CS1 hplb
                go_wp2_with (go_at_call 11; ((with_reducible refine (CPL _ b2).mono ?_); rintro e v4 ⟨rfl, b4⟩))
                have HN9 := Lib.hid (HN1b.out.below b4)
                have HB9 := Lib.hid (HBW.out.trans (b4.mono HBW.out.size))
                go_roundw
                case rel => exact ⟨k + 1, m, am, cm, by omega, by go_num, rfl, hcm, HOKM, HN9, HB9⟩
                case measure => simp [intOf] <;> omega
              · have hpp := plE_yes hplb
                rw [hplb] at CPL
                clear CC CS1 hplb
                go_upto_region 20 with (go_at_call 11; ((with_reducible refine (CPL _ b2).mono ?_); rintro e v4 ⟨rfl, b4⟩))
                have hcy := HCW.out v4 b4
                go_wp2_with (first
                  | (go_at_call 6; ((with_reducible refine (CA2 _ b4 hpp).mono ?_); rintro e v5 ⟨⟨a5, c5, rfl, n5⟩, b5⟩))
                  | (go_at_call 10; ((with_reducible refine (CS3 _ _ _ b5 n5).mono ?_); rintro e v6 ⟨rfl, b6⟩)))
                have HN9 := Lib.hid (HN1b.out.below b6)
                have HB9 := Lib.hid (HBW.out.trans (b6.mono HBW.out.size))
                go_roundw
                case rel => exact ⟨k + 1, m, am, cm, by omega, by go_num, rfl, hcm, HOKM, HN9, HB9⟩
                case measure => simp [intOf] <;> omega
      · obtain rfl : k = N := by omega
        clear hOK hNA
        go_wp2_with (go_at_call 4; ((with_reducible refine (CL _ hB.out).mono ?_); rintro e w3 ⟨rfl, hb3⟩))
        go_ret
        exact ⟨rfl, hb3⟩
end Go.Proofs.YtbjgmkjinnbokaaGreatDoor

/- Layer 16: layers that come in; TreesKeep, of what is handed in. -/
namespace Go.Proofs.YtbjgmkjinnbokaaGreatDoor
open Go.ChangeShapes Go.WideShapes Go.ChangeAt Go.WideElems Go.RowKit Go.Deep

theorem len5 {cs : List Value} (h : cs.length = 5) : ∃ a b c d e, cs = [a, b, c, d, e] := by
  match cs, h with
  | [a, b, c, d, e], _ => exact ⟨a, b, c, d, e, rfl⟩
section
variable {H : Type} {enc : TypeId × Value → H} {W : World} {base : Nat} {sp : Nat → Bool} {held : Bool}
theorem open_enL {fuel : Nat} {cs : List Value} {x : DataW H × List MemPlace} (h : DataW.trod enc Tryz.prog W base sp held fuel 38 cs = some x) : ∃ r : En, cs = enV r := by
  obtain ⟨xs, n, _, _, hlen, hx, hf⟩ := DataW.trod_struct Tryz.underlying38 h
  have hc : Tryz.prog.cellsOf 38 = 5 := by kernel_rfl
  have c1 : Tryz.prog.cellsOf 9 = 1 := by kernel_rfl
  have c3 : Tryz.prog.cellsOf 3 = 1 := by kernel_rfl
  rw [hc] at hlen
  replace hx : xs.length = 5 := hx
  have f0 : DataW.trod enc Tryz.prog W base sp held n 3 ((cs.drop 0).take (Tryz.prog.cellsOf 3)) = xs[0]? := hf 0 _ rfl
  have f1 : DataW.trod enc Tryz.prog W base sp held n 9 ((cs.drop 1).take (Tryz.prog.cellsOf 9)) = xs[1]? := hf 1 _ rfl
  have f2 : DataW.trod enc Tryz.prog W base sp held n 9 ((cs.drop 2).take (Tryz.prog.cellsOf 9)) = xs[2]? := hf 2 _ rfl
  have f3 : DataW.trod enc Tryz.prog W base sp held n 3 ((cs.drop 3).take (Tryz.prog.cellsOf 3)) = xs[3]? := hf 3 _ rfl
  have f4 : DataW.trod enc Tryz.prog W base sp held n 9 ((cs.drop 4).take (Tryz.prog.cellsOf 9)) = xs[4]? := hf 4 _ rfl
  rw [c3] at f0 f3
  rw [c1] at f1 f2 f4
  rw [List.getElem?_eq_getElem (by omega)] at f0 f1 f2 f3 f4
  obtain ⟨n0, e0, _, _⟩ := DataW.trod_int Tryz.underlying3 f0
  obtain ⟨s1, e1, _, _⟩ := DataW.trod_string Tryz.underlying9 f1
  obtain ⟨s2, e2, _, _⟩ := DataW.trod_string Tryz.underlying9 f2
  obtain ⟨n3, e3, _, _⟩ := DataW.trod_int Tryz.underlying3 f3
  obtain ⟨s4, e4, _, _⟩ := DataW.trod_string Tryz.underlying9 f4
  refine ⟨⟨n0, s1.data.toList, s2.data.toList, n3, s4.data.toList⟩, ?_⟩
  obtain ⟨v0, v1, v2, v3, v4, rfl⟩ := len5 hlen
  obtain rfl : v0 = .int .i64 n0 := by simpa only [List.drop_zero, List.take_succ_cons, List.take_zero, List.cons.injEq, and_true] using e0
  obtain rfl : v1 = .string s1 := by simpa only [List.drop_succ_cons, List.drop_zero, List.take_succ_cons, List.take_zero, List.cons.injEq, and_true] using e1
  obtain rfl : v2 = .string s2 := by simpa only [List.drop_succ_cons, List.drop_zero, List.take_succ_cons, List.take_zero, List.cons.injEq, and_true] using e2
  obtain rfl : v3 = .int .i64 n3 := by simpa only [List.drop_succ_cons, List.drop_zero, List.take_succ_cons, List.take_zero, List.cons.injEq, and_true] using e3
  obtain rfl : v4 = .string s4 := by simpa only [List.drop_succ_cons, List.drop_zero, List.take_succ_cons, List.take_zero, List.cons.injEq, and_true] using e4
  rfl
/-- A list of them that comes in. -/
theorem open_ens {fuel : Nat} {v : Value} {x : DataW H × List MemPlace} (h : DataW.trod enc Tryz.prog W base sp held fuel 26 [v] = some x) :
    ∃ (l : List En) (xp : Option Addr) (cp : Nat), v = .slice xp l.length cp ∧ EnsAt W xp l ∧ l.length ≤ maxLen := by
  have hc4 : Tryz.prog.cellsOf 38 = 5 := by kernel_rfl
  rcases open_slice Tryz.underlying26 h with ⟨hcs, _⟩ | ⟨a, len, cap, m, n, D, Pl, hcs, _, hl, hm, hmm, hdx, hx⟩
  · exact ⟨[], none, 0, (List.cons.inj hcs).1, (fun i p hi => by cases hi), Nat.zero_le _⟩
  · have hlm : len ≤ m := by rw [hmm]; split <;> omega
    rw [hc4] at hx
    have key : ∀ i, i < len → ∃ z : En, a.block < W.heap.size ∧ ∀ j v, (enV z)[j]? = some v → W.cell? ((a.add (i * 5)).add j) = some v := by
      intro i hi
      obtain ⟨cs', h1, h2⟩ := hx i (by omega)
      obtain ⟨_, h3, hat⟩ := World.cells?_some h1
      obtain ⟨r, rfl⟩ := open_enL h2
      have q0 := hat 0 (by decide)
      rw [Addr.add_zero'] at q0
      have hb := World.block_lt_of_cell? W _ (q0.trans (List.getElem?_eq_getElem (show 0 < (enV r).length from Nat.zero_lt_succ 4)))
      rw [add_blk] at hb
      refine ⟨r, hb, fun j v hj => ?_⟩
      have hj4 : j < 5 := (List.getElem?_eq_some_iff.1 hj).1
      exact (hat j hj4).trans hj
    obtain ⟨f, hf⟩ := choose_lt key
    have e1 : ((List.range len).map f).length = len := by rw [List.length_map, List.length_range]
    have e2 : v = .slice (some a) len cap := (List.cons.inj hcs).1
    refine ⟨(List.range len).map f, some a, cap, by rw [e1]; exact e2, fun i p hi => ?_, ?_⟩
    · have hlt : i < len := by
        have := (List.getElem?_eq_some_iff.1 hi).1
        rwa [e1] at this
      rw [List.getElem?_map, List.getElem?_range hlt] at hi
      obtain rfl : f i = p := Option.some.inj hi
      exact ⟨a, rfl, (hf i hlt).1, (hf i hlt).2⟩
    · rw [e1]
      omega
/-- Layers that come in. -/
theorem open_layers {fuel : Nat} {v : Value} {x : DataW H × List MemPlace} (h : DataW.trod enc Tryz.prog W base sp held fuel 22 [v] = some x) :
    ∃ (ls : List (List En)) (xp : Option Addr) (cp : Nat), v = .slice xp ls.length cp ∧ LayersAt W xp ls ∧ ls.length ≤ maxLen := by
  have hc : Tryz.prog.cellsOf 26 = 1 := by kernel_rfl
  rcases open_slice1 Tryz.underlying22 hc h with ⟨hcs, _⟩ | ⟨a, len, cap, m, n, U, D, Pl, hcs, _, hl, hm, hmm, hdx, hx⟩
  · exact ⟨[], none, 0, (List.cons.inj hcs).1, (fun i p hi => by cases hi), Nat.zero_le _⟩
  · have hlm : len ≤ m := by rw [hmm]; split <;> omega
    have key : ∀ i, i < len → ∃ z : List En, a.block < W.heap.size ∧ ∃ ax cx, W.cell? (a.add i) = some (.slice ax z.length cx) ∧ z.length ≤ maxLen ∧ EnsAt W ax z := by
      intro i hi
      obtain ⟨h1, h2⟩ := hx i (by omega)
      obtain ⟨z, ax, cx, hv, hz, hzl⟩ := open_ens h2
      rw [hv] at h1
      have hb := World.block_lt_of_cell? W _ h1
      rw [add_blk] at hb
      exact ⟨z, hb, ax, cx, h1, hzl, hz⟩
    obtain ⟨f, hf⟩ := choose_lt key
    have e1 : ((List.range len).map f).length = len := by rw [List.length_map, List.length_range]
    have e2 : v = .slice (some a) len cap := (List.cons.inj hcs).1
    refine ⟨(List.range len).map f, some a, cap, by rw [e1]; exact e2, fun i p hi => ?_, ?_⟩
    · have hlt : i < len := by
        have := (List.getElem?_eq_some_iff.1 hi).1
        rwa [e1] at this
      rw [List.getElem?_map, List.getElem?_range hlt] at hi
      obtain rfl : f i = p := Option.some.inj hi
      obtain ⟨h1, ax, cx, h2, h3, h4⟩ := hf i hlt
      exact ⟨a, ax, cx, rfl, h1, h2, h3, h4⟩
    · rw [e1]
      omega
end
theorem keep_w {H : Type} {enc : TypeId × Value → H} {base : Nat} {sp : Nat → Bool} {held : Bool} {d : DataW H} {p : List MemPlace} (a0 : Option Addr) (len0 cap0 : Nat) (W : World)
    (k0 : DataW.Trod enc Tryz.prog W base sp held 22 (.slice a0 len0 cap0) d p) (_h : True) :
    Calls Tryz.prog 3 #[.slice a0 len0 cap0] W fun e w' => e = .returned (.bool true) ∧ Below W.heap.size W w' := by
  obtain ⟨fuel, hf⟩ := k0
  obtain ⟨l, xp, cp, hv, hE2, hl⟩ := open_layers hf
  simp only [Value.slice.injEq] at hv
  obtain ⟨rfl, rfl, rfl⟩ := hv
  exact keep_any l a0 cap0 hl W hE2
end Go.Proofs.YtbjgmkjinnbokaaGreatDoor
#print axioms Go.Proofs.YtbjgmkjinnbokaaGreatDoor.keep_w

