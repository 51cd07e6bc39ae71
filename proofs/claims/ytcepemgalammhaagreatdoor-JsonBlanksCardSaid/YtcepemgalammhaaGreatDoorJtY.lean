/- Layer 11: all of a text. -/
import Derived.Test.YtcepemgalammhaaGreatDoorJtX
namespace Go.Proofs.YtcepemgalammhaaGreatDoor
open Go.RowKit

set_option maxRecDepth 100000 in
set_option maxHeartbeats 8000000 in
theorem rall_any {n : Nat} {w : World} {q : Nat} {S : Bs} {R : Res JV} (hS : okS S) (hE : Env w) (hq : 10 ≤ q) (h : RdAt w q S S 0) (hR : allP n S = some R) :
    Calls Tryz.prog 12 #[.pointer (some ⟨q, 0, none⟩)] w fun e w' => saysV w q S S 0 R e w' := by
  have hqw := h.lt
  obtain ⟨W0, hW0⟩ : ∃ W0, W0 = w.alloc (.cells #[.int .i64 0, .string ⟨#[]⟩, .slice none 0 0, .slice none 0 0] 27) := ⟨_, rfl⟩
  have R0 : rowC W0 w.heap.size zeroV4 27 := by rw [hW0]; exact rowC_new w _ _
  have A0 : Chg (· = q) w W0 := by rw [hW0]; exact (Chg.refl _ w).alloc _
  have E0 : Env W0 := hE.q A0 hq
  have H0 : RdAt W0 q S S 0 := by rw [hW0]; exact h.below ((Below.refl _ _).alloc (Nat.le_refl _) _)
  have s0 : W0.heap.size = w.heap.size + 1 := by rw [hW0]; exact size_alloc _ _
  unfold allP at hR
  cases hv : valP n 0 S with
  | none => rw [hv] at hR; cases hR
  | some Q =>
    rw [hv] at hR
    have C := value_all n W0 q S S 0 Q hS E0 hq H0 (by decide) hv
    have HR0 := Lib.hid R0
    have HA0 := Lib.hid A0
    have HW0 := Lib.hid hW0
    have HI := Lib.hid info_V
    have HS0 := Lib.hid s0
    clear hW0 R0 A0 E0 H0 hE h hv s0
    cases Q with
    | bad code x =>
      have HQ := Lib.hid (show R = .bad code x from (Option.some.inj hR).symm)
      unfold saysV errAt errV at C
      clear hR
      go_enter Tryz.func12, Tryz.ntmps12
      go_upto_region 1 with (fail)
      rw [← HW0.out]
      go_wp2_with (first
        | (go_at_call 21; ((with_reducible refine C.mono ?_); rintro e w2 ⟨V, rfl, ⟨k, t, x1, n1, c1, x2, n2, c2, rfl⟩, hb⟩; have HZ := Lib.hid (rowC_alloc (hb.2.rowC HR0.out (by omega)) (Obj.cells #[.int .i64 k, .string t, .slice x1 n1 c1, .slice x2 n2 c2] 27)); have HB := Lib.hid hb; clear hb))
        | ((with_reducible show wpList _ _ _ (⟨none, .store _ (.tmp 2) _, _, _, _, _⟩ :: _) _ _); refine wpList_store_row rfl 27 _ _ rfl w.heap.size zeroV4 rfl rfl 27 zeroV4 HZ.out HI.out rfl zeroV4_all ?_))
      refine bodyPost_ret (results_row_tmp rfl _ _ w.heap.size 27 zeroV4 _ rfl (rowC_setRow HZ.out _) Tryz.underlying27 rfl HI.out (errV code (S.length - x.length)) rfl) rfl ?_
      obtain ⟨⟨y, l2, h2, hs⟩, hc⟩ := HB.out
      have cc : Chg (· = w.heap.size) w2 ((w2.alloc (Obj.cells #[.int .i64 k, .string t, .slice x1 n1 c1, .slice x2 n2 c2] 27)).setRow w.heap.size zeroV4) := ((Chg.refl _ w2).alloc _).setRow _ _ (.inl rfl)
      exact saysV_bad HQ.out zero_four ⟨⟨y, l2, h2.chg cc (by omega), hs⟩, (HA0.out.two hc).trans cc (fun k hk e => by omega)⟩
    | ok v x =>
      change (if dropB x = [] then some (Res.ok v []) else some (Res.bad 10 (dropB x))) = some R at hR
      have HB3 := fun (w3 : World) (h3 : RdAt w3 q S x 0) => blanks_any h3 hS.T
      unfold saysV at C
      have hxe : (dropB x = [] ∧ S.length - (dropB x).length = S.length) ∨ (dropB x ≠ [] ∧ (dropB x <:+ S → S.length - (dropB x).length < S.length)) := by
        by_cases he : dropB x = []
        · exact .inl ⟨he, by rw [he]; rfl⟩
        · exact .inr ⟨he, fun hs => by have := List.length_pos_iff.2 he; have := hs.length_le; omega⟩
      have HXD := Lib.hid (dropB_suf x)
      rcases hxe with ⟨he, hl⟩ | ⟨he, hl⟩
      · have HQ := Lib.hid (show R = .ok v [] by rw [if_pos he] at hR; exact (Option.some.inj hR).symm)
        rw [he] at HB3
        have hlt : ¬ ((S.length : Int) < (S.length : Int)) := by omega
        have hsz := str_size S
        clear hR hl he
        go_enter Tryz.func12, Tryz.ntmps12
        go_upto_region 1 with (fail)
        rw [← HW0.out]
        go_upto_region 5 with (first
          | (go_at_call 21; ((with_reducible refine C.mono ?_); rintro e w2 ⟨V, rfl, ⟨a, b, c, d, rfl, hH⟩, hb⟩; obtain ⟨rfl, rfl, ⟨x1, c1, rfl⟩, x2, c2, rfl⟩ := hH.form; have HH := Lib.hid hH; have HZ := Lib.hid (rowC_alloc (hb.2.rowC HR0.out (by omega)) (Obj.cells #[.int .i64 v.kind, .string (str v.text), .slice x1 v.items.length c1, .slice x2 v.keys.length c2] 27)); have BB := HB3 (w2.alloc (Obj.cells #[.int .i64 v.kind, .string (str v.text), .slice x1 v.items.length c1, .slice x2 v.keys.length c2] 27)) (hb.1.chg ((Chg.refl (fun _ => False) w2).alloc _) id); have HB := Lib.hid hb; clear hb hH))
          | (go_at_call 22; ((with_reducible refine BB.mono ?_); rintro e w3 ⟨rfl, h3, c3⟩; have HC3 := Lib.hid c3; have HH3 := Lib.hid h3; clear c3)))
        obtain ⟨g0, g1, _⟩ := h3.cell
        rw [show S.length - ([] : Bs).length = S.length from rfl] at g1
        have hlq : ((S.length : Int) < ((str S).size : Int)) = False := by rw [hsz]; simp
        have hw2 : W0.heap.size ≤ w2.heap.size := HB.out.2.size
        have hqn : ¬ w2.heap.size = q := by have := HS0.out; omega
        have R3 := Lib.hid (HC3.out.rowC HZ.out (by omega))
        have X3 := Lib.hid (HC3.out.rowC (rowC_new w2 (row4 v.kind (str v.text) x1 v.items.length c1 x2 v.keys.length c2) 27) hqn)
        clear h3 hsz
        go_quiet (fail)
        go_wp2_with (first
          | ((with_reducible show wpList _ _ _ (⟨some 33, .load _ (.tmp 4), _, _, _, _⟩ :: _) _ _); refine wpList_load_row rfl 27 _ rfl w2.heap.size rfl 27 (row4 v.kind (str v.text) x1 v.items.length c1 x2 v.keys.length c2) (0, 0) _ (rowC_drewN X3.out _) Tryz.underlying27 rfl HI.out ?_)
          | ((with_reducible show wpList _ _ _ (⟨none, .store _ (.tmp 2) _, _, _, _, _⟩ :: _) _ _); refine wpList_store_row rfl 27 _ _ rfl w.heap.size (row4 v.kind (str v.text) x1 v.items.length c1 x2 v.keys.length c2) rfl rfl 27 zeroV4 (rowC_drewN R3.out _) HI.out rfl (row4_all _ _ _ _ _ _ _ _) ?_))
        refine bodyPost_ret (results_row_tmp rfl _ _ w.heap.size 27 (row4 v.kind (str v.text) x1 v.items.length c1 x2 v.keys.length c2) _ rfl (rowC_setRow (rowC_drewN R3.out _) _) Tryz.underlying27 rfl HI.out .nilIface rfl) rfl ?_
        have c23 : Chg (fun k => k = q ∨ k = w.heap.size) w2 ((w3.drewN nq).setRow w.heap.size (row4 v.kind (str v.text) x1 v.items.length c1 x2 v.keys.length c2)) := ((((Chg.refl _ w2).alloc _).trans HC3.out (fun k _ e => .inl e)).drewN nq).setRow _ _ (.inl (.inr rfl))
        have hs0 := HS0.out
        refine saysV_ok HQ.out ⟨_, _, _, _, rfl, HoldsC.mono (fun k hk hlt => ⟨by omega, hlt⟩) _ _ _ _ _ (HoldsC.chg c23 (fun k hk e => by omega) _ _ _ _ _ HH.out)⟩ ⟨RdAt.chg (s := (· = w.heap.size)) (w := w3.drewN nq) ⟨HH3.out.row, HH3.out.suf⟩ ((Chg.refl _ _).setRow _ _ (.inl rfl)) (by omega), (HA0.out.two HB.out.2).trans c23 (fun k hk e => by omega)⟩
      · have HQ := Lib.hid (show R = .bad 10 (dropB x) by rw [if_neg he] at hR; exact (Option.some.inj hR).symm)
        generalize dropB x = d at HB3 HQ HXD hl
        have hsz := str_size S
        clear hR he
        go_enter Tryz.func12, Tryz.ntmps12
        go_upto_region 1 with (fail)
        rw [← HW0.out]
        go_upto_region 5 with (first
          | (go_at_call 21; ((with_reducible refine C.mono ?_); rintro e w2 ⟨V, rfl, ⟨a, b, c, d', rfl, hH⟩, hb⟩; obtain ⟨rfl, rfl, ⟨x1, c1, rfl⟩, x2, c2, rfl⟩ := hH.form; have HZ := Lib.hid (rowC_alloc (hb.2.rowC HR0.out (by omega)) (Obj.cells #[.int .i64 v.kind, .string (str v.text), .slice x1 v.items.length c1, .slice x2 v.keys.length c2] 27)); have BB := HB3 (w2.alloc (Obj.cells #[.int .i64 v.kind, .string (str v.text), .slice x1 v.items.length c1, .slice x2 v.keys.length c2] 27)) (hb.1.chg ((Chg.refl (fun _ => False) w2).alloc _) id); have HB := Lib.hid hb; clear hb hH))
          | (go_at_call 22; ((with_reducible refine BB.mono ?_); rintro e w3 ⟨rfl, h3, c3⟩; have HC3 := Lib.hid c3; have HH3 := Lib.hid h3; clear c3)))
        obtain ⟨g0, g1, _⟩ := h3.cell
        have hkl := hl h3.suf
        generalize hk : S.length - d.length = k at g1 hkl
        have HK := Lib.hid hk
        have hlq : ((k : Int) < ((str S).size : Int)) := by rw [hsz]; omega
        have hw2 : W0.heap.size ≤ w2.heap.size := HB.out.2.size
        have R3 := Lib.hid (HC3.out.rowC HZ.out (by omega))
        clear h3 hsz hl hk
        go_quiet (fail)
        have g1' : (w3.drewN nq).cell? ⟨q, 1, none⟩ = some (.int .i64 (k : Int)) := g1
        go_wp2_with (first
          | (go_at_call 23; ((with_reducible refine (unfit_any k _ rfl _).mono ?_); rintro e w4 ⟨rfl, rfl⟩; unfold errV))
          | ((with_reducible show wpList _ _ _ (⟨none, .store _ (.tmp 2) _, _, _, _, _⟩ :: _) _ _); refine wpList_store_row rfl 27 _ _ rfl w.heap.size zeroV4 rfl rfl 27 zeroV4 (rowC_drewN R3.out _) HI.out rfl zeroV4_all ?_))
        refine bodyPost_ret (results_row_tmp rfl _ _ w.heap.size 27 zeroV4 _ rfl (rowC_setRow (rowC_drewN R3.out _) _) Tryz.underlying27 rfl HI.out (errV 10 k) rfl) rfl ?_
        have c23 : Chg (fun k => k = q ∨ k = w.heap.size) w2 ((w3.drewN nq).setRow w.heap.size zeroV4) := ((((Chg.refl _ w2).alloc _).trans HC3.out (fun k _ e => .inl e)).drewN nq).setRow _ _ (.inl (.inr rfl))
        have := saysV_bad (w := w) (w' := (w3.drewN nq).setRow w.heap.size zeroV4) (q := q) (S := S) (r := S) (lev := 0) HQ.out zero_four ⟨⟨d, 0, RdAt.chg (s := (· = w.heap.size)) (w := w3.drewN nq) ⟨HH3.out.row, HH3.out.suf⟩ ((Chg.refl _ _).setRow _ _ (.inl rfl)) (by omega), HXD.out.trans HB.out.1.suf⟩, (HA0.out.two HB.out.2).trans c23 (fun k hk e => by omega)⟩
        unfold errAt at this
        rw [HK.out] at this
        exact this
end Go.Proofs.YtcepemgalammhaaGreatDoor
