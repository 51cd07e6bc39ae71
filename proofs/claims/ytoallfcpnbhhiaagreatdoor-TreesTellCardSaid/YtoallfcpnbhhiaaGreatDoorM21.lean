/- Merged: TtT, TtU. -/
import Derived.Test.YtoallfcpnbhhiaaGreatDoorM20
import Derived.Test.YtoallfcpnbhhiaaGreatDoorShel2
/- Layer 16: the program's lay. -/
namespace Go.Proofs.YtoallfcpnbhhiaaGreatDoor
open Go.RowKit

theorem stepsT_cons (k : Int) (g : List Pl) (x : En) (r : List En) : stepsT k g (x :: r) = if (stepT k g x).2 = 0 then stepsT k (stepT k g x).1 r else (g, (stepT k g x).2) := rfl
theorem stepsT_app (k : Int) : ∀ (a b : List En) (g : List Pl), stepsT k g (a ++ b) = if (stepsT k g a).2 = 0 then stepsT k (stepsT k g a).1 b else stepsT k g a
  | [], b, g => rfl
  | x :: a, b, g => by
    rw [List.cons_append, stepsT_cons, stepsT_cons]
    by_cases h : (stepT k g x).2 = 0
    · rw [if_pos h, if_pos h, stepsT_app k a b]
    · rw [if_neg h, if_neg h]
      simp only
      rw [if_neg h]
theorem layG_len (k : Int) (g : List Pl) (n : Nd) : (layG k g n).length ≤ g.length + 1 := by
  unfold layG
  refine Nat.le_trans (put_len _ _) ?_
  split
  · have := List.length_filter_le (fun q : Pl => !insideB n.path q.nd.path) g
    omega
  · exact Nat.le_refl _
theorem stepT_len (k : Int) (g : List Pl) (x : En) (h : (stepT k g x).2 = 0) : (stepT k g x).1.length ≤ g.length + 201 := by
  by_cases hce : (cleanL x.name).2 = 0
  rotate_left
  · rw [stepT_err hce]
    show g.length ≤ _
    omega
  · by_cases hp : (cleanL x.name).1 = []
    · rw [stepT_root hce hp]
      show g.length ≤ _
      omega
    · cases hw : (whiteL (baseL (cleanL x.name).1)).2.2 with
      | true =>
        rw [stepT_wh rfl hce hp hw]
        have := List.length_filter_le (fun q : Pl => !(!decide (q.lay = k) && (if (whiteL (baseL (cleanL x.name).1)).2.1 then !decide (q.nd.path = parentL (cleanL x.name).1) && insideB (parentL (cleanL x.name).1) q.nd.path else insideB (join2 (parentL (cleanL x.name).1) (whiteL (baseL (cleanL x.name).1)).1) q.nd.path))) g
        show (takeG _ _ _ _ _).length ≤ _
        unfold takeG
        omega
      | false =>
        rw [stepT_in rfl hce hp hw] at h ⊢
        have hcl := clean_len x.name
        have hpl := parent_le (cleanL x.name).1
        cases he : enterG k (parentL (cleanL x.name).1) g with
        | none => rw [he] at h; cases h
        | some g1 =>
          rw [he] at h
          have h1 := enterG_len k _ (parentL (cleanL x.name).1) g g1 (Nat.le_refl _) he
          simp only at h ⊢
          split at h
          · rename_i h2
            rw [if_pos h2]
            have := layG_len k g1 (nodeG g1 x (cleanL x.name).1).1
            show (layG _ _ _).length ≤ _
            omega
          · rename_i h2
            exact absurd h h2
set_option maxRecDepth 100000 in
set_option maxHeartbeats 16000000 in
theorem lay_any (l : List En) (ad : Option Addr) (c : Nat) (hl : l.length ≤ maxLen) (hsm : ∀ x ∈ l, x.name.length ≤ 900000 ∧ x.to.length ≤ 900000) (B M : Nat) (g : List Pl) (hg : g.length ≤ 400000) (k : Int) (hk0 : 0 ≤ k) (hk1 : k ≤ 1000000)
    (w0 : World) (hE : EnsAt w0 ad l) (w : World) (hb0 : Below w0.heap.size w0 w) (hB0 : w0.heap.size ≤ B) (hM0 : w0.heap.size ≤ M) (h : GrAt w B M g k) :
    Calls Tryz.prog 39 #[.pointer (some ⟨B, 0, none⟩), .slice ad l.length c] w fun e w' =>
      e = .returned (.int .i64 (laysT (k + 1) g l).2) ∧ ((laysT (k + 1) g l).2 = 0 → GrAt w' B M (laysT (k + 1) g l).1 (k + 1)) ∧ GrC B M w w' := by
  have HI5 := Lib.hid info_en5
  have HL : Hid (laysT (k + 1) g l = if 200 < l.length then (g, 63) else if (stepsT (k + 1) g l).2 = 0 then (if 400 < (stepsT (k + 1) g l).1.length then (g, 63) else ((stepsT (k + 1) g l).1, 0)) else (g, (stepsT (k + 1) g l).2)) := Lib.hid rfl
  have HN := Lib.hid hE
  have HSM := Lib.hid hsm
  have HG0 := Lib.hid h
  have hBM := h.ne
  have hBw := rowC_lt h.row
  have hMw := h.map.lt
  have HSAME := Lib.hid hb0
  have HAPP : Hid (∀ (j : Nat) (x : En), l[j]? = some x → ∃ r, l = l.take j ++ x :: r ∧ l.take (j + 1) = l.take j ++ [x]) := Lib.hid fun j x hx => by
    obtain ⟨hj, rfl⟩ := List.getElem?_eq_some_iff.1 hx
    refine ⟨l.drop (j + 1), ?_, List.take_succ_eq_append_getElem hj⟩
    conv => lhs; rw [← List.take_append_drop j l, List.drop_eq_getElem_cons hj]
  have HGE : Hid (∀ i, i < l.length → ∃ x, l[i]? = some x) := Lib.hid fun i hi => ⟨_, List.getElem?_eq_getElem hi⟩
  have HALL : Hid (l.take l.length = l) := Lib.hid List.take_length
  unfold maxLen at hl
  obtain ⟨N, hN⟩ : ∃ N, N = l.length := ⟨_, rfl⟩
  rw [← hN] at hl HL HGE HALL ⊢
  clear h hE hsm hN hb0
  by_cases h2 : 200 < N
  · have HR := Lib.hid (HL.out.trans (if_pos h2))
    have g1 : ¬ (N : Int) ≤ 200 := by omega
    clear HL
    go_enter Tryz.func39, Tryz.ntmps39
    go_wp2
    go_ret
    exact ⟨by rw [HR.out]; rfl, fun e => (by rw [HR.out] at e; cases e), Chg.refl _ _⟩
  have HL2 := Lib.hid (HL.out.trans (if_neg h2))
  have g1 : (N : Int) ≤ 200 := by omega
  have hN200 : N ≤ 200 := by omega
  have c1 : w.cell? ⟨B, 1, none⟩ = some (.int .i64 k) := rowC_cell HG0.out.row 1
  have f1 : w.frozen? ⟨B, 1, none⟩ = false := rowC_free HG0.out.row 1
  clear HL h2
  go_enter Tryz.func39, Tryz.ntmps39
  go_upto_region 5 with (fail)
  obtain ⟨W0, hW0⟩ : ∃ W0, W0 = w.setCell ⟨B, 1, none⟩ (.int .i64 (k + 1)) := ⟨_, rfl⟩
  rw [← hW0]
  have HG1 : Hid (GrAt W0 B M g (k + 1)) := Lib.hid (by
    rw [hW0]
    exact ⟨rowC_set HG0.out.row 1 _, HG0.out.map.chg (s := fun j => j = B) ((Chg.refl _ _).setCell _ _ (.inl rfl)) (fun e => hBM e.symm)⟩)
  have HC1 : Hid (GrC B M w W0) := Lib.hid (by rw [hW0]; exact (Chg.refl _ _).setCell _ _ (.inl (.inl rfl)))
  have HBLW : Hid (∀ W, GrC B M w W → Below w0.heap.size w0 W) := Lib.hid fun W hW => HSAME.out.trans (hW.below HSAME.out.size (fun j h1 h2 => by omega))
  clear hW0 c1 f1 HG0
  go_loopw [6, 7, 20] (fun _ _ i wr => ∃ (j : Nat) (gj : List Pl), j ≤ N ∧ i = .int .i64 j ∧ Hid (stepsT (k + 1) g (l.take j) = (gj, 0)) ∧ Hid (gj.length ≤ 400000 + 201 * j) ∧ Hid (GrAt wr B M gj (k + 1)) ∧ Hid (GrC B M w wr)) (fun _ _ i _ => N - (intOf i).toNat)
  case atStart => exact ⟨0, g, Nat.zero_le _, rfl, Lib.hid rfl, Lib.hid (by omega), HG1, HC1⟩
  case round =>
    obtain ⟨j, gj, hj, rfl, HST, HLJ, HGJ, HCJ⟩ := hrel
    by_cases hlt : j < N
    · obtain ⟨x, hx⟩ := HGE.out j hlt
      obtain ⟨ax, rfl, hax, hcx⟩ := HN.out j x hx
      have HCX : Hid (∀ u v, (enV x)[u]? = some v → wr.cell? ((ax.add (j * 5)).add u) = some v) := Lib.hid fun u v hu => by
        rw [cell_far (HBLW.out wr HCJ.out) (by rw [add_blk, add_blk]; exact hax)]
        exact hcx u v hu
      have hone := Lib.hid (enA_one x)
      have gl : (j : Int) < (N : Int) := by omega
      obtain ⟨hs1, hs2⟩ := HSM.out x (List.mem_of_getElem? hx)
      have hlj := HLJ.out
      have CS := fun W (hW : GrAt W B M gj (k + 1)) => gstep_any x hs1 hs2 B M gj (by omega) (k + 1) W hW
      obtain ⟨r, hr1, hr2⟩ := HAPP.out j x hx
      have HNEXT : Hid ((stepT (k + 1) gj x).2 = 0 → stepsT (k + 1) g (l.take (j + 1)) = ((stepT (k + 1) gj x).1, 0)) := Lib.hid fun h0 => by
        rw [hr2, stepsT_app, HST.out]
        simp only
        rw [if_pos (by trivial)]
        unfold stepsT
        rw [if_pos h0]
        rfl
      have HFAIL : Hid ((stepT (k + 1) gj x).2 ≠ 0 → (stepsT (k + 1) g l).2 = (stepT (k + 1) gj x).2) := Lib.hid fun h0 => by
        rw [hr1, stepsT_app, HST.out]
        simp only
        rw [if_pos (by trivial)]
        unfold stepsT
        rw [if_neg h0]
      have HSL := Lib.hid (stepT_len (k + 1) gj x)
      generalize stepT (k + 1) gj x = ST at *
      obtain ⟨g2, e2⟩ := ST
      simp only at CS HNEXT HFAIL HSL
      obtain ⟨W1, hW1⟩ : ∃ W1, W1 = wr.alloc (.cells (enA x) 52) := ⟨_, rfl⟩
      have HW1 := Lib.hid hW1
      have HZ1 : Hid (rowC W1 wr.heap.size (enA x) 52) := Lib.hid (by rw [hW1]; exact rowC_new wr _ _)
      have HG2 : Hid (GrAt W1 B M gj (k + 1)) := Lib.hid (by rw [hW1]; exact HGJ.out.below ((Below.refl _ _).alloc (Nat.le_refl _) _))
      have HC2 : Hid (GrC B M w W1) := Lib.hid (by rw [hW1]; exact HCJ.out.alloc _)
      clear hW1 hx hcx hs1 hs2 hr1 hr2 HST
      by_cases he2 : e2 = 0
      · have HNX := Lib.hid (HNEXT.out he2)
        have HLN := Lib.hid (HSL.out he2)
        subst he2
        clear HNEXT HFAIL HSL
        go_wp2_with (first
          | ((with_reducible show wpList _ _ _ (⟨some 23, .load _ _, _, _, _, _⟩ :: _) _ _); refine wpList_load_at rfl 52 _ rfl (ax.add (j * 5)) rfl (enV x) _ HCX.out Tryz.underlying52 rfl HI5.out ?_)
          | ((with_reducible show wpList _ _ _ (⟨none, .store _ (.tmp 6) _, _, _, _, _⟩ :: _) _ _); refine wpList_store_last rfl 52 _ _ rfl wr.heap.size (enA x) rfl rfl 52 _ rfl HI5.out rfl hone.out ?_; rw [← HW1.out])
          | ((with_reducible show wpList _ _ _ (⟨some 25, .load _ _, _, _, _, _⟩ :: _) _ _); refine wpList_load_row rfl 52 _ rfl wr.heap.size rfl 52 (enA x) (0, 0) _ HZ1.out Tryz.underlying52 rfl HI5.out ?_)
          | (go_at_call 55; (refine (CS _ HG2.out).mono ?_; rintro e w2 ⟨rfl, hG3, hC3⟩; have HG3 := Lib.hid (hG3 rfl); have HC3 := Lib.hid (Chg.trans HC2.out hC3 (fun _ _ h => h)); clear hG3 hC3)))
        go_roundw
        case rel => exact ⟨j + 1, g2, by omega, by go_num, HNX, Lib.hid (by have := HLN.out; omega), HG3, HC3⟩
        case measure => simp [intOf]; omega
      · have HFL := HFAIL.out he2
        have HR : Hid (laysT (k + 1) g l = (g, e2)) := Lib.hid (by rw [HL2.out, if_neg (by rw [HFL]; exact he2), HFL])
        have g5 : (e2 != 0) = true := by rw [bne_iff_ne]; exact he2
        have he3 := Lib.hid he2
        clear HNEXT HFAIL HSL HFL he2
        go_wp2_with (first
          | ((with_reducible show wpList _ _ _ (⟨some 23, .load _ _, _, _, _, _⟩ :: _) _ _); refine wpList_load_at rfl 52 _ rfl (ax.add (j * 5)) rfl (enV x) _ HCX.out Tryz.underlying52 rfl HI5.out ?_)
          | ((with_reducible show wpList _ _ _ (⟨none, .store _ (.tmp 6) _, _, _, _, _⟩ :: _) _ _); refine wpList_store_last rfl 52 _ _ rfl wr.heap.size (enA x) rfl rfl 52 _ rfl HI5.out rfl hone.out ?_; rw [← HW1.out])
          | ((with_reducible show wpList _ _ _ (⟨some 25, .load _ _, _, _, _, _⟩ :: _) _ _); refine wpList_load_row rfl 52 _ rfl wr.heap.size rfl 52 (enA x) (0, 0) _ HZ1.out Tryz.underlying52 rfl HI5.out ?_)
          | (go_at_call 55; (refine (CS _ HG2.out).mono ?_; rintro e w2 ⟨rfl, _, hC3⟩; have HC3 := Lib.hid (Chg.trans HC2.out hC3 (fun _ _ h => h)); clear hC3)))
        go_ret
        exact ⟨by rw [HR.out]; rfl, fun e => absurd (by rw [HR.out] at e; exact e) he3.out, HC3.out⟩
    · obtain rfl : j = N := by omega
      have HSTF := HST.out
      rw [HALL.out] at HSTF
      have c0 : wr.cell? ⟨B, 0, none⟩ = some (.map (some M)) := rowC_cell HGJ.out.row 0
      have hlen := fun ty => HGJ.out.map.len ty
      obtain ⟨L, hL⟩ : ∃ L, L = gj.length := ⟨_, rfl⟩
      rw [← hL] at hlen
      by_cases h4 : 400 < L
      · have HR : Hid (laysT (k + 1) g l = (g, 63)) := Lib.hid (by rw [HL2.out, HSTF]; simp only; rw [if_pos (by trivial), if_pos (by rw [← hL]; exact h4)])
        have g4 : ¬ (L : Int) ≤ 400 := by omega
        clear HSTF hL
        go_wp2
        go_ret
        exact ⟨by rw [HR.out]; rfl, fun e => (by rw [HR.out] at e; cases e), HCJ.out⟩
      · have HR : Hid (laysT (k + 1) g l = (gj, 0)) := Lib.hid (by rw [HL2.out, HSTF]; simp only; rw [if_pos (by trivial), if_neg (by rw [← hL]; exact h4)])
        have g4 : (L : Int) ≤ 400 := by omega
        clear HSTF hL
        go_wp2
        go_ret
        exact ⟨by rw [HR.out]; rfl, fun _ => by rw [HR.out]; exact HGJ.out, HCJ.out⟩
end Go.Proofs.YtoallfcpnbhhiaaGreatDoor
#print axioms Go.Proofs.YtoallfcpnbhhiaaGreatDoor.lay_any

/- Layer 16: nodes sorted by their paths. -/
namespace Go.Proofs.YtoallfcpnbhhiaaGreatDoor
open Go.RowKit Go.Lib Go.Sort

def cfN (x y : Nd) : Int := Lib.compareBytes x.path y.path
theorem ltN (x y : Nd) : ltOf cfN x y = bytesBefore x.path y.path := cmp_neg x.path y.path
theorem swoN : SWO (ltOf cfN) where
  irrefl x := by rw [ltN]; exact bb_irr _
  trans x y z h1 h2 := by rw [ltN] at *; exact bb_trans h1 h2
  ntrans x y z h1 h2 := by
    rw [ltN] at *
    cases h : bytesBefore x.path z.path
    · rfl
    · rcases bb_tot x.path y.path with h3 | h3 | h3
      · rw [h3] at h1; cases h1
      · rw [h3, h2] at h; cases h
      · have := bb_trans h3 h
        rw [h2] at this
        cases this
theorem cmpN_any (x y : Nd) (w : World) : Calls Tryz.prog 57 (#[.agg (ndV x).toArray, .agg (ndV y).toArray] ++ #[]) w fun e w' => e = .returned (.int .i64 (cfN x y)) ∧ ∃ q os', w' = grow (w.drewN q) os' := by
  have C := fun W => compare_any x.path y.path W
  have hx : (Value.agg (ndV x).toArray) = .agg #[.string (str x.path), .int .i64 x.kind, .int .i64 x.mode, .string (str x.data)] := rfl
  have hy : (Value.agg (ndV y).toArray) = .agg #[.string (str y.path), .int .i64 y.kind, .int .i64 y.mode, .string (str y.data)] := rfl
  have hcf : cfN x y = Lib.compareBytes x.path y.path := rfl
  rw [hx, hy, hcf]
  clear hx hy hcf
  obtain ⟨W1, hW1⟩ : ∃ W1, W1 = (w.alloc (.cells #[.string (str x.path), .int .i64 x.kind, .int .i64 x.mode, .string (str x.data)] 32)).alloc (.cells #[.string (str y.path), .int .i64 y.kind, .int .i64 y.mode, .string (str y.data)] 32) := ⟨_, rfl⟩
  have HW1 := Lib.hid hW1
  have HE : Hid (∃ q os', W1 = grow (w.drewN q) os') := Lib.hid ⟨0, #[_, _], by rw [hW1, alloc_eq_grow, alloc_eq_grow, grow_grow]; rfl⟩
  have d1 : W1.cell? ⟨w.heap.size, 0, none⟩ = some (.string (str x.path)) := by
    rw [hW1]
    exact rowC_cell (rowC_alloc (rowC_new w #[.string (str x.path), .int .i64 x.kind, .int .i64 x.mode, .string (str x.data)] 32) _) 0
  have d2 : W1.cell? ⟨w.heap.size + 1, 0, none⟩ = some (.string (str y.path)) := by
    have := rowC_new (w.alloc (.cells #[.string (str x.path), .int .i64 x.kind, .int .i64 x.mode, .string (str x.data)] 32)) #[.string (str y.path), .int .i64 y.kind, .int .i64 y.mode, .string (str y.data)] 32
    rw [size_alloc] at this
    rw [hW1]
    exact rowC_cell this 0
  clear hW1
  generalize Lib.compareBytes x.path y.path = cv at *
  generalize str x.path = A at *
  generalize str y.path = B at *
  generalize str x.data = DA at *
  generalize str y.data = DB at *
  go_enter Tryz.func57, Tryz.ntmps57
  go_upto_region 1 with (fail)
  rw [← HW1.out]
  go_wp2_with (go_at_call 48; ((with_reducible refine (C _).mono ?_); rintro e w1 ⟨rfl, rfl⟩))
  go_ret
  exact ⟨rfl, HE.out⟩
theorem chg_sort (w : World) (bk n : Nat) (d : Array Nd) (os : Array Obj) : Chg (fun j => j = bk) w (sortWorldK ndV 4 w bk 0 n d os) := by
  refine ⟨rfl, rfl, rfl, ?_, fun k hk hne => ?_⟩
  · exact size_sortWorldK_c ndV 4 w bk 0 n d os
  · show ((w.heap.modify bk _) ++ os)[k]? = w.heap[k]?
    rw [Array.getElem?_append_left (by rw [Array.size_modify]; exact hk), Array.getElem?_modify, if_neg (fun e => hne e.symm)]
theorem holds_nodes {w : World} {bk : Nat} {d : Array Nd} (h : HoldsK ndV 4 w bk 0 d) (hb : bk < w.heap.size) : NodesAt w (some ⟨bk, 0, none⟩) d.toList := fun i x hx => by
  obtain ⟨hi, hxe⟩ := List.getElem?_eq_some_iff.1 hx
  have hi' : i < d.size := by simpa using hi
  refine ⟨_, rfl, hb, fun j u hu => ?_⟩
  have hj : j < 4 := (List.getElem?_eq_some_iff.1 hu).1
  have := (h.cell hi' hj).1
  rw [add_add]
  rw [Nat.zero_add] at this
  rw [this]
  have hd : d[i]! = x := by
    rw [getElem!_pos d i hi']
    rw [← hxe]
    simp
  rw [hd]
  rw [List.getElem!_eq_getElem?_getD, hu]
  rfl
theorem owns_holds {w : World} {base bk n c : Nat} {l : List Nd} (h : OwnsN w base (.slice (some ⟨bk, 0, none⟩) n c) l) : HoldsK ndV 4 w bk 0 l.toArray := by
  have hn := h.nodes
  have hf : ∀ j, w.frozen? ⟨bk, j, none⟩ = false := fun j => by
    obtain ⟨_, h2⟩ := h
    rcases h2 with ⟨hv, _⟩ | ⟨g, cap, cur, hv, hb, hg, _⟩
    · cases hv
    · simp only [Value.slice.injEq, Option.some.injEq, Addr.mk.injEq] at hv
      obtain ⟨⟨rfl, _⟩, _⟩ := hv
      exact rowC_free (cs := cur) (t := 32) hg j
  intro t ht
  rw [size_flatK] at ht
  have hi : t / 4 < l.length := by
    have : l.toArray.size = l.length := by simp
    omega
  rw [get_flatK _ _ _ _ ht]
  refine ⟨?_, hf _⟩
  obtain ⟨a, ha, _, hc⟩ := hn (t / 4) l[t / 4] (List.getElem?_eq_getElem hi)
  obtain rfl : (⟨bk, 0, none⟩ : Addr) = a := Option.some.inj ha
  have hj : t % 4 < (ndV l[t / 4]).length := Nat.mod_lt _ (by decide)
  have := hc (t % 4) _ (List.getElem?_eq_getElem hj)
  rw [add_add, show t / 4 * 4 + t % 4 = t by omega] at this
  rw [Nat.zero_add, this]
  have hd : l.toArray[t / 4]! = l[t / 4] := by
    rw [getElem!_pos l.toArray (t / 4) (by simpa using hi)]
    simp
  rw [hd, getElem!_pos (ndV l[t / 4]) (t % 4) hj]
  rfl
/-- Two rising lists with the same nodes are one. -/
theorem sorted_one {l m : List Nd} (hp : l.Perm m) (hm : m.Pairwise fun a b => bytesBefore a.path b.path = true) (hl : l.Pairwise fun a b => bytesBefore b.path a.path = false) : l = m := by
  have hnd : m.Pairwise fun a b => a.path ≠ b.path := hm.imp fun h => bb_ne h
  have hnl : l.Pairwise fun a b => a.path ≠ b.path := (hp.pairwise_iff (fun h e => h e.symm)).2 hnd
  have hl2 : l.Pairwise fun a b => bytesBefore a.path b.path = true := by
    refine List.Pairwise.imp₂ ?_ hl hnl
    intro a b h1 h2
    rcases bb_tot a.path b.path with h | h | h
    · exact h
    · exact absurd h h2
    · rw [h] at h1; cases h1
  exact hp.eq_of_pairwise (fun a b _ _ h1 h2 => by rw [bb_asym h1] at h2; cases h2) hl2 hm
theorem insN_none (p : Option Addr) (c : Nat) (fv : Value) (w : World) : Calls Tryz.prog 94 #[.slice p 0 c, .int .i64 0, .int .i64 0, fv] w fun e w' => e = .returned (.tuple #[]) ∧ w = w' := by
  go_enter Tryz.func94, Tryz.ntmps94
  go_wp2
  refine wp_loop_rounds 1 ?_
  rw [rounds_succ]
  go_wp2
  go_end0
  exact ⟨rfl, rfl⟩
theorem pdqN_none (p : Option Addr) (c : Nat) (lim : Int) (fv : Value) (w : World) : Calls Tryz.prog 75 #[.slice p 0 c, .int .i64 0, .int .i64 0, .int .i64 lim, fv] w fun e w' => e = .returned (.tuple #[]) ∧ w = w' := by
  have C := fun W => insN_none p c fv W
  go_enter Tryz.func75, Tryz.ntmps75
  go_wp2
  refine wp_loop_rounds 1 ?_
  rw [rounds_succ]
  go_wp2_with (go_at_call 94; ((with_reducible refine (C _).mono ?_); rintro e w1 ⟨rfl, rfl⟩))
  (try simp only [Exit.inBlock, Exit.then])
  refine bodyPost_ret (results_none rfl _ _ _) rfl ?_
  exact ⟨rfl, rfl⟩
theorem sortN_none (p : Option Addr) (c : Nat) (fv : Value) (w : World) : Calls Tryz.prog 56 #[.slice p 0 c, fv] w fun e w' => e = .returned (.tuple #[]) ∧ w = w' := by
  have C := fun lim W => pdqN_none p c lim fv W
  have CL : ∀ W, Calls Tryz.prog 76 #[.int .u64 0] W fun e w' => e = .returned (.int .i64 (Lib.bitLen 0 : Nat)) ∧ W = w' := fun W =>
    (Any.bits_Len (SlLaysF0.n15.bits (P := Tryz.prog) (ρ := Tryz.sortN_ren) { Tryz.sortN with }) 0 W (by omega) (by omega)).mono fun _ _ ⟨h1, h2⟩ => ⟨h1, h2.symm⟩
  go_enter Tryz.func56, Tryz.ntmps56
  go_wp2_with (first
    | (go_at_call 76; ((with_reducible refine (CL _).mono ?_); rintro e w1 ⟨rfl, rfl⟩))
    | (go_at_call 75; (refine (C _ _).mono ?_; rintro e w2 ⟨rfl, rfl⟩)))
  go_end0
  exact ⟨rfl, rfl⟩
theorem owns_cap {w : World} {base n c : Nat} {a : Option Addr} {l : List Nd} (h : OwnsN w base (.slice a n c) l) : l.length ≤ c := by
  rcases h.2 with ⟨hv, h0⟩ | ⟨g, cap, cur, hv, _, _, hc, _⟩
  · omega
  · simp only [Value.slice.injEq] at hv
    omega
set_option maxHeartbeats 1000000 in
/-- slices.SortFunc of nodes of the call's own. -/
theorem sortN_any (l m : List Nd) (hp : l.Perm m) (hm : m.Pairwise fun a b => bytesBefore a.path b.path = true) (base : Nat) (v : Value) (hl : l.length ≤ 1000000) (w : World) (h : OwnsN w base v l) :
    Calls Tryz.prog 56 #[v, .func (.func 57) #[] #[]] w fun e w' =>
      e = .returned (.tuple #[]) ∧ (∃ ad c, v = .slice ad m.length c ∧ m.length ≤ c ∧ NodesAt w' ad m) ∧ Below base w w' := by
  have hlm := hp.length_eq
  rcases Nat.eq_zero_or_pos l.length with h0 | h0
  · have hl0 : l = [] := List.eq_nil_of_length_eq_zero h0
    subst hl0
    have hm0 : m = [] := List.eq_nil_of_length_eq_zero (by rw [← hlm]; rfl)
    subst hm0
    obtain ⟨a, c, rfl⟩ := h.form
    exact (sortN_none a c _ w).mono fun e w' ⟨he, hw⟩ => ⟨he, ⟨a, c, rfl, Nat.zero_le _, NodesAt.nil _ _⟩, by rw [← hw]; exact Below.refl _ _⟩
  · obtain ⟨bk, c, rfl⟩ := owns_some h h0
    obtain ⟨hb1, hb2⟩ := World.ownsRow.lt h bk rfl
    have hcon := AnyQ.slices_SortFunc Tryz.sortN 4 Tryz.isAgg32 Tryz.sizeOf32 ndV (fun _ => rfl) ndV_one cfN swoN 57 #[] bk 0 c l.toArray w
      (enters_of Tryz.func57 (by kernel_rfl) rfl) (fun _ _ _ _ x y => cmpN_any x y _) (owns_holds h) hb2 (by simp; omega)
    refine Calls.mono (hcon : Calls Tryz.prog 56 _ _ _) ?_
    rintro e w' ⟨rfl, d', n, os, hpi, hsi, rfl⟩
    have hsz : d'.size = l.length := by have := hpi.1; simpa using this
    have hperm : d'.toList.Perm l := by
      have := hpi.2.2
      rw [show l.toArray.size = d'.size by simp [hsz]] at this
      rw [Array.extract_size, show d'.size = l.toArray.size by simp [hsz], Array.extract_size] at this
      simpa using this
    have hs2 : d'.toList.Pairwise fun a b => bytesBefore b.path a.path = false := by
      rw [List.pairwise_iff_getElem]
      intro i j hi hj hij
      have hj' : j < d'.size := by simpa using hj
      have := hsi i j (Nat.zero_le _) hij (by simp; omega)
      rw [ltN, getElem!_pos d' j hj', getElem!_pos d' i (by omega)] at this
      simpa using this
    have hone := sorted_one (hperm.trans hp) hm hs2
    refine ⟨rfl, ⟨_, _, by rw [hlm], ?_, ?_⟩, (chg_sort w bk n d' os).below (by omega) (fun j hj e => by omega)⟩
    · rw [← hlm]
      exact owns_cap h
    have hh := holdsK_sortWorldK_c ndV 4 w bk 0 l.toArray d' n os (owns_holds h) hb2 (by simp [hsz])
    have := holds_nodes hh (by have := size_sortWorldK_c ndV 4 w bk 0 n d' os; omega)
    rw [hone] at this
    exact this
end Go.Proofs.YtoallfcpnbhhiaaGreatDoor
#print axioms Go.Proofs.YtoallfcpnbhhiaaGreatDoor.sortN_any

