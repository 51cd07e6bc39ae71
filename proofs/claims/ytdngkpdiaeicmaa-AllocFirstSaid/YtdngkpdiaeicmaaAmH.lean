/- Layer 8: the program's map: the lowest blocks. -/
import Derived.Test.YtdngkpdiaeicmaaRnd
import Derived.Test.YtdngkpdiaeicmaaAmG
namespace Go.Proofs.Ytdngkpdiaeicmaa
open Go.RowKit Go.Shelf
attribute [local go_sem] Oper.semAt_some

theorem owns_own {A B : World} {row : Option Nat} {base : Nat} {e : TypeId} {size n : Nat} {v : Value} {xs : List Value} (h : A.ownsRow base e size v n xs) (hg : A.grownBy B row) (hr : ∀ r, row = some r → ∃ o : Obj, A.heap[r]? = some o ∧ o.isCells = false) : B.ownsRow base e size v n xs := by
  have hl := h.lt
  refine ⟨h.1, ?_⟩
  rcases h.2 with hn | ⟨g, cap, cur, hv, hb, hG, hrest⟩
  · exact .inl hn
  · refine .inr ⟨g, cap, cur, hv, hb, ?_, hrest⟩
    refine (hg.block g (hl g (by rw [hv]; rfl)).2 (fun e => ?_)).trans hG
    obtain ⟨o, ho, hc⟩ := hr g e.symm
    rw [hG] at ho
    obtain rfl := Option.some.inj ho
    cases hc
theorem KeepsOthers.grown {W W' : World} {row : Option Nat} (hg : W.grownBy W' row) (hr : ∀ r, row = some r → ∃ o : Obj, W.heap[r]? = some o ∧ o.isCells = true) : KeepsOthers W W' :=
  ⟨hg.size, fun k o hk ho => (hg.block k (Array.getElem?_eq_some_iff.1 hk).1 (fun e => by
    obtain ⟨o', h1, h2⟩ := hr k e.symm
    rw [hk] at h1
    obtain rfl := Option.some.inj h1
    rw [ho] at h2
    cases h2)).trans hk⟩
theorem owns_isCells {w : World} {base : Nat} {e : TypeId} {size n : Nat} {v : Value} {xs : List Value} (h : w.ownsRow base e size v n xs) : ∀ r, v.ownBlock = some r → ∃ o : Obj, w.heap[r]? = some o ∧ o.isCells = true := by
  intro r hr
  rcases h.2 with ⟨hv, _⟩ | ⟨g, cap, cur, hv, _, hG, _⟩
  · rw [hv] at hr; cases hr
  · rw [hv] at hr
    simp only [Value.ownBlock, Option.some.injEq] at hr
    subst hr
    exact ⟨_, hG, rfl⟩
/-- The world of the loop: the state, how many are wanted, the extents so far. -/
structure LowM (W w : World) (B r Bn Bl : Nat) (L : List Bool) (n : Int) (A : List (Nat × Nat)) : Prop where
  i : rowC w r (impC L) 62
  bl : Below W.heap.size W w
  n : rowC w Bn #[.int .i64 n] 3
  l : ∃ v, rowC w Bl #[v] 33 ∧ OwnsE w B v A
  z : B ≤ w.heap.size
theorem LowM.own {W A B : World} {row : Option Nat} {b r Bn Bl : Nat} {L : List Bool} {n : Int} {E : List (Nat × Nat)} (h : LowM W A b r Bn Bl L n E) (hg : A.grownBy B row) (hr : ∀ k, row = some k → W.heap.size ≤ k ∧ ∃ o : Obj, A.heap[k]? = some o ∧ o.isCells = false) : LowM W B b r Bn Bl L n E := by
  obtain ⟨v, h1, h2⟩ := h.l
  exact ⟨rowC_own h.i hg (fun k e => (hr k e).2), h.bl.grown hg h.bl.size (fun k e => (hr k e).1), rowC_own h.n hg (fun k e => (hr k e).2), ⟨v, rowC_own h1 hg (fun k e => (hr k e).2), owns_own h2 hg (fun k e => (hr k e).2)⟩, Nat.le_trans h.z hg.size⟩
theorem LowM.below {W w w' : World} {b r Bn Bl : Nat} {L : List Bool} {n : Int} {E : List (Nat × Nat)} (h : LowM W w b r Bn Bl L n E) (hb : Below w.heap.size w w') : LowM W w' b r Bn Bl L n E := by
  obtain ⟨v, h1, h2⟩ := h.l
  exact ⟨rowC_below h.i hb (rowC_lt h.i), h.bl.trans (hb.mono h.bl.size), rowC_below h.n hb (rowC_lt h.n), ⟨v, rowC_below h1 hb (rowC_lt h1), (Chg.of_below (s := fun _ => False) hb).owns h2 (fun _ _ => id)⟩, Nat.le_trans h.z hb.size⟩
/-- Ahead of the store of the new slice. -/
theorem LowM.app1 {W w w' : World} {b r Bn Bl : Nat} {L : List Bool} {n : Int} {E : List (Nat × Nat)} {v : Value} {cs : Array Value} {t : TypeId} (h : LowM W w b r Bn Bl L n E) (hl : w.cell? ⟨Bl, 0, none⟩ = some v) (hg : (w.alloc (.cells cs t)).grownBy w' v.ownBlock) :
    rowC w' Bl #[v] 33 ∧ rowC w' Bn #[.int .i64 n] 3 := by
  obtain ⟨v0, h1, h2⟩ := h.l
  have hv : v0 = v := by
    have := rowC_cell h1 0
    rw [hl] at this
    exact (Option.some.inj this).symm
  subst hv
  have al : Below w.heap.size w (w.alloc (.cells cs t)) := (Below.refl _ _).alloc (Nat.le_refl _) _
  have hc : Chg (fun k => v0.ownBlock = some k) w w' := ((Chg.of_below al)).grown hg (fun k e => .inl e)
  exact ⟨hc.rowC h1 (fun e => owns_ne h2 h1 (by decide) Bl e rfl), hc.rowC h.n (fun e => owns_ne h2 h.n (by decide) Bn e rfl)⟩
theorem lastE_addB (A : List (Nat × Nat)) (b : Nat) : (lastE (addB A b)).1 + (lastE (addB A b)).2 = b + 1 := by
  unfold addB
  split
  · rename_i h
    have e : lastE (A.set (A.length - 1) ((lastE A).1, (lastE A).2 + 1)) = ((lastE A).1, (lastE A).2 + 1) := by
      show List.getD _ _ _ = _
      rw [List.length_set, List.getD_eq_getElem?_getD, List.getElem?_set_self (by omega)]
      rfl
    rw [e]
    have := h.2
    show (lastE A).1 + ((lastE A).2 + 1) = _
    omega
  · rw [lastE_snoc]
theorem last_le (pre : List Place) : (lastE (addAll [] (vals pre))).1 + (lastE (addAll [] (vals pre))).2 ≤ 8000001 := by
  rcases List.eq_nil_or_concat pre with rfl | ⟨ini, x, rfl⟩
  · exact Nat.zero_le _
  · rw [List.concat_eq_append, vals_snoc, addAll_snoc, lastE_addB]
    have := x.2
    omega
theorem extV_set : ∀ (l : List (Int × Int)) (k : Nat) (b : Int), (extV l).set (k * 2 + 1) (.int .i64 b) = extV (l.set k ((l.getD k (0, 0)).1, b))
  | [], k, b => by simp [extV]
  | p :: l, 0, b => rfl
  | p :: l, k + 1, b => by
    have ih := extV_set l k b
    rw [List.set_cons_succ, List.getD_cons_succ]
    show (Value.int .i64 p.1 :: .int .i64 p.2 :: extV l).set ((k + 1) * 2 + 1) _ = Value.int .i64 p.1 :: .int .i64 p.2 :: extV (l.set k _)
    rw [show (k + 1) * 2 + 1 = k * 2 + 1 + 1 + 1 by omega, List.set_cons_succ, List.set_cons_succ, ih]
theorem toI_set (A : List (Nat × Nat)) (k f c : Nat) : (toI A).set k ((f : Int), (c : Int)) = toI (A.set k (f, c)) := by
  unfold toI
  rw [List.map_set]
/-- One block more is wanted less. -/
theorem LowM.dec {W w : World} {b r Bn Bl : Nat} {L : List Bool} {n : Int} {E : List (Nat × Nat)} (h : LowM W w b r Bn Bl L n E) (hr : r ≠ Bn) (hl : Bl ≠ Bn) (hB : W.heap.size ≤ Bn) (k : Int) :
    LowM W (w.setCell ⟨Bn, 0, none⟩ (.int .i64 k)) b r Bn Bl L k E := by
  obtain ⟨v, h1, h2⟩ := h.l
  exact ⟨rowC_other h.i _ _ hr, h.bl.setCell (p := ⟨Bn, 0, none⟩) hB _, rowC_set h.n 0 _, ⟨v, rowC_other h1 _ _ hl, ((Chg.refl (· = Bn) w).setCell ⟨Bn, 0, none⟩ _ (.inl rfl)).owns h2 (owns_ne h2 h.n (by decide))⟩, by rw [World.size_setCell]; exact h.z⟩
/-- The last extent has one block more. -/
theorem LowM.more {W w : World} {b r Bn Bl g cap N : Nat} {L : List Bool} {n : Int} {E : List (Nat × Nat)} (h : LowM W w b r Bn Bl L n E) (hl : w.cell? ⟨Bl, 0, none⟩ = some (.slice (some ⟨g, 0, none⟩) N cap)) (hW : W.heap.size ≤ b) (h0 : 0 < E.length) {x : Nat} (hx : (lastE E).1 + (lastE E).2 = x) {c : Int} (hc : c = ((lastE E).2 + 1 : Nat)) {j : Nat} (hj : j = (E.length - 1) * 2 + 1) :
    LowM W (w.setCell ⟨g, j, none⟩ (.int .i64 c)) b r Bn Bl L n (addB E x) ∧ b ≤ g := by
  obtain ⟨v, h1, h2⟩ := h.l
  have hv : v = .slice (some ⟨g, 0, none⟩) N cap := by
    have := rowC_cell h1 0
    rw [hl] at this
    exact (Option.some.inj this).symm
  subst hv
  subst hj
  subst hc
  obtain ⟨a', cap', hv⟩ := OwnsE.form h2
  simp only [Value.slice.injEq] at hv
  obtain ⟨-, rfl, -⟩ := hv
  have hg := (h2.lt g rfl).1
  have hs := (h2.stored ((E.length - 1) * 2 + 1) (.int .i64 (((lastE E).2 + 1 : Nat) : Int))).1
  rw [extV_set, toI_getD] at hs
  dsimp only at hs
  rw [show ((E.getD (E.length - 1) (0, 0)).1) = (lastE E).1 from rfl, toI_set] at hs
  have e : addB E x = E.set (E.length - 1) ((lastE E).1, (lastE E).2 + 1) := by unfold addB; rw [if_pos ⟨h0, hx⟩]
  rw [← e] at hs
  have hlen : (addB E x).length = E.length := by rw [e, List.length_set]
  refine ⟨⟨rowC_other h.i _ _ (fun e => owns_ne h2 h.i (by decide) g rfl e.symm), h.bl.setCell (p := ⟨g, _, none⟩) (Nat.le_trans hW hg) _, rowC_other h.n _ _ (fun e => owns_ne h2 h.n (by decide) g rfl e.symm), ⟨_, rowC_other h1 _ _ (fun e => owns_ne h2 h1 (by decide) g rfl e.symm), ?_⟩, by rw [World.size_setCell]; exact h.z⟩, hg⟩
  show World.ownsRow _ _ _ _ _ _ _
  rw [hlen]
  exact hs
/-- One extent more. -/
theorem LowM.app {W w w' : World} {b r Bn Bl N : Nat} {L : List Bool} {n : Int} {E : List (Nat × Nat)} {v v' : Value} (h : LowM W w b r Bn Bl L n E) (hl : w.cell? ⟨Bl, 0, none⟩ = some v) (hW : W.heap.size ≤ b) (hN : N = E.length) {x : Nat} (hx : 0 < E.length → (lastE E).1 + (lastE E).2 ≠ x) (hBl : W.heap.size ≤ Bl) (hr : r ≠ Bl) (hn : Bn ≠ Bl)
    (ho : w'.ownsRow b 41 2 v' (N + 1) (extV (toI E) ++ [.int .i64 (x : Int), .int .i64 1])) (hg : (w.alloc (.cells #[.int .i64 (x : Int), .int .i64 1] 41)).grownBy w' v.ownBlock) :
    LowM W (w'.setCell ⟨Bl, 0, none⟩ v') b r Bn Bl L n (addB E x) := by
  obtain ⟨v0, h1, h2⟩ := h.l
  have hv : v0 = v := by
    have := rowC_cell h1 0
    rw [hl] at this
    exact (Option.some.inj this).symm
  subst hv
  have al : Below w.heap.size w (w.alloc (.cells #[.int .i64 (x : Int), .int .i64 1] 41)) := (Below.refl _ _).alloc (Nat.le_refl _) _
  have hc : Chg (fun k => v0.ownBlock = some k) w w' := ((Chg.of_below al)).grown hg (fun k e => .inl e)
  have hb := h2.lt
  have hbl : Below W.heap.size W w' := (Chg.of_below (s := fun k => v0.ownBlock = some k) h.bl).trans (t := fun k => v0.ownBlock = some k) hc (fun _ _ h => h) |>.below (Nat.le_refl _) (fun k hk hkk => by have := (hb k hkk).1; omega)
  have ho2 : OwnsE w' b v' (addB E x) := by
    show World.ownsRow _ _ _ _ _ _ _
    rw [addB_new hx, List.length_append, ← hN, ← toI_snoc, ← extV_snoc]
    exact ho
  have hr2 := hc.rowC h1 (fun e => owns_ne h2 h1 (by decide) Bl e rfl)
  refine ⟨rowC_other (hc.rowC h.i (fun e => owns_ne h2 h.i (by decide) r e rfl)) _ _ hr, hbl.setCell (p := ⟨Bl, 0, none⟩) hBl _, rowC_other (hc.rowC h.n (fun e => owns_ne h2 h.n (by decide) Bn e rfl)) _ _ hn, ⟨v', rowC_set hr2 0 v', ?_⟩, by rw [World.size_setCell]; exact Nat.le_trans h.z hc.size⟩
  exact ((Chg.refl (· = Bl) w').setCell ⟨Bl, 0, none⟩ _ (.inl rfl)).owns ho2 (owns_ne ho2 hr2 (by decide))
set_option maxRecDepth 100000 in
set_option maxHeartbeats 4000000 in
theorem lowest_any {w : World} {q r : Nat} {L : List Bool} (h : ImpM w q r L) (m : Nat) (hm : m ≤ 4096) :
    Calls Try.prog 35 #[.pointer (some ⟨r, 0, none⟩), .int .i64 (m : Int)] w fun e w' => ∃ v, e = .returned v ∧ OwnsE w' w.heap.size v (lowL L 0 m) ∧ Below w.heap.size w w' := by
  have HI := Lib.hid h
  clear h
  refine (callsIn_wide (n := 4)).1 ?_
  refine callsIn_of_wp_marks Try.func35 rfl trivial ?_ rfl
  simp only [Try.ntmps35, List.size_toArray, List.length_cons, List.length_nil, Nat.reduceAdd, Nat.reduceSub, Array.replicate_succ, Array.replicate_zero, List.push_toArray, List.append_toArray, List.nil_append, List.cons_append]
  gi_wp2_with (refine ⟨trivial, ?_⟩; gi_at_call 51; refine (free_call _ _ _).mono ?_; rintro e w3 ⟨rfl, rfl⟩)
  obtain ⟨B, hB⟩ : ∃ B, B = w.heap.size := ⟨_, rfl⟩
  have M0 : LowM w (((w.alloc (.cells #[.int .i64 (m : Int)] 3)).alloc (.cells #[.slice none 0 0] 33)).alloc (.cells #[.pointer (some ⟨r, 0, none⟩)] 49)) (B + 3) r B (B + 1) L (m : Int) [] := by
    have b3 : Below w.heap.size w (((w.alloc (.cells #[.int .i64 (m : Int)] 3)).alloc (.cells #[.slice none 0 0] 33)).alloc (.cells #[.pointer (some ⟨r, 0, none⟩)] 49)) := (((Below.refl _ w).alloc (Nat.le_refl _) _).alloc (by rw [size_alloc]; omega) _).alloc (by rw [size_alloc, size_alloc]; omega) _
    have r0 := rowC_alloc (rowC_alloc (rowC_new w #[.int .i64 (m : Int)] 3) (.cells #[.slice none 0 0] 33)) (.cells #[.pointer (some ⟨r, 0, none⟩)] 49)
    have r1 := rowC_alloc (rowC_new (w.alloc (.cells #[.int .i64 (m : Int)] 3)) #[.slice none 0 0] 33) (.cells #[.pointer (some ⟨r, 0, none⟩)] 49)
    rw [size_alloc] at r1
    rw [hB]
    exact ⟨rowC_below HI.out.r b3 (rowC_lt HI.out.r), b3, r0, ⟨_, r1, OwnsE.nil _ _⟩, by rw [size_alloc, size_alloc, size_alloc]; omega⟩
  have cs := rowC_cell (rowC_new ((w.alloc (.cells #[.int .i64 (m : Int)] 3)).alloc (.cells #[.slice none 0 0] 33)) #[.pointer (some ⟨r, 0, none⟩)] 49) 0
  rw [size_alloc, size_alloc] at cs
  replace cs : (((w.alloc (.cells #[.int .i64 (m : Int)] 3)).alloc (.cells #[.slice none 0 0] 33)).alloc (.cells #[.pointer (some ⟨r, 0, none⟩)] 49)).cell? ⟨w.heap.size + 1 + 1, 0, none⟩ = some (.pointer (some ⟨r, 0, none⟩)) := cs
  have hs3 : (((w.alloc (.cells #[.int .i64 (m : Int)] 3)).alloc (.cells #[.slice none 0 0] 33)).alloc (.cells #[.pointer (some ⟨r, 0, none⟩)] 49)).heap.size = w.heap.size + 3 := by rw [size_alloc, size_alloc, size_alloc]
  have hrB : r < B := by rw [hB]; exact HI.out.lt r (.inr rfl)
  have hL4 := HI.out.hi
  generalize ((w.alloc (.cells #[.int .i64 (m : Int)] 3)).alloc (.cells #[.slice none 0 0] 33)).alloc (.cells #[.pointer (some ⟨r, 0, none⟩)] 49) = w3 at *
  rw [← hB] at cs hs3 ⊢
  have HM0 := Lib.hid M0
  have c0 : w3.cell? ⟨r, 0, none⟩ = some (.int .i64 (L.length : Int)) := rowC_cell M0.i 0
  have c1 : w3.cell? ⟨r, 1, none⟩ = some (.string (str (packL L))) := rowC_cell M0.i 1
  have HRe := Lib.hid hB
  have HS3 := Lib.hid hs3
  obtain ⟨i0, hi, hz0, hz1, hz2⟩ := info_parts info_extent
  clear M0 hB
  refine wpIn_rangeFunc_ownF rfl (by omega) (gf := 59) (lb := #[.pointer (some ⟨B + 1 + 1, 0, none⟩)]) rfl trivial (enters_of Try.func59 (by kernel_rfl) rfl)
    (free_stops 3 (by omega) (B + 1 + 1) r L (fun k => k = B ∨ k = B + 1 ∨ B + 3 ≤ k) hL4 w3 (by omega) (by omega) cs c0 c1)
    (fun h h' => h.trans h') (fun W l o o' _ h hc _ => KeepsBut.put _ W l o o' h hc) (Below.refl _ _) (fun _ => rfl)
    (fun pre W => ∃ n : Nat, pre.length + n = m ∧ LowM w W (B + 3) r B (B + 1) L (n : Int) (addAll [] (vals pre)))
    (fun c pre W => c = .exit 0 ∧ ∃ ini last, pre = ini ++ [last] ∧ ini.length = m ∧ LowM w W (B + 3) r B (B + 1) L 0 (addAll [] (vals ini)))
    (fun pre A C row ⟨n, h1, h2⟩ hg hr => ⟨n, h1, h2.own hg (fun k e => ⟨by have := (hr k e).1; have := HRe.out; have := HS3.out; omega, (hr k e).2⟩)⟩)
    (fun c pre A C row ⟨h0, ini, last, h1, h3, h2⟩ hg hr => ⟨h0, ini, last, h1, h3, h2.own hg (fun k e => ⟨by have := (hr k e).1; have := HRe.out; have := HS3.out; omega, (hr k e).2⟩)⟩)
    ⟨m, by simp, HM0.out⟩
    (fun x => { tmps := #[.pointer (some ⟨r, 0, none⟩), .int .i64 (m : Int), undef, .pointer (some ⟨B, 0, none⟩), .slice none 0 0, .pointer (some ⟨B + 1, 0, none⟩), .int .i64 (x.1 : Int), undef, .pointer (some ⟨r, 0, none⟩),
      .func (.func 59) #[] #[.pointer (some ⟨B + 1 + 1, 0, none⟩)], .int .i64 (x.1 : Int), undef, undef, undef, undef, undef, undef, undef, undef, undef, undef, undef, undef, undef, undef, undef, undef, undef, undef, undef, undef, undef, undef, undef, undef, undef, undef, undef, undef, undef, undef, undef, undef, undef, undef, undef, undef, undef, undef], defers := [] }) ?assign ?body ?done ?stop
  case assign =>
    intro l x W K hK
    gi_wp2
    simpa using hK
  case body =>
    rintro l2 pre x W ⟨n, hn, hG⟩ hlen
    clear c0 c1 cs hs3 HM0
    have hNl := freeF_le L 0
    have hAl := addAll_le (vals pre) []
    have hvl : (vals pre).length = pre.length := by simp [vals]
    rw [hvl, List.length_nil, Nat.zero_add] at hAl
    have cN := rowC_cell hG.n 0
    have fN := rowC_free hG.n 0
    obtain ⟨v, hv, hO⟩ := hG.l
    have cL := rowC_cell hv 0
    have fL := rowC_free hv 0
    obtain ⟨a, cap, rfl⟩ := OwnsE.form hO
    have HG := Lib.hid hG
    have HPre := Lib.hid hn
    have HSN := Lib.hid (addAll_snoc [] (vals pre) x.1)
    rw [← vals_snoc] at HSN
    obtain ⟨A, hA⟩ : ∃ A, A = addAll [] (vals pre) := ⟨_, rfl⟩
    rw [← hA] at HG hO hAl cL HSN
    obtain ⟨b, hb⟩ : ∃ b : Nat, b = x.1 := ⟨_, rfl⟩
    have hb8 : b ≤ 8000000 := by rw [hb]; exact x.2
    rw [← hb] at HSN ⊢
    have HA := Lib.hid hA
    have HO := Lib.hid hO
    have HSZ := Lib.hid hG.z
    clear hG hv hn hA hb hvl hO
    obtain ⟨N, hN⟩ : ∃ N, N = A.length := ⟨_, rfl⟩
    rw [← hN] at cL hAl
    have HN := Lib.hid hN
    clear hN
    by_cases hn0 : n = 0
    · subst hn0
      gi_wp2
      exact ⟨KeepsOthers.refl _, rfl, pre, x, rfl, by have := HPre.out; omega, by rw [← HA.out]; exact HG.out⟩
    · have hz : ((n : Int) == 0) = false := by rw [beq_eq_false_iff_ne]; omega
      have hn4 : n ≤ 4096 := by have := HPre.out; omega
      replace cN : W.cell? ⟨B, 0, none⟩ = some (.int .i64 (n : Int)) := cN
      replace cL : W.cell? ⟨B + 1, 0, none⟩ = some (.slice a N cap) := cL
      rw [← HN.out] at HO
      by_cases hN0 : N = 0
      · subst hN0
        have HNE := Lib.hid (show 0 < A.length → (lastE A).1 + (lastE A).2 ≠ b from fun h => by have := HN.out; omega)
        gi_wp2
        refine region_quiet_drew (by kernel_rfl) (by kernel_rfl) (by kernel_rfl) ?_
        repeat (gi_big_quiet_step (fail))
        refine wpQuietIn_nil ?_
        intro _ hw'
        obtain ⟨nq, hw''⟩ := hw'
        subst hw''
        have HG5 := Lib.hid (HG.out.below (below_drewN (Below.refl _ W) nq))
        have HO5 := Lib.hid (show World.ownsRow (W.drewN nq) (B + 3) 41 2 (.slice a 0 cap) 0 (extV (toI A)) from by have h5 := HO.out; unfold OwnsE at h5; rw [← HN.out] at h5; exact h5)
        have cN5 : (W.drewN nq).cell? ⟨B, 0, none⟩ = some (.int .i64 (n : Int)) := cN
        have cL5 : (W.drewN nq).cell? ⟨B + 1, 0, none⟩ = some (.slice a 0 cap) := cL
        have fN5 : (W.drewN nq).frozen? ⟨B, 0, none⟩ = false := fN
        have fL5 : (W.drewN nq).frozen? ⟨B + 1, 0, none⟩ = false := fL
        have HCH := Lib.hid ((Chg.refl (fun k => k = B ∨ k = B + 1 ∨ B + 3 ≤ k) W).drewN nq)
        have HKO := Lib.hid (KeepsOthers.below (B := W.heap.size) (below_drewN (Below.refl _ W) nq) (Nat.le_refl _))
        clear cN cL fN fL HG HO
        generalize W.drewN nq = W5 at *
        gi_wp2_with (first
            | ((with_reducible show wpListIn _ _ _ _ _ (⟨some 45, _, _, _, _, _⟩ :: _) _ _); refine wpListIn_append_own _ rfl (.tmp 41) (.tmp 44) 33 rfl (B + 3) 41 i0 (.agg #[.int .i64 0, .int .i64 0]) 2 16 Try.underlying33 hi hz0 hz1 hz2 rfl (by decide) (.slice a 0 cap) 0 (extV (toI A)) rfl (World.ownsRow.alloc HO5.out _) _ 1 1 [.int .i64 (b : Int), .int .i64 1] rfl rfl (World.news_of_block (heap_alloc_new _ _)) (by intro u hu; simp at hu; rcases hu with rfl | rfl <;> rfl) (by unfold maxLen; omega) (by omega) (by rw [size_alloc]; have := HG5.out.z; omega) ?_; intro v' w6 hown6 hgrow6 _; obtain ⟨a6, cap6, rfl⟩ := owns_form hown6; have HO6 := Lib.hid hown6; have HG6 := Lib.hid hgrow6; have hpre := HG5.out.app1 cL5 hgrow6; have cL6 := rowC_cell hpre.1 0; have fL6 := rowC_free hpre.1 0; have cN6 := rowC_cell hpre.2 0; have fN6 := rowC_free hpre.2 0; clear hown6 hgrow6 hpre))
        refine ⟨((HKO.out.trans (KeepsOthers.alloc _ _)).trans (KeepsOthers.grown HG6.out (owns_isCells (World.ownsRow.alloc HO5.out _)))).trans ((KeepsOthers.setCell _ _ _).trans (KeepsOthers.setCell _ _ _)),
          KeepsBut.chg ((((HCH.out.alloc _).grown HG6.out (fun k e => .inl (.inr (.inr (HO5.out.lt k e).1)))).setCell ⟨B + 1, 0, none⟩ _ (.inl (.inr (.inl rfl)))).setCell ⟨B, 0, none⟩ _ (.inl (.inl rfl))), n - 1, by have := HPre.out; rw [List.length_append, List.length_singleton]; omega, ?_⟩
        rw [HSN.out, show ((n - 1 : Nat) : Int) = (n : Int) - 1 by omega]
        exact (HG5.out.app cL5 (by have := HRe.out; omega) HN.out HNE.out (by have := HRe.out; omega) (by omega) (by omega) HO6.out HG6.out).dec (by omega) (by omega) (by have := HRe.out; omega) _
      · obtain ⟨M, rfl⟩ : ∃ M, N = M + 1 := ⟨N - 1, by omega⟩
        obtain ⟨g, hga, hgB, e1, e2⟩ := (HO.out).at (k := M) (by have := HN.out; omega)
        subst hga
        have hle := last_le pre
        rw [← HA.out] at hle
        have HLE := Lib.hid (show lastE A = A.getD M (0, 0) by unfold lastE; rw [← HN.out]; rfl)
        rw [← HLE.out] at e1 e2
        obtain ⟨f, hf⟩ : ∃ f, f = (lastE A).1 := ⟨_, rfl⟩
        obtain ⟨c, hc⟩ : ∃ c, c = (lastE A).2 := ⟨_, rfl⟩
        rw [← hf] at e1 hle
        rw [← hc] at e2 hle
        have HF := Lib.hid hf
        have HC := Lib.hid hc
        have gz := World.frozen?_of_block (w := W) (w' := W) (a := ⟨g, M * 2 + 1, none⟩) rfl
        clear hf hc gz
        by_cases he : f + c = b
        · have hb2 : ((f : Int) + (c : Int) == (b : Int)) = true := by rw [beq_iff_eq]; omega
          gi_wp2
          refine region_quiet_drew (by kernel_rfl) (by kernel_rfl) (by kernel_rfl) ?_
          repeat (gi_big_quiet_step (fail))
          refine wpQuietIn_nil ?_
          intro _ hw'
          obtain ⟨nq, hw''⟩ := hw'
          subst hw''
          have HG5 := Lib.hid (HG.out.below (below_drewN (Below.refl _ W) nq))
          have HO5 := Lib.hid (show World.ownsRow (W.drewN nq) (B + 3) 41 2 (.slice (some ⟨g, 0, none⟩) (M + 1) cap) (M + 1) (extV (toI A)) from by have h5 := HO.out; unfold OwnsE at h5; rw [← HN.out] at h5; exact h5)
          have cN5 : (W.drewN nq).cell? ⟨B, 0, none⟩ = some (.int .i64 (n : Int)) := cN
          have cL5 : (W.drewN nq).cell? ⟨B + 1, 0, none⟩ = some (.slice (some ⟨g, 0, none⟩) (M + 1) cap) := cL
          have e15 : (W.drewN nq).cell? ⟨g, M * 2, none⟩ = some (.int .i64 (f : Int)) := e1
          have e25 : (W.drewN nq).cell? ⟨g, M * 2 + 1, none⟩ = some (.int .i64 (c : Int)) := e2
          have fN5 : (W.drewN nq).frozen? ⟨B, 0, none⟩ = false := fN
          have fL5 : (W.drewN nq).frozen? ⟨B + 1, 0, none⟩ = false := fL
          have HCH := Lib.hid ((Chg.refl (fun k => k = B ∨ k = B + 1 ∨ B + 3 ≤ k) W).drewN nq)
          have HKO := Lib.hid (KeepsOthers.below (B := W.heap.size) (below_drewN (Below.refl _ W) nq) (Nat.le_refl _))
          clear cN cL fN fL HG HO e1 e2
          generalize W.drewN nq = W5 at *
          have fG5 := HO5.out.frozenAt (M * 2 + 1)
          have gne : g ≠ B := by omega
          have gne2 : g ≠ B + 1 := by omega
          gi_wp2
          refine ⟨HKO.out.trans ((KeepsOthers.setCell _ _ _).trans (KeepsOthers.setCell _ _ _)), KeepsBut.chg ((HCH.out.setCell ⟨g, M * 2 + 1, none⟩ _ (.inl (.inr (.inr hgB)))).setCell ⟨B, 0, none⟩ _ (.inl (.inl rfl))), n - 1, by have := HPre.out; rw [List.length_append, List.length_singleton]; omega, ?_⟩
          rw [HSN.out, show ((n - 1 : Nat) : Int) = (n : Int) - 1 by omega]
          exact (HG5.out.more cL5 (by have := HRe.out; omega) (by have := HN.out; omega) (by rw [← HF.out, ← HC.out]; exact he) (by rw [← HC.out]; rfl) (by rw [← HN.out]; rfl)).1.dec (by omega) (by omega) (by have := HRe.out; omega) _
        · have HNE := Lib.hid (show 0 < A.length → (lastE A).1 + (lastE A).2 ≠ b from fun _ h => he (by rw [HF.out, HC.out]; exact h))
          have hb2 : ((f : Int) + (c : Int) == (b : Int)) = false := by rw [beq_eq_false_iff_ne]; omega
          gi_wp2
          refine region_quiet_drew (by kernel_rfl) (by kernel_rfl) (by kernel_rfl) ?_
          repeat (gi_big_quiet_step (fail))
          refine wpQuietIn_nil ?_
          intro _ hw'
          obtain ⟨nq, hw''⟩ := hw'
          subst hw''
          have HG5 := Lib.hid (HG.out.below (below_drewN (Below.refl _ W) nq))
          have HO5 := Lib.hid (show World.ownsRow (W.drewN nq) (B + 3) 41 2 (.slice (some ⟨g, 0, none⟩) (M + 1) cap) (M + 1) (extV (toI A)) from by have h5 := HO.out; unfold OwnsE at h5; rw [← HN.out] at h5; exact h5)
          have cN5 : (W.drewN nq).cell? ⟨B, 0, none⟩ = some (.int .i64 (n : Int)) := cN
          have cL5 : (W.drewN nq).cell? ⟨B + 1, 0, none⟩ = some (.slice (some ⟨g, 0, none⟩) (M + 1) cap) := cL
          have e15 : (W.drewN nq).cell? ⟨g, M * 2, none⟩ = some (.int .i64 (f : Int)) := e1
          have e25 : (W.drewN nq).cell? ⟨g, M * 2 + 1, none⟩ = some (.int .i64 (c : Int)) := e2
          have fN5 : (W.drewN nq).frozen? ⟨B, 0, none⟩ = false := fN
          have fL5 : (W.drewN nq).frozen? ⟨B + 1, 0, none⟩ = false := fL
          have HCH := Lib.hid ((Chg.refl (fun k => k = B ∨ k = B + 1 ∨ B + 3 ≤ k) W).drewN nq)
          have HKO := Lib.hid (KeepsOthers.below (B := W.heap.size) (below_drewN (Below.refl _ W) nq) (Nat.le_refl _))
          clear cN cL fN fL HG HO e1 e2
          generalize W.drewN nq = W5 at *
          gi_wp2_with (first
              | ((with_reducible show wpListIn _ _ _ _ _ (⟨some 45, _, _, _, _, _⟩ :: _) _ _); refine wpListIn_append_own _ rfl (.tmp 41) (.tmp 44) 33 rfl (B + 3) 41 i0 (.agg #[.int .i64 0, .int .i64 0]) 2 16 Try.underlying33 hi hz0 hz1 hz2 rfl (by decide) (.slice (some ⟨g, 0, none⟩) (M + 1) cap) (M + 1) (extV (toI A)) rfl (World.ownsRow.alloc HO5.out _) _ 1 1 [.int .i64 (b : Int), .int .i64 1] rfl rfl (World.news_of_block (heap_alloc_new _ _)) (by intro u hu; simp at hu; rcases hu with rfl | rfl <;> rfl) (by unfold maxLen; omega) (by omega) (by rw [size_alloc]; have := HG5.out.z; omega) ?_; intro v' w6 hown6 hgrow6 _; obtain ⟨a6, cap6, rfl⟩ := owns_form hown6; have HO6 := Lib.hid hown6; have HG6 := Lib.hid hgrow6; have hpre := HG5.out.app1 cL5 hgrow6; have cL6 := rowC_cell hpre.1 0; have fL6 := rowC_free hpre.1 0; have cN6 := rowC_cell hpre.2 0; have fN6 := rowC_free hpre.2 0; clear hown6 hgrow6 hpre))
          refine ⟨((HKO.out.trans (KeepsOthers.alloc _ _)).trans (KeepsOthers.grown HG6.out (owns_isCells (World.ownsRow.alloc HO5.out _)))).trans ((KeepsOthers.setCell _ _ _).trans (KeepsOthers.setCell _ _ _)),
            KeepsBut.chg ((((HCH.out.alloc _).grown HG6.out (fun k e => .inl (.inr (.inr (HO5.out.lt k e).1)))).setCell ⟨B + 1, 0, none⟩ _ (.inl (.inr (.inl rfl)))).setCell ⟨B, 0, none⟩ _ (.inl (.inl rfl))), n - 1, by have := HPre.out; rw [List.length_append, List.length_singleton]; omega, ?_⟩
          rw [HSN.out, show ((n - 1 : Nat) : Int) = (n : Int) - 1 by omega]
          exact (HG5.out.app cL5 (by have := HRe.out; omega) HN.out HNE.out (by have := HRe.out; omega) (by omega) (by omega) HO6.out HG6.out).dec (by omega) (by omega) (by have := HRe.out; omega) _
  case done =>
    rintro D ys W hD hys ⟨n, hn, hG⟩ hK
    have HR := Lib.hid (show addAll [] (vals ys) = lowL L 0 m by
      rw [← low_free_all, hys, List.take_of_length_le]
      rw [← hys]
      simp [vals]
      omega)
    obtain ⟨v, hv, hO⟩ := hG.l
    have cL := rowC_cell hv 0
    have HO := Lib.hid hO
    have HB := Lib.hid hG.bl
    have HD := Lib.hid hD
    clear hn hG hys hv hO hD
    gi_wp2
    refine ⟨by simp, .inl ⟨_, _, rfl, run_takeDeferred hK, ?_⟩⟩
    have hg5 := grownBy_putObj' W D (.deferred none)
    have hr5 : ∀ k, some D = some k → ∃ o : Obj, W.heap[k]? = some o ∧ o.isCells = false := fun k e => by cases e; exact ⟨_, hK, rfl⟩
    refine ⟨_, results_tmp rfl _ _ _, v, rfl, ?_, HB.out.grown hg5 HB.out.size (fun k e => by cases e; have := HD.out; have := HRe.out; have := HS3.out; omega)⟩
    have h6 := owns_own HO.out hg5 hr5
    rw [HR.out] at h6
    exact owns_up h6 (by have := HRe.out; omega)
  case stop =>
    rintro D c pre W hD hpre ⟨rfl, ini, last, rfl, hlen, hG⟩ hK
    have HR := Lib.hid (show addAll [] (vals ini) = lowL L 0 m by
      obtain ⟨t, ht⟩ := hpre
      rw [← low_free_all, ← ht, vals_snoc, List.append_assoc, List.take_append_of_le_length (by simp [vals]; omega), List.take_of_length_le (by simp [vals]; omega)])
    obtain ⟨v, hv, hO⟩ := hG.l
    have cL := rowC_cell hv 0
    have HO := Lib.hid hO
    have HB := Lib.hid hG.bl
    have HD := Lib.hid hD
    clear hlen hG hpre hv hO hD
    gi_wp2
    refine ⟨by simp, .inl ⟨_, _, rfl, run_takeDeferred hK, ?_⟩⟩
    have hg5 := grownBy_putObj' W D (.deferred none)
    have hr5 : ∀ k, some D = some k → ∃ o : Obj, W.heap[k]? = some o ∧ o.isCells = false := fun k e => by cases e; exact ⟨_, hK, rfl⟩
    refine ⟨_, results_tmp rfl _ _ _, v, rfl, ?_, HB.out.grown hg5 HB.out.size (fun k e => by cases e; have := HD.out; have := HRe.out; have := HS3.out; omega)⟩
    have h6 := owns_own HO.out hg5 hr5
    rw [HR.out] at h6
    exact owns_up h6 (by have := HRe.out; omega)
end Go.Proofs.Ytdngkpdiaeicmaa
