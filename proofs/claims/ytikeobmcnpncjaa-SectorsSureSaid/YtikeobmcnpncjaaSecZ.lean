/- Layer 6: the program's disk: Read. -/
import Derived.BigQuiet
import Derived.Sort.QuietIn
import Derived.Test.YtikeobmcnpncjaaSecY
namespace Go.Proofs.Ytikeobmcnpncjaa
open Go.RowKit Go.Shelf
attribute [local go_sem] Oper.semAt_some

theorem cell_new_l (W : World) (v : Value) (t : TypeId) : (W.alloc (.cells #[v] t)).cell? ⟨W.heap.size, 0, none⟩ = some v ∧ (W.alloc (.cells #[v] t)).frozen? ⟨W.heap.size, 0, none⟩ = false :=
  ⟨rowC_cell (rowC_new W #[v] t) 0, rowC_free (rowC_new W #[v] t) 0⟩
/-- Read's world: its three boxes, and the disk. -/
structure ReadM (W w : World) (q r : Nat) (vS vL vK : Value) (d : RD) (n : Int) (s : ByteArray) (e : Int) : Prop where
  i : ImpV w q r vS vL vK d
  b : Below W.heap.size W w
  n : w.cell? ⟨W.heap.size, 0, none⟩ = some (.int .i64 n)
  s : w.cell? ⟨W.heap.size + 1, 0, none⟩ = some (.string s) ∧ w.frozen? ⟨W.heap.size + 1, 0, none⟩ = false
  e : w.cell? ⟨W.heap.size + 1 + 1, 0, none⟩ = some (.int .i64 e) ∧ w.frozen? ⟨W.heap.size + 1 + 1, 0, none⟩ = false
theorem ReadM.start {w : World} {q r : Nat} {vS vL vK : Value} {d : RD} (h : ImpV w q r vS vL vK d) (n : Int) :
    ReadM w (((w.alloc (.cells #[.int .i64 n] 3)).alloc (.cells #[.string ⟨#[]⟩] 9)).alloc (.cells #[.int .i64 0] 26)) q r vS vL vK d n ⟨#[]⟩ 0 := by
  have b1 : Below w.heap.size w (((w.alloc (.cells #[.int .i64 n] 3)).alloc (.cells #[.string ⟨#[]⟩] 9)).alloc (.cells #[.int .i64 0] 26)) := (((Below.refl _ w).alloc (Nat.le_refl _) _).alloc (by rw [size_alloc]; omega) _).alloc (by rw [size_alloc, size_alloc]; omega) _
  have c0 := rowC_alloc (rowC_alloc (rowC_new w #[.int .i64 n] 3) (.cells #[.string ⟨#[]⟩] 9)) (.cells #[.int .i64 0] 26)
  have c1 := rowC_alloc (rowC_new (w.alloc (.cells #[.int .i64 n] 3)) #[.string ⟨#[]⟩] 9) (.cells #[.int .i64 0] 26)
  have c2 := rowC_new ((w.alloc (.cells #[.int .i64 n] 3)).alloc (.cells #[.string ⟨#[]⟩] 9)) #[.int .i64 0] 26
  rw [size_alloc] at c1
  rw [size_alloc, size_alloc] at c2
  exact ⟨h.below b1, b1, rowC_cell c0 0, ⟨rowC_cell c1 0, rowC_free c1 0⟩, ⟨rowC_cell c2 0, rowC_free c2 0⟩⟩
theorem ReadM.below {W w w' : World} {q r : Nat} {vS vL vK : Value} {d : RD} {n : Int} {s : ByteArray} {e : Int} (h : ReadM W w q r vS vL vK d n s e) (hb : Below w.heap.size w w') : ReadM W w' q r vS vL vK d n s e := by
  have k : ∀ p v, w.cell? p = some v → w'.cell? p = some v := fun p v hv => (hb.cell (p := p) (World.block_lt_of_cell? w p hv)).trans hv
  have f : ∀ p v, w.cell? p = some v → w.frozen? p = false → w'.frozen? p = false := fun p v hv hf => (World.frozen?_of_block (hb.block p.block (World.block_lt_of_cell? w p hv))).trans hf
  exact ⟨h.i.below hb, h.b.trans (hb.mono h.b.size), k _ _ h.n, ⟨k _ _ h.s.1, f _ _ h.s.1 h.s.2⟩, ⟨k _ _ h.e.1, f _ _ h.e.1 h.e.2⟩⟩
/-- Two boxes of results, written. -/
theorem box_two {W : World} {p q : Addr} {s' : ByteArray} {e : Int} (h1 : W.cell? p = some (.string s')) (h2 : W.cell? q = some (.int .i64 e)) (s : ByteArray) (x : Int) (hne : p ≠ q) :
    ((W.setCell p (.string s)).setCell q (.int .i64 x)).cell? p = some (.string s) ∧ ((W.setCell p (.string s)).setCell q (.int .i64 x)).cell? q = some (.int .i64 x) :=
  ⟨(World.cell?_setCell_other _ q p _ (fun e => hne e.symm)).trans (World.cell?_setCell_same' _ _ _ (by rw [h1]; rfl)), World.cell?_setCell_same' _ _ _ (by rw [World.cell?_setCell_other _ p q _ (fun e => hne e), h2]; rfl)⟩
/-- What the loop that goes from behind comes upon. -/
theorem lookN_back (l : List (Nat × ByteArray)) (m : Nat) (s : ByteArray) (k : Nat) : lookN l m s k = match (backL l k).find? (fun x => decide (x.2.1 = m)) with | some x => x.2.2 | none => s := by
  induction k with
  | zero => rfl
  | succ k ih =>
    rw [lookN, backL, List.find?_cons]
    by_cases h : (l.getD k (0, ByteArray.empty)).1 = m
    · rw [if_pos h]
      simp only [decide_eq_true h]
    · rw [if_neg h, ih]
      simp only [decide_eq_false h]
theorem lookN_none {l : List (Nat × ByteArray)} {m : Nat} {s : ByteArray} {k : Nat} (h : ∀ x ∈ backL l k, x.2.1 ≠ m) : lookN l m s k = s := by
  rw [lookN_back, List.find?_eq_none.2 (fun x hx => by simpa using h x hx)]
theorem lookN_some {l : List (Nat × ByteArray)} {m : Nat} {s : ByteArray} {k : Nat} {ini : List Back} {last : Back} (h : ini ++ [last] <+: backL l k) (h1 : ∀ x ∈ ini, x.2.1 ≠ m) (h2 : last.2.1 = m) : lookN l m s k = last.2.2 := by
  obtain ⟨t, ht⟩ := h
  rw [lookN_back, ← ht, List.append_assoc, List.find?_append, List.find?_eq_none.2 (fun x hx => by simpa using h1 x hx)]
  simp [h2]
set_option maxRecDepth 100000 in
set_option maxHeartbeats 4000000 in
theorem read_any {w : World} {q : Nat} {d : RD} {o : Nat → Prop} (n : Int) (h : ImpInv w q d o) (hok : d.ok) (hf : d.few) :
    Calls Try.prog 13 #[.pointer (some ⟨q, 0, none⟩), .int .i64 n] w fun e w' => e = .returned (.tuple #[.string (d.read n).1, .int .i64 (d.read n).2]) ∧ Below w.heap.size w w' := by
  obtain ⟨r, vS, vL, vK, h, rfl⟩ := h
  have hl := hf.loose
  have M0 := Lib.hid (ReadM.start h n)
  have HOK := Lib.hid hok
  have HLT := Lib.hid h.lt
  obtain ⟨aS, capS, rfl⟩ := owns_form h.s
  obtain ⟨aL, capL, rfl⟩ := owns_form h.l
  have CR := refusal_any M0.out.i.cell.1 M0.out.i.cell.2.2.2.1
  cases hd : d.down
  · rw [hd, if_neg (by decide)] at CR
    by_cases hin : 0 ≤ n ∧ n < (d.sure.length : Int)
    · have CH := fun w' (m : ReadM w w' q r (.slice aS d.sure.length capS) (.slice aL d.loose.length capL) vK d n ⟨#[]⟩ 0) => has_yes m.i.cell.2.1 hin
      clear h hok hf
      refine (callsIn_wide (n := 4)).1 ?_
      refine callsIn_of_wp_marks Try.func13 rfl trivial ?_ rfl
      simp only [Try.ntmps13, List.size_toArray, List.length_cons, List.length_nil, Nat.reduceAdd, Nat.reduceSub, Array.replicate_succ, Array.replicate_zero, List.push_toArray, List.append_toArray, List.nil_append, List.cons_append]
      gi_wp2_with (refine ⟨trivial, ?_⟩; gi_at_call 32; refine (callsIn_wide.2 (CR)).mono ?_; rintro e w' ⟨rfl, rfl⟩)
      generalize ((w.alloc (.cells #[.int .i64 n] 3)).alloc (.cells #[.string ⟨#[]⟩] 9)).alloc (.cells #[.int .i64 0] 26) = w3 at *
      have cq := M0.out.i.cell.1
      have cn := M0.out.n
      have cw := fun k => CH _ (M0.out.below (below_drewN (Below.refl _ w3) k))
      clear CR CH
      refine wpIn_wide.2 ?_
      go_quiet ((go_at_call 33; exact qs (cw _)))
      have M1 := Lib.hid (M0.out.below (below_drewN (Below.refl _ w3) nq))
      clear M0 cq cn cw
      generalize w3.drewN nq = w4 at *
      have cq := M1.out.i.cell.1
      have cl := M1.out.i.cell.2.2.1
      gi_wp2_with (refine ⟨trivial, ?_⟩; gi_at_call 34; refine (backward_in _ _ _ _ _).mono ?_; rintro e w' ⟨rfl, rfl⟩)
      clear cq cl
      obtain ⟨m, rfl⟩ : ∃ m : Nat, n = m := ⟨n.toNat, by omega⟩
      have hms : m < d.sure.length := by omega
      have al : Below w4.heap.size w4 (w4.alloc (.cells #[.slice aL d.loose.length capL] 60)) := (Below.refl _ _).alloc (Nat.le_refl _) _
      have M5 := Lib.hid (M1.out.below al)
      have bS := rowC_cell (rowC_new w4 #[.slice aL d.loose.length capL] 60) 0
      have hsz := size_alloc w4 (.cells #[.slice aL d.loose.length capL] 60)
      have hBS : w4.heap.size < (w4.alloc (.cells #[.slice aL d.loose.length capL] 60)).heap.size := by omega
      have hw4 := M1.out.b.size
      have hwl : w.heap.size + 1 + 1 < w4.heap.size := World.block_lt_of_cell? w4 _ M1.out.e.1
      generalize w4.alloc (.cells #[.slice aL d.loose.length capL] 60) = w5 at *
      have haL : ∀ b, aL = some b → b.block < w5.heap.size := fun b hb => by
        have := M5.out.i.lt b.block (.inr (.inr (.inr (.inl (by rw [hb]; rfl)))))
        exact this
      have HS := Lib.hid (back_stops 3 (by omega) w4.heap.size d.loose.length capL aL d.loose rfl (by omega) w5 hBS bS M5.out.i.l)
      clear al M1
      refine wpIn_rangeFunc_ownH rfl (by omega) (gf := 49) (lb := #[.pointer (some ⟨w4.heap.size, 0, none⟩)]) rfl trivial (enters_of Try.func49 (by kernel_rfl) rfl)
        HS.out (fun h h' => h.trans h') (fun W l o o' _ h hc _ => KeepsTwo.put _ _ W l o o' h hc) (Below.refl _ _) (fun _ => rfl)
        (fun pre W => (∀ x ∈ pre, x.2.1 ≠ m) ∧ Below w5.heap.size w5 W)
        (fun c pre W => (c = .ret ∧ ∃ ini last, pre = ini ++ [last] ∧ (∀ x ∈ ini, x.2.1 ≠ m) ∧ last.2.1 = m ∧ W.cell? ⟨w.heap.size + 1, 0, none⟩ = some (.string last.2.2) ∧ W.cell? ⟨w.heap.size + 1 + 1, 0, none⟩ = some (.int .i64 0)) ∧ Below w.heap.size w W)
        (OwnFrom.and (ownFrom_pure _ _) (ownFrom_below (Nat.le_refl _) (Nat.le_refl _)))
        (fun c => OwnFrom.and (Own.from (fun s A B row hs hg hr => by obtain ⟨hc, ini, last, e1, e2, e3, e4, e5⟩ := hs; exact ⟨hc, ini, last, e1, e2, e3, cell_kept e4 hg hr, cell_kept e5 hg hr⟩) _) (ownFrom_below (Nat.le_refl _) M5.out.b.size))
        ⟨by simp, Below.refl _ _⟩
        (fun x a' W => ∃ Bx, w5.heap.size ≤ Bx ∧ W.cell? ⟨Bx, 0, none⟩ = some (.int .i64 (x.2.1 : Int)) ∧ W.cell? ⟨Bx, 1, none⟩ = some (.string x.2.2) ∧
          a' = { tmps := #[.pointer (some ⟨q, 0, none⟩), .int .i64 (m : Int), undef, .pointer (some ⟨w.heap.size, 0, none⟩), .pointer (some ⟨w.heap.size + 1, 0, none⟩), .pointer (some ⟨w.heap.size + 1 + 1, 0, none⟩), .int .i64 0, undef, .pointer (some ⟨Bx, 0, none⟩),
            .pointer (some ⟨q, 0, none⟩), .int .i64 0, .int .i64 0, .bool false, undef, .pointer (some ⟨q, 0, none⟩), .pointer (some ⟨q, 0, none⟩), .pointer (some ⟨q, 0, none⟩), .pointer (some ⟨r, 0, none⟩), .int .i64 (m : Int), .bool true, .bool false,
            .pointer (some ⟨q, 0, none⟩), .pointer (some ⟨q, 0, none⟩), .pointer (some ⟨q, 0, none⟩), .pointer (some ⟨r, 0, none⟩), .pointer (some ⟨r, 0, none⟩), .pointer (some ⟨r, 1, none⟩), .slice aL d.loose.length capL,
            .func (.func 49) #[] #[.pointer (some ⟨w4.heap.size, 0, none⟩)], .int .i64 (x.1 : Int), .agg #[.int .i64 (x.2.1 : Int), .string x.2.2], undef, undef, undef, undef, undef, undef, undef, undef, undef, undef, undef, undef, undef, undef, undef, undef], defers := [] })
        (fun x a' => Own.from (fun hs A B row => by
          intro hs hg hr
          obtain ⟨Bx, e1, e2, e3, e4⟩ := hs
          exact ⟨Bx, e1, cell_kept e2 hg hr, cell_kept e3 hg hr, e4⟩) _)
        ?assign ?body ?done ?stop
      case assign =>
        rintro l pre ⟨i, y, t⟩ W K ⟨hp, hB⟩ hK
        dsimp only [backV]
        gi_wp2
        have al : Below W.heap.size W (W.alloc (.cells #[.int .i64 (y : Int), .string t] 72)) := (Below.refl _ _).alloc (Nat.le_refl _) _
        have hs5 := hB.size
        exact hK _ _ ((KeepsOthers.alloc _ _).from _) (KeepsTwo.below al (by omega) (fun b hb => by have := haL b hb; omega)) ⟨hp, hB.trans (al.mono hs5)⟩
          ⟨W.heap.size, hs5, rowC_cell (rowC_new W #[.int .i64 (y : Int), .string t] 72) 0, rowC_cell (rowC_new W #[.int .i64 (y : Int), .string t] 72) 1, rfl⟩
      case body =>
        rintro l pre ⟨i, y, t⟩ a' W hl ⟨rr, hr⟩ ⟨hp, hB⟩ ⟨Bx, hBx, x1, x2, rfl⟩ hlt
        have M6 := Lib.hid (M5.out.below hB)
        have cn := M6.out.n
        obtain ⟨cs, fs⟩ := M6.out.s
        obtain ⟨ce, fe⟩ := M6.out.e
        dsimp only at x1 x2
        clear hlt hr hl
        by_cases hy : y = m
        · have hb : ((y : Int) == (m : Int)) = true := by rw [beq_iff_eq]; omega
          gi_wp2
          have hs2 : (W.setCell ⟨w.heap.size + 1, 0, none⟩ (.string t)).cell? ⟨w.heap.size + 1 + 1, 0, none⟩ = some (.int .i64 0) := (World.cell?_setCell_other W ⟨w.heap.size + 1, 0, none⟩ ⟨w.heap.size + 1 + 1, 0, none⟩ _ (by simp)).trans ce
          exact ⟨((KeepsOthers.setCell _ _ _).from _).trans ((KeepsOthers.setCell _ _ _).from _),
            ⟨rfl, pre, (i, y, t), rfl, hp, hy, (World.cell?_setCell_other _ ⟨w.heap.size + 1 + 1, 0, none⟩ ⟨w.heap.size + 1, 0, none⟩ _ (by simp)).trans (World.cell?_setCell_same' _ _ _ (by rw [cs]; rfl)), World.cell?_setCell_same' _ _ _ (by rw [hs2]; rfl)⟩,
            (M6.out.b.setCell (p := ⟨w.heap.size + 1, 0, none⟩) (by simp) _).setCell (p := ⟨w.heap.size + 1 + 1, 0, none⟩) (by simp; omega) _⟩
        · have hb : ((y : Int) == (m : Int)) = false := by rw [beq_eq_false_iff_ne]; omega
          gi_wp2
          exact ⟨KeepsFrom.refl _ _, fun _ _ _ h => h, ⟨fun x hx => by
            rcases List.mem_append.1 hx with hx | hx
            · exact hp x hx
            · simp only [List.mem_singleton] at hx; subst hx; exact hy, hB⟩⟩
      case done =>
        rintro D ys W hD rfl ⟨hp, hB⟩ hK
        have M6 := Lib.hid (M5.out.below hB)
        have cn := M6.out.n
        obtain ⟨cs, fs⟩ := M6.out.s
        obtain ⟨ce, fe⟩ := M6.out.e
        have cq := M6.out.i.cell.1
        have c0 := M6.out.i.cell.2.1
        obtain ⟨gS, capS', hv⟩ := owns_some M6.out.i.s (by have := HOK.out.lo; omega)
        simp only [Value.slice.injEq, true_and] at hv
        obtain ⟨rfl, rfl⟩ := hv
        obtain ⟨x, hx⟩ : ∃ x, x = d.sure.getD m ByteArray.empty := ⟨_, rfl⟩
        have cS := owns_string M6.out.i.s rfl hms
        rw [← hx] at cS
        have HR := Lib.hid (show d.read m = (x, 0) by
          unfold RD.read
          rw [hd, if_neg (by decide), if_neg (by omega), Int.toNat_natCast, lookN_none hp, hx])
        have g1 : (m : Int) < (d.sure.length : Int) := by omega
        have g0 : (0 : Int) ≤ (m : Int) := by omega
        have HW := Lib.hid (M6.out.b)
        have HD := Lib.hid hD
        have HS5 := Lib.hid M5.out.b.size
        have HK := Lib.hid hK
        clear hp hB hx hd hD hK hin hms M6 M5 HS HOK haL bS hsz hBS hw4
        gi_wp2
        refine wpIn_wide.2 ?_
        go_still_tail 10, (by kernel_rfl)
        change wpList _ _ _ _ _ W.drew
        have cs' : W.drew.cell? ⟨w.heap.size + 1, 0, none⟩ = some (.string ⟨#[]⟩) := cs
        have ce' : W.drew.cell? ⟨w.heap.size + 1 + 1, 0, none⟩ = some (.int .i64 0) := ce
        have fs' : W.drew.frozen? ⟨w.heap.size + 1, 0, none⟩ = false := fs
        have fe' : W.drew.frozen? ⟨w.heap.size + 1 + 1, 0, none⟩ = false := fe
        have HB2 := Lib.hid (HW.out.drew)
        have HK2 := Lib.hid (show W.drew.heap[D]? = some (.deferred (some [])) from HK.out)
        have HL2 := Lib.hid (show W.drew.heap.size = W.heap.size from rfl)
        have HD2 := Lib.hid (show w5.heap.size ≤ D from HD.out)
        clear cs ce fs fe cn cq c0 cS HW HK HD
        generalize W.drew = W2 at *
        go_wp2
        gi_wp2
        have HX := Lib.hid (box_two cs' ce' x 0 (by simp))
        have hk3 := ((KeepsOthers.setCell (W2.setCell ⟨w.heap.size + 1, 0, none⟩ (.string x)) ⟨w.heap.size + 1 + 1, 0, none⟩ (.int .i64 0))).same D _ (((KeepsOthers.setCell W2 ⟨w.heap.size + 1, 0, none⟩ (.string x))).same D _ HK2.out rfl) rfl
        refine ⟨by simp, .inl ⟨_, _, rfl, run_takeDeferred hk3, ?_⟩⟩
        have h4 := cell_kept HX.out.1 (grownBy_putObj' _ D (.deferred none)) (fun r e => by cases e; exact ⟨_, hk3, rfl⟩)
        have h5 := cell_kept HX.out.2 (grownBy_putObj' _ D (.deferred none)) (fun r e => by cases e; exact ⟨_, hk3, rfl⟩)
        have hb3 : Below w.heap.size w ((W2.setCell ⟨w.heap.size + 1, 0, none⟩ (.string x)).setCell ⟨w.heap.size + 1 + 1, 0, none⟩ (.int .i64 0)) := (HB2.out.setCell (p := ⟨w.heap.size + 1, 0, none⟩) (by simp) _).setCell (p := ⟨w.heap.size + 1 + 1, 0, none⟩) (by simp; omega) _
        refine ⟨.tuple #[.string x, .int .i64 0], ?_, by rw [HR.out], hb3.trans (belowK_b (w := w) (Nat.le_refl _) _ D _ _ (by have := HD2.out; have := HS5.out; omega) hk3 rfl rfl)⟩
        simp [results, Try.f13, go_sem, h4, h5]
      case stop =>
        rintro D c pre W hD hpre ⟨⟨rfl, ini, last, e1, e2, e3, e4, e5⟩, hB⟩ hK
        have HR := Lib.hid (show d.read m = (last.2.2, 0) by
          unfold RD.read
          rw [hd, if_neg (by decide), if_neg (by omega), Int.toNat_natCast, lookN_some (by rw [← e1]; exact hpre) e2 e3])
        gi_wp2
        refine ⟨by simp, .inl ⟨_, _, rfl, run_takeDeferred hK, ?_⟩⟩
        have h4 := cell_kept e4 (grownBy_putObj' _ D (.deferred none)) (fun r e => by cases e; exact ⟨_, hK, rfl⟩)
        have h5 := cell_kept e5 (grownBy_putObj' _ D (.deferred none)) (fun r e => by cases e; exact ⟨_, hK, rfl⟩)
        refine ⟨.tuple #[.string last.2.2, .int .i64 0], ?_, by rw [HR.out], hB.trans (belowK_b (w := w) (Nat.le_refl _) W D _ _ (by have := M5.out.b.size; omega) hK rfl rfl)⟩
        simp [results, Try.f13, go_sem, h4, h5]
    · have CH := fun w' (m : ReadM w w' q r (.slice aS d.sure.length capS) (.slice aL d.loose.length capL) vK d n ⟨#[]⟩ 0) => has_no m.i.cell.2.1 hin
      have HR := Lib.hid (show d.read n = (⟨#[]⟩, 2) by unfold RD.read; rw [hd, if_neg (by decide), if_pos (by omega)]; rfl)
      rw [HR.out]
      clear h hok hf hd hin
      refine (callsIn_wide (n := 4)).1 ?_
      refine callsIn_of_wp_marks Try.func13 rfl trivial ?_ rfl
      simp only [Try.ntmps13, List.size_toArray, List.length_cons, List.length_nil, Nat.reduceAdd, Nat.reduceSub, Array.replicate_succ, Array.replicate_zero, List.push_toArray, List.append_toArray, List.nil_append, List.cons_append]
      gi_wp2_with (refine ⟨trivial, ?_⟩; gi_at_call 32; refine (callsIn_wide.2 (CR)).mono ?_; rintro e w' ⟨rfl, rfl⟩)
      generalize ((w.alloc (.cells #[.int .i64 n] 3)).alloc (.cells #[.string ⟨#[]⟩] 9)).alloc (.cells #[.int .i64 0] 26) = w3 at *
      have cq := M0.out.i.cell.1
      have cn := M0.out.n
      have cw := fun k => CH _ (M0.out.below (below_drewN (Below.refl _ w3) k))
      clear CR CH
      refine wpIn_wide.2 ?_
      go_quiet ((go_at_call 33; exact qs (cw _)))
      have M1 := Lib.hid (M0.out.below (below_drewN (Below.refl _ w3) nq))
      clear M0 cq cn cw
      generalize w3.drewN nq = w4 at *
      obtain ⟨cs, fs⟩ := M1.out.s
      obtain ⟨ce, fe⟩ := M1.out.e
      gi_wp2
      have HX := Lib.hid (box_two cs ce ⟨#[]⟩ 2 (by simp))
      have h4 := HX.out.1
      have h5 := HX.out.2
      refine ⟨.tuple #[.string ⟨#[]⟩, .int .i64 2], ?_, rfl, (M1.out.b.setCell (p := ⟨w.heap.size + 1, 0, none⟩) (by simp) _).setCell (p := ⟨w.heap.size + 1 + 1, 0, none⟩) (by simp; omega) _⟩
      simp [results, Try.f13, go_sem, h4, h5]
  · have HR := Lib.hid (show d.read n = (⟨#[]⟩, 61) by unfold RD.read; rw [hd]; rfl)
    rw [HR.out]
    rw [hd, if_pos rfl] at CR
    clear h hok hf hd
    refine (callsIn_wide (n := 4)).1 ?_
    refine callsIn_of_wp_marks Try.func13 rfl trivial ?_ rfl
    simp only [Try.ntmps13, List.size_toArray, List.length_cons, List.length_nil, Nat.reduceAdd, Nat.reduceSub, Array.replicate_succ, Array.replicate_zero, List.push_toArray, List.append_toArray, List.nil_append, List.cons_append]
    have HCR := Lib.hid CR
    clear CR
    gi_wp2_with (refine ⟨trivial, ?_⟩; gi_at_call 32; refine (callsIn_wide.2 (HCR.out)).mono ?_; generalize ((w.alloc (.cells #[.int .i64 n] 3)).alloc (.cells #[.string ⟨#[]⟩] 9)).alloc (.cells #[.int .i64 0] 26) = w3 at *; rintro e w' ⟨rfl, rfl⟩; have cs := M0.out.s.1; have fs := M0.out.s.2; have ce := M0.out.e.1; have fe := M0.out.e.2)
    have HX := Lib.hid (box_two M0.out.s.1 M0.out.e.1 ⟨#[]⟩ 61 (by simp))
    have h4 := HX.out.1
    have h5 := HX.out.2
    refine ⟨.tuple #[.string ⟨#[]⟩, .int .i64 61], ?_, rfl, (M0.out.b.setCell (p := ⟨w.heap.size + 1, 0, none⟩) (by simp) _).setCell (p := ⟨w.heap.size + 1 + 1, 0, none⟩) (by simp; omega) _⟩
    simp [results, Try.f13, go_sem, h4, h5]
end Go.Proofs.Ytikeobmcnpncjaa
