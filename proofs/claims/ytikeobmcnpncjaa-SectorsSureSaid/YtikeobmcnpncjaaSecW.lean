/- Layer 6: the program's disk: Fail. -/
import Derived.Test.YtikeobmcnpncjaaSecV
import Derived.Lib.SliceRun
namespace Go.Proofs.Ytikeobmcnpncjaa
open Go.RowKit

theorem keep_cells {w : World} {ad : Addr} {cap : Nat} {ks : List Bool} (h : KeepAt w (.slice (some ad) ks.length cap) ks) : ∀ j u, (ks.map Value.bool)[j]? = some u → w.cell? (ad.add j) = some u := by
  intro j u hu
  rw [List.getElem?_map] at hu
  cases hj : ks[j]? with
  | none => rw [hj] at hu; cases hu
  | some x =>
    rw [hj] at hu
    obtain rfl : Value.bool x = u := Option.some.inj hu
    have hlt2 : j < ks.length := (List.getElem?_eq_some_iff.1 hj).1
    obtain ⟨ad', e, hc⟩ := keep_at h hlt2
    obtain rfl := Option.some.inj e
    rw [hc]
    simp [List.getD, hj]
theorem bools_one (ks : List Bool) : ∀ u ∈ ks.map Value.bool, u.oneCell' = true := by
  intro u hu
  obtain ⟨x, _, rfl⟩ := List.mem_map.1 hu
  rfl
set_option maxRecDepth 100000 in
set_option maxHeartbeats 1000000 in
theorem clone_any {w : World} {v : Value} {ks : List Bool} (hk : KeepAt w v ks) (hl : ks.length ≤ 1000000) :
    Calls Try.prog 41 #[v] w fun e w' => ∃ v', e = .returned v' ∧ w'.ownsRow w.heap.size 4 1 v' ks.length (ks.map Value.bool) ∧ Below w.heap.size w w' := by
  have qT : ∀ (w : World) (a : Option Addr) (n c n' c' : Nat), (binOp .eql 32 (.slice a n c) (.slice none n' c')).run Try.prog w = .ok (.bool a.isNone) w := fun w a n c n' c' => Lib.run_eql_slice_nil w _ _ a n c n' c' Try.underlying32
  obtain ⟨i0, hi0, hz0, hz1, hz2⟩ := info_parts info_bool
  rcases hk with ⟨rfl, rfl⟩ | ⟨ad, cap, rfl, hc⟩
  · go_enter Try.func41, Try.ntmps41
    go_wp2
    go_ret
    exact ⟨_, rfl, World.ownsRow_nil _ _ _ _, Below.refl _ _⟩
  · have HK : KeepAt w (.slice (some ad) ks.length cap) ks := .inr ⟨ad, cap, rfl, hc⟩
    have HN := Lib.hid (keep_cells (HK.keep ((Below.refl _ _).alloc (Nat.le_refl _) (.cells #[] 4))))
    have H1 := Lib.hid (bools_one ks)
    have HX := Lib.hid (show (ks.map Value.bool).length = ks.length * 1 by simp)
    obtain ⟨xs, hxs⟩ : ∃ xs, xs = ks.map Value.bool := ⟨_, rfl⟩
    rw [← hxs] at HN H1 HX ⊢
    clear HK hc hxs
    have HO := Lib.hid (show (w.alloc (.cells #[] 4)).ownsRow w.heap.size 4 1 (.slice (some ⟨w.heap.size, 0, none⟩) 0 0) 0 [] from World.ownsRow_made w #[] 0 (Nat.le_refl _) (Nat.zero_le _) rfl)
    go_enter Try.func41, Try.ntmps41
    go_wp2_with (at_builtin; refine wpList_append_own _ rfl _ _ 32 rfl w.heap.size 4 i0 (.bool false) 1 1 Try.underlying32 hi0 hz0 hz1 hz2 rfl (by decide) _ 0 [] rfl HO.out ad ks.length cap xs rfl HX.out HN.out H1.out (by unfold maxLen; omega) (by omega) (by rw [size_alloc]; omega) ?_)
    intro v' w1 hown hgrow _
    have hb : Below w.heap.size w w1 := ((Below.refl _ _).alloc (Nat.le_refl _) _).grown hgrow (by rw [size_alloc]; omega) (fun j hj => by simp [Value.ownBlock] at hj; omega)
    obtain ⟨a', cap', rfl⟩ := owns_form hown
    have HE := Lib.hid hown
    clear hown hgrow
    go_wp2
    go_ret
    exact ⟨_, rfl, HE.out, hb⟩
/-- Fail's world, ahead of the copy of its list, and behind it. -/
structure FailM (W w : World) (q r : Nat) (vS vL vK : Value) (d : RD) (v : Value) (ks : List Bool) : Prop where
  i : ImpV w q r vS vL vK d
  k : KeepAt w v ks
  b : Below W.heap.size W w
structure FailN (W w : World) (q r : Nat) (vS vL vK : Value) (d : RD) (v : Value) (ks : List Bool) : Prop where
  i : ImpV w q r vS vL vK d
  o : w.ownsRow W.heap.size 4 1 v ks.length (ks.map Value.bool)
  b : Below W.heap.size W w
theorem FailM.clone {W w : World} {q r : Nat} {vS vL vK : Value} {d : RD} {v : Value} {ks : List Bool} (h : FailM W w q r vS vL vK d v ks) (hl : ks.length ≤ 1000000) :
    Calls Try.prog 41 #[v] w fun e w' => ∃ a cap, e = .returned (.slice a ks.length cap) ∧ FailN W w' q r vS vL vK d (.slice a ks.length cap) ks := by
  refine (clone_any h.k hl).mono fun e w' ⟨v', he, ho, hb⟩ => ?_
  obtain ⟨a, cap, rfl⟩ := owns_form ho
  refine ⟨a, cap, he, h.i.below hb, ?_, h.b.trans (hb.mono h.b.size)⟩
  refine ⟨ho.1, ?_⟩
  rcases ho.2 with hn | ⟨g, cap, cur, hv, hb, hrest⟩
  · exact .inl hn
  · exact .inr ⟨g, cap, cur, hv, Nat.le_trans h.b.size hb, hrest⟩
theorem FailN.cells {W w : World} {q r : Nat} {vS vL vK : Value} {d : RD} {v : Value} {ks : List Bool} (h : FailN W w q r vS vL vK d v ks) :
    w.cell? ⟨r, 4, none⟩ = some (.bool (decide (0 ≤ d.left))) ∧ w.cell? ⟨r, 5, none⟩ = some (.int .i64 (if 0 ≤ d.left then d.left else 0)) ∧ w.cell? ⟨r, 6, none⟩ = some vK ∧ w.frozen? ⟨r, 4, none⟩ = false ∧ w.frozen? ⟨r, 5, none⟩ = false ∧ w.frozen? ⟨r, 6, none⟩ = false :=
  ⟨h.i.cell.2.2.2.2.2.1, h.i.cell.2.2.2.2.2.2.1, h.i.cell.2.2.2.2.2.2.2, h.i.free 4, h.i.free 5, h.i.free 6⟩
theorem setP3 {r : Nat} {w : World} (a b c : Value) : Chg (· = r) w (((w.setCell ⟨r, 4, none⟩ a).setCell ⟨r, 5, none⟩ b).setCell ⟨r, 6, none⟩ c) := (((Chg.refl _ _).setP _ _).setP _ _).setP _ _
theorem FailN.done {W w : World} {q r : Nat} {vS vL vK : Value} {d : RD} {v : Value} {ks : List Bool} (h : FailN W w q r vS vL vK d v ks) (hr : r < W.heap.size) {n : Int} (hn : 0 ≤ n) :
    InvPost ImpInv W q (impOwn q r vS vL vK) { d with left := n, keep := ks } (((w.setCell ⟨r, 4, none⟩ (.bool true)).setCell ⟨r, 5, none⟩ (.int .i64 n)).setCell ⟨r, 6, none⟩ v) := by
  have hc := setP3 (r := r) (w := w) (.bool true) (.int .i64 n) v
  obtain ⟨t0, t1, t2, t3⟩ := h.i.rows hc
  refine imp_post (vS' := vS) (vL' := vL) (vK' := v) ⟨t0, ?_, t1, t2, ?_⟩ ((Chg.of_below h.b).trans (t := impOwn q r vS vL vK) (hc.mono (fun k _ hk => .inr (.inl hk))) (fun _ _ h => h)) (fun k hk => ?_)
  · have := rowC_set (rowC_set (rowC_set h.i.r 4 (.bool true)) 5 (.int .i64 n)) 6 v
    have e : (((impC vS vL vK d).setIfInBounds 4 (.bool true)).setIfInBounds 5 (.int .i64 n)).setIfInBounds 6 v = impC vS vL v { d with left := n, keep := ks } := by
      unfold impC
      simp only [decide_eq_true hn, if_pos hn]
      rfl
    rw [e] at this
    exact this
  · rw [show RD.kept { d with left := n, keep := ks } = ks by unfold RD.kept; rw [if_pos hn]]
    refine hc.owns (owns_base h.o) (fun g hg hgr => ?_)
    have := (h.o.lt g hg).1
    omega
  · rcases hk with hk | hk | hk | hk | hk
    · exact .inl (.inl hk)
    · exact .inl (.inr (.inl hk))
    · exact .inl (.inr (.inr (.inl hk)))
    · exact .inl (.inr (.inr (.inr (.inl hk))))
    · exact .inr (h.o.lt k hk).1
set_option maxRecDepth 100000 in
set_option maxHeartbeats 2000000 in
theorem fail_any {w : World} {q : Nat} {d : RD} {o : Nat → Prop} {v : Value} {ks : List Bool} (n : Int) (h : ImpInv w q d o) (hk : KeepAt w v ks) (hl : ks.length ≤ 1000000) :
    Calls Try.prog 18 #[.pointer (some ⟨q, 0, none⟩), .int .i64 n, v] w fun e w' => e = .returned (.int .i64 (d.fail n ks).2) ∧ InvPost ImpInv w q o (d.fail n ks).1 w' := by
  obtain ⟨r, vS, vL, vK, h, rfl⟩ := h
  obtain ⟨c, c0, c1, c2, c3, c4, c5, c6⟩ := h.cell
  have CR := refusal_any c c2
  have H := Lib.hid h
  have HLT := Lib.hid (h.lt r (.inr (.inl rfl)))
  have md := FailM.mk (W := w) (w := w.drew) (h.below (Below.refl _ _).drew) (hk.keep (Below.refl _ _).drew) (Below.refl _ _).drew
  obtain ⟨aK, capK, rfl⟩ := keep_form hk
  have CL := Lib.hid (fun w' (m : FailM w w' q r vS vL vK d (.slice aK ks.length capK) ks) => m.clone hl)
  clear h hk hl c0 c1 c2 c3 c4 c5 c6
  cases hd : d.down
  · rw [hd, if_neg (by decide)] at CR
    by_cases hn : n < 0
    · have HR := Lib.hid (show d.fail n ks = (d, 2) by unfold RD.fail; rw [hd, if_neg (by decide), if_pos hn])
      clear hd md CL
      go_enter Try.func18, Try.ntmps18
      go_wp2_with (go_at_call 32; ((with_reducible refine (CR).mono ?_); rintro e w0 ⟨rfl, rfl⟩))
      go_ret
      exact ⟨retInt (by rw [HR.out]), by rw [HR.out]; exact imp_same H.out (Chg.refl _ _)⟩
    · have HR := Lib.hid (show d.fail n ks = ({ d with left := n, keep := ks }, 0) by unfold RD.fail; rw [hd, if_neg (by decide), if_neg hn])
      have HN := Lib.hid (show 0 ≤ n by omega)
      clear hd
      obtain ⟨SS, hSS⟩ : ∃ SS : World → Prop, SS = fun w' => w'.cell? ⟨q, 0, none⟩ = some (.pointer (some ⟨r, 0, none⟩)) := ⟨_, rfl⟩
      have SO : ∀ w', w'.cell? ⟨q, 0, none⟩ = some (.pointer (some ⟨r, 0, none⟩)) → SS w' := fun w' m => by rw [hSS]; exact m
      have OS : ∀ w', SS w' → w'.cell? ⟨q, 0, none⟩ = some (.pointer (some ⟨r, 0, none⟩)) := fun w' h => by rw [hSS] at h; exact h
      clear hSS
      go_enter Try.func18, Try.ntmps18
      go_wp2_with (go_at_call 32; ((with_reducible refine (CR).mono ?_); rintro e w0 ⟨rfl, rfl⟩))
      clear c
      refine wp_region_noPanic ?_
      refine wp_region_held_drew (S := SS) (by kernel_rfl) (SO _ md.i.cell.1) (fun hHeld => ?_)
      refine wpAnyH_take (i := 0) (oi := { dst := some 15, op := Op.move (Operand.tmp 0), type := 25, pos := "sectors.go:144", after := #[], guard := none }) (v := ?_) rfl (by kernel_rfl) (by kernel_rfl) (by kernel_rfl) (fun _ _ _ h => h) (Or.inl ⟨by rfl, ?_⟩) (by assumption) ?_
      rotate_left
      · intro w hSw
        skip
        clear hSw
        go_simp
        try with_reducible rfl
      try simp only [Act.put, List.setIfInBounds_toArray, List.set_cons_zero, List.set_cons_succ]
      refine wpAnyH_take (i := 1) (oi := { dst := some 16, op := Op.nilCheck (Operand.tmp 15), type := 0, pos := "sectors.go:144", after := #[{ on := 0, ground := Ground.data }], guard := none }) (v := ?_) rfl (by kernel_rfl) (by kernel_rfl) (by kernel_rfl) (fun _ _ _ h => h) (Or.inl ⟨by rfl, ?_⟩) (by assumption) ?_
      rotate_left
      · intro w hSw
        skip
        clear hSw
        go_simp
        try with_reducible rfl
      try simp only [Act.put, List.setIfInBounds_toArray, List.set_cons_zero, List.set_cons_succ]
      refine wpAnyH_take (i := 2) (oi := { dst := some 17, op := Op.fieldAddr 46 (Operand.tmp 16) 0, type := 0, pos := "sectors.go:144", after := #[{ on := 1, ground := Ground.data }], guard := none }) (v := ?_) rfl (by kernel_rfl) (by kernel_rfl) (by kernel_rfl) (fun _ _ _ h => h) (Or.inl ⟨by rfl, ?_⟩) (by assumption) ?_
      rotate_left
      · intro w hSw
        skip
        clear hSw
        go_simp
        try with_reducible rfl
      try simp only [Act.put, List.setIfInBounds_toArray, List.set_cons_zero, List.set_cons_succ]
      refine wpAnyH_take (i := 4) (oi := { dst := some 19, op := Op.move (Operand.tmp 1), type := 3, pos := "sectors.go:144", after := #[], guard := none }) (v := ?_) rfl (by kernel_rfl) (by kernel_rfl) (by kernel_rfl) (fun _ _ _ h => h) (Or.inl ⟨by rfl, ?_⟩) (by assumption) ?_
      rotate_left
      · intro w hSw
        skip
        clear hSw
        go_simp
        try with_reducible rfl
      try simp only [Act.put, List.setIfInBounds_toArray, List.set_cons_zero, List.set_cons_succ]
      refine wpAnyH_take (i := 5) (oi := { dst := some 20, op := Op.move (Operand.tmp 2), type := 32, pos := "sectors.go:144", after := #[], guard := none }) (v := ?_) rfl (by kernel_rfl) (by kernel_rfl) (by kernel_rfl) (fun _ _ _ h => h) (Or.inl ⟨by rfl, ?_⟩) (by assumption) ?_
      rotate_left
      · intro w hSw
        skip
        clear hSw
        go_simp
        try with_reducible rfl
      try simp only [Act.put, List.setIfInBounds_toArray, List.set_cons_zero, List.set_cons_succ]
      refine wpAnyH_take (i := 3) (oi := { dst := some 18, op := Op.load 44 (Operand.tmp 17), type := 44, pos := "sectors.go:144", after := #[{ on := 2, ground := Ground.data }], guard := none }) (v := ?_) rfl (by kernel_rfl) (by kernel_rfl) (by kernel_rfl) (fun _ _ _ h => h) (Or.inl ⟨by rfl, ?_⟩) (by assumption) ?_
      rotate_left
      · intro w hSw
        have hSw := OS _ hSw
        go_simp
        try with_reducible rfl
      try simp only [Act.put, List.setIfInBounds_toArray, List.set_cons_zero, List.set_cons_succ]
      refine wpAnyH_ready (rs := [6]) (by kernel_rfl) (by simp) ?_
      refine AllReadyH.cons (o := { dst := some 21, op := Op.call { callee := Callee.value (Operand.func 41), args := #[Operand.tmp 20], argTypes := #[32] }, type := 32, pos := "sectors.go:144", after := #[{ on := 5, ground := Ground.data }], guard := none }) rfl (fun K hK => ?_) AllReadyH.nil
      go_simp
      refine (CL.out _ (by assumption)).mono ?_
      rintro e w6' ⟨a6, cap6, rfl, m6'⟩
      refine hK.out _ _ (SO _ m6'.i.cell.1) (fun hHeld => ?_)
      clear hK K
      try simp only [Act.put, List.setIfInBounds_toArray, List.set_cons_zero, List.set_cons_succ]
      refine wpAnyH_take (i := 7) (oi := { dst := some 22, op := Op.build 62 #[(0, Operand.const (Value.bool true)), (1, Operand.tmp 19), (2, Operand.tmp 21)], type := 62, pos := "sectors.go:144", after := #[{ on := 4, ground := Ground.data }, { on := 6, ground := Ground.data }], guard := none }) (v := ?_) rfl (by kernel_rfl) (by kernel_rfl) (by kernel_rfl) (fun _ _ _ h => h) (Or.inl ⟨by rfl, ?_⟩) (by assumption) ?_
      rotate_left
      · intro w hSw
        skip
        clear hSw
        go_simp
        try with_reducible rfl
      try simp only [Act.put, List.setIfInBounds_toArray, List.set_cons_zero, List.set_cons_succ]
      refine wpAnyH_take (i := 8) (oi := { dst := some 23, op := Op.nilCheck (Operand.tmp 18), type := 0, pos := "sectors.go:144", after := #[{ on := 3, ground := Ground.data }, { on := 0, ground := Ground.phase }, { on := 1, ground := Ground.phase }, { on := 2, ground := Ground.phase }, { on := 3, ground := Ground.phase }, { on := 4, ground := Ground.phase }, { on := 5, ground := Ground.phase }, { on := 6, ground := Ground.phase }, { on := 7, ground := Ground.phase }], guard := none }) (v := ?_) rfl (by kernel_rfl) (by kernel_rfl) (by kernel_rfl) (fun _ _ _ h => h) (Or.inl ⟨by rfl, ?_⟩) (by assumption) ?_
      rotate_left
      · intro w hSw
        skip
        clear hSw
        go_simp
        try with_reducible rfl
      try simp only [Act.put, List.setIfInBounds_toArray, List.set_cons_zero, List.set_cons_succ]
      refine wpAnyH_take (i := 9) (oi := { dst := some 24, op := Op.fieldAddr 64 (Operand.tmp 23) 4, type := 0, pos := "sectors.go:144", after := #[{ on := 8, ground := Ground.data }, { on := 0, ground := Ground.phase }, { on := 1, ground := Ground.phase }, { on := 2, ground := Ground.phase }, { on := 3, ground := Ground.phase }, { on := 4, ground := Ground.phase }, { on := 5, ground := Ground.phase }, { on := 6, ground := Ground.phase }, { on := 7, ground := Ground.phase }], guard := none }) (v := ?_) rfl (by kernel_rfl) (by kernel_rfl) (by kernel_rfl) (fun _ _ _ h => h) (Or.inl ⟨by rfl, ?_⟩) (by assumption) ?_
      rotate_left
      · intro w hSw
        skip
        clear hSw
        go_simp
        try with_reducible rfl
      try simp only [Act.put, List.setIfInBounds_toArray, List.set_cons_zero, List.set_cons_succ]
      refine wpAnyH_ready (rs := [10]) (by kernel_rfl) (by simp) ?_
      refine AllReadyH.cons (o := { dst := none, op := Op.store 62 (Operand.tmp 24) (Operand.tmp 22), type := 0, pos := "sectors.go:144", after := #[{ on := 9, ground := Ground.data }, { on := 7, ground := Ground.data }, { on := 6, ground := Ground.chain }, { on := 0, ground := Ground.phase }, { on := 1, ground := Ground.phase }, { on := 2, ground := Ground.phase }, { on := 3, ground := Ground.phase }, { on := 4, ground := Ground.phase }, { on := 5, ground := Ground.phase }, { on := 6, ground := Ground.phase }, { on := 7, ground := Ground.phase }], guard := none }) rfl (fun K hK => ?_) AllReadyH.nil
      obtain ⟨e4, e5, e6, f4, f5, f6⟩ := m6'.cells
      go_simp
      refine hK.out _ _ (SO _ (rowC_cell (m6'.i.rows (setP3 (.bool true) (.int .i64 n) (.slice a6 ks.length cap6))).1 0)) (fun hHeld => ?_)
      clear hK K
      try simp only [Act.put, List.setIfInBounds_toArray, List.set_cons_zero, List.set_cons_succ]
      refine wpAnyH_done (by kernel_rfl) ?_ _

      refine NoPanic.normal ?_
      go_wp2
      go_ret
      exact ⟨retInt (by rw [HR.out]), by rw [HR.out]; exact m6'.done HLT.out HN.out⟩
  · have HR := Lib.hid (show d.fail n ks = (d, 61) by unfold RD.fail; rw [hd]; rfl)
    rw [hd, if_pos rfl] at CR
    clear hd md CL
    go_enter Try.func18, Try.ntmps18
    go_wp2_with (go_at_call 32; ((with_reducible refine (CR).mono ?_); rintro e w0 ⟨rfl, rfl⟩))
    go_ret
    exact ⟨retInt (by rw [HR.out]), by rw [HR.out]; exact imp_same H.out (Chg.refl _ _)⟩
end Go.Proofs.Ytikeobmcnpncjaa
