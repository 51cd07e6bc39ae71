/- Merged: Md, TtP. -/
import Derived.Test.YtbjgmkjinnbokaaGreatDoorM04
import Derived.Test.YtbjgmkjinnbokaaGreatDoorM15
/- Generic: some cells of a row are set, one behind the other. -/
namespace Go.Proofs.YtbjgmkjinnbokaaGreatDoor
open Go.RowKit

/-- Cells in a row, one behind the other, set. -/
theorem rowC_setCells {b : Nat} {t : TypeId} : ∀ (vs : List Value) (o : Nat) {w : World} {cs : List Value}, rowC w b cs.toArray t → o + vs.length ≤ cs.length → rowC (w.setCells b o vs) b (cs.take o ++ vs ++ cs.drop (o + vs.length)).toArray t
  | [], o, w, cs, h, _ => by
    rw [List.append_nil, List.length_nil, Nat.add_zero, List.take_append_drop]
    exact h
  | v :: r, o, w, cs, h, hl => by
    rw [List.length_cons] at hl
    have h1 := rowC_set h o v
    rw [List.setIfInBounds_toArray] at h1
    have h2 := rowC_setCells r (o + 1) h1 (by rw [List.length_set]; omega)
    rw [World.setCells]
    have e : (cs.set o v).take (o + 1) ++ r ++ (cs.set o v).drop (o + 1 + r.length) = cs.take o ++ (v :: r) ++ cs.drop (o + (v :: r).length) := by
      rw [List.drop_set_of_lt (by omega), List.take_succ_eq_append_getElem (by rw [List.length_set]; omega), List.getElem_set_self, List.take_set_of_le (Nat.le_refl _), List.length_cons]
      simp [Nat.add_assoc, Nat.add_comm 1]
    rw [e] at h2
    exact h2
theorem row_there {w : World} {b : Nat} {t : TypeId} {cs : Array Value} (h : rowC w b cs t) (o n : Nat) (hn : o + n ≤ cs.size) : w.there b o n := fun j hj => by
  refine ⟨?_, rowC_free h _⟩
  rw [rowC_cell h, Array.getElem?_eq_getElem (by omega)]
  rfl
theorem Gn.sets {W : World} {s : Nat → Prop} {b : Nat} : ∀ (vs : List Value) (o : Nat) {w : World}, Gn W s w → (s b ∨ W.heap.size ≤ b) → Gn W s (w.setCells b o vs)
  | [], _, _, h, _ => h
  | v :: r, o, w, h, hb => by
    rw [World.setCells]
    exact Gn.sets r (o + 1) (h.cell ⟨b, o, none⟩ v hb) hb
end Go.Proofs.YtbjgmkjinnbokaaGreatDoor

/- Layer 16: the program's enter. -/
namespace Go.Proofs.YtbjgmkjinnbokaaGreatDoor
open Go.RowKit

theorem enterG_len (k : Int) : ∀ (n : Nat) (d : List UInt8) (g g' : List Pl), d.length ≤ n → enterG k d g = some g' → g'.length ≤ g.length + d.length
  | 0, d, g, g', hn, h => by
    have : d = [] := List.eq_nil_of_length_eq_zero (by omega)
    subst this
    rw [enterG_nil] at h
    cases h
    omega
  | n + 1, d, g, g', hn, h => by
    by_cases hd : d = []
    · subst hd
      rw [enterG_nil] at h
      cases h
      omega
    · rw [enterG_step k hd] at h
      have hp := parent_lt hd
      cases he : enterG k (parentL d) g with
      | none => rw [he] at h; cases h
      | some g1 =>
        rw [he] at h
        have h1 := enterG_len k n (parentL d) g g1 (by omega) he
        simp only at h
        cases hl : lookG g1 d with
        | none =>
          rw [hl] at h
          simp only at h
          cases h
          have := put_len g1 ⟨⟨d, 2, 493, []⟩, k⟩
          omega
        | some p =>
          rw [hl] at h
          simp only at h
          split at h
          · cases h
            have := put_len g1 ⟨p.nd, k⟩
            omega
          · cases h
theorem enterG_none (k : Int) {d : List UInt8} (hd : d ≠ []) {g : List Pl} (h : enterG k (parentL d) g = none) : enterG k d g = none := by rw [enterG_step k hd, h]
theorem enterG_new (k : Int) {d : List UInt8} (hd : d ≠ []) {g g1 : List Pl} (h : enterG k (parentL d) g = some g1) (hl : lookG g1 d = none) : enterG k d g = some (putG g1 ⟨⟨d, 2, 493, []⟩, k⟩) := by rw [enterG_step k hd, h]; simp only; rw [hl]
theorem enterG_old (k : Int) {d : List UInt8} (hd : d ≠ []) {g g1 : List Pl} {p : Pl} (h : enterG k (parentL d) g = some g1) (hl : lookG g1 d = some p) : enterG k d g = if p.nd.kind = 2 then some (putG g1 ⟨p.nd, k⟩) else none := by rw [enterG_step k hd, h]; simp only; rw [hl]
/-- What enter answers. -/
def EnterP (B M : Nat) (k : Int) (r : Option (List Pl)) (w : World) (e : Ending) (w' : World) : Prop :=
  match r with
  | some g' => e = .returned (.int .i64 0) ∧ GrAt w' B M g' k ∧ GrC B M w w'
  | none => e = .returned (.int .i64 71) ∧ GrC B M w w'
set_option maxRecDepth 100000 in
set_option maxHeartbeats 16000000 in
theorem enter_any (B M : Nat) (k : Int) : ∀ (n : Nat) (d : List UInt8), d.length ≤ n → ∀ (g : List Pl), g.length + d.length ≤ 1000000 → ∀ w : World, GrAt w B M g k →
    Calls Tryz.prog 43 #[.pointer (some ⟨B, 0, none⟩), .string (str d)] w (EnterP B M k (enterG k d g) w) := by
  intro n
  induction n with
  | zero =>
    intro d hd g hlen w h
    have : d = [] := List.eq_nil_of_length_eq_zero (by omega)
    subst this
    rw [enterG_nil]
    have q := eq_lit [] []
    go_enter Tryz.func43, Tryz.ntmps43
    go_wp2
    go_ret
    exact ⟨rfl, h, Chg.refl _ _⟩
  | succ n IH =>
    intro d hd g hlen w h
    by_cases hd0 : d = []
    · subst hd0
      rw [enterG_nil]
      have q := eq_lit [] []
      clear IH
      go_enter Tryz.func43, Tryz.ntmps43
      go_wp2
      go_ret
      exact ⟨rfl, h, Chg.refl _ _⟩
    have q := eq_lit d []
    have q2 := empty_lit d
    rw [decide_eq_false hd0] at q q2
    have hpl := parent_lt hd0
    have CP := fun W => parent_any d (by omega) W
    have CI := fun W (hW : GrAt W B M g k) => IH (parentL d) (by omega) g (by omega) W hW
    have HG0 := Lib.hid h
    have hBM := h.ne
    have hBw := rowC_lt h.row
    have hMw := h.map.lt
    have HPL : Hid (d.length ≤ 1000000) := Lib.hid (by omega)
    have HNO := Lib.hid (fun (h : enterG k (parentL d) g = none) => enterG_none k hd0 h)
    have HNEW := Lib.hid (fun (g1 : List Pl) (h : enterG k (parentL d) g = some g1) (hl : lookG g1 d = none) => enterG_new k hd0 h hl)
    have HOLD := Lib.hid (fun (g1 : List Pl) (p : Pl) (h : enterG k (parentL d) g = some g1) (hl : lookG g1 d = some p) => enterG_old k hd0 h hl)
    have HLEN := Lib.hid (fun (g1 : List Pl) (h : enterG k (parentL d) g = some g1) => enterG_len k _ (parentL d) g g1 (Nat.le_refl _) h)
    clear IH h hd0
    cases he : enterG k (parentL d) g with
    | none =>
      have HR := Lib.hid (HNO.out he)
      rw [he] at CI
      clear HNO HNEW HOLD HLEN he
      rw [HR.out]
      generalize str (parentL d) = PS at *
      generalize str d = DS at *
      go_enter Tryz.func43, Tryz.ntmps43
      go_wp2_with (first
        | (go_at_call 36; ((with_reducible refine (CP _).mono ?_); rintro e w1 ⟨rfl, hB1⟩; have HB1 := Lib.hid hB1; have HG1 := Lib.hid (HG0.out.below hB1); clear hB1))
        | (go_at_call 43; (refine (CI _ HG1.out).mono ?_; rintro e w2 ⟨rfl, hC2⟩)))
      go_ret
      exact ⟨rfl, Chg.trans (Chg.of_below HB1.out) hC2 (fun _ _ h => h)⟩
    | some g1 =>
      have HLN0 := Lib.hid (HLEN.out g1 he)
      have HLN : Hid (g1.length ≤ 1000000) := Lib.hid (by have := HLN0.out; omega)
      rw [he] at CI
      have HNEW1 := Lib.hid (HNEW.out g1 he)
      have HOLD1 := Lib.hid (fun p => HOLD.out g1 p he)
      clear HNO HNEW HOLD HLEN he HLN0 hpl hd hlen
      generalize str (parentL d) = PS at *
      have HGET : Hid (∀ W, MapG W M g1 → (Instr.lookup 60 (.map (some M)) (.string (str d)) true).run Tryz.prog W = .ok (.tuple #[.agg (plA (getG g1 d)), .bool (lookG g1 d).isSome]) W) := Lib.hid fun W hW => hW.get2 d (by have := HPL.out; unfold maxLen; omega)
      have HI := Lib.hid info_pl5
      have HI4 := Lib.hid info_nd4
      have ui := Tryz.underlying64
      have ii := info_pl5
      go_enter Tryz.func43, Tryz.ntmps43
      go_upto_region 6 with (first
        | (go_at_call 36; ((with_reducible refine (CP _).mono ?_); rintro e w1 ⟨rfl, hB1⟩; have HB1 := Lib.hid hB1; have HG1 := Lib.hid (HG0.out.below hB1); clear hB1))
        | (go_at_call 43; (refine (CI _ HG1.out).mono ?_; rintro e w2 ⟨rfl, hG2, hC2⟩; have HG2 := Lib.hid hG2; have HC2 := Lib.hid (Chg.trans (Chg.of_below HB1.out) hC2 (fun _ _ h => h)); clear hG2 hC2)))
      have hrun := HGET.out w2 HG2.out.map
      have c0 : w2.cell? ⟨B, 0, none⟩ = some (.map (some M)) := rowC_cell HG2.out.row 0
      have hbw : w.heap.size ≤ w2.heap.size := HC2.out.size
      have hbB : ¬ B = w2.heap.size := by have := rowC_lt HG2.out.row; omega
      have hbM : ¬ M = w2.heap.size := by have := HG2.out.map.lt; omega
      clear HGET
      cases hl : lookG g1 d with
      | none =>
        have HRES : Hid (enterG k d g = some (putG g1 ⟨⟨d, 2, 493, []⟩, k⟩)) := Lib.hid (HNEW1.out hl)
        have hget : getG g1 d = ⟨⟨[], 0, 0, []⟩, 0⟩ := by unfold getG; rw [hl]; rfl
        rw [hl, hget] at hrun
        clear HNEW1 HOLD1 hl hget
        obtain ⟨W3, hW3⟩ : ∃ W3, W3 = w2.alloc (.cells (plA ⟨⟨[], 0, 0, []⟩, 0⟩) 64) := ⟨_, rfl⟩
        have HW3 := Lib.hid hW3
        have HR3 : Hid (rowC W3 w2.heap.size (plA ⟨⟨[], 0, 0, []⟩, 0⟩) 64) := Lib.hid (by rw [hW3]; exact rowC_new w2 _ _)
        have HG3 : Hid (GrAt W3 B M g1 k) := Lib.hid (by rw [hW3]; exact HG2.out.below ((Below.refl _ _).alloc (Nat.le_refl _) _))
        have HC3 : Hid (GrC B M w W3) := Lib.hid (by rw [hW3]; exact HC2.out.alloc _)
        have HTH := Lib.hid (row_there HR3.out 0 4 (by decide))
        clear hW3 HG2 HC2
        have hcl : Hid ((plA ⟨⟨[], 0, 0, []⟩, 0⟩).all (·.oneCell') = true) := Lib.hid (plA_one _)
        go_upto_region 9 with (first
          | ((with_reducible show wpList _ _ _ (⟨none, .store _ (.tmp 6) _, _, _, _, _⟩ :: _) _ _); refine wpList_store_last rfl 64 _ _ rfl w2.heap.size (plA ⟨⟨[], 0, 0, []⟩, 0⟩) rfl rfl 64 _ rfl HI.out rfl hcl.out ?_; rw [← HW3.out])
          | ((with_reducible show wpList _ _ _ (⟨none, .store _ (.tmp 30) _, _, _, _, _⟩ :: _) _ _); refine wpList_store_mid rfl 41 _ _ rfl w2.heap.size 0 (ndA ⟨d, 2, 493, []⟩) rfl rfl HTH.out HI4.out (ndA_one _) ?_))
        obtain ⟨Wx, hWx⟩ : ∃ Wx, Wx = W3.setCells w2.heap.size 0 (ndA ⟨d, 2, 493, []⟩).toList := ⟨_, rfl⟩
        have HR : Hid (rowC Wx w2.heap.size (plA ⟨⟨d, 2, 493, []⟩, 0⟩) 64) := Lib.hid (by rw [hWx]; exact rowC_setCells (cs := plV ⟨⟨[], 0, 0, []⟩, 0⟩) (ndA ⟨d, 2, 493, []⟩).toList 0 HR3.out (by show 0 + 4 ≤ 5; omega))
        have hgn : Gn W3 (fun j => j = w2.heap.size) Wx := by rw [hWx]; exact Gn.sets _ _ (Gn.refl _ _) (.inl rfl)
        have HG : Hid (GrAt Wx B M g1 k) := Lib.hid (HG3.out.chg hgn hbB hbM)
        have HC : Hid (GrC B M w Wx) := Lib.hid (Chg.trans HC3.out hgn (fun j hj e => by omega))
        try simp only [Act.put]
        rw [← hWx]
        clear hWx hgn HG3 HC3 HR3 HTH HW3 hcl hrun c0
        generalize w2.heap.size = b at *
        have c1 : Wx.cell? ⟨b, 1, none⟩ = some (.int .i64 2) := rowC_cell HR.out 1
        have c4 : Wx.cell? ⟨b, 4, none⟩ = some (.int .i64 0) := rowC_cell HR.out 4
        have f4 := rowC_free HR.out 4
        have cB : Wx.cell? ⟨B, 1, none⟩ = some (.int .i64 k) := rowC_cell HG.out.row 1
        go_upto_region 12 with (fail)
        obtain ⟨Wy, hWy⟩ : ∃ Wy, Wy = Wx.setCell ⟨b, 4, none⟩ (.int .i64 k) := ⟨_, rfl⟩
        have HRy : Hid (rowC Wy b (plA ⟨⟨d, 2, 493, []⟩, k⟩) 64) := Lib.hid (by rw [hWy]; exact rowC_set HR.out 4 (.int .i64 k))
        have HGy : Hid (GrAt Wy B M g1 k) := Lib.hid (by rw [hWy]; exact HG.out.chg (s := fun j => j = b) ((Chg.refl _ _).setCell _ _ (.inl rfl)) hbB hbM)
        have HCy : Hid (GrC B M w Wy) := Lib.hid (by rw [hWy]; exact HC.out.setCell _ _ (.inr hbw))
        rw [← hWy]
        clear hWy c1 c4 f4 cB HR HG HC
        have OS : ∀ w', Gn Wy (fun j => j = M) w' → w'.rangeAt b 0 (plV ⟨⟨d, 2, 493, []⟩, k⟩) ∧ w'.cell? ⟨B, 0, none⟩ = some (.map (some M)) := fun w' hg =>
          ⟨rowC_range (hg.row HRy.out (fun e => hbM e.symm)) 0 _ (fun j u hj => by rw [Nat.zero_add, show plA ⟨⟨d, 2, 493, []⟩, k⟩ = (plV ⟨⟨d, 2, 493, []⟩, k⟩).toArray from rfl, List.getElem?_toArray]; exact hj), rowC_cell (hg.row HGy.out.row hBM) 0⟩
        have SO : ∀ w', Gn Wy (fun j => j = M) w' → Gn Wy (fun j => j = M) w' := fun _ h => h
        have HEND : Hid (∀ w', Gn Wy (fun j => j = M) w' → GrC B M w w' ∧ rowC w' B #[.map (some M), .int .i64 k] 62) := Lib.hid fun w' hg => ⟨Chg.trans HCy.out hg (fun j _ hj => .inr hj), hg.row HGy.out.row hBM⟩
        refine wp_region_noPanic ?_
        refine wp_region_held_drew (S := Gn Wy (fun j => j = M)) (by kernel_rfl) (Gn.start _ _) (fun hHeld => ?_)
        have HMd : Hid (MapG Wy.drew M g1) := Lib.hid (HGy.out.map.chg (s := fun _ => False) (Chg.refl _ _).drew id)
        generalize Wy.drew = wd2 at *
        refine wpAnyH_take (i := 0) (oi := { dst := some 40, op := Op.move (Operand.tmp 0), type := 43, pos := "trees.go:291", after := #[], guard := none }) (v := ?_) rfl (by kernel_rfl) (by kernel_rfl) (by kernel_rfl) (fun _ _ _ h => h) (Or.inl ⟨by rfl, ?_⟩) (by assumption) ?_
        rotate_left
        · intro w hSw
          skip
          clear hSw
          go_simp
          try with_reducible rfl
        try simp only [Act.put, List.setIfInBounds_toArray, List.set_cons_zero, List.set_cons_succ]
        refine wpAnyH_take (i := 1) (oi := { dst := some 41, op := Op.nilCheck (Operand.tmp 40), type := 0, pos := "trees.go:291", after := #[{ on := 0, ground := Ground.data }], guard := none }) (v := ?_) rfl (by kernel_rfl) (by kernel_rfl) (by kernel_rfl) (fun _ _ _ h => h) (Or.inl ⟨by rfl, ?_⟩) (by assumption) ?_
        rotate_left
        · intro w hSw
          skip
          clear hSw
          go_simp
          try with_reducible rfl
        try simp only [Act.put, List.setIfInBounds_toArray, List.set_cons_zero, List.set_cons_succ]
        refine wpAnyH_take (i := 2) (oi := { dst := some 42, op := Op.fieldAddr 62 (Operand.tmp 41) 0, type := 0, pos := "trees.go:291", after := #[{ on := 1, ground := Ground.data }], guard := none }) (v := ?_) rfl (by kernel_rfl) (by kernel_rfl) (by kernel_rfl) (fun _ _ _ h => h) (Or.inl ⟨by rfl, ?_⟩) (by assumption) ?_
        rotate_left
        · intro w hSw
          skip
          clear hSw
          go_simp
          try with_reducible rfl
        try simp only [Act.put, List.setIfInBounds_toArray, List.set_cons_zero, List.set_cons_succ]
        refine wpAnyH_take (i := 4) (oi := { dst := some 44, op := Op.move (Operand.tmp 1), type := 9, pos := "trees.go:291", after := #[], guard := none }) (v := ?_) rfl (by kernel_rfl) (by kernel_rfl) (by kernel_rfl) (fun _ _ _ h => h) (Or.inl ⟨by rfl, ?_⟩) (by assumption) ?_
        rotate_left
        · intro w hSw
          skip
          clear hSw
          go_simp
          try with_reducible rfl
        try simp only [Act.put, List.setIfInBounds_toArray, List.set_cons_zero, List.set_cons_succ]
        refine wpAnyH_take (i := 3) (oi := { dst := some 43, op := Op.load 60 (Operand.tmp 42), type := 60, pos := "trees.go:291", after := #[{ on := 2, ground := Ground.data }], guard := none }) (v := ?_) rfl (by kernel_rfl) (by kernel_rfl) (by kernel_rfl) (fun _ _ _ h => h) (Or.inl ⟨by rfl, ?_⟩) (by assumption) ?_
        rotate_left
        · intro w hSw
          have hSw := OS _ hSw
          go_simp
          try with_reducible rfl
        try simp only [Act.put, List.setIfInBounds_toArray, List.set_cons_zero, List.set_cons_succ]
        refine wpAnyH_take (i := 5) (oi := { dst := some 45, op := Op.load 64 (Operand.tmp 6), type := 64, pos := "trees.go:291", after := #[], guard := none }) (v := _) rfl (by kernel_rfl) (by kernel_rfl) (by kernel_rfl) (fun _ _ _ h => h) (yieldsIf_load_mid (by rfl) _ _ rfl _ _ rfl _ _ (by intro w hSw; have hSw := OS _ hSw; go_split_ands; assumption) (by assumption) rfl (by assumption)) (by assumption) ?_
        try simp only [Act.put, List.setIfInBounds_toArray, List.set_cons_zero, List.set_cons_succ]
        refine wpAnyH_ready (rs := [6]) (by kernel_rfl) (by simp) ?_
        refine (AllReadyH.cons (o := { dst := none, op := Op.mapUpdate 60 (Operand.tmp 43) (Operand.tmp 44) (Operand.tmp 45), type := 0, pos := "trees.go:291", after := #[{ on := 3, ground := Ground.data }, { on := 4, ground := Ground.data }, { on := 5, ground := Ground.data }, { on := 0, ground := Ground.phase }, { on := 1, ground := Ground.phase }, { on := 2, ground := Ground.phase }, { on := 3, ground := Ground.phase }, { on := 4, ground := Ground.phase }, { on := 5, ground := Ground.phase }], guard := none }) rfl (fun K hK => ?_) AllReadyH.nil)
        obtain ⟨w8, hrun8, hM8, hg8⟩ := HMd.out.put (by unfold maxLen; have := HLN.out; omega) ⟨⟨d, 2, 493, []⟩, k⟩ (by have := HPL.out; unfold maxLen; show d.length ≤ _; omega)
        have hrun9 : (Instr.mapUpdate 60 (.map (some M)) (.string (str d)) (.agg (plV ⟨⟨d, 2, 493, []⟩, k⟩).toArray)).run Tryz.prog wd2 = .ok () w8 := hrun8
        clear hrun8
        go_simp
        refine hK.out _ _ (Gn.grown (by assumption) hg8 (fun j hj => (by cases hj; exact .inl rfl))) (fun hHeld2 => ?_)
        clear hK K
        refine wpAnyH_done (by kernel_rfl) ?_ _
        refine NoPanic.normal ?_
        go_wp2
        go_ret
        rw [HRES.out]
        exact ⟨rfl, ⟨(HEND.out _ (by assumption)).2, hM8⟩, (HEND.out _ (by assumption)).1⟩
      | some p =>
        have HRES0 := Lib.hid (HOLD1.out p hl)
        obtain ⟨_, hpd⟩ := look_some hl
        have hget : getG g1 d = p := by unfold getG; rw [hl]; rfl
        rw [hl, hget] at hrun
        obtain ⟨⟨p1, p2, p3, p4⟩, p5⟩ := p
        simp only at hpd
        have hpd2 := hpd.symm
        subst hpd2
        clear hpd
        clear HNEW1 HOLD1 hl hget
        obtain ⟨Wx, hWx⟩ : ∃ Wx, Wx = w2.alloc (.cells (plA ⟨⟨d, p2, p3, p4⟩, p5⟩) 64) := ⟨_, rfl⟩
        have HWx := Lib.hid hWx
        have HR : Hid (rowC Wx w2.heap.size (plA ⟨⟨d, p2, p3, p4⟩, p5⟩) 64) := Lib.hid (by rw [hWx]; exact rowC_new w2 _ _)
        have HG : Hid (GrAt Wx B M g1 k) := Lib.hid (by rw [hWx]; exact HG2.out.below ((Below.refl _ _).alloc (Nat.le_refl _) _))
        have HC : Hid (GrC B M w Wx) := Lib.hid (by rw [hWx]; exact HC2.out.alloc _)
        clear hWx HG2 HC2
        have hcl : Hid ((plA ⟨⟨d, p2, p3, p4⟩, p5⟩).all (·.oneCell') = true) := Lib.hid (plA_one _)
        go_upto_region 9 with (first
          | ((with_reducible show wpList _ _ _ (⟨none, .store _ (.tmp 6) _, _, _, _, _⟩ :: _) _ _); refine wpList_store_last rfl 64 _ _ rfl w2.heap.size (plA ⟨⟨d, p2, p3, p4⟩, p5⟩) rfl rfl 64 _ rfl HI.out rfl hcl.out ?_; rw [← HWx.out]))
        clear HWx hcl hrun c0
        generalize w2.heap.size = b at *
        by_cases h2 : p2 = 2
        · have HRES : Hid (enterG k d g = some (putG g1 ⟨⟨d, 2, p3, p4⟩, k⟩)) := Lib.hid (by rw [HRES0.out, if_pos h2, h2])
          subst h2
          clear HRES0
          have c1 : Wx.cell? ⟨b, 1, none⟩ = some (.int .i64 2) := rowC_cell HR.out 1
          have c4 : Wx.cell? ⟨b, 4, none⟩ = some (.int .i64 p5) := rowC_cell HR.out 4
          have f4 := rowC_free HR.out 4
          have cB : Wx.cell? ⟨B, 1, none⟩ = some (.int .i64 k) := rowC_cell HG.out.row 1
          go_upto_region 12 with (fail)
          obtain ⟨Wy, hWy⟩ : ∃ Wy, Wy = Wx.setCell ⟨b, 4, none⟩ (.int .i64 k) := ⟨_, rfl⟩
          have HRy : Hid (rowC Wy b (plA ⟨⟨d, 2, p3, p4⟩, k⟩) 64) := Lib.hid (by rw [hWy]; exact rowC_set HR.out 4 (.int .i64 k))
          have HGy : Hid (GrAt Wy B M g1 k) := Lib.hid (by rw [hWy]; exact HG.out.chg (s := fun j => j = b) ((Chg.refl _ _).setCell _ _ (.inl rfl)) hbB hbM)
          have HCy : Hid (GrC B M w Wy) := Lib.hid (by rw [hWy]; exact HC.out.setCell _ _ (.inr hbw))
          rw [← hWy]
          clear hWy c1 c4 f4 cB HR HG HC
          have OS : ∀ w', Gn Wy (fun j => j = M) w' → w'.rangeAt b 0 (plV ⟨⟨d, 2, p3, p4⟩, k⟩) ∧ w'.cell? ⟨B, 0, none⟩ = some (.map (some M)) := fun w' hg =>
            ⟨rowC_range (hg.row HRy.out (fun e => hbM e.symm)) 0 _ (fun j u hj => by rw [Nat.zero_add, show plA ⟨⟨d, 2, p3, p4⟩, k⟩ = (plV ⟨⟨d, 2, p3, p4⟩, k⟩).toArray from rfl, List.getElem?_toArray]; exact hj), rowC_cell (hg.row HGy.out.row hBM) 0⟩
          have SO : ∀ w', Gn Wy (fun j => j = M) w' → Gn Wy (fun j => j = M) w' := fun _ h => h
          have HEND : Hid (∀ w', Gn Wy (fun j => j = M) w' → GrC B M w w' ∧ rowC w' B #[.map (some M), .int .i64 k] 62) := Lib.hid fun w' hg => ⟨Chg.trans HCy.out hg (fun j _ hj => .inr hj), hg.row HGy.out.row hBM⟩
          refine wp_region_noPanic ?_
          refine wp_region_held_drew (S := Gn Wy (fun j => j = M)) (by kernel_rfl) (Gn.start _ _) (fun hHeld => ?_)
          have HMd : Hid (MapG Wy.drew M g1) := Lib.hid (HGy.out.map.chg (s := fun _ => False) (Chg.refl _ _).drew id)
          generalize Wy.drew = wd2 at *
          refine wpAnyH_take (i := 0) (oi := { dst := some 40, op := Op.move (Operand.tmp 0), type := 43, pos := "trees.go:291", after := #[], guard := none }) (v := ?_) rfl (by kernel_rfl) (by kernel_rfl) (by kernel_rfl) (fun _ _ _ h => h) (Or.inl ⟨by rfl, ?_⟩) (by assumption) ?_
          rotate_left
          · intro w hSw
            skip
            clear hSw
            go_simp
            try with_reducible rfl
          try simp only [Act.put, List.setIfInBounds_toArray, List.set_cons_zero, List.set_cons_succ]
          refine wpAnyH_take (i := 1) (oi := { dst := some 41, op := Op.nilCheck (Operand.tmp 40), type := 0, pos := "trees.go:291", after := #[{ on := 0, ground := Ground.data }], guard := none }) (v := ?_) rfl (by kernel_rfl) (by kernel_rfl) (by kernel_rfl) (fun _ _ _ h => h) (Or.inl ⟨by rfl, ?_⟩) (by assumption) ?_
          rotate_left
          · intro w hSw
            skip
            clear hSw
            go_simp
            try with_reducible rfl
          try simp only [Act.put, List.setIfInBounds_toArray, List.set_cons_zero, List.set_cons_succ]
          refine wpAnyH_take (i := 2) (oi := { dst := some 42, op := Op.fieldAddr 62 (Operand.tmp 41) 0, type := 0, pos := "trees.go:291", after := #[{ on := 1, ground := Ground.data }], guard := none }) (v := ?_) rfl (by kernel_rfl) (by kernel_rfl) (by kernel_rfl) (fun _ _ _ h => h) (Or.inl ⟨by rfl, ?_⟩) (by assumption) ?_
          rotate_left
          · intro w hSw
            skip
            clear hSw
            go_simp
            try with_reducible rfl
          try simp only [Act.put, List.setIfInBounds_toArray, List.set_cons_zero, List.set_cons_succ]
          refine wpAnyH_take (i := 4) (oi := { dst := some 44, op := Op.move (Operand.tmp 1), type := 9, pos := "trees.go:291", after := #[], guard := none }) (v := ?_) rfl (by kernel_rfl) (by kernel_rfl) (by kernel_rfl) (fun _ _ _ h => h) (Or.inl ⟨by rfl, ?_⟩) (by assumption) ?_
          rotate_left
          · intro w hSw
            skip
            clear hSw
            go_simp
            try with_reducible rfl
          try simp only [Act.put, List.setIfInBounds_toArray, List.set_cons_zero, List.set_cons_succ]
          refine wpAnyH_take (i := 3) (oi := { dst := some 43, op := Op.load 60 (Operand.tmp 42), type := 60, pos := "trees.go:291", after := #[{ on := 2, ground := Ground.data }], guard := none }) (v := ?_) rfl (by kernel_rfl) (by kernel_rfl) (by kernel_rfl) (fun _ _ _ h => h) (Or.inl ⟨by rfl, ?_⟩) (by assumption) ?_
          rotate_left
          · intro w hSw
            have hSw := OS _ hSw
            go_simp
            try with_reducible rfl
          try simp only [Act.put, List.setIfInBounds_toArray, List.set_cons_zero, List.set_cons_succ]
          refine wpAnyH_take (i := 5) (oi := { dst := some 45, op := Op.load 64 (Operand.tmp 6), type := 64, pos := "trees.go:291", after := #[], guard := none }) (v := _) rfl (by kernel_rfl) (by kernel_rfl) (by kernel_rfl) (fun _ _ _ h => h) (yieldsIf_load_mid (by rfl) _ _ rfl _ _ rfl _ _ (by intro w hSw; have hSw := OS _ hSw; go_split_ands; assumption) (by assumption) rfl (by assumption)) (by assumption) ?_
          try simp only [Act.put, List.setIfInBounds_toArray, List.set_cons_zero, List.set_cons_succ]
          refine wpAnyH_ready (rs := [6]) (by kernel_rfl) (by simp) ?_
          refine (AllReadyH.cons (o := { dst := none, op := Op.mapUpdate 60 (Operand.tmp 43) (Operand.tmp 44) (Operand.tmp 45), type := 0, pos := "trees.go:291", after := #[{ on := 3, ground := Ground.data }, { on := 4, ground := Ground.data }, { on := 5, ground := Ground.data }, { on := 0, ground := Ground.phase }, { on := 1, ground := Ground.phase }, { on := 2, ground := Ground.phase }, { on := 3, ground := Ground.phase }, { on := 4, ground := Ground.phase }, { on := 5, ground := Ground.phase }], guard := none }) rfl (fun K hK => ?_) AllReadyH.nil)
          obtain ⟨w8, hrun8, hM8, hg8⟩ := HMd.out.put (by unfold maxLen; have := HLN.out; omega) ⟨⟨d, 2, p3, p4⟩, k⟩ (by have := HPL.out; unfold maxLen; show d.length ≤ _; omega)
          have hrun9 : (Instr.mapUpdate 60 (.map (some M)) (.string (str d)) (.agg (plV ⟨⟨d, 2, p3, p4⟩, k⟩).toArray)).run Tryz.prog wd2 = .ok () w8 := hrun8
          clear hrun8
          go_simp
          refine hK.out _ _ (Gn.grown (by assumption) hg8 (fun j hj => (by cases hj; exact .inl rfl))) (fun hHeld2 => ?_)
          clear hK K
          refine wpAnyH_done (by kernel_rfl) ?_ _
          refine NoPanic.normal ?_
          go_wp2
          go_ret
          rw [HRES.out]
          exact ⟨rfl, ⟨(HEND.out _ (by assumption)).2, hM8⟩, (HEND.out _ (by assumption)).1⟩
        · have HRES := Lib.hid (HRES0.out.trans (if_neg h2))
          have g2 : (p2 != 2) = true := by rw [bne_iff_ne]; exact h2
          have c1 : Wx.cell? ⟨b, 1, none⟩ = some (.int .i64 p2) := rowC_cell HR.out 1
          clear HRES0 h2
          go_wp2
          go_ret
          rw [HRES.out]
          exact ⟨rfl, HC.out⟩
end Go.Proofs.YtbjgmkjinnbokaaGreatDoor
#print axioms Go.Proofs.YtbjgmkjinnbokaaGreatDoor.enter_any

