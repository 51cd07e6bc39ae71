/- Layer 15: the program's reader: an entry is added. -/
import Derived.Test.YtmgpofdmoaafoaaGreatDoorTrG
import Derived.Deep.RegionHeld3
namespace Go.Proofs.YtmgpofdmoaafoaaGreatDoor
open Go.RowKit

/-- What a step says. -/
def SaysS (w' : World) (B : Nat) (r : Nat ⊕ (Bs × Option Recs × List Ent)) (e : Ending) : Prop := match r with
  | .inl c => e = .returned (.int .i64 (c : Int)) ∧ c ≠ 0
  | .inr (rest', wt', out') => e = .returned (.int .i64 0) ∧ ∃ v', rowC w' B (rdrV rest' wt' v') 50 ∧ OwnsE w' (B + 1) v' out'
theorem says_bad {w' : World} {B : Nat} {r : Nat ⊕ (Bs × Option Recs × List Ent)} {c : Nat} (h : r = .inl c) (hc : c ≠ 0) : SaysS w' B r (.returned (.int .i64 (c : Int))) := by subst h; exact ⟨rfl, hc⟩
theorem OwnsE.form {w : World} {base : Nat} {v : Value} {l : List Ent} (h : OwnsE w base v l) : ∃ a cap, v = .slice a l.length cap := owns_form h
def ownS (B : Nat) (v : Value) : Nat → Prop := fun k => k = B ∨ v.ownBlock = some k
theorem own_far {w : World} {B : Nat} {v : Value} {l : List Ent} (h : OwnsE w (B + 1) v l) : v.ownBlock ≠ some B := fun e => by
  have := (World.ownsRow.lt h B e).1
  omega
set_option maxRecDepth 100000 in
set_option maxHeartbeats 8000000 in
theorem add_any (B : Nat) (rest : Bs) (wt : Option Recs) (v : Value) (out : List Ent) (x : Ent) (hx : EntB x) (hout : out.length ≤ 200) (w : World) (h : rowC w B (rdrV rest wt v) 50) (ho : OwnsE w (B + 1) v out) :
    Calls Tryz.prog 45 #[.pointer (some ⟨B, 0, none⟩), .agg #[.int .i64 x.kind, .string (str x.name), .string (str x.to), .int .i64 x.mode, .string (str x.data)]] w fun e w' =>
      SaysS w' B (addR x rest out) e ∧ Below B w w' := by
  have HI := Lib.hid info_rec
  obtain ⟨i0, hi0, hz0, hz1, hz2⟩ := info_parts info_ent
  have hBlt := rowC_lt h
  obtain ⟨W0, hW0⟩ : ∃ W0, W0 = w.alloc (.cells #[.int .i64 x.kind, .string (str x.name), .string (str x.to), .int .i64 x.mode, .string (str x.data)] 39) := ⟨_, rfl⟩
  have Z0 : rowC W0 w.heap.size #[.int .i64 x.kind, .string (str x.name), .string (str x.to), .int .i64 x.mode, .string (str x.data)] 39 := by rw [hW0]; exact rowC_new w _ _
  have Y0 : rowC W0 B (rdrV rest wt v) 50 := by rw [hW0]; exact rowC_alloc h _
  have B0 : Below w.heap.size w W0 := by rw [hW0]; exact (Below.refl _ _).alloc (Nat.le_refl _) _
  have O0 : OwnsE W0 (B + 1) v out := (Chg.of_below (s := fun _ => False) B0).owns ho (fun _ _ hf => hf)
  have S0 : W0.heap.size = w.heap.size + 1 := by rw [hW0, size_alloc]
  have HFAR := Lib.hid (own_far ho)
  have HBX := Lib.hid (show v.ownBlock ≠ some w.heap.size from fun e => Nat.lt_irrefl _ (World.ownsRow.lt ho _ e).2)
  obtain ⟨va, vc, rfl⟩ := ho.form
  have cn : W0.cell? ⟨w.heap.size, 1, none⟩ = some (.string (str x.name)) := rowC_cell Z0 1
  have ck : W0.cell? ⟨w.heap.size, 0, none⟩ = some (.int .i64 x.kind) := rowC_cell Z0 0
  have ct : W0.cell? ⟨w.heap.size, 2, none⟩ = some (.string (str x.to)) := rowC_cell Z0 2
  have cv := (rdr_cell Y0).2.2.1
  have HW0 := Lib.hid hW0
  have HZ0 := Lib.hid Z0
  have HY0 := Lib.hid Y0
  have HB0 := Lib.hid B0
  have HO0 := Lib.hid O0
  have HS0 := Lib.hid S0
  have HBL := Lib.hid hBlt
  have CN := fun w => check_any x.name w
  have CT := fun w => check_any x.to w
  have CK := fun w => link_any x.kind w
  have HE : Hid (addR x rest out = if textE x.name ≠ 0 then .inl (textE x.name) else if isLinkK x.kind = true ∧ textE x.to ≠ 0 then .inl (textE x.to) else if out.length = 200 then .inl 63 else .inr (rest, none, out ++ [x])) := Lib.hid rfl
  have HBB : Hid (Below B w W0) := Lib.hid (B0.mono (by omega))
  obtain ⟨N, hN⟩ : ∃ N, N = out.length := ⟨_, rfl⟩
  rw [← hN] at cv HE hout
  have HN := Lib.hid hN
  clear hW0 Z0 Y0 B0 O0 S0 h ho hBlt
  by_cases h1 : textE x.name = 0
  · rw [h1] at CN
    by_cases h2 : isLinkK x.kind = true ∧ textE x.to ≠ 0
    · have HR := Lib.hid (show addR x rest out = .inl (textE x.to) by rw [HE.out, if_neg (fun e => e h1), if_pos h2])
      rw [h2.1] at CK
      have HC := Lib.hid h2.2
      have q : (((textE x.to : Nat) : Int) == 0) = false := by rw [beq_eq_false_iff_ne]; have := h2.2; omega
      have qn : ¬ textE x.to = 0 := h2.2
      clear HE h1 h2 hN
      generalize textE x.to = c at *
      go_enter Tryz.func45, Tryz.ntmps45
      go_upto_region 1 with (fail)
      rw [← HW0.out]
      go_wp2_with (first
        | (go_at_call 46; (first | (with_reducible refine (CN _).mono ?_) | (with_reducible refine (CT _).mono ?_)); rintro e w1 ⟨rfl, rfl⟩)
        | (go_at_call 47; ((with_reducible refine (CK _).mono ?_); rintro e w2 ⟨rfl, rfl⟩)))
      go_ret
      exact ⟨says_bad HR.out HC.out, HBB.out⟩
    · have HB2 := Lib.hid h2
      by_cases h3 : N = 200
      · have HR := Lib.hid (show addR x rest out = .inl 63 by rw [HE.out, if_neg (fun e => e h1), if_neg h2, if_pos h3])
        have HL : isLinkK x.kind = false ∨ (isLinkK x.kind = true ∧ textE x.to = 0) := by
          cases hl : isLinkK x.kind
          · exact .inl rfl
          · exact .inr ⟨rfl, by rcases Nat.eq_zero_or_pos (textE x.to) with e | e; exact e; exact absurd ⟨hl, by omega⟩ h2⟩
        clear HE h1 h2 hN
        subst h3
        rcases HL with hl | ⟨hl, ht⟩
        · rw [hl] at CK
          clear hl CT
          go_enter Tryz.func45, Tryz.ntmps45
          go_upto_region 1 with (fail)
          rw [← HW0.out]
          go_wp2_with (first
            | (go_at_call 46; (with_reducible refine (CN _).mono ?_); rintro e w1 ⟨rfl, rfl⟩)
            | (go_at_call 47; ((with_reducible refine (CK _).mono ?_); rintro e w2 ⟨rfl, rfl⟩)))
          go_ret
          exact ⟨says_bad HR.out (by decide), HBB.out⟩
        · rw [hl] at CK
          rw [ht] at CT
          clear hl ht
          go_enter Tryz.func45, Tryz.ntmps45
          go_upto_region 1 with (fail)
          rw [← HW0.out]
          go_wp2_with (first
            | (go_at_call 46; (first | (with_reducible refine (CN _).mono ?_) | (with_reducible refine (CT _).mono ?_)); rintro e w1 ⟨rfl, rfl⟩)
            | (go_at_call 47; ((with_reducible refine (CK _).mono ?_); rintro e w2 ⟨rfl, rfl⟩)))
          go_ret
          exact ⟨says_bad HR.out (by decide), HBB.out⟩
      · have HR := Lib.hid (show addR x rest out = .inr (rest, none, out ++ [x]) by rw [HE.out, if_neg (fun e => e h1), if_neg h2, if_neg h3])
        have hlt : N < 200 := by omega
        have q200 : ((N : Int) == 200) = false := by rw [beq_eq_false_iff_ne]; omega
        have CC : ∀ w', Gn W0 no w' → Calls Tryz.prog 65 #[.agg #[.int .i64 x.kind, .string (str x.name), .string (str x.to), .int .i64 x.mode, .string (str x.data)]] w' fun e w'' =>
            e = .returned (.agg #[.int .i64 x.kind, .string (str x.name), .string (str x.to), .int .i64 x.mode, .string (str x.data)]) ∧ Gn W0 no w'' := fun w' hg => (clone_any x hx w').mono fun e w'' ⟨he, hb⟩ => ⟨he, hg.call hb⟩
        have HL : isLinkK x.kind = false ∨ (isLinkK x.kind = true ∧ textE x.to = 0) := by
          cases hl : isLinkK x.kind
          · exact .inl rfl
          · exact .inr ⟨rfl, by rcases Nat.eq_zero_or_pos (textE x.to) with e | e; exact e; exact absurd ⟨hl, by omega⟩ h2⟩
        obtain ⟨XS, hXS⟩ : ∃ XS, XS = rowE out := ⟨_, rfl⟩
        have HOX : Hid (W0.ownsRow (B + 1) 39 5 (.slice va N vc) N XS) := Lib.hid (by rw [hN, hXS]; exact HO0.out)
        have HXS := Lib.hid hXS.symm
        rw [← hN] at HFAR HBX HY0 HO0
        clear HE h1 h2 h3 hN hXS
        rcases HL with hl | ⟨hl, ht⟩
        · rw [hl] at CK
          clear hl
          go_enter Tryz.func45, Tryz.ntmps45
          go_upto_region 1 with (fail)
          rw [← HW0.out]
          go_upto_region 10 with (first
            | (go_at_call 46; (first | (with_reducible refine (CN _).mono ?_) | (with_reducible refine (CT _).mono ?_)); rintro e w1 ⟨rfl, rfl⟩)
            | (go_at_call 47; ((with_reducible refine (CK _).mono ?_); rintro e w2 ⟨rfl, rfl⟩)))
          have OS : ∀ w', Gn W0 (ownS B (.slice va N vc)) w' → w'.rangeAt w.heap.size 0 [.int .i64 x.kind, .string (str x.name), .string (str x.to), .int .i64 x.mode, .string (str x.data)] ∧ True := fun w' hg => ⟨rowC_range (hg.row HZ0.out (fun hs => by
            rcases hs with e | e
            · have := HBL.out; omega
            · exact HBX.out e)) 0 _ (fun u hq hh => by rw [Nat.zero_add]; simpa using hh), trivial⟩
          have SO : ∀ w', Gn W0 (ownS B (.slice va N vc)) w' → Gn W0 (ownS B (.slice va N vc)) w' := fun _ h => h
          have GS : ∀ w', Gn W0 no w' → Gn W0 (ownS B (.slice va N vc)) w' := fun w' h => Chg.mono h (fun k _ hf => hf.elim)
          have ui := Tryz.underlying39
          have ii := info_ent5
          have hno : Gn W0 no W0.drew := Gn.start _ _
          have L1 : W0.drew.cell? ⟨B, 8, none⟩ = some (.slice va N vc) := rowC_cell (rowC_drew HY0.out) 8
          clear CN CT CK
          refine wp_region_noPanic ?_
          refine wp_region_held_drew (S := Gn W0 (ownS B (.slice va N vc))) (by kernel_rfl) (Gn.start _ _) (fun hHeld => ?_)
          generalize W0.drew = wd at *
          refine wpAnyH_take (i := 0) (oi := { dst := some 28, op := Op.move (Operand.tmp 0), type := 76, pos := "tar.go:197", after := #[], guard := none }) (v := ?_) rfl (by kernel_rfl) (by kernel_rfl) (by kernel_rfl) (fun _ _ _ h => h) (Or.inl ⟨by rfl, ?_⟩) (by assumption) ?_
          rotate_left
          · intro w hSw
            skip
            clear hSw
            go_simp
            try with_reducible rfl
          try simp only [Act.put, List.setIfInBounds_toArray, List.set_cons_zero, List.set_cons_succ]
          refine wpAnyH_take (i := 1) (oi := { dst := some 29, op := Op.move (Operand.tmp 0), type := 76, pos := "tar.go:197", after := #[], guard := none }) (v := ?_) rfl (by kernel_rfl) (by kernel_rfl) (by kernel_rfl) (fun _ _ _ h => h) (Or.inl ⟨by rfl, ?_⟩) (by assumption) ?_
          rotate_left
          · intro w hSw
            skip
            clear hSw
            go_simp
            try with_reducible rfl
          try simp only [Act.put, List.setIfInBounds_toArray, List.set_cons_zero, List.set_cons_succ]
          refine wpAnyH_take (i := 2) (oi := { dst := some 30, op := Op.nilCheck (Operand.tmp 29), type := 0, pos := "tar.go:197", after := #[{ on := 1, ground := Ground.data }], guard := none }) (v := ?_) rfl (by kernel_rfl) (by kernel_rfl) (by kernel_rfl) (fun _ _ _ h => h) (Or.inl ⟨by rfl, ?_⟩) (by assumption) ?_
          rotate_left
          · intro w hSw
            skip
            clear hSw
            go_simp
            try with_reducible rfl
          try simp only [Act.put, List.setIfInBounds_toArray, List.set_cons_zero, List.set_cons_succ]
          refine wpAnyH_take (i := 3) (oi := { dst := some 31, op := Op.fieldAddr 50 (Operand.tmp 30) 2, type := 0, pos := "tar.go:197", after := #[{ on := 2, ground := Ground.data }], guard := none }) (v := ?_) rfl (by kernel_rfl) (by kernel_rfl) (by kernel_rfl) (fun _ _ _ h => h) (Or.inl ⟨by rfl, ?_⟩) (by assumption) ?_
          rotate_left
          · intro w hSw
            skip
            clear hSw
            go_simp
            try with_reducible rfl
          try simp only [Act.put, List.setIfInBounds_toArray, List.set_cons_zero, List.set_cons_succ]
          refine wpAnyH_take (i := 5) (oi := { dst := some 33, op := Op.load 39 (Operand.tmp 3), type := 39, pos := "tar.go:197", after := #[], guard := none }) (v := _) rfl (by kernel_rfl) (by kernel_rfl) (by kernel_rfl) (fun _ _ _ h => h) (yieldsIf_load_mid (by rfl) _ _ rfl _ _ rfl _ _ (by intro w hSw; have hSw := OS _ hSw; go_split_ands; assumption) (by assumption) rfl (by assumption)) (by assumption) ?_
          try simp only [Act.put, List.setIfInBounds_toArray, List.set_cons_zero, List.set_cons_succ]
          refine wpAnyH_ready (rs := [4, 6]) (by kernel_rfl) (by simp) ?_
          refine (AllReadyH.cons (o := { dst := some 32, op := Op.load 22 (Operand.tmp 31), type := 22, pos := "tar.go:197", after := #[{ on := 3, ground := Ground.data }], guard := none }) rfl (fun K hK => ?_) (AllReadyH.cons (o := { dst := some 34, op := Op.call { callee := Callee.value (Operand.func 65), args := #[Operand.tmp 33], argTypes := #[39] }, type := 39, pos := "tar.go:197", after := #[{ on := 5, ground := Ground.data }], guard := none }) rfl (fun K hK => ?_) AllReadyH.nil))
          · skip
            go_simp
            refine hK.out _ _ (SO _ (by first | exact hG8 | exact Gn.alloc (GS _ m6') _ | exact Gn.cell hG8 _ _ (.inl (.inl rfl)) | exact GS _ (by assumption) | assumption)) (fun hHeld => ?_)
            clear hK K
            try simp only [Act.put, List.setIfInBounds_toArray, List.set_cons_zero, List.set_cons_succ]
            refine wpAnyH_ready (rs := [6]) (by kernel_rfl) (by simp) ?_
            refine (AllReadyH.cons (o := { dst := some 34, op := Op.call { callee := Callee.value (Operand.func 65), args := #[Operand.tmp 33], argTypes := #[39] }, type := 39, pos := "tar.go:197", after := #[{ on := 5, ground := Ground.data }], guard := none }) rfl (fun K hK => ?_) AllReadyH.nil)
            go_simp
            with_reducible refine (CC _ hno).mono ?_
            rintro e w6' ⟨rfl, m6'⟩
            have L2 : w6'.cell? ⟨B, 8, none⟩ = some (.slice va N vc) := rowC_cell (m6'.row HY0.out id) 8
            have L3 : ∀ o, (w6'.alloc o).cell? ⟨B, 8, none⟩ = some (.slice va N vc) := fun o => rowC_cell ((Gn.alloc m6' o).row HY0.out id) 8
            have OW : ∀ o, (w6'.alloc o).ownsRow (B + 1) 39 5 (.slice va N vc) N XS := fun o => (Chg.alloc m6' o).owns HOX.out (fun _ _ hf => hf)
            have SG : ∀ o w8, (w6'.alloc o).grownBy w8 (Value.slice va N vc).ownBlock → Gn W0 (ownS B (.slice va N vc)) w8 := fun o w8 hg => (Gn.alloc (GS _ m6') o).grown hg (fun k hk => .inl (.inr hk))
            have SZ : ∀ o w8, (w6'.alloc o).grownBy w8 (Value.slice va N vc).ownBlock → rowC w8 B (rdrV rest wt (.slice va N vc)) 50 := fun o w8 hg => (hg.block B (rowC_lt ((Gn.alloc m6' o).row HY0.out id)) (fun e => HFAR.out e.symm)).trans ((Gn.alloc m6' o).row HY0.out id)
            refine hK.out _ _ (SO _ (GS _ m6')) (fun hHeld => ?_)
            clear hK K
            try simp only [Act.put, List.setIfInBounds_toArray, List.set_cons_zero, List.set_cons_succ]
            refine wpAnyH_ready (rs := [7]) (by kernel_rfl) (by simp) ?_
            refine (AllReadyH.cons (o := { dst := some 35, op := Op.buildSlice 22 1 #[(0, Operand.tmp 34)], type := 22, pos := "tar.go:197", after := #[{ on := 6, ground := Ground.data }], guard := none }) rfl (fun K hK => ?_) AllReadyH.nil)
            skip
            go_simp
            refine hK.out _ _ (SO _ (by first | exact hG8 | exact Gn.alloc (GS _ m6') _ | exact Gn.cell hG8 _ _ (.inl (.inl rfl)) | exact GS _ (by assumption) | assumption)) (fun hHeld => ?_)
            clear hK K
            try simp only [Act.put, List.setIfInBounds_toArray, List.set_cons_zero, List.set_cons_succ]
            refine wpAnyH_ready (rs := [8]) (by kernel_rfl) (by simp) ?_
            refine (AllReadyH.cons (o := { dst := some 36, op := Op.call { callee := Callee.builtin Builtin.append, args := #[Operand.tmp 32, Operand.tmp 35], argTypes := #[22, 22] }, type := 22, pos := "tar.go:197", after := #[{ on := 4, ground := Ground.data }, { on := 7, ground := Ground.data }, { on := 6, ground := Ground.chain }], guard := none }) rfl (fun K hK => ?_) AllReadyH.nil)
            refine step_append_lies _ (by rfl) _ _ 22 (by rfl) (B + 1) 39 i0 (.agg #[.int .i64 0, .string ⟨#[]⟩, .string ⟨#[]⟩, .int .i64 0, .string ⟨#[]⟩]) 5 64 Tryz.underlying22 hi0 hz0 hz1 hz2 (by rfl) (by decide) (.slice va N vc) N XS (by rfl) (OW _) ⟨w6'.heap.size, 0, none⟩ 1 1 [.int .i64 x.kind, .string (str x.name), .string (str x.to), .int .i64 x.mode, .string (str x.data)] (by rfl) (by rfl) (World.news_of_block (heap_alloc_new w6' _)) (entV_one x) (by decide) (by unfold maxLen; omega) (by omega) (by rw [size_alloc]; have := m6'.size; have := HS0.out; have := HBL.out; omega) _ rfl ?_
            intro g8 cap8 w8 hown8 hgrow8 hat8 hlt8
            have hG8 := SG _ _ hgrow8
            have hr8 := SZ _ _ hgrow8
            have fz8 := rowC_free hr8 8
            have cz8 := rowC_cell hr8 8
            refine hK.out _ _ (SO _ (by first | exact hG8 | exact Gn.alloc (GS _ m6') _ | exact Gn.cell hG8 _ _ (.inl (.inl rfl)) | exact GS _ (by assumption) | assumption)) (fun hHeld => ?_)
            clear hK K
            try simp only [Act.put, List.setIfInBounds_toArray, List.set_cons_zero, List.set_cons_succ]
            refine wpAnyH_take (i := 9) (oi := { dst := some 37, op := Op.nilCheck (Operand.tmp 28), type := 0, pos := "tar.go:197", after := #[{ on := 0, ground := Ground.data }, { on := 0, ground := Ground.phase }, { on := 1, ground := Ground.phase }, { on := 2, ground := Ground.phase }, { on := 3, ground := Ground.phase }, { on := 4, ground := Ground.phase }, { on := 5, ground := Ground.phase }, { on := 6, ground := Ground.phase }, { on := 7, ground := Ground.phase }, { on := 8, ground := Ground.phase }], guard := none }) (v := ?_) rfl (by kernel_rfl) (by kernel_rfl) (by kernel_rfl) (fun _ _ _ h => h) (Or.inl ⟨by rfl, ?_⟩) (by assumption) ?_
            rotate_left
            · intro w hSw
              skip
              clear hSw
              go_simp
              try with_reducible rfl
            try simp only [Act.put, List.setIfInBounds_toArray, List.set_cons_zero, List.set_cons_succ]
            refine wpAnyH_take (i := 10) (oi := { dst := some 38, op := Op.fieldAddr 50 (Operand.tmp 37) 2, type := 0, pos := "tar.go:197", after := #[{ on := 9, ground := Ground.data }, { on := 0, ground := Ground.phase }, { on := 1, ground := Ground.phase }, { on := 2, ground := Ground.phase }, { on := 3, ground := Ground.phase }, { on := 4, ground := Ground.phase }, { on := 5, ground := Ground.phase }, { on := 6, ground := Ground.phase }, { on := 7, ground := Ground.phase }, { on := 8, ground := Ground.phase }], guard := none }) (v := ?_) rfl (by kernel_rfl) (by kernel_rfl) (by kernel_rfl) (fun _ _ _ h => h) (Or.inl ⟨by rfl, ?_⟩) (by assumption) ?_
            rotate_left
            · intro w hSw
              skip
              clear hSw
              go_simp
              try with_reducible rfl
            try simp only [Act.put, List.setIfInBounds_toArray, List.set_cons_zero, List.set_cons_succ]
            refine wpAnyH_ready (rs := [11]) (by kernel_rfl) (by simp) ?_
            refine (AllReadyH.cons (o := { dst := none, op := Op.store 22 (Operand.tmp 38) (Operand.tmp 36), type := 0, pos := "tar.go:197", after := #[{ on := 10, ground := Ground.data }, { on := 8, ground := Ground.data }, { on := 8, ground := Ground.chain }, { on := 0, ground := Ground.phase }, { on := 1, ground := Ground.phase }, { on := 2, ground := Ground.phase }, { on := 3, ground := Ground.phase }, { on := 4, ground := Ground.phase }, { on := 5, ground := Ground.phase }, { on := 6, ground := Ground.phase }, { on := 7, ground := Ground.phase }, { on := 8, ground := Ground.phase }], guard := none }) rfl (fun K hK => ?_) AllReadyH.nil)
            skip
            go_simp
            refine hK.out _ _ (SO _ (by first | exact hG8 | exact Gn.alloc (GS _ m6') _ | exact Gn.cell hG8 _ _ (.inl (.inl rfl)) | exact GS _ (by assumption) | assumption)) (fun hHeld => ?_)
            clear hK K
            try simp only [Act.put]
            refine wpAnyH_done (by kernel_rfl) ?_ _
            refine NoPanic.normal ?_
            have r9 : rowC (w8.setCell ⟨B, 8, none⟩ (.slice (some ⟨g8, 0, none⟩) (N + 1) cap8)) B (rdrV rest wt (.slice (some ⟨g8, 0, none⟩) (N + 1) cap8)) 50 := rowC_set hr8 8 _
            have HR9 := Lib.hid r9
            have HG9 : Hid (Chg (isB B) w8 (w8.setCell ⟨B, 8, none⟩ (.slice (some ⟨g8, 0, none⟩) (N + 1) cap8))) := Lib.hid ((Chg.refl _ _).setCell ⟨B, 8, none⟩ _ (.inl rfl))
            have HB9 : Hid (Below B w (w8.setCell ⟨B, 8, none⟩ (.slice (some ⟨g8, 0, none⟩) (N + 1) cap8))) := Lib.hid ((HBB.out.trans (hG8.below (by have := HS0.out; have := HBL.out; omega) (fun k hk hs => by
              rcases hs with e | e
              · omega
              · have := (World.ownsRow.lt HOX.out k e).1; omega))).setCell (p := ⟨B, 8, none⟩) (Nat.le_refl _) _)
            have HOW8 := Lib.hid hown8
            clear r9 hr8 hG8 hgrow8 hat8 hlt8 hown8 fz8 cz8 SG SZ OW L2 L3 m6' hHeld
            generalize w8.setCell ⟨B, 8, none⟩ (.slice (some ⟨g8, 0, none⟩) (N + 1) cap8) = w9 at *
            go_wp2_with (first
              | ((with_reducible show wpList _ _ _ (⟨some 40, .build _ _, _, _, _, _⟩ :: _) _ _); refine wpList_build_as rfl 48 _ rfl rec0 (by kernel_rfl) ?_)
              | ((with_reducible show wpList _ _ _ (⟨none, .store _ (.tmp 42) _, _, _, _, _⟩ :: _) _ _); refine wpList_store_mid rfl 48 _ _ rfl B 1 rec0 rfl rfl (row_there HR9.out 1 7 (show 1 + 7 ≤ 9 by decide)) HI.out (recV_one false ⟨none, none, none⟩) ?_))
            go_ret
            refine ⟨?_, below_setCells (Nat.le_refl _) rec0.toList 1 HB9.out⟩
            rw [HR.out]
            refine ⟨rfl, _, rowC_setCells rec0.toList 1 HR9.out (show 1 + 7 ≤ 9 by decide), ?_⟩
            have h5 := (Gn.sets rec0.toList 1 HG9.out (.inl rfl)).owns HOW8.out (fun g hg hb => by
              have := (World.ownsRow.lt HOW8.out g hg).1
              have hb2 : g = B := hb
              omega)
            show World.ownsRow _ _ _ _ _ _ _
            rw [List.length_append, ← HN.out, rowE_app, HXS.out, rowE_one]
            exact h5
          · go_simp
            with_reducible refine (CC _ hno).mono ?_
            rintro e w6' ⟨rfl, m6'⟩
            have L2 : w6'.cell? ⟨B, 8, none⟩ = some (.slice va N vc) := rowC_cell (m6'.row HY0.out id) 8
            have L3 : ∀ o, (w6'.alloc o).cell? ⟨B, 8, none⟩ = some (.slice va N vc) := fun o => rowC_cell ((Gn.alloc m6' o).row HY0.out id) 8
            have OW : ∀ o, (w6'.alloc o).ownsRow (B + 1) 39 5 (.slice va N vc) N XS := fun o => (Chg.alloc m6' o).owns HOX.out (fun _ _ hf => hf)
            have SG : ∀ o w8, (w6'.alloc o).grownBy w8 (Value.slice va N vc).ownBlock → Gn W0 (ownS B (.slice va N vc)) w8 := fun o w8 hg => (Gn.alloc (GS _ m6') o).grown hg (fun k hk => .inl (.inr hk))
            have SZ : ∀ o w8, (w6'.alloc o).grownBy w8 (Value.slice va N vc).ownBlock → rowC w8 B (rdrV rest wt (.slice va N vc)) 50 := fun o w8 hg => (hg.block B (rowC_lt ((Gn.alloc m6' o).row HY0.out id)) (fun e => HFAR.out e.symm)).trans ((Gn.alloc m6' o).row HY0.out id)
            refine hK.out _ _ (SO _ (GS _ m6')) (fun hHeld => ?_)
            clear hK K
            try simp only [Act.put, List.setIfInBounds_toArray, List.set_cons_zero, List.set_cons_succ]
            refine wpAnyH_ready (rs := [4, 7]) (by kernel_rfl) (by simp) ?_
            refine (AllReadyH.cons (o := { dst := some 32, op := Op.load 22 (Operand.tmp 31), type := 22, pos := "tar.go:197", after := #[{ on := 3, ground := Ground.data }], guard := none }) rfl (fun K hK => ?_) (AllReadyH.cons (o := { dst := some 35, op := Op.buildSlice 22 1 #[(0, Operand.tmp 34)], type := 22, pos := "tar.go:197", after := #[{ on := 6, ground := Ground.data }], guard := none }) rfl (fun K hK => ?_) AllReadyH.nil))
            · skip
              go_simp
              refine hK.out _ _ (SO _ (by first | exact hG8 | exact Gn.alloc (GS _ m6') _ | exact Gn.cell hG8 _ _ (.inl (.inl rfl)) | exact GS _ (by assumption) | assumption)) (fun hHeld => ?_)
              clear hK K
              try simp only [Act.put, List.setIfInBounds_toArray, List.set_cons_zero, List.set_cons_succ]
              refine wpAnyH_ready (rs := [7]) (by kernel_rfl) (by simp) ?_
              refine (AllReadyH.cons (o := { dst := some 35, op := Op.buildSlice 22 1 #[(0, Operand.tmp 34)], type := 22, pos := "tar.go:197", after := #[{ on := 6, ground := Ground.data }], guard := none }) rfl (fun K hK => ?_) AllReadyH.nil)
              skip
              go_simp
              refine hK.out _ _ (SO _ (by first | exact hG8 | exact Gn.alloc (GS _ m6') _ | exact Gn.cell hG8 _ _ (.inl (.inl rfl)) | exact GS _ (by assumption) | assumption)) (fun hHeld => ?_)
              clear hK K
              try simp only [Act.put, List.setIfInBounds_toArray, List.set_cons_zero, List.set_cons_succ]
              refine wpAnyH_ready (rs := [8]) (by kernel_rfl) (by simp) ?_
              refine (AllReadyH.cons (o := { dst := some 36, op := Op.call { callee := Callee.builtin Builtin.append, args := #[Operand.tmp 32, Operand.tmp 35], argTypes := #[22, 22] }, type := 22, pos := "tar.go:197", after := #[{ on := 4, ground := Ground.data }, { on := 7, ground := Ground.data }, { on := 6, ground := Ground.chain }], guard := none }) rfl (fun K hK => ?_) AllReadyH.nil)
              refine step_append_lies _ (by rfl) _ _ 22 (by rfl) (B + 1) 39 i0 (.agg #[.int .i64 0, .string ⟨#[]⟩, .string ⟨#[]⟩, .int .i64 0, .string ⟨#[]⟩]) 5 64 Tryz.underlying22 hi0 hz0 hz1 hz2 (by rfl) (by decide) (.slice va N vc) N XS (by rfl) (OW _) ⟨w6'.heap.size, 0, none⟩ 1 1 [.int .i64 x.kind, .string (str x.name), .string (str x.to), .int .i64 x.mode, .string (str x.data)] (by rfl) (by rfl) (World.news_of_block (heap_alloc_new w6' _)) (entV_one x) (by decide) (by unfold maxLen; omega) (by omega) (by rw [size_alloc]; have := m6'.size; have := HS0.out; have := HBL.out; omega) _ rfl ?_
              intro g8 cap8 w8 hown8 hgrow8 hat8 hlt8
              have hG8 := SG _ _ hgrow8
              have hr8 := SZ _ _ hgrow8
              have fz8 := rowC_free hr8 8
              have cz8 := rowC_cell hr8 8
              refine hK.out _ _ (SO _ (by first | exact hG8 | exact Gn.alloc (GS _ m6') _ | exact Gn.cell hG8 _ _ (.inl (.inl rfl)) | exact GS _ (by assumption) | assumption)) (fun hHeld => ?_)
              clear hK K
              try simp only [Act.put, List.setIfInBounds_toArray, List.set_cons_zero, List.set_cons_succ]
              refine wpAnyH_take (i := 9) (oi := { dst := some 37, op := Op.nilCheck (Operand.tmp 28), type := 0, pos := "tar.go:197", after := #[{ on := 0, ground := Ground.data }, { on := 0, ground := Ground.phase }, { on := 1, ground := Ground.phase }, { on := 2, ground := Ground.phase }, { on := 3, ground := Ground.phase }, { on := 4, ground := Ground.phase }, { on := 5, ground := Ground.phase }, { on := 6, ground := Ground.phase }, { on := 7, ground := Ground.phase }, { on := 8, ground := Ground.phase }], guard := none }) (v := ?_) rfl (by kernel_rfl) (by kernel_rfl) (by kernel_rfl) (fun _ _ _ h => h) (Or.inl ⟨by rfl, ?_⟩) (by assumption) ?_
              rotate_left
              · intro w hSw
                skip
                clear hSw
                go_simp
                try with_reducible rfl
              try simp only [Act.put, List.setIfInBounds_toArray, List.set_cons_zero, List.set_cons_succ]
              refine wpAnyH_take (i := 10) (oi := { dst := some 38, op := Op.fieldAddr 50 (Operand.tmp 37) 2, type := 0, pos := "tar.go:197", after := #[{ on := 9, ground := Ground.data }, { on := 0, ground := Ground.phase }, { on := 1, ground := Ground.phase }, { on := 2, ground := Ground.phase }, { on := 3, ground := Ground.phase }, { on := 4, ground := Ground.phase }, { on := 5, ground := Ground.phase }, { on := 6, ground := Ground.phase }, { on := 7, ground := Ground.phase }, { on := 8, ground := Ground.phase }], guard := none }) (v := ?_) rfl (by kernel_rfl) (by kernel_rfl) (by kernel_rfl) (fun _ _ _ h => h) (Or.inl ⟨by rfl, ?_⟩) (by assumption) ?_
              rotate_left
              · intro w hSw
                skip
                clear hSw
                go_simp
                try with_reducible rfl
              try simp only [Act.put, List.setIfInBounds_toArray, List.set_cons_zero, List.set_cons_succ]
              refine wpAnyH_ready (rs := [11]) (by kernel_rfl) (by simp) ?_
              refine (AllReadyH.cons (o := { dst := none, op := Op.store 22 (Operand.tmp 38) (Operand.tmp 36), type := 0, pos := "tar.go:197", after := #[{ on := 10, ground := Ground.data }, { on := 8, ground := Ground.data }, { on := 8, ground := Ground.chain }, { on := 0, ground := Ground.phase }, { on := 1, ground := Ground.phase }, { on := 2, ground := Ground.phase }, { on := 3, ground := Ground.phase }, { on := 4, ground := Ground.phase }, { on := 5, ground := Ground.phase }, { on := 6, ground := Ground.phase }, { on := 7, ground := Ground.phase }, { on := 8, ground := Ground.phase }], guard := none }) rfl (fun K hK => ?_) AllReadyH.nil)
              skip
              go_simp
              refine hK.out _ _ (SO _ (by first | exact hG8 | exact Gn.alloc (GS _ m6') _ | exact Gn.cell hG8 _ _ (.inl (.inl rfl)) | exact GS _ (by assumption) | assumption)) (fun hHeld => ?_)
              clear hK K
              try simp only [Act.put]
              refine wpAnyH_done (by kernel_rfl) ?_ _
              refine NoPanic.normal ?_
              have r9 : rowC (w8.setCell ⟨B, 8, none⟩ (.slice (some ⟨g8, 0, none⟩) (N + 1) cap8)) B (rdrV rest wt (.slice (some ⟨g8, 0, none⟩) (N + 1) cap8)) 50 := rowC_set hr8 8 _
              have HR9 := Lib.hid r9
              have HG9 : Hid (Chg (isB B) w8 (w8.setCell ⟨B, 8, none⟩ (.slice (some ⟨g8, 0, none⟩) (N + 1) cap8))) := Lib.hid ((Chg.refl _ _).setCell ⟨B, 8, none⟩ _ (.inl rfl))
              have HB9 : Hid (Below B w (w8.setCell ⟨B, 8, none⟩ (.slice (some ⟨g8, 0, none⟩) (N + 1) cap8))) := Lib.hid ((HBB.out.trans (hG8.below (by have := HS0.out; have := HBL.out; omega) (fun k hk hs => by
                rcases hs with e | e
                · omega
                · have := (World.ownsRow.lt HOX.out k e).1; omega))).setCell (p := ⟨B, 8, none⟩) (Nat.le_refl _) _)
              have HOW8 := Lib.hid hown8
              clear r9 hr8 hG8 hgrow8 hat8 hlt8 hown8 fz8 cz8 SG SZ OW L2 L3 m6' hHeld
              generalize w8.setCell ⟨B, 8, none⟩ (.slice (some ⟨g8, 0, none⟩) (N + 1) cap8) = w9 at *
              go_wp2_with (first
                | ((with_reducible show wpList _ _ _ (⟨some 40, .build _ _, _, _, _, _⟩ :: _) _ _); refine wpList_build_as rfl 48 _ rfl rec0 (by kernel_rfl) ?_)
                | ((with_reducible show wpList _ _ _ (⟨none, .store _ (.tmp 42) _, _, _, _, _⟩ :: _) _ _); refine wpList_store_mid rfl 48 _ _ rfl B 1 rec0 rfl rfl (row_there HR9.out 1 7 (show 1 + 7 ≤ 9 by decide)) HI.out (recV_one false ⟨none, none, none⟩) ?_))
              go_ret
              refine ⟨?_, below_setCells (Nat.le_refl _) rec0.toList 1 HB9.out⟩
              rw [HR.out]
              refine ⟨rfl, _, rowC_setCells rec0.toList 1 HR9.out (show 1 + 7 ≤ 9 by decide), ?_⟩
              have h5 := (Gn.sets rec0.toList 1 HG9.out (.inl rfl)).owns HOW8.out (fun g hg hb => by
                have := (World.ownsRow.lt HOW8.out g hg).1
                have hb2 : g = B := hb
                omega)
              show World.ownsRow _ _ _ _ _ _ _
              rw [List.length_append, ← HN.out, rowE_app, HXS.out, rowE_one]
              exact h5
            · skip
              go_simp
              refine hK.out _ _ (SO _ (by first | exact hG8 | exact Gn.alloc (GS _ m6') _ | exact Gn.cell hG8 _ _ (.inl (.inl rfl)) | exact GS _ (by assumption) | assumption)) (fun hHeld => ?_)
              clear hK K
              try simp only [Act.put, List.setIfInBounds_toArray, List.set_cons_zero, List.set_cons_succ]
              refine wpAnyH_ready (rs := [4]) (by kernel_rfl) (by simp) ?_
              refine (AllReadyH.cons (o := { dst := some 32, op := Op.load 22 (Operand.tmp 31), type := 22, pos := "tar.go:197", after := #[{ on := 3, ground := Ground.data }], guard := none }) rfl (fun K hK => ?_) AllReadyH.nil)
              skip
              go_simp
              refine hK.out _ _ (SO _ (by first | exact hG8 | exact Gn.alloc (GS _ m6') _ | exact Gn.cell hG8 _ _ (.inl (.inl rfl)) | exact GS _ (by assumption) | assumption)) (fun hHeld => ?_)
              clear hK K
              try simp only [Act.put, List.setIfInBounds_toArray, List.set_cons_zero, List.set_cons_succ]
              refine wpAnyH_ready (rs := [8]) (by kernel_rfl) (by simp) ?_
              refine (AllReadyH.cons (o := { dst := some 36, op := Op.call { callee := Callee.builtin Builtin.append, args := #[Operand.tmp 32, Operand.tmp 35], argTypes := #[22, 22] }, type := 22, pos := "tar.go:197", after := #[{ on := 4, ground := Ground.data }, { on := 7, ground := Ground.data }, { on := 6, ground := Ground.chain }], guard := none }) rfl (fun K hK => ?_) AllReadyH.nil)
              refine step_append_lies _ (by rfl) _ _ 22 (by rfl) (B + 1) 39 i0 (.agg #[.int .i64 0, .string ⟨#[]⟩, .string ⟨#[]⟩, .int .i64 0, .string ⟨#[]⟩]) 5 64 Tryz.underlying22 hi0 hz0 hz1 hz2 (by rfl) (by decide) (.slice va N vc) N XS (by rfl) (OW _) ⟨w6'.heap.size, 0, none⟩ 1 1 [.int .i64 x.kind, .string (str x.name), .string (str x.to), .int .i64 x.mode, .string (str x.data)] (by rfl) (by rfl) (World.news_of_block (heap_alloc_new w6' _)) (entV_one x) (by decide) (by unfold maxLen; omega) (by omega) (by rw [size_alloc]; have := m6'.size; have := HS0.out; have := HBL.out; omega) _ rfl ?_
              intro g8 cap8 w8 hown8 hgrow8 hat8 hlt8
              have hG8 := SG _ _ hgrow8
              have hr8 := SZ _ _ hgrow8
              have fz8 := rowC_free hr8 8
              have cz8 := rowC_cell hr8 8
              refine hK.out _ _ (SO _ (by first | exact hG8 | exact Gn.alloc (GS _ m6') _ | exact Gn.cell hG8 _ _ (.inl (.inl rfl)) | exact GS _ (by assumption) | assumption)) (fun hHeld => ?_)
              clear hK K
              try simp only [Act.put, List.setIfInBounds_toArray, List.set_cons_zero, List.set_cons_succ]
              refine wpAnyH_take (i := 9) (oi := { dst := some 37, op := Op.nilCheck (Operand.tmp 28), type := 0, pos := "tar.go:197", after := #[{ on := 0, ground := Ground.data }, { on := 0, ground := Ground.phase }, { on := 1, ground := Ground.phase }, { on := 2, ground := Ground.phase }, { on := 3, ground := Ground.phase }, { on := 4, ground := Ground.phase }, { on := 5, ground := Ground.phase }, { on := 6, ground := Ground.phase }, { on := 7, ground := Ground.phase }, { on := 8, ground := Ground.phase }], guard := none }) (v := ?_) rfl (by kernel_rfl) (by kernel_rfl) (by kernel_rfl) (fun _ _ _ h => h) (Or.inl ⟨by rfl, ?_⟩) (by assumption) ?_
              rotate_left
              · intro w hSw
                skip
                clear hSw
                go_simp
                try with_reducible rfl
              try simp only [Act.put, List.setIfInBounds_toArray, List.set_cons_zero, List.set_cons_succ]
              refine wpAnyH_take (i := 10) (oi := { dst := some 38, op := Op.fieldAddr 50 (Operand.tmp 37) 2, type := 0, pos := "tar.go:197", after := #[{ on := 9, ground := Ground.data }, { on := 0, ground := Ground.phase }, { on := 1, ground := Ground.phase }, { on := 2, ground := Ground.phase }, { on := 3, ground := Ground.phase }, { on := 4, ground := Ground.phase }, { on := 5, ground := Ground.phase }, { on := 6, ground := Ground.phase }, { on := 7, ground := Ground.phase }, { on := 8, ground := Ground.phase }], guard := none }) (v := ?_) rfl (by kernel_rfl) (by kernel_rfl) (by kernel_rfl) (fun _ _ _ h => h) (Or.inl ⟨by rfl, ?_⟩) (by assumption) ?_
              rotate_left
              · intro w hSw
                skip
                clear hSw
                go_simp
                try with_reducible rfl
              try simp only [Act.put, List.setIfInBounds_toArray, List.set_cons_zero, List.set_cons_succ]
              refine wpAnyH_ready (rs := [11]) (by kernel_rfl) (by simp) ?_
              refine (AllReadyH.cons (o := { dst := none, op := Op.store 22 (Operand.tmp 38) (Operand.tmp 36), type := 0, pos := "tar.go:197", after := #[{ on := 10, ground := Ground.data }, { on := 8, ground := Ground.data }, { on := 8, ground := Ground.chain }, { on := 0, ground := Ground.phase }, { on := 1, ground := Ground.phase }, { on := 2, ground := Ground.phase }, { on := 3, ground := Ground.phase }, { on := 4, ground := Ground.phase }, { on := 5, ground := Ground.phase }, { on := 6, ground := Ground.phase }, { on := 7, ground := Ground.phase }, { on := 8, ground := Ground.phase }], guard := none }) rfl (fun K hK => ?_) AllReadyH.nil)
              skip
              go_simp
              refine hK.out _ _ (SO _ (by first | exact hG8 | exact Gn.alloc (GS _ m6') _ | exact Gn.cell hG8 _ _ (.inl (.inl rfl)) | exact GS _ (by assumption) | assumption)) (fun hHeld => ?_)
              clear hK K
              try simp only [Act.put]
              refine wpAnyH_done (by kernel_rfl) ?_ _
              refine NoPanic.normal ?_
              have r9 : rowC (w8.setCell ⟨B, 8, none⟩ (.slice (some ⟨g8, 0, none⟩) (N + 1) cap8)) B (rdrV rest wt (.slice (some ⟨g8, 0, none⟩) (N + 1) cap8)) 50 := rowC_set hr8 8 _
              have HR9 := Lib.hid r9
              have HG9 : Hid (Chg (isB B) w8 (w8.setCell ⟨B, 8, none⟩ (.slice (some ⟨g8, 0, none⟩) (N + 1) cap8))) := Lib.hid ((Chg.refl _ _).setCell ⟨B, 8, none⟩ _ (.inl rfl))
              have HB9 : Hid (Below B w (w8.setCell ⟨B, 8, none⟩ (.slice (some ⟨g8, 0, none⟩) (N + 1) cap8))) := Lib.hid ((HBB.out.trans (hG8.below (by have := HS0.out; have := HBL.out; omega) (fun k hk hs => by
                rcases hs with e | e
                · omega
                · have := (World.ownsRow.lt HOX.out k e).1; omega))).setCell (p := ⟨B, 8, none⟩) (Nat.le_refl _) _)
              have HOW8 := Lib.hid hown8
              clear r9 hr8 hG8 hgrow8 hat8 hlt8 hown8 fz8 cz8 SG SZ OW L2 L3 m6' hHeld
              generalize w8.setCell ⟨B, 8, none⟩ (.slice (some ⟨g8, 0, none⟩) (N + 1) cap8) = w9 at *
              go_wp2_with (first
                | ((with_reducible show wpList _ _ _ (⟨some 40, .build _ _, _, _, _, _⟩ :: _) _ _); refine wpList_build_as rfl 48 _ rfl rec0 (by kernel_rfl) ?_)
                | ((with_reducible show wpList _ _ _ (⟨none, .store _ (.tmp 42) _, _, _, _, _⟩ :: _) _ _); refine wpList_store_mid rfl 48 _ _ rfl B 1 rec0 rfl rfl (row_there HR9.out 1 7 (show 1 + 7 ≤ 9 by decide)) HI.out (recV_one false ⟨none, none, none⟩) ?_))
              go_ret
              refine ⟨?_, below_setCells (Nat.le_refl _) rec0.toList 1 HB9.out⟩
              rw [HR.out]
              refine ⟨rfl, _, rowC_setCells rec0.toList 1 HR9.out (show 1 + 7 ≤ 9 by decide), ?_⟩
              have h5 := (Gn.sets rec0.toList 1 HG9.out (.inl rfl)).owns HOW8.out (fun g hg hb => by
                have := (World.ownsRow.lt HOW8.out g hg).1
                have hb2 : g = B := hb
                omega)
              show World.ownsRow _ _ _ _ _ _ _
              rw [List.length_append, ← HN.out, rowE_app, HXS.out, rowE_one]
              exact h5
        · rw [hl] at CK
          rw [ht] at CT
          clear hl ht
          go_enter Tryz.func45, Tryz.ntmps45
          go_upto_region 1 with (fail)
          rw [← HW0.out]
          go_upto_region 10 with (first
            | (go_at_call 46; (first | (with_reducible refine (CN _).mono ?_) | (with_reducible refine (CT _).mono ?_)); rintro e w1 ⟨rfl, rfl⟩)
            | (go_at_call 47; ((with_reducible refine (CK _).mono ?_); rintro e w2 ⟨rfl, rfl⟩)))
          have OS : ∀ w', Gn W0 (ownS B (.slice va N vc)) w' → w'.rangeAt w.heap.size 0 [.int .i64 x.kind, .string (str x.name), .string (str x.to), .int .i64 x.mode, .string (str x.data)] ∧ True := fun w' hg => ⟨rowC_range (hg.row HZ0.out (fun hs => by
            rcases hs with e | e
            · have := HBL.out; omega
            · exact HBX.out e)) 0 _ (fun u hq hh => by rw [Nat.zero_add]; simpa using hh), trivial⟩
          have SO : ∀ w', Gn W0 (ownS B (.slice va N vc)) w' → Gn W0 (ownS B (.slice va N vc)) w' := fun _ h => h
          have GS : ∀ w', Gn W0 no w' → Gn W0 (ownS B (.slice va N vc)) w' := fun w' h => Chg.mono h (fun k _ hf => hf.elim)
          have ui := Tryz.underlying39
          have ii := info_ent5
          have hno : Gn W0 no W0.drew := Gn.start _ _
          have L1 : W0.drew.cell? ⟨B, 8, none⟩ = some (.slice va N vc) := rowC_cell (rowC_drew HY0.out) 8
          clear CN CT CK
          refine wp_region_noPanic ?_
          refine wp_region_held_drew (S := Gn W0 (ownS B (.slice va N vc))) (by kernel_rfl) (Gn.start _ _) (fun hHeld => ?_)
          generalize W0.drew = wd at *
          refine wpAnyH_take (i := 0) (oi := { dst := some 28, op := Op.move (Operand.tmp 0), type := 76, pos := "tar.go:197", after := #[], guard := none }) (v := ?_) rfl (by kernel_rfl) (by kernel_rfl) (by kernel_rfl) (fun _ _ _ h => h) (Or.inl ⟨by rfl, ?_⟩) (by assumption) ?_
          rotate_left
          · intro w hSw
            skip
            clear hSw
            go_simp
            try with_reducible rfl
          try simp only [Act.put, List.setIfInBounds_toArray, List.set_cons_zero, List.set_cons_succ]
          refine wpAnyH_take (i := 1) (oi := { dst := some 29, op := Op.move (Operand.tmp 0), type := 76, pos := "tar.go:197", after := #[], guard := none }) (v := ?_) rfl (by kernel_rfl) (by kernel_rfl) (by kernel_rfl) (fun _ _ _ h => h) (Or.inl ⟨by rfl, ?_⟩) (by assumption) ?_
          rotate_left
          · intro w hSw
            skip
            clear hSw
            go_simp
            try with_reducible rfl
          try simp only [Act.put, List.setIfInBounds_toArray, List.set_cons_zero, List.set_cons_succ]
          refine wpAnyH_take (i := 2) (oi := { dst := some 30, op := Op.nilCheck (Operand.tmp 29), type := 0, pos := "tar.go:197", after := #[{ on := 1, ground := Ground.data }], guard := none }) (v := ?_) rfl (by kernel_rfl) (by kernel_rfl) (by kernel_rfl) (fun _ _ _ h => h) (Or.inl ⟨by rfl, ?_⟩) (by assumption) ?_
          rotate_left
          · intro w hSw
            skip
            clear hSw
            go_simp
            try with_reducible rfl
          try simp only [Act.put, List.setIfInBounds_toArray, List.set_cons_zero, List.set_cons_succ]
          refine wpAnyH_take (i := 3) (oi := { dst := some 31, op := Op.fieldAddr 50 (Operand.tmp 30) 2, type := 0, pos := "tar.go:197", after := #[{ on := 2, ground := Ground.data }], guard := none }) (v := ?_) rfl (by kernel_rfl) (by kernel_rfl) (by kernel_rfl) (fun _ _ _ h => h) (Or.inl ⟨by rfl, ?_⟩) (by assumption) ?_
          rotate_left
          · intro w hSw
            skip
            clear hSw
            go_simp
            try with_reducible rfl
          try simp only [Act.put, List.setIfInBounds_toArray, List.set_cons_zero, List.set_cons_succ]
          refine wpAnyH_take (i := 5) (oi := { dst := some 33, op := Op.load 39 (Operand.tmp 3), type := 39, pos := "tar.go:197", after := #[], guard := none }) (v := _) rfl (by kernel_rfl) (by kernel_rfl) (by kernel_rfl) (fun _ _ _ h => h) (yieldsIf_load_mid (by rfl) _ _ rfl _ _ rfl _ _ (by intro w hSw; have hSw := OS _ hSw; go_split_ands; assumption) (by assumption) rfl (by assumption)) (by assumption) ?_
          try simp only [Act.put, List.setIfInBounds_toArray, List.set_cons_zero, List.set_cons_succ]
          refine wpAnyH_ready (rs := [4, 6]) (by kernel_rfl) (by simp) ?_
          refine (AllReadyH.cons (o := { dst := some 32, op := Op.load 22 (Operand.tmp 31), type := 22, pos := "tar.go:197", after := #[{ on := 3, ground := Ground.data }], guard := none }) rfl (fun K hK => ?_) (AllReadyH.cons (o := { dst := some 34, op := Op.call { callee := Callee.value (Operand.func 65), args := #[Operand.tmp 33], argTypes := #[39] }, type := 39, pos := "tar.go:197", after := #[{ on := 5, ground := Ground.data }], guard := none }) rfl (fun K hK => ?_) AllReadyH.nil))
          · skip
            go_simp
            refine hK.out _ _ (SO _ (by first | exact hG8 | exact Gn.alloc (GS _ m6') _ | exact Gn.cell hG8 _ _ (.inl (.inl rfl)) | exact GS _ (by assumption) | assumption)) (fun hHeld => ?_)
            clear hK K
            try simp only [Act.put, List.setIfInBounds_toArray, List.set_cons_zero, List.set_cons_succ]
            refine wpAnyH_ready (rs := [6]) (by kernel_rfl) (by simp) ?_
            refine (AllReadyH.cons (o := { dst := some 34, op := Op.call { callee := Callee.value (Operand.func 65), args := #[Operand.tmp 33], argTypes := #[39] }, type := 39, pos := "tar.go:197", after := #[{ on := 5, ground := Ground.data }], guard := none }) rfl (fun K hK => ?_) AllReadyH.nil)
            go_simp
            with_reducible refine (CC _ hno).mono ?_
            rintro e w6' ⟨rfl, m6'⟩
            have L2 : w6'.cell? ⟨B, 8, none⟩ = some (.slice va N vc) := rowC_cell (m6'.row HY0.out id) 8
            have L3 : ∀ o, (w6'.alloc o).cell? ⟨B, 8, none⟩ = some (.slice va N vc) := fun o => rowC_cell ((Gn.alloc m6' o).row HY0.out id) 8
            have OW : ∀ o, (w6'.alloc o).ownsRow (B + 1) 39 5 (.slice va N vc) N XS := fun o => (Chg.alloc m6' o).owns HOX.out (fun _ _ hf => hf)
            have SG : ∀ o w8, (w6'.alloc o).grownBy w8 (Value.slice va N vc).ownBlock → Gn W0 (ownS B (.slice va N vc)) w8 := fun o w8 hg => (Gn.alloc (GS _ m6') o).grown hg (fun k hk => .inl (.inr hk))
            have SZ : ∀ o w8, (w6'.alloc o).grownBy w8 (Value.slice va N vc).ownBlock → rowC w8 B (rdrV rest wt (.slice va N vc)) 50 := fun o w8 hg => (hg.block B (rowC_lt ((Gn.alloc m6' o).row HY0.out id)) (fun e => HFAR.out e.symm)).trans ((Gn.alloc m6' o).row HY0.out id)
            refine hK.out _ _ (SO _ (GS _ m6')) (fun hHeld => ?_)
            clear hK K
            try simp only [Act.put, List.setIfInBounds_toArray, List.set_cons_zero, List.set_cons_succ]
            refine wpAnyH_ready (rs := [7]) (by kernel_rfl) (by simp) ?_
            refine (AllReadyH.cons (o := { dst := some 35, op := Op.buildSlice 22 1 #[(0, Operand.tmp 34)], type := 22, pos := "tar.go:197", after := #[{ on := 6, ground := Ground.data }], guard := none }) rfl (fun K hK => ?_) AllReadyH.nil)
            skip
            go_simp
            refine hK.out _ _ (SO _ (by first | exact hG8 | exact Gn.alloc (GS _ m6') _ | exact Gn.cell hG8 _ _ (.inl (.inl rfl)) | exact GS _ (by assumption) | assumption)) (fun hHeld => ?_)
            clear hK K
            try simp only [Act.put, List.setIfInBounds_toArray, List.set_cons_zero, List.set_cons_succ]
            refine wpAnyH_ready (rs := [8]) (by kernel_rfl) (by simp) ?_
            refine (AllReadyH.cons (o := { dst := some 36, op := Op.call { callee := Callee.builtin Builtin.append, args := #[Operand.tmp 32, Operand.tmp 35], argTypes := #[22, 22] }, type := 22, pos := "tar.go:197", after := #[{ on := 4, ground := Ground.data }, { on := 7, ground := Ground.data }, { on := 6, ground := Ground.chain }], guard := none }) rfl (fun K hK => ?_) AllReadyH.nil)
            refine step_append_lies _ (by rfl) _ _ 22 (by rfl) (B + 1) 39 i0 (.agg #[.int .i64 0, .string ⟨#[]⟩, .string ⟨#[]⟩, .int .i64 0, .string ⟨#[]⟩]) 5 64 Tryz.underlying22 hi0 hz0 hz1 hz2 (by rfl) (by decide) (.slice va N vc) N XS (by rfl) (OW _) ⟨w6'.heap.size, 0, none⟩ 1 1 [.int .i64 x.kind, .string (str x.name), .string (str x.to), .int .i64 x.mode, .string (str x.data)] (by rfl) (by rfl) (World.news_of_block (heap_alloc_new w6' _)) (entV_one x) (by decide) (by unfold maxLen; omega) (by omega) (by rw [size_alloc]; have := m6'.size; have := HS0.out; have := HBL.out; omega) _ rfl ?_
            intro g8 cap8 w8 hown8 hgrow8 hat8 hlt8
            have hG8 := SG _ _ hgrow8
            have hr8 := SZ _ _ hgrow8
            have fz8 := rowC_free hr8 8
            have cz8 := rowC_cell hr8 8
            refine hK.out _ _ (SO _ (by first | exact hG8 | exact Gn.alloc (GS _ m6') _ | exact Gn.cell hG8 _ _ (.inl (.inl rfl)) | exact GS _ (by assumption) | assumption)) (fun hHeld => ?_)
            clear hK K
            try simp only [Act.put, List.setIfInBounds_toArray, List.set_cons_zero, List.set_cons_succ]
            refine wpAnyH_take (i := 9) (oi := { dst := some 37, op := Op.nilCheck (Operand.tmp 28), type := 0, pos := "tar.go:197", after := #[{ on := 0, ground := Ground.data }, { on := 0, ground := Ground.phase }, { on := 1, ground := Ground.phase }, { on := 2, ground := Ground.phase }, { on := 3, ground := Ground.phase }, { on := 4, ground := Ground.phase }, { on := 5, ground := Ground.phase }, { on := 6, ground := Ground.phase }, { on := 7, ground := Ground.phase }, { on := 8, ground := Ground.phase }], guard := none }) (v := ?_) rfl (by kernel_rfl) (by kernel_rfl) (by kernel_rfl) (fun _ _ _ h => h) (Or.inl ⟨by rfl, ?_⟩) (by assumption) ?_
            rotate_left
            · intro w hSw
              skip
              clear hSw
              go_simp
              try with_reducible rfl
            try simp only [Act.put, List.setIfInBounds_toArray, List.set_cons_zero, List.set_cons_succ]
            refine wpAnyH_take (i := 10) (oi := { dst := some 38, op := Op.fieldAddr 50 (Operand.tmp 37) 2, type := 0, pos := "tar.go:197", after := #[{ on := 9, ground := Ground.data }, { on := 0, ground := Ground.phase }, { on := 1, ground := Ground.phase }, { on := 2, ground := Ground.phase }, { on := 3, ground := Ground.phase }, { on := 4, ground := Ground.phase }, { on := 5, ground := Ground.phase }, { on := 6, ground := Ground.phase }, { on := 7, ground := Ground.phase }, { on := 8, ground := Ground.phase }], guard := none }) (v := ?_) rfl (by kernel_rfl) (by kernel_rfl) (by kernel_rfl) (fun _ _ _ h => h) (Or.inl ⟨by rfl, ?_⟩) (by assumption) ?_
            rotate_left
            · intro w hSw
              skip
              clear hSw
              go_simp
              try with_reducible rfl
            try simp only [Act.put, List.setIfInBounds_toArray, List.set_cons_zero, List.set_cons_succ]
            refine wpAnyH_ready (rs := [11]) (by kernel_rfl) (by simp) ?_
            refine (AllReadyH.cons (o := { dst := none, op := Op.store 22 (Operand.tmp 38) (Operand.tmp 36), type := 0, pos := "tar.go:197", after := #[{ on := 10, ground := Ground.data }, { on := 8, ground := Ground.data }, { on := 8, ground := Ground.chain }, { on := 0, ground := Ground.phase }, { on := 1, ground := Ground.phase }, { on := 2, ground := Ground.phase }, { on := 3, ground := Ground.phase }, { on := 4, ground := Ground.phase }, { on := 5, ground := Ground.phase }, { on := 6, ground := Ground.phase }, { on := 7, ground := Ground.phase }, { on := 8, ground := Ground.phase }], guard := none }) rfl (fun K hK => ?_) AllReadyH.nil)
            skip
            go_simp
            refine hK.out _ _ (SO _ (by first | exact hG8 | exact Gn.alloc (GS _ m6') _ | exact Gn.cell hG8 _ _ (.inl (.inl rfl)) | exact GS _ (by assumption) | assumption)) (fun hHeld => ?_)
            clear hK K
            try simp only [Act.put]
            refine wpAnyH_done (by kernel_rfl) ?_ _
            refine NoPanic.normal ?_
            have r9 : rowC (w8.setCell ⟨B, 8, none⟩ (.slice (some ⟨g8, 0, none⟩) (N + 1) cap8)) B (rdrV rest wt (.slice (some ⟨g8, 0, none⟩) (N + 1) cap8)) 50 := rowC_set hr8 8 _
            have HR9 := Lib.hid r9
            have HG9 : Hid (Chg (isB B) w8 (w8.setCell ⟨B, 8, none⟩ (.slice (some ⟨g8, 0, none⟩) (N + 1) cap8))) := Lib.hid ((Chg.refl _ _).setCell ⟨B, 8, none⟩ _ (.inl rfl))
            have HB9 : Hid (Below B w (w8.setCell ⟨B, 8, none⟩ (.slice (some ⟨g8, 0, none⟩) (N + 1) cap8))) := Lib.hid ((HBB.out.trans (hG8.below (by have := HS0.out; have := HBL.out; omega) (fun k hk hs => by
              rcases hs with e | e
              · omega
              · have := (World.ownsRow.lt HOX.out k e).1; omega))).setCell (p := ⟨B, 8, none⟩) (Nat.le_refl _) _)
            have HOW8 := Lib.hid hown8
            clear r9 hr8 hG8 hgrow8 hat8 hlt8 hown8 fz8 cz8 SG SZ OW L2 L3 m6' hHeld
            generalize w8.setCell ⟨B, 8, none⟩ (.slice (some ⟨g8, 0, none⟩) (N + 1) cap8) = w9 at *
            go_wp2_with (first
              | ((with_reducible show wpList _ _ _ (⟨some 40, .build _ _, _, _, _, _⟩ :: _) _ _); refine wpList_build_as rfl 48 _ rfl rec0 (by kernel_rfl) ?_)
              | ((with_reducible show wpList _ _ _ (⟨none, .store _ (.tmp 42) _, _, _, _, _⟩ :: _) _ _); refine wpList_store_mid rfl 48 _ _ rfl B 1 rec0 rfl rfl (row_there HR9.out 1 7 (show 1 + 7 ≤ 9 by decide)) HI.out (recV_one false ⟨none, none, none⟩) ?_))
            go_ret
            refine ⟨?_, below_setCells (Nat.le_refl _) rec0.toList 1 HB9.out⟩
            rw [HR.out]
            refine ⟨rfl, _, rowC_setCells rec0.toList 1 HR9.out (show 1 + 7 ≤ 9 by decide), ?_⟩
            have h5 := (Gn.sets rec0.toList 1 HG9.out (.inl rfl)).owns HOW8.out (fun g hg hb => by
              have := (World.ownsRow.lt HOW8.out g hg).1
              have hb2 : g = B := hb
              omega)
            show World.ownsRow _ _ _ _ _ _ _
            rw [List.length_append, ← HN.out, rowE_app, HXS.out, rowE_one]
            exact h5
          · go_simp
            with_reducible refine (CC _ hno).mono ?_
            rintro e w6' ⟨rfl, m6'⟩
            have L2 : w6'.cell? ⟨B, 8, none⟩ = some (.slice va N vc) := rowC_cell (m6'.row HY0.out id) 8
            have L3 : ∀ o, (w6'.alloc o).cell? ⟨B, 8, none⟩ = some (.slice va N vc) := fun o => rowC_cell ((Gn.alloc m6' o).row HY0.out id) 8
            have OW : ∀ o, (w6'.alloc o).ownsRow (B + 1) 39 5 (.slice va N vc) N XS := fun o => (Chg.alloc m6' o).owns HOX.out (fun _ _ hf => hf)
            have SG : ∀ o w8, (w6'.alloc o).grownBy w8 (Value.slice va N vc).ownBlock → Gn W0 (ownS B (.slice va N vc)) w8 := fun o w8 hg => (Gn.alloc (GS _ m6') o).grown hg (fun k hk => .inl (.inr hk))
            have SZ : ∀ o w8, (w6'.alloc o).grownBy w8 (Value.slice va N vc).ownBlock → rowC w8 B (rdrV rest wt (.slice va N vc)) 50 := fun o w8 hg => (hg.block B (rowC_lt ((Gn.alloc m6' o).row HY0.out id)) (fun e => HFAR.out e.symm)).trans ((Gn.alloc m6' o).row HY0.out id)
            refine hK.out _ _ (SO _ (GS _ m6')) (fun hHeld => ?_)
            clear hK K
            try simp only [Act.put, List.setIfInBounds_toArray, List.set_cons_zero, List.set_cons_succ]
            refine wpAnyH_ready (rs := [4, 7]) (by kernel_rfl) (by simp) ?_
            refine (AllReadyH.cons (o := { dst := some 32, op := Op.load 22 (Operand.tmp 31), type := 22, pos := "tar.go:197", after := #[{ on := 3, ground := Ground.data }], guard := none }) rfl (fun K hK => ?_) (AllReadyH.cons (o := { dst := some 35, op := Op.buildSlice 22 1 #[(0, Operand.tmp 34)], type := 22, pos := "tar.go:197", after := #[{ on := 6, ground := Ground.data }], guard := none }) rfl (fun K hK => ?_) AllReadyH.nil))
            · skip
              go_simp
              refine hK.out _ _ (SO _ (by first | exact hG8 | exact Gn.alloc (GS _ m6') _ | exact Gn.cell hG8 _ _ (.inl (.inl rfl)) | exact GS _ (by assumption) | assumption)) (fun hHeld => ?_)
              clear hK K
              try simp only [Act.put, List.setIfInBounds_toArray, List.set_cons_zero, List.set_cons_succ]
              refine wpAnyH_ready (rs := [7]) (by kernel_rfl) (by simp) ?_
              refine (AllReadyH.cons (o := { dst := some 35, op := Op.buildSlice 22 1 #[(0, Operand.tmp 34)], type := 22, pos := "tar.go:197", after := #[{ on := 6, ground := Ground.data }], guard := none }) rfl (fun K hK => ?_) AllReadyH.nil)
              skip
              go_simp
              refine hK.out _ _ (SO _ (by first | exact hG8 | exact Gn.alloc (GS _ m6') _ | exact Gn.cell hG8 _ _ (.inl (.inl rfl)) | exact GS _ (by assumption) | assumption)) (fun hHeld => ?_)
              clear hK K
              try simp only [Act.put, List.setIfInBounds_toArray, List.set_cons_zero, List.set_cons_succ]
              refine wpAnyH_ready (rs := [8]) (by kernel_rfl) (by simp) ?_
              refine (AllReadyH.cons (o := { dst := some 36, op := Op.call { callee := Callee.builtin Builtin.append, args := #[Operand.tmp 32, Operand.tmp 35], argTypes := #[22, 22] }, type := 22, pos := "tar.go:197", after := #[{ on := 4, ground := Ground.data }, { on := 7, ground := Ground.data }, { on := 6, ground := Ground.chain }], guard := none }) rfl (fun K hK => ?_) AllReadyH.nil)
              refine step_append_lies _ (by rfl) _ _ 22 (by rfl) (B + 1) 39 i0 (.agg #[.int .i64 0, .string ⟨#[]⟩, .string ⟨#[]⟩, .int .i64 0, .string ⟨#[]⟩]) 5 64 Tryz.underlying22 hi0 hz0 hz1 hz2 (by rfl) (by decide) (.slice va N vc) N XS (by rfl) (OW _) ⟨w6'.heap.size, 0, none⟩ 1 1 [.int .i64 x.kind, .string (str x.name), .string (str x.to), .int .i64 x.mode, .string (str x.data)] (by rfl) (by rfl) (World.news_of_block (heap_alloc_new w6' _)) (entV_one x) (by decide) (by unfold maxLen; omega) (by omega) (by rw [size_alloc]; have := m6'.size; have := HS0.out; have := HBL.out; omega) _ rfl ?_
              intro g8 cap8 w8 hown8 hgrow8 hat8 hlt8
              have hG8 := SG _ _ hgrow8
              have hr8 := SZ _ _ hgrow8
              have fz8 := rowC_free hr8 8
              have cz8 := rowC_cell hr8 8
              refine hK.out _ _ (SO _ (by first | exact hG8 | exact Gn.alloc (GS _ m6') _ | exact Gn.cell hG8 _ _ (.inl (.inl rfl)) | exact GS _ (by assumption) | assumption)) (fun hHeld => ?_)
              clear hK K
              try simp only [Act.put, List.setIfInBounds_toArray, List.set_cons_zero, List.set_cons_succ]
              refine wpAnyH_take (i := 9) (oi := { dst := some 37, op := Op.nilCheck (Operand.tmp 28), type := 0, pos := "tar.go:197", after := #[{ on := 0, ground := Ground.data }, { on := 0, ground := Ground.phase }, { on := 1, ground := Ground.phase }, { on := 2, ground := Ground.phase }, { on := 3, ground := Ground.phase }, { on := 4, ground := Ground.phase }, { on := 5, ground := Ground.phase }, { on := 6, ground := Ground.phase }, { on := 7, ground := Ground.phase }, { on := 8, ground := Ground.phase }], guard := none }) (v := ?_) rfl (by kernel_rfl) (by kernel_rfl) (by kernel_rfl) (fun _ _ _ h => h) (Or.inl ⟨by rfl, ?_⟩) (by assumption) ?_
              rotate_left
              · intro w hSw
                skip
                clear hSw
                go_simp
                try with_reducible rfl
              try simp only [Act.put, List.setIfInBounds_toArray, List.set_cons_zero, List.set_cons_succ]
              refine wpAnyH_take (i := 10) (oi := { dst := some 38, op := Op.fieldAddr 50 (Operand.tmp 37) 2, type := 0, pos := "tar.go:197", after := #[{ on := 9, ground := Ground.data }, { on := 0, ground := Ground.phase }, { on := 1, ground := Ground.phase }, { on := 2, ground := Ground.phase }, { on := 3, ground := Ground.phase }, { on := 4, ground := Ground.phase }, { on := 5, ground := Ground.phase }, { on := 6, ground := Ground.phase }, { on := 7, ground := Ground.phase }, { on := 8, ground := Ground.phase }], guard := none }) (v := ?_) rfl (by kernel_rfl) (by kernel_rfl) (by kernel_rfl) (fun _ _ _ h => h) (Or.inl ⟨by rfl, ?_⟩) (by assumption) ?_
              rotate_left
              · intro w hSw
                skip
                clear hSw
                go_simp
                try with_reducible rfl
              try simp only [Act.put, List.setIfInBounds_toArray, List.set_cons_zero, List.set_cons_succ]
              refine wpAnyH_ready (rs := [11]) (by kernel_rfl) (by simp) ?_
              refine (AllReadyH.cons (o := { dst := none, op := Op.store 22 (Operand.tmp 38) (Operand.tmp 36), type := 0, pos := "tar.go:197", after := #[{ on := 10, ground := Ground.data }, { on := 8, ground := Ground.data }, { on := 8, ground := Ground.chain }, { on := 0, ground := Ground.phase }, { on := 1, ground := Ground.phase }, { on := 2, ground := Ground.phase }, { on := 3, ground := Ground.phase }, { on := 4, ground := Ground.phase }, { on := 5, ground := Ground.phase }, { on := 6, ground := Ground.phase }, { on := 7, ground := Ground.phase }, { on := 8, ground := Ground.phase }], guard := none }) rfl (fun K hK => ?_) AllReadyH.nil)
              skip
              go_simp
              refine hK.out _ _ (SO _ (by first | exact hG8 | exact Gn.alloc (GS _ m6') _ | exact Gn.cell hG8 _ _ (.inl (.inl rfl)) | exact GS _ (by assumption) | assumption)) (fun hHeld => ?_)
              clear hK K
              try simp only [Act.put]
              refine wpAnyH_done (by kernel_rfl) ?_ _
              refine NoPanic.normal ?_
              have r9 : rowC (w8.setCell ⟨B, 8, none⟩ (.slice (some ⟨g8, 0, none⟩) (N + 1) cap8)) B (rdrV rest wt (.slice (some ⟨g8, 0, none⟩) (N + 1) cap8)) 50 := rowC_set hr8 8 _
              have HR9 := Lib.hid r9
              have HG9 : Hid (Chg (isB B) w8 (w8.setCell ⟨B, 8, none⟩ (.slice (some ⟨g8, 0, none⟩) (N + 1) cap8))) := Lib.hid ((Chg.refl _ _).setCell ⟨B, 8, none⟩ _ (.inl rfl))
              have HB9 : Hid (Below B w (w8.setCell ⟨B, 8, none⟩ (.slice (some ⟨g8, 0, none⟩) (N + 1) cap8))) := Lib.hid ((HBB.out.trans (hG8.below (by have := HS0.out; have := HBL.out; omega) (fun k hk hs => by
                rcases hs with e | e
                · omega
                · have := (World.ownsRow.lt HOX.out k e).1; omega))).setCell (p := ⟨B, 8, none⟩) (Nat.le_refl _) _)
              have HOW8 := Lib.hid hown8
              clear r9 hr8 hG8 hgrow8 hat8 hlt8 hown8 fz8 cz8 SG SZ OW L2 L3 m6' hHeld
              generalize w8.setCell ⟨B, 8, none⟩ (.slice (some ⟨g8, 0, none⟩) (N + 1) cap8) = w9 at *
              go_wp2_with (first
                | ((with_reducible show wpList _ _ _ (⟨some 40, .build _ _, _, _, _, _⟩ :: _) _ _); refine wpList_build_as rfl 48 _ rfl rec0 (by kernel_rfl) ?_)
                | ((with_reducible show wpList _ _ _ (⟨none, .store _ (.tmp 42) _, _, _, _, _⟩ :: _) _ _); refine wpList_store_mid rfl 48 _ _ rfl B 1 rec0 rfl rfl (row_there HR9.out 1 7 (show 1 + 7 ≤ 9 by decide)) HI.out (recV_one false ⟨none, none, none⟩) ?_))
              go_ret
              refine ⟨?_, below_setCells (Nat.le_refl _) rec0.toList 1 HB9.out⟩
              rw [HR.out]
              refine ⟨rfl, _, rowC_setCells rec0.toList 1 HR9.out (show 1 + 7 ≤ 9 by decide), ?_⟩
              have h5 := (Gn.sets rec0.toList 1 HG9.out (.inl rfl)).owns HOW8.out (fun g hg hb => by
                have := (World.ownsRow.lt HOW8.out g hg).1
                have hb2 : g = B := hb
                omega)
              show World.ownsRow _ _ _ _ _ _ _
              rw [List.length_append, ← HN.out, rowE_app, HXS.out, rowE_one]
              exact h5
            · skip
              go_simp
              refine hK.out _ _ (SO _ (by first | exact hG8 | exact Gn.alloc (GS _ m6') _ | exact Gn.cell hG8 _ _ (.inl (.inl rfl)) | exact GS _ (by assumption) | assumption)) (fun hHeld => ?_)
              clear hK K
              try simp only [Act.put, List.setIfInBounds_toArray, List.set_cons_zero, List.set_cons_succ]
              refine wpAnyH_ready (rs := [4]) (by kernel_rfl) (by simp) ?_
              refine (AllReadyH.cons (o := { dst := some 32, op := Op.load 22 (Operand.tmp 31), type := 22, pos := "tar.go:197", after := #[{ on := 3, ground := Ground.data }], guard := none }) rfl (fun K hK => ?_) AllReadyH.nil)
              skip
              go_simp
              refine hK.out _ _ (SO _ (by first | exact hG8 | exact Gn.alloc (GS _ m6') _ | exact Gn.cell hG8 _ _ (.inl (.inl rfl)) | exact GS _ (by assumption) | assumption)) (fun hHeld => ?_)
              clear hK K
              try simp only [Act.put, List.setIfInBounds_toArray, List.set_cons_zero, List.set_cons_succ]
              refine wpAnyH_ready (rs := [8]) (by kernel_rfl) (by simp) ?_
              refine (AllReadyH.cons (o := { dst := some 36, op := Op.call { callee := Callee.builtin Builtin.append, args := #[Operand.tmp 32, Operand.tmp 35], argTypes := #[22, 22] }, type := 22, pos := "tar.go:197", after := #[{ on := 4, ground := Ground.data }, { on := 7, ground := Ground.data }, { on := 6, ground := Ground.chain }], guard := none }) rfl (fun K hK => ?_) AllReadyH.nil)
              refine step_append_lies _ (by rfl) _ _ 22 (by rfl) (B + 1) 39 i0 (.agg #[.int .i64 0, .string ⟨#[]⟩, .string ⟨#[]⟩, .int .i64 0, .string ⟨#[]⟩]) 5 64 Tryz.underlying22 hi0 hz0 hz1 hz2 (by rfl) (by decide) (.slice va N vc) N XS (by rfl) (OW _) ⟨w6'.heap.size, 0, none⟩ 1 1 [.int .i64 x.kind, .string (str x.name), .string (str x.to), .int .i64 x.mode, .string (str x.data)] (by rfl) (by rfl) (World.news_of_block (heap_alloc_new w6' _)) (entV_one x) (by decide) (by unfold maxLen; omega) (by omega) (by rw [size_alloc]; have := m6'.size; have := HS0.out; have := HBL.out; omega) _ rfl ?_
              intro g8 cap8 w8 hown8 hgrow8 hat8 hlt8
              have hG8 := SG _ _ hgrow8
              have hr8 := SZ _ _ hgrow8
              have fz8 := rowC_free hr8 8
              have cz8 := rowC_cell hr8 8
              refine hK.out _ _ (SO _ (by first | exact hG8 | exact Gn.alloc (GS _ m6') _ | exact Gn.cell hG8 _ _ (.inl (.inl rfl)) | exact GS _ (by assumption) | assumption)) (fun hHeld => ?_)
              clear hK K
              try simp only [Act.put, List.setIfInBounds_toArray, List.set_cons_zero, List.set_cons_succ]
              refine wpAnyH_take (i := 9) (oi := { dst := some 37, op := Op.nilCheck (Operand.tmp 28), type := 0, pos := "tar.go:197", after := #[{ on := 0, ground := Ground.data }, { on := 0, ground := Ground.phase }, { on := 1, ground := Ground.phase }, { on := 2, ground := Ground.phase }, { on := 3, ground := Ground.phase }, { on := 4, ground := Ground.phase }, { on := 5, ground := Ground.phase }, { on := 6, ground := Ground.phase }, { on := 7, ground := Ground.phase }, { on := 8, ground := Ground.phase }], guard := none }) (v := ?_) rfl (by kernel_rfl) (by kernel_rfl) (by kernel_rfl) (fun _ _ _ h => h) (Or.inl ⟨by rfl, ?_⟩) (by assumption) ?_
              rotate_left
              · intro w hSw
                skip
                clear hSw
                go_simp
                try with_reducible rfl
              try simp only [Act.put, List.setIfInBounds_toArray, List.set_cons_zero, List.set_cons_succ]
              refine wpAnyH_take (i := 10) (oi := { dst := some 38, op := Op.fieldAddr 50 (Operand.tmp 37) 2, type := 0, pos := "tar.go:197", after := #[{ on := 9, ground := Ground.data }, { on := 0, ground := Ground.phase }, { on := 1, ground := Ground.phase }, { on := 2, ground := Ground.phase }, { on := 3, ground := Ground.phase }, { on := 4, ground := Ground.phase }, { on := 5, ground := Ground.phase }, { on := 6, ground := Ground.phase }, { on := 7, ground := Ground.phase }, { on := 8, ground := Ground.phase }], guard := none }) (v := ?_) rfl (by kernel_rfl) (by kernel_rfl) (by kernel_rfl) (fun _ _ _ h => h) (Or.inl ⟨by rfl, ?_⟩) (by assumption) ?_
              rotate_left
              · intro w hSw
                skip
                clear hSw
                go_simp
                try with_reducible rfl
              try simp only [Act.put, List.setIfInBounds_toArray, List.set_cons_zero, List.set_cons_succ]
              refine wpAnyH_ready (rs := [11]) (by kernel_rfl) (by simp) ?_
              refine (AllReadyH.cons (o := { dst := none, op := Op.store 22 (Operand.tmp 38) (Operand.tmp 36), type := 0, pos := "tar.go:197", after := #[{ on := 10, ground := Ground.data }, { on := 8, ground := Ground.data }, { on := 8, ground := Ground.chain }, { on := 0, ground := Ground.phase }, { on := 1, ground := Ground.phase }, { on := 2, ground := Ground.phase }, { on := 3, ground := Ground.phase }, { on := 4, ground := Ground.phase }, { on := 5, ground := Ground.phase }, { on := 6, ground := Ground.phase }, { on := 7, ground := Ground.phase }, { on := 8, ground := Ground.phase }], guard := none }) rfl (fun K hK => ?_) AllReadyH.nil)
              skip
              go_simp
              refine hK.out _ _ (SO _ (by first | exact hG8 | exact Gn.alloc (GS _ m6') _ | exact Gn.cell hG8 _ _ (.inl (.inl rfl)) | exact GS _ (by assumption) | assumption)) (fun hHeld => ?_)
              clear hK K
              try simp only [Act.put]
              refine wpAnyH_done (by kernel_rfl) ?_ _
              refine NoPanic.normal ?_
              have r9 : rowC (w8.setCell ⟨B, 8, none⟩ (.slice (some ⟨g8, 0, none⟩) (N + 1) cap8)) B (rdrV rest wt (.slice (some ⟨g8, 0, none⟩) (N + 1) cap8)) 50 := rowC_set hr8 8 _
              have HR9 := Lib.hid r9
              have HG9 : Hid (Chg (isB B) w8 (w8.setCell ⟨B, 8, none⟩ (.slice (some ⟨g8, 0, none⟩) (N + 1) cap8))) := Lib.hid ((Chg.refl _ _).setCell ⟨B, 8, none⟩ _ (.inl rfl))
              have HB9 : Hid (Below B w (w8.setCell ⟨B, 8, none⟩ (.slice (some ⟨g8, 0, none⟩) (N + 1) cap8))) := Lib.hid ((HBB.out.trans (hG8.below (by have := HS0.out; have := HBL.out; omega) (fun k hk hs => by
                rcases hs with e | e
                · omega
                · have := (World.ownsRow.lt HOX.out k e).1; omega))).setCell (p := ⟨B, 8, none⟩) (Nat.le_refl _) _)
              have HOW8 := Lib.hid hown8
              clear r9 hr8 hG8 hgrow8 hat8 hlt8 hown8 fz8 cz8 SG SZ OW L2 L3 m6' hHeld
              generalize w8.setCell ⟨B, 8, none⟩ (.slice (some ⟨g8, 0, none⟩) (N + 1) cap8) = w9 at *
              go_wp2_with (first
                | ((with_reducible show wpList _ _ _ (⟨some 40, .build _ _, _, _, _, _⟩ :: _) _ _); refine wpList_build_as rfl 48 _ rfl rec0 (by kernel_rfl) ?_)
                | ((with_reducible show wpList _ _ _ (⟨none, .store _ (.tmp 42) _, _, _, _, _⟩ :: _) _ _); refine wpList_store_mid rfl 48 _ _ rfl B 1 rec0 rfl rfl (row_there HR9.out 1 7 (show 1 + 7 ≤ 9 by decide)) HI.out (recV_one false ⟨none, none, none⟩) ?_))
              go_ret
              refine ⟨?_, below_setCells (Nat.le_refl _) rec0.toList 1 HB9.out⟩
              rw [HR.out]
              refine ⟨rfl, _, rowC_setCells rec0.toList 1 HR9.out (show 1 + 7 ≤ 9 by decide), ?_⟩
              have h5 := (Gn.sets rec0.toList 1 HG9.out (.inl rfl)).owns HOW8.out (fun g hg hb => by
                have := (World.ownsRow.lt HOW8.out g hg).1
                have hb2 : g = B := hb
                omega)
              show World.ownsRow _ _ _ _ _ _ _
              rw [List.length_append, ← HN.out, rowE_app, HXS.out, rowE_one]
              exact h5
  · have HR := Lib.hid (show addR x rest out = .inl (textE x.name) by rw [HE.out, if_pos h1])
    have HC := Lib.hid h1
    have q : (((textE x.name : Nat) : Int) == 0) = false := by rw [beq_eq_false_iff_ne]; omega
    clear HE hN
    generalize textE x.name = c at *
    go_enter Tryz.func45, Tryz.ntmps45
    go_upto_region 1 with (fail)
    rw [← HW0.out]
    go_wp2_with (go_at_call 46; ((with_reducible refine (CN _).mono ?_); rintro e w1 ⟨rfl, rfl⟩))
    go_ret
    exact ⟨says_bad HR.out HC.out, HBB.out⟩
end Go.Proofs.YtmgpofdmoaafoaaGreatDoor
