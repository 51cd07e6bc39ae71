/- Merged: TtF, TtG. -/
import Derived.Test.YtoallfcpnbhhiaaGreatDoorM14
import Derived.Test.YtoallfcpnbhhiaaGreatDoorM07
import Derived.Maps.OwnSet
import Derived.Maps.Ext
import Derived.Maps.RangeWalk
import Derived.Lib.SlMapFilter
/- Layer 16: the program's Check. -/
namespace Go.Proofs.YtoallfcpnbhhiaaGreatDoor
open Go.RowKit

theorem take_follow {l : List Nd} {k : Nat} {x : Nd} (h : ∀ j y, j < k → l[j]? = some y → mayN y = true ∧ followN (l.take j) y.path = true) (hx : l[k]? = some x) (h2 : mayN x = true) (h3 : followN (l.take k) x.path = true) :
    ∀ j y, j < k + 1 → l[j]? = some y → mayN y = true ∧ followN (l.take j) y.path = true := fun j y hj hy => by
  by_cases e : j = k
  · subst e
    rw [hx] at hy
    cases hy
    exact ⟨h2, h3⟩
  · exact h j y (by omega) hy
set_option maxRecDepth 100000 in
set_option maxHeartbeats 16000000 in
theorem check_any (l : List Nd) (ad : Option Addr) (c : Nat) (hl : l.length ≤ maxLen) (hlc : l.length ≤ c) (hp : ∀ x ∈ l, x.path.length ≤ 900000) (w : World) (h : NodesAt w ad l) :
    Calls Tryz.prog 12 #[.slice ad l.length c] w fun e w' => e = .returned (.int .i64 (checkT l)) ∧ Below w.heap.size w w' := by
  have HI := Lib.hid info_nd4
  have HC : Hid (checkT l = if 400 < l.length then 63 else if treeB l then 0 else 2) := Lib.hid rfl
  have HN := Lib.hid h
  have HP := Lib.hid hp
  have HB := Lib.hid (Below.refl w.heap.size w)
  have HTI := Lib.hid (treeB_iff l)
  have HLEN := Lib.hid (rfl : l.length = l.length)
  unfold maxLen at hl
  have HG : Hid (∀ i, i < l.length → ∃ x, l[i]? = some x) := Lib.hid fun i hi => ⟨_, List.getElem?_eq_getElem hi⟩
  have HLT : Hid (∀ (k : Nat) (x : Nd), l[k]? = some x → k < l.length) := Lib.hid fun k x hx => (List.getElem?_eq_some_iff.1 hx).1
  have HTL : Hid (∀ k, k ≤ l.length → (l.take k).length = k) := Lib.hid fun k hk => by rw [List.length_take]; omega
  obtain ⟨N, hN⟩ : ∃ N, N = l.length := ⟨_, rfl⟩
  rw [← hN] at hl HC HG HLT HTL hlc ⊢
  clear h hp hN HLEN
  by_cases h4 : 400 < N
  · have HR := Lib.hid (HC.out.trans (if_pos h4))
    have g : ¬ (N : Int) ≤ 400 := by omega
    clear HC
    go_enter Tryz.func12, Tryz.ntmps12
    go_wp2
    go_ret
    exact ⟨by rw [HR.out]; rfl, HB.out⟩
  have HC2 : Hid (checkT l = if treeB l then 0 else 2) := Lib.hid (HC.out.trans (if_neg h4))
  have g4 : (N : Int) ≤ 400 := by omega
  clear HC
  go_enter Tryz.func12, Tryz.ntmps12
  go_upto_region 4 with (fail)
  go_loopw [3, 4, 10] (fun _ _ i wr => ∃ k : Nat, k ≤ N ∧ i = .int .i64 k ∧ Hid (∀ j y, j < k → l[j]? = some y → mayN y = true ∧ followN (l.take j) y.path = true) ∧ Hid (Below w.heap.size w wr)) (fun _ _ i _ => N - (intOf i).toNat)
  case atStart => exact ⟨0, Nat.zero_le _, rfl, Lib.hid (fun j y hj => by omega), Lib.hid (Below.refl _ _)⟩
  case round =>
    obtain ⟨k, hk, rfl, hok, hBr⟩ := hrel
    by_cases hlt : k < N
    · obtain ⟨x, hx⟩ := HG.out k hlt
      have HX := Lib.hid hx
      obtain ⟨ax, rfl, hax, hcx⟩ := HN.out k x hx
      have HCX : Hid (∀ W, Below w.heap.size w W → ∀ j u, (ndV x)[j]? = some u → W.cell? ((ax.add (k * 4)).add j) = some u) := Lib.hid fun W hb j u hu => by
        rw [cell_far hb (by rw [add_blk, add_blk]; exact hax)]
        exact hcx j u hu
      have HONE := Lib.hid (ndA_one x)
      have g1 : (k : Int) < (N : Int) := by omega
      have g2 : (k : Int) ≤ (N : Int) := by omega
      have g3 : (0 : Int) ≤ (k : Int) := by omega
      have g5 : (k : Int) ≤ (c : Int) := by omega
      have HXL := Lib.hid (HP.out x (List.mem_of_getElem? hx))
      obtain ⟨W1, hW1⟩ : ∃ W1, W1 = wr.alloc (.cells (ndA x) 32) := ⟨_, rfl⟩
      have HW1 := Lib.hid hW1
      have HB1 : Hid (Below w.heap.size w W1) := Lib.hid (by rw [hW1]; exact hBr.out.alloc hBr.out.size _)
      have HZ1 : Hid (rowC W1 wr.heap.size (ndA x) 32) := Lib.hid (by rw [hW1]; exact rowC_new wr _ _)
      have HNO := Lib.hid (treeB_not hx)
      have HTF : Hid (mayN x = true → followN (l.take k) x.path = true → ∀ j y, j < k + 1 → l[j]? = some y → mayN y = true ∧ followN (l.take j) y.path = true) := Lib.hid fun h1 h2 => take_follow hok.out hx h1 h2
      have HRS := Lib.hid (rise_take (l := l) (k := k) fun j y hj hy => (hok.out j y hj hy).2)
      have hxN := HTL.out k hk
      clear hW1 hx hcx
      go_upto_region 6 with (first
        | ((with_reducible show wpList _ _ _ (⟨some 14, .load _ _, _, _, _, _⟩ :: _) _ _); refine wpList_load_at rfl 32 _ rfl (ax.add (k * 4)) rfl (ndV x) _ (HCX.out wr hBr.out) Tryz.underlying32 rfl HI.out ?_)
        | ((with_reducible show wpList _ _ _ (⟨none, .store _ (.tmp 4) _, _, _, _, _⟩ :: _) _ _); refine wpList_store_last rfl 32 _ _ rfl wr.heap.size (ndA x) rfl rfl 32 _ rfl HI.out rfl HONE.out ?_))
      rw [← HW1.out]
      try simp only [Act.put]
      have CM : Hid (∀ w', Gn W1 no w' → Calls Tryz.prog 29 #[.agg #[.string (str x.path), .int .i64 x.kind, .int .i64 x.mode, .string (str x.data)]] w' fun e w'' => e = .returned (.bool (mayN x)) ∧ Gn W1 no w'') := Lib.hid fun w' hg => (mayN_any x HXL.out w').mono fun _ _ ⟨h1, h2⟩ => ⟨h1, hg.call h2⟩
      have CF : Hid (∀ w', Gn W1 no w' → Calls Tryz.prog 30 #[.slice (some ax) k c, .string (str x.path)] w' fun e w'' => e = .returned (.bool (followN (l.take k) x.path)) ∧ Gn W1 no w'') := Lib.hid fun w' hg => by
        have hb : Below w.heap.size w w' := HB1.out.trans (hg.below HB1.out.size (fun _ _ => id))
        have := follow_any (l.take k) x.path (some ax) c (by rw [hxN]; omega) (by have := HXL.out; omega) HRS.out w' ((HN.out.take k).far hb (Nat.le_refl _))
        rw [hxN] at this
        exact this.mono fun _ _ ⟨h1, h2⟩ => ⟨h1, hg.call h2⟩
      have OS : ∀ w', Gn W1 no w' → w'.rangeAt wr.heap.size 0 (ndV x) ∧ w'.cell? ⟨wr.heap.size, 0, none⟩ = some (.string (str x.path)) := fun w' hg =>
        ⟨rowC_range (hg.row HZ1.out id) 0 _ (fun j u hj => by rw [Nat.zero_add, ← ndV_arr, List.getElem?_toArray]; exact hj), rowC_cell (hg.row HZ1.out id) 0⟩
      have SO : ∀ w', Gn W1 no w' → Gn W1 no w' := fun _ h => h
      have HEND : Hid (∀ w', Gn W1 no w' → Below w.heap.size w w') := Lib.hid fun w' hg => HB1.out.trans (hg.below HB1.out.size (fun _ _ => id))
      clear hxN HTL
      have ui := Tryz.underlying32
      have ii := info_nd4
      refine wp_region_noPanic ?_
      refine wp_region_held_drew (S := Gn W1 no) (by kernel_rfl) (Gn.start _ _) (fun hHeld => ?_)
      generalize W1.drew = wd at *
      cases hmay : mayN x with
      | false =>
        have HR := Lib.hid (HC2.out.trans (if_neg (by rw [HNO.out (by rw [hmay]; rfl)]; decide)))
        rw [hmay] at CM
        clear HNO HTF HC2 HTI
        refine wpAnyH_take (i := 0) (oi := { dst := some 15, op := Op.load 32 (Operand.tmp 4), type := 32, pos := "trees.go:65", after := #[], guard := none }) (v := _) rfl (by kernel_rfl) (by kernel_rfl) (by kernel_rfl) (fun _ _ _ h => h) (yieldsIf_load_mid (by rfl) _ _ rfl _ _ rfl _ _ (by intro w hSw; have hSw := OS _ hSw; go_split_ands; assumption) (by assumption) rfl (by assumption)) (by assumption) ?_
        try simp only [Act.put, List.setIfInBounds_toArray, List.set_cons_zero, List.set_cons_succ]
        refine wpAnyH_ready (rs := [1]) (by kernel_rfl) (by simp) ?_
        refine (AllReadyH.cons (o := { dst := some 16, op := Op.call { callee := Callee.value (Operand.func 29), args := #[Operand.tmp 15], argTypes := #[32] }, type := 4, pos := "trees.go:65", after := #[{ on := 0, ground := Ground.data }], guard := none }) rfl (fun K hK => ?_) AllReadyH.nil)
        go_simp
        refine (CM.out _ (by assumption)).mono ?_
        rintro e w1' ⟨rfl, m1'⟩
        refine hK.out _ _ (SO _ (by assumption)) (fun hHeld => ?_)
        clear hK K
        try simp only [Act.put, List.setIfInBounds_toArray, List.set_cons_zero, List.set_cons_succ]
        refine wpAnyH_take (i := 2) (oi := { dst := some 17, op := Op.unOp UnOp.not 4 (Operand.tmp 16), type := 4, pos := "trees.go:65", after := #[{ on := 1, ground := Ground.data }], guard := none }) (v := ?_) rfl (by kernel_rfl) (by kernel_rfl) (by kernel_rfl) (fun _ _ _ h => h) (Or.inl ⟨by rfl, ?_⟩) (by assumption) ?_
        rotate_left
        · intro w hSw
          skip
          clear hSw
          go_simp
          try with_reducible rfl
        try simp only [Act.put, List.setIfInBounds_toArray, List.set_cons_zero, List.set_cons_succ]
        refine wpAnyH_take (i := 3) (oi := { dst := some 18, op := Op.move (Operand.tmp 17), type := 4, pos := "trees.go:65", after := #[{ on := 2, ground := Ground.data }, { on := 1, ground := Ground.chain }], guard := none }) (v := ?_) rfl (by kernel_rfl) (by kernel_rfl) (by kernel_rfl) (fun _ _ _ h => h) (Or.inl ⟨by rfl, ?_⟩) (by assumption) ?_
        rotate_left
        · intro w hSw
          skip
          clear hSw
          go_simp
          try with_reducible rfl
        try simp only [Act.put, List.setIfInBounds_toArray, List.set_cons_zero, List.set_cons_succ]
        refine wpAnyH_take (i := 4) (oi := { dst := some 19, op := Op.move (Operand.tmp 0), type := 22, pos := "trees.go:65", after := #[{ on := 3, ground := Ground.guard }], guard := some (3, false) }) (v := undef) rfl (by kernel_rfl) (by kernel_rfl) (by kernel_rfl) (fun _ _ _ h => h) (Or.inr ⟨by rfl, rfl⟩) (by assumption) ?_
        try simp only [Act.put, List.setIfInBounds_toArray, List.set_cons_zero, List.set_cons_succ]
        refine wpAnyH_take (i := 5) (oi := { dst := some 20, op := Op.move (Operand.tmp 3), type := 3, pos := "trees.go:65", after := #[{ on := 3, ground := Ground.guard }], guard := some (3, false) }) (v := undef) rfl (by kernel_rfl) (by kernel_rfl) (by kernel_rfl) (fun _ _ _ h => h) (Or.inr ⟨by rfl, rfl⟩) (by assumption) ?_
        try simp only [Act.put, List.setIfInBounds_toArray, List.set_cons_zero, List.set_cons_succ]
        refine wpAnyH_take (i := 6) (oi := { dst := some 21, op := Op.slice 22 (Operand.tmp 19) none (some (Operand.tmp 20)) none, type := 22, pos := "trees.go:65", after := #[{ on := 4, ground := Ground.data }, { on := 5, ground := Ground.data }, { on := 3, ground := Ground.guard }], guard := some (3, false) }) (v := undef) rfl (by kernel_rfl) (by kernel_rfl) (by kernel_rfl) (fun _ _ _ h => h) (Or.inr ⟨by rfl, rfl⟩) (by assumption) ?_
        try simp only [Act.put, List.setIfInBounds_toArray, List.set_cons_zero, List.set_cons_succ]
        refine wpAnyH_take (i := 7) (oi := { dst := some 22, op := Op.fieldAddr 32 (Operand.tmp 4) 0, type := 0, pos := "trees.go:65", after := #[{ on := 3, ground := Ground.guard }], guard := some (3, false) }) (v := undef) rfl (by kernel_rfl) (by kernel_rfl) (by kernel_rfl) (fun _ _ _ h => h) (Or.inr ⟨by rfl, rfl⟩) (by assumption) ?_
        try simp only [Act.put, List.setIfInBounds_toArray, List.set_cons_zero, List.set_cons_succ]
        refine wpAnyH_take (i := 8) (oi := { dst := some 23, op := Op.load 9 (Operand.tmp 22), type := 9, pos := "trees.go:65", after := #[{ on := 7, ground := Ground.data }, { on := 3, ground := Ground.guard }], guard := some (3, false) }) (v := undef) rfl (by kernel_rfl) (by kernel_rfl) (by kernel_rfl) (fun _ _ _ h => h) (Or.inr ⟨by rfl, rfl⟩) (by assumption) ?_
        try simp only [Act.put, List.setIfInBounds_toArray, List.set_cons_zero, List.set_cons_succ]
        refine wpAnyH_take (i := 9) (oi := { dst := some 24, op := Op.call { callee := Callee.value (Operand.func 30), args := #[Operand.tmp 21, Operand.tmp 23], argTypes := #[22, 9] }, type := 4, pos := "trees.go:65", after := #[{ on := 6, ground := Ground.data }, { on := 8, ground := Ground.data }, { on := 3, ground := Ground.chain }, { on := 3, ground := Ground.guard }], guard := some (3, false) }) (v := undef) rfl (by kernel_rfl) (by kernel_rfl) (by kernel_rfl) (fun _ _ _ h => h) (Or.inr ⟨by rfl, rfl⟩) (by assumption) ?_
        try simp only [Act.put, List.setIfInBounds_toArray, List.set_cons_zero, List.set_cons_succ]
        refine wpAnyH_take (i := 10) (oi := { dst := some 25, op := Op.unOp UnOp.not 4 (Operand.tmp 24), type := 4, pos := "trees.go:65", after := #[{ on := 9, ground := Ground.data }, { on := 3, ground := Ground.guard }], guard := some (3, false) }) (v := undef) rfl (by kernel_rfl) (by kernel_rfl) (by kernel_rfl) (fun _ _ _ h => h) (Or.inr ⟨by rfl, rfl⟩) (by assumption) ?_
        try simp only [Act.put, List.setIfInBounds_toArray, List.set_cons_zero, List.set_cons_succ]
        refine wpAnyH_take (i := 11) (oi := { dst := some 26, op := Op.pick (Operand.tmp 18) (Operand.const (Value.bool true)) (Operand.tmp 25), type := 4, pos := "trees.go:65", after := #[{ on := 3, ground := Ground.data }, { on := 10, ground := Ground.data }], guard := none }) (v := ?_) rfl (by kernel_rfl) (by kernel_rfl) (by kernel_rfl) (fun _ _ _ h => h) (Or.inl ⟨by rfl, ?_⟩) (by assumption) ?_
        rotate_left
        · intro w hSw
          skip
          clear hSw
          go_simp
          try with_reducible rfl
        try simp only [Act.put, List.setIfInBounds_toArray, List.set_cons_zero, List.set_cons_succ]
        refine wpAnyH_done (by kernel_rfl) ?_ _
        refine NoPanic.normal ?_
        go_wp2
        go_ret
        exact ⟨by rw [HR.out]; rfl, HEND.out _ (by assumption)⟩
      | true =>
        rw [hmay] at CM
        cases hfol : followN (l.take k) x.path with
        | false =>
          have HR := Lib.hid (HC2.out.trans (if_neg (by rw [HNO.out (by rw [hmay, hfol]; rfl)]; decide)))
          rw [hfol] at CF
          clear HNO HTF HC2 HTI
          refine wpAnyH_take (i := 0) (oi := { dst := some 15, op := Op.load 32 (Operand.tmp 4), type := 32, pos := "trees.go:65", after := #[], guard := none }) (v := _) rfl (by kernel_rfl) (by kernel_rfl) (by kernel_rfl) (fun _ _ _ h => h) (yieldsIf_load_mid (by rfl) _ _ rfl _ _ rfl _ _ (by intro w hSw; have hSw := OS _ hSw; go_split_ands; assumption) (by assumption) rfl (by assumption)) (by assumption) ?_
          try simp only [Act.put, List.setIfInBounds_toArray, List.set_cons_zero, List.set_cons_succ]
          refine wpAnyH_ready (rs := [1]) (by kernel_rfl) (by simp) ?_
          refine (AllReadyH.cons (o := { dst := some 16, op := Op.call { callee := Callee.value (Operand.func 29), args := #[Operand.tmp 15], argTypes := #[32] }, type := 4, pos := "trees.go:65", after := #[{ on := 0, ground := Ground.data }], guard := none }) rfl (fun K hK => ?_) AllReadyH.nil)
          go_simp
          refine (CM.out _ (by assumption)).mono ?_
          rintro e w1' ⟨rfl, m1'⟩
          refine hK.out _ _ (SO _ (by assumption)) (fun hHeld => ?_)
          clear hK K
          try simp only [Act.put, List.setIfInBounds_toArray, List.set_cons_zero, List.set_cons_succ]
          refine wpAnyH_take (i := 2) (oi := { dst := some 17, op := Op.unOp UnOp.not 4 (Operand.tmp 16), type := 4, pos := "trees.go:65", after := #[{ on := 1, ground := Ground.data }], guard := none }) (v := ?_) rfl (by kernel_rfl) (by kernel_rfl) (by kernel_rfl) (fun _ _ _ h => h) (Or.inl ⟨by rfl, ?_⟩) (by assumption) ?_
          rotate_left
          · intro w hSw
            skip
            clear hSw
            go_simp
            try with_reducible rfl
          try simp only [Act.put, List.setIfInBounds_toArray, List.set_cons_zero, List.set_cons_succ]
          refine wpAnyH_take (i := 3) (oi := { dst := some 18, op := Op.move (Operand.tmp 17), type := 4, pos := "trees.go:65", after := #[{ on := 2, ground := Ground.data }, { on := 1, ground := Ground.chain }], guard := none }) (v := ?_) rfl (by kernel_rfl) (by kernel_rfl) (by kernel_rfl) (fun _ _ _ h => h) (Or.inl ⟨by rfl, ?_⟩) (by assumption) ?_
          rotate_left
          · intro w hSw
            skip
            clear hSw
            go_simp
            try with_reducible rfl
          try simp only [Act.put, List.setIfInBounds_toArray, List.set_cons_zero, List.set_cons_succ]
          refine wpAnyH_take (i := 4) (oi := { dst := some 19, op := Op.move (Operand.tmp 0), type := 22, pos := "trees.go:65", after := #[{ on := 3, ground := Ground.guard }], guard := some (3, false) }) (v := ?_) rfl (by kernel_rfl) (by kernel_rfl) (by kernel_rfl) (fun _ _ _ h => h) (Or.inl ⟨by rfl, ?_⟩) (by assumption) ?_
          rotate_left
          · intro w hSw
            skip
            clear hSw
            go_simp
            try with_reducible rfl
          try simp only [Act.put, List.setIfInBounds_toArray, List.set_cons_zero, List.set_cons_succ]
          refine wpAnyH_take (i := 5) (oi := { dst := some 20, op := Op.move (Operand.tmp 3), type := 3, pos := "trees.go:65", after := #[{ on := 3, ground := Ground.guard }], guard := some (3, false) }) (v := ?_) rfl (by kernel_rfl) (by kernel_rfl) (by kernel_rfl) (fun _ _ _ h => h) (Or.inl ⟨by rfl, ?_⟩) (by assumption) ?_
          rotate_left
          · intro w hSw
            skip
            clear hSw
            go_simp
            try with_reducible rfl
          try simp only [Act.put, List.setIfInBounds_toArray, List.set_cons_zero, List.set_cons_succ]
          refine wpAnyH_take (i := 6) (oi := { dst := some 21, op := Op.slice 22 (Operand.tmp 19) none (some (Operand.tmp 20)) none, type := 22, pos := "trees.go:65", after := #[{ on := 4, ground := Ground.data }, { on := 5, ground := Ground.data }, { on := 3, ground := Ground.guard }], guard := some (3, false) }) (v := ?_) rfl (by kernel_rfl) (by kernel_rfl) (by kernel_rfl) (fun _ _ _ h => h) (Or.inl ⟨by rfl, ?_⟩) (by assumption) ?_
          rotate_left
          · intro w hSw
            skip
            clear hSw
            go_simp
            try with_reducible rfl
          try simp only [Act.put, List.setIfInBounds_toArray, List.set_cons_zero, List.set_cons_succ]
          refine wpAnyH_take (i := 7) (oi := { dst := some 22, op := Op.fieldAddr 32 (Operand.tmp 4) 0, type := 0, pos := "trees.go:65", after := #[{ on := 3, ground := Ground.guard }], guard := some (3, false) }) (v := ?_) rfl (by kernel_rfl) (by kernel_rfl) (by kernel_rfl) (fun _ _ _ h => h) (Or.inl ⟨by rfl, ?_⟩) (by assumption) ?_
          rotate_left
          · intro w hSw
            skip
            clear hSw
            go_simp
            try with_reducible rfl
          try simp only [Act.put, List.setIfInBounds_toArray, List.set_cons_zero, List.set_cons_succ]
          refine wpAnyH_take (i := 8) (oi := { dst := some 23, op := Op.load 9 (Operand.tmp 22), type := 9, pos := "trees.go:65", after := #[{ on := 7, ground := Ground.data }, { on := 3, ground := Ground.guard }], guard := some (3, false) }) (v := ?_) rfl (by kernel_rfl) (by kernel_rfl) (by kernel_rfl) (fun _ _ _ h => h) (Or.inl ⟨by rfl, ?_⟩) (by assumption) ?_
          rotate_left
          · intro w hSw
            have hSw := OS _ hSw
            go_simp
            try with_reducible rfl
          try simp only [Act.put, List.setIfInBounds_toArray, List.set_cons_zero, List.set_cons_succ]
          refine wpAnyH_ready (rs := [9]) (by kernel_rfl) (by simp) ?_
          refine (AllReadyH.cons (o := { dst := some 24, op := Op.call { callee := Callee.value (Operand.func 30), args := #[Operand.tmp 21, Operand.tmp 23], argTypes := #[22, 9] }, type := 4, pos := "trees.go:65", after := #[{ on := 6, ground := Ground.data }, { on := 8, ground := Ground.data }, { on := 3, ground := Ground.chain }, { on := 3, ground := Ground.guard }], guard := some (3, false) }) rfl (fun K hK => ?_) AllReadyH.nil)
          go_simp
          refine (CF.out _ (by assumption)).mono ?_
          rintro e w9' ⟨rfl, m9'⟩
          refine hK.out _ _ (SO _ (by assumption)) (fun hHeld => ?_)
          clear hK K
          try simp only [Act.put, List.setIfInBounds_toArray, List.set_cons_zero, List.set_cons_succ]
          refine wpAnyH_take (i := 10) (oi := { dst := some 25, op := Op.unOp UnOp.not 4 (Operand.tmp 24), type := 4, pos := "trees.go:65", after := #[{ on := 9, ground := Ground.data }, { on := 3, ground := Ground.guard }], guard := some (3, false) }) (v := ?_) rfl (by kernel_rfl) (by kernel_rfl) (by kernel_rfl) (fun _ _ _ h => h) (Or.inl ⟨by rfl, ?_⟩) (by assumption) ?_
          rotate_left
          · intro w hSw
            skip
            clear hSw
            go_simp
            try with_reducible rfl
          try simp only [Act.put, List.setIfInBounds_toArray, List.set_cons_zero, List.set_cons_succ]
          refine wpAnyH_take (i := 11) (oi := { dst := some 26, op := Op.pick (Operand.tmp 18) (Operand.const (Value.bool true)) (Operand.tmp 25), type := 4, pos := "trees.go:65", after := #[{ on := 3, ground := Ground.data }, { on := 10, ground := Ground.data }], guard := none }) (v := ?_) rfl (by kernel_rfl) (by kernel_rfl) (by kernel_rfl) (fun _ _ _ h => h) (Or.inl ⟨by rfl, ?_⟩) (by assumption) ?_
          rotate_left
          · intro w hSw
            skip
            clear hSw
            go_simp
            try with_reducible rfl
          try simp only [Act.put, List.setIfInBounds_toArray, List.set_cons_zero, List.set_cons_succ]
          refine wpAnyH_done (by kernel_rfl) ?_ _
          refine NoPanic.normal ?_
          go_wp2
          go_ret
          exact ⟨by rw [HR.out]; rfl, HEND.out _ (by assumption)⟩
        | true =>
          have HOK := Lib.hid (HTF.out hmay hfol)
          rw [hfol] at CF
          clear HNO HTF HTI
          refine wpAnyH_take (i := 0) (oi := { dst := some 15, op := Op.load 32 (Operand.tmp 4), type := 32, pos := "trees.go:65", after := #[], guard := none }) (v := _) rfl (by kernel_rfl) (by kernel_rfl) (by kernel_rfl) (fun _ _ _ h => h) (yieldsIf_load_mid (by rfl) _ _ rfl _ _ rfl _ _ (by intro w hSw; have hSw := OS _ hSw; go_split_ands; assumption) (by assumption) rfl (by assumption)) (by assumption) ?_
          try simp only [Act.put, List.setIfInBounds_toArray, List.set_cons_zero, List.set_cons_succ]
          refine wpAnyH_ready (rs := [1]) (by kernel_rfl) (by simp) ?_
          refine (AllReadyH.cons (o := { dst := some 16, op := Op.call { callee := Callee.value (Operand.func 29), args := #[Operand.tmp 15], argTypes := #[32] }, type := 4, pos := "trees.go:65", after := #[{ on := 0, ground := Ground.data }], guard := none }) rfl (fun K hK => ?_) AllReadyH.nil)
          go_simp
          refine (CM.out _ (by assumption)).mono ?_
          rintro e w1' ⟨rfl, m1'⟩
          refine hK.out _ _ (SO _ (by assumption)) (fun hHeld => ?_)
          clear hK K
          try simp only [Act.put, List.setIfInBounds_toArray, List.set_cons_zero, List.set_cons_succ]
          refine wpAnyH_take (i := 2) (oi := { dst := some 17, op := Op.unOp UnOp.not 4 (Operand.tmp 16), type := 4, pos := "trees.go:65", after := #[{ on := 1, ground := Ground.data }], guard := none }) (v := ?_) rfl (by kernel_rfl) (by kernel_rfl) (by kernel_rfl) (fun _ _ _ h => h) (Or.inl ⟨by rfl, ?_⟩) (by assumption) ?_
          rotate_left
          · intro w hSw
            skip
            clear hSw
            go_simp
            try with_reducible rfl
          try simp only [Act.put, List.setIfInBounds_toArray, List.set_cons_zero, List.set_cons_succ]
          refine wpAnyH_take (i := 3) (oi := { dst := some 18, op := Op.move (Operand.tmp 17), type := 4, pos := "trees.go:65", after := #[{ on := 2, ground := Ground.data }, { on := 1, ground := Ground.chain }], guard := none }) (v := ?_) rfl (by kernel_rfl) (by kernel_rfl) (by kernel_rfl) (fun _ _ _ h => h) (Or.inl ⟨by rfl, ?_⟩) (by assumption) ?_
          rotate_left
          · intro w hSw
            skip
            clear hSw
            go_simp
            try with_reducible rfl
          try simp only [Act.put, List.setIfInBounds_toArray, List.set_cons_zero, List.set_cons_succ]
          refine wpAnyH_take (i := 4) (oi := { dst := some 19, op := Op.move (Operand.tmp 0), type := 22, pos := "trees.go:65", after := #[{ on := 3, ground := Ground.guard }], guard := some (3, false) }) (v := ?_) rfl (by kernel_rfl) (by kernel_rfl) (by kernel_rfl) (fun _ _ _ h => h) (Or.inl ⟨by rfl, ?_⟩) (by assumption) ?_
          rotate_left
          · intro w hSw
            skip
            clear hSw
            go_simp
            try with_reducible rfl
          try simp only [Act.put, List.setIfInBounds_toArray, List.set_cons_zero, List.set_cons_succ]
          refine wpAnyH_take (i := 5) (oi := { dst := some 20, op := Op.move (Operand.tmp 3), type := 3, pos := "trees.go:65", after := #[{ on := 3, ground := Ground.guard }], guard := some (3, false) }) (v := ?_) rfl (by kernel_rfl) (by kernel_rfl) (by kernel_rfl) (fun _ _ _ h => h) (Or.inl ⟨by rfl, ?_⟩) (by assumption) ?_
          rotate_left
          · intro w hSw
            skip
            clear hSw
            go_simp
            try with_reducible rfl
          try simp only [Act.put, List.setIfInBounds_toArray, List.set_cons_zero, List.set_cons_succ]
          refine wpAnyH_take (i := 6) (oi := { dst := some 21, op := Op.slice 22 (Operand.tmp 19) none (some (Operand.tmp 20)) none, type := 22, pos := "trees.go:65", after := #[{ on := 4, ground := Ground.data }, { on := 5, ground := Ground.data }, { on := 3, ground := Ground.guard }], guard := some (3, false) }) (v := ?_) rfl (by kernel_rfl) (by kernel_rfl) (by kernel_rfl) (fun _ _ _ h => h) (Or.inl ⟨by rfl, ?_⟩) (by assumption) ?_
          rotate_left
          · intro w hSw
            skip
            clear hSw
            go_simp
            try with_reducible rfl
          try simp only [Act.put, List.setIfInBounds_toArray, List.set_cons_zero, List.set_cons_succ]
          refine wpAnyH_take (i := 7) (oi := { dst := some 22, op := Op.fieldAddr 32 (Operand.tmp 4) 0, type := 0, pos := "trees.go:65", after := #[{ on := 3, ground := Ground.guard }], guard := some (3, false) }) (v := ?_) rfl (by kernel_rfl) (by kernel_rfl) (by kernel_rfl) (fun _ _ _ h => h) (Or.inl ⟨by rfl, ?_⟩) (by assumption) ?_
          rotate_left
          · intro w hSw
            skip
            clear hSw
            go_simp
            try with_reducible rfl
          try simp only [Act.put, List.setIfInBounds_toArray, List.set_cons_zero, List.set_cons_succ]
          refine wpAnyH_take (i := 8) (oi := { dst := some 23, op := Op.load 9 (Operand.tmp 22), type := 9, pos := "trees.go:65", after := #[{ on := 7, ground := Ground.data }, { on := 3, ground := Ground.guard }], guard := some (3, false) }) (v := ?_) rfl (by kernel_rfl) (by kernel_rfl) (by kernel_rfl) (fun _ _ _ h => h) (Or.inl ⟨by rfl, ?_⟩) (by assumption) ?_
          rotate_left
          · intro w hSw
            have hSw := OS _ hSw
            go_simp
            try with_reducible rfl
          try simp only [Act.put, List.setIfInBounds_toArray, List.set_cons_zero, List.set_cons_succ]
          refine wpAnyH_ready (rs := [9]) (by kernel_rfl) (by simp) ?_
          refine (AllReadyH.cons (o := { dst := some 24, op := Op.call { callee := Callee.value (Operand.func 30), args := #[Operand.tmp 21, Operand.tmp 23], argTypes := #[22, 9] }, type := 4, pos := "trees.go:65", after := #[{ on := 6, ground := Ground.data }, { on := 8, ground := Ground.data }, { on := 3, ground := Ground.chain }, { on := 3, ground := Ground.guard }], guard := some (3, false) }) rfl (fun K hK => ?_) AllReadyH.nil)
          go_simp
          refine (CF.out _ (by assumption)).mono ?_
          rintro e w9' ⟨rfl, m9'⟩
          refine hK.out _ _ (SO _ (by assumption)) (fun hHeld => ?_)
          clear hK K
          try simp only [Act.put, List.setIfInBounds_toArray, List.set_cons_zero, List.set_cons_succ]
          refine wpAnyH_take (i := 10) (oi := { dst := some 25, op := Op.unOp UnOp.not 4 (Operand.tmp 24), type := 4, pos := "trees.go:65", after := #[{ on := 9, ground := Ground.data }, { on := 3, ground := Ground.guard }], guard := some (3, false) }) (v := ?_) rfl (by kernel_rfl) (by kernel_rfl) (by kernel_rfl) (fun _ _ _ h => h) (Or.inl ⟨by rfl, ?_⟩) (by assumption) ?_
          rotate_left
          · intro w hSw
            skip
            clear hSw
            go_simp
            try with_reducible rfl
          try simp only [Act.put, List.setIfInBounds_toArray, List.set_cons_zero, List.set_cons_succ]
          refine wpAnyH_take (i := 11) (oi := { dst := some 26, op := Op.pick (Operand.tmp 18) (Operand.const (Value.bool true)) (Operand.tmp 25), type := 4, pos := "trees.go:65", after := #[{ on := 3, ground := Ground.data }, { on := 10, ground := Ground.data }], guard := none }) (v := ?_) rfl (by kernel_rfl) (by kernel_rfl) (by kernel_rfl) (fun _ _ _ h => h) (Or.inl ⟨by rfl, ?_⟩) (by assumption) ?_
          rotate_left
          · intro w hSw
            skip
            clear hSw
            go_simp
            try with_reducible rfl
          try simp only [Act.put, List.setIfInBounds_toArray, List.set_cons_zero, List.set_cons_succ]
          refine wpAnyH_done (by kernel_rfl) ?_ _
          refine NoPanic.normal ?_
          have HBF := Lib.hid (HEND.out _ (by assumption))
          go_wp2
          go_roundw
          case rel => exact ⟨k + 1, by omega, by go_num, HOK, HBF⟩
          case measure => simp [intOf]; omega
    · have HR := Lib.hid (HC2.out.trans (if_pos (HTI.out.2 fun j y hy => hok.out j y (by have := HLT.out j y hy; omega) hy)))
      go_wp2
      go_ret
      exact ⟨by rw [HR.out]; rfl, hBr.out⟩
end Go.Proofs.YtoallfcpnbhhiaaGreatDoor
#print axioms Go.Proofs.YtoallfcpnbhhiaaGreatDoor.check_any

/- Layer 16: the ground in memory: a map of places. -/
namespace Go.Proofs.YtoallfcpnbhhiaaGreatDoor
open Go.RowKit Go.Maps

theorem str_inj {a b : List UInt8} (h : str a = str b) : a = b := by
  have := congrArg (fun s : ByteArray => s.data.toList) h
  exact this
theorem plA_inj {p q : Pl} (h : plA p = plA q) : p = q := by
  obtain ⟨⟨p1, p2, p3, p4⟩, p5⟩ := p
  obtain ⟨⟨q1, q2, q3, q4⟩, q5⟩ := q
  have h2 := congrArg Array.toList h
  simp only [plA, List.cons.injEq, Value.string.injEq, Value.int.injEq, true_and, and_true] at h2
  obtain ⟨h1, rfl, rfl, h4, rfl⟩ := h2
  have := str_inj h1
  have := str_inj h4
  subst_vars
  rfl
open Classical in
/-- How a place reads: as itself. -/
noncomputable def plR (v : Value) : Option (DataW Pl × List MemPlace) := if h : ∃ p, v = .agg (plA p) then some (.held (Classical.choose h), []) else none
theorem plR_mk (p : Pl) : plR (.agg (plA p)) = some (.held p, []) := by
  unfold plR
  have h : ∃ q, Value.agg (plA p) = .agg (plA q) := ⟨p, rfl⟩
  rw [dif_pos h]
  have := Classical.choose_spec h
  have e : plA p = plA (Classical.choose h) := by injection this
  rw [← plA_inj e]
theorem plR_inv {v : Value} {z : DataW Pl × List MemPlace} (h : plR v = some z) : ∃ p, v = .agg (plA p) ∧ z = (.held p, []) := by
  unfold plR at h
  split at h
  · rename_i hp
    cases h
    exact ⟨_, Classical.choose_spec hp, rfl⟩
  · cases h
def datG (g : List Pl) : DataW Pl := .map (g.map fun p => (.string p.nd.path, .held p))
theorem string_key (a b : List UInt8) : (Lit.string a).sameKey (.string b) = decide (a = b) := by
  show (a == b) = decide (a = b)
  exact Bool.eq_iff_iff.2 (by rw [beq_iff_eq, decide_eq_true_eq])
theorem filter_dat (g : List Pl) (f : Lit × DataW Pl → Bool) : (g.map fun p => ((Lit.string p.nd.path, DataW.held p) : Lit × DataW Pl)).filter f = (g.filter fun p => f (.string p.nd.path, .held p)).map fun p => (Lit.string p.nd.path, DataW.held p) := by
  rw [List.filter_map]
  rfl
theorem ins_dat (p : Pl) : ∀ g : List Pl, DataW.insert (Lit.string p.nd.path, DataW.held p) (g.map fun q => (Lit.string q.nd.path, DataW.held q)) = (insG p g).map fun q => (Lit.string q.nd.path, DataW.held q)
  | [] => rfl
  | y :: r => by
    rw [List.map_cons]
    unfold DataW.insert insG
    show (if bytesBefore p.nd.path y.nd.path = true then _ else _) = _
    split
    · rfl
    · rw [ins_dat p r]; rfl
theorem dat_put (g : List Pl) (p : Pl) : (datG g).put (.string p.nd.path) (.held p) = datG (putG g p) := by
  unfold datG DataW.put putG
  simp only
  rw [filter_dat, ← ins_dat]
  have e : (fun q : Pl => !(Lit.string q.nd.path).sameKey (.string p.nd.path)) = fun q => !decide (q.nd.path = p.nd.path) := by
    funext q
    rw [string_key]
  rw [e]
theorem dat_look (g : List Pl) (s : List UInt8) (z : DataW Pl) : (datG g).atKey (.string s) z = match lookG g s with | some p => .held p | none => z := by
  unfold datG DataW.atKey lookG
  simp only
  rw [List.find?_map]
  have e : ((fun p : Lit × DataW Pl => p.1.sameKey (.string s)) ∘ fun p : Pl => (Lit.string p.nd.path, DataW.held p)) = fun q : Pl => decide (q.nd.path = s) := by
    funext q
    exact string_key _ _
  rw [e]
  cases List.find? (fun q : Pl => decide (q.nd.path = s)) g <;> rfl
theorem dat_has (g : List Pl) (s : List UInt8) : Maps.has (datG g) (.string s) = (lookG g s).isSome := by
  unfold datG lookG
  rw [has_eq, List.any_map, Bool.eq_iff_iff, List.find?_isSome, List.any_eq_true]
  constructor
  · rintro ⟨p, hp, h⟩
    exact ⟨p, hp, by have := h; simp only [Function.comp, string_key] at this; exact this⟩
  · rintro ⟨p, hp, h⟩
    exact ⟨p, hp, by simp only [Function.comp, string_key]; exact h⟩
theorem dat_size (g : List Pl) : Maps.size (datG g) = g.length := by unfold datG; rw [size_eq, List.length_map]
theorem dat_filter (g : List Pl) (pd : Lit → DataW Pl → Bool) : Lib.deleteFuncD pd (datG g) = datG (g.filter fun p => !pd (.string p.nd.path) (.held p)) := by
  unfold datG Lib.deleteFuncD
  simp only
  rw [filter_dat]
theorem key_path (s : List UInt8) (hs : s.length ≤ maxLen) : keyOf Tryz.prog 9 (.string (str s)) = some (.string s) := Go.WideMaps.keyOf_string_mk Tryz.underlying9 (by rw [str_size]; exact hs)
theorem key_law : Keyed Tryz.prog 9 := string_keyed Tryz.underlying9
theorem zero_pl (w : World) : (zeroValue 104).run Tryz.prog w = .ok (.agg (plA ⟨⟨[], 0, 0, []⟩, 0⟩)) w := by kernel_rfl
/-- The ground's map, at block M. -/
def MapG (w : World) (M : Nat) (g : List Pl) : Prop := w.ownsMap Tryz.prog 9 plR M g.length (datG g)
theorem MapG.of {w : World} {M n : Nat} {g : List Pl} (h : w.ownsMap Tryz.prog 9 plR M n (datG g)) : MapG w M g := by
  obtain ⟨es, clock, hb, F, hs, hD⟩ := h
  refine ⟨es, clock, hb, F, ?_, hD⟩
  have h1 := dat_size g
  rw [hD] at h1
  have e1 : Maps.size (DataW.map ((es.toList.map (WideElems.rg Tryz.prog 9 plR)).foldr DataW.insert [])) = es.size := by simp [Maps.size, length_sorted]
  omega
theorem MapG.lt {w : World} {M : Nat} {g : List Pl} (h : MapG w M g) : M < w.heap.size := World.ownsMap.lt h
theorem MapG.chg {s : Nat → Prop} {w w' : World} {M : Nat} {g : List Pl} (h : MapG w M g) (hc : Chg s w w') (hs : ¬ s M) : MapG w' M g := by
  have hlt := h.lt
  obtain ⟨es, clock, hb, r⟩ := h
  exact ⟨es, clock, (hc.block M hlt hs).trans hb, r⟩
theorem MapG.below {w w' : World} {M : Nat} {g : List Pl} (h : MapG w M g) (hb : Below w.heap.size w w') : MapG w' M g := h.chg (s := fun _ => False) (Chg.of_below hb) id
/-- A place is laid. -/
theorem MapG.put {w : World} {M : Nat} {g : List Pl} (h : MapG w M g) (hn : g.length < maxLen) (p : Pl) (hp : p.nd.path.length ≤ maxLen) :
    ∃ w', (Instr.mapUpdate 100 (.map (some M)) (.string (str p.nd.path)) (.agg (plA p))).run Tryz.prog w = .ok () w' ∧ MapG w' M (putG g p) ∧ w.grownBy w' (some M) := by
  obtain ⟨w', h1, h2, h3⟩ := World.ownsMap.update h key_law Tryz.underlying100 hn (key_path p.nd.path hp) (plR_mk p)
  rw [dat_put] at h2
  exact ⟨w', h1, MapG.of h2, h3⟩
/-- What is looked up. -/
def getG (g : List Pl) (s : List UInt8) : Pl := (lookG g s).getD ⟨⟨[], 0, 0, []⟩, 0⟩
theorem MapG.get {w : World} {M : Nat} {g : List Pl} (h : MapG w M g) (s : List UInt8) (hs : s.length ≤ maxLen) :
    (Instr.lookup 100 (.map (some M)) (.string (str s)) false).run Tryz.prog w = .ok (.agg (plA (getG g s))) w := by
  obtain ⟨v, ps, h1, h2⟩ := World.ownsMap.lookup h key_law Tryz.underlying100 (zero_pl w) (plR_mk _) (key_path s hs)
  obtain ⟨p, rfl, h3⟩ := plR_inv h2
  rw [h1]
  rw [dat_look] at h3
  have : getG g s = p := by
    unfold getG
    cases e : lookG g s with
    | none => rw [e] at h3; simp at h3; exact h3.1
    | some q => rw [e] at h3; simp at h3; exact h3.1
  rw [this]
theorem MapG.get2 {w : World} {M : Nat} {g : List Pl} (h : MapG w M g) (s : List UInt8) (hs : s.length ≤ maxLen) :
    (Instr.lookup 100 (.map (some M)) (.string (str s)) true).run Tryz.prog w = .ok (.tuple #[.agg (plA (getG g s)), .bool (lookG g s).isSome]) w := by
  obtain ⟨v, ps, h1, h2⟩ := World.ownsMap.look_ok h key_law Tryz.underlying100 (zero_pl w) (plR_mk _) (key_path s hs)
  obtain ⟨p, rfl, h3⟩ := plR_inv h2
  rw [h1, dat_has]
  rw [dat_look] at h3
  have : getG g s = p := by
    unfold getG
    cases e : lookG g s with
    | none => rw [e] at h3; simp at h3; exact h3.1
    | some q => rw [e] at h3; simp at h3; exact h3.1
  rw [this]
theorem MapG.len {w : World} {M : Nat} {g : List Pl} (h : MapG w M g) (ty : TypeId) : (Builtin.len_ #[100] ty #[.map (some M)]).run Tryz.prog w = .ok (.int .i64 (g.length : Int)) w := by
  have := World.ownsMap.len h Tryz.underlying100 ty
  rwa [dat_size] at this
theorem MapG.made (w : World) : MapG (w.alloc (.map #[] 0)) w.heap.size [] := World.ownsMap_made w Tryz.prog 9 plR
end Go.Proofs.YtoallfcpnbhhiaaGreatDoor
#print axioms Go.Proofs.YtoallfcpnbhhiaaGreatDoor.MapG.get2

