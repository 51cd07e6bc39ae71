/- Merged: TtN, TtF. -/
import Derived.Test.YtbjgmkjinnbokaaGreatDoorM03
import Derived.Test.YtbjgmkjinnbokaaGreatDoorM11
import Derived.Test.YtbjgmkjinnbokaaGreatDoorM04
/- Layer 16, plainly: what a tree is, node by node; rising paths. -/
namespace Go.Proofs.YtbjgmkjinnbokaaGreatDoor

theorem treeF_iff : ∀ (l a : List Nd), treeF a l = true ↔ ∀ k x, l[k]? = some x → mayN x = true ∧ followN (a ++ l.take k) x.path = true
  | [], a => by simp [treeF]
  | n :: r, a => by
    unfold treeF
    rw [Bool.and_eq_true, Bool.and_eq_true, treeF_iff r (a ++ [n])]
    constructor
    · rintro ⟨h1, h2, h3⟩ k x hx
      cases k with
      | zero =>
        simp only [List.getElem?_cons_zero, Option.some.injEq] at hx
        subst hx
        rw [List.take_zero, List.append_nil]
        exact ⟨h1, h2⟩
      | succ k =>
        rw [List.getElem?_cons_succ] at hx
        have := h3 k x hx
        rw [List.append_assoc] at this
        rw [List.take_succ_cons]
        exact this
    · intro h
      refine ⟨(h 0 n rfl).1, ?_, fun k x hx => ?_⟩
      · have := (h 0 n rfl).2
        rwa [List.take_zero, List.append_nil] at this
      · have := h (k + 1) x (by rw [List.getElem?_cons_succ]; exact hx)
        rw [List.take_succ_cons] at this
        rw [List.append_assoc]
        exact this
theorem treeB_iff (l : List Nd) : treeB l = true ↔ ∀ k x, l[k]? = some x → mayN x = true ∧ followN (l.take k) x.path = true := by
  have := treeF_iff l []
  simpa [treeB] using this
theorem treeB_not {l : List Nd} {k : Nat} {x : Nd} (hx : l[k]? = some x) (h : (mayN x && followN (l.take k) x.path) = false) : treeB l = false := by
  cases e : treeB l
  · rfl
  · obtain ⟨h1, h2⟩ := (treeB_iff l).1 e k x hx
    rw [h1, h2] at h
    cases h
theorem rise_nodes {l : List Nd} (h : ∀ k x, l[k]? = some x → followN (l.take k) x.path = true) : l.Pairwise fun a b => bytesBefore a.path b.path = true := by
  have step : ∀ k (h1 : k + 1 < l.length), bytesBefore (l[k]'(by omega)).path l[k + 1].path = true := fun k h1 => by
    have := h (k + 1) _ (List.getElem?_eq_getElem h1)
    unfold followN at this
    rw [Bool.and_eq_true] at this
    have e : (l.take (k + 1)).getLast? = some (l[k]'(by omega)) := by
      rw [List.getLast?_eq_getElem?, List.length_take, show min (k + 1) l.length - 1 = k by omega, List.getElem?_take, if_pos (by omega), List.getElem?_eq_getElem (by omega)]
    rw [e] at this
    exact this.1
  rw [List.pairwise_iff_getElem]
  intro i j hi hj hij
  obtain ⟨m, rfl⟩ := Nat.le.dest (Nat.succ_le_of_lt hij)
  clear hij
  induction m with
  | zero => exact step i hj
  | succ m ih => exact bb_trans (ih (by omega)) (step (i + 1 + m) (by omega))
theorem rise_take {l : List Nd} {k : Nat} (h : ∀ j x, j < k → l[j]? = some x → followN (l.take j) x.path = true) : (l.take k).Pairwise fun a b => bytesBefore a.path b.path = true := by
  refine rise_nodes fun j x hx => ?_
  rw [List.getElem?_take] at hx
  split at hx
  · rename_i hj
    rw [List.take_take, Nat.min_eq_left (by omega)]
    exact h j x hj hx
  · cases hx
theorem tree_rise {l : List Nd} (h : treeB l = true) : l.Pairwise fun a b => bytesBefore a.path b.path = true := rise_nodes fun k x hx => ((treeB_iff l).1 h k x hx).2
end Go.Proofs.YtbjgmkjinnbokaaGreatDoor
#print axioms Go.Proofs.YtbjgmkjinnbokaaGreatDoor.rise_take

/- Layer 16: the program's Check. -/
namespace Go.Proofs.YtbjgmkjinnbokaaGreatDoor
open Go.RowKit

theorem take_follow {l : List Nd} {k : Nat} {x : Nd} (h : ∀ j y, j < k → l[j]? = some y → mayN y = true ∧ followN (l.take j) y.path = true) (hx : l[k]? = some x) (h2 : mayN x = true) (h3 : followN (l.take k) x.path = true) :
    ∀ j y, j < k + 1 → l[j]? = some y → mayN y = true ∧ followN (l.take j) y.path = true := fun j y hj hy => by
  by_cases e : j = k
  · subst e
    rw [hx] at hy
    cases hy
    exact ⟨h2, h3⟩
  · exact h j y (by omega) hy
set_option maxRecDepth 100000 in
set_option maxHeartbeats 16000000 in
theorem check_any (l : List Nd) (ad : Option Addr) (c : Nat) (hl : l.length ≤ maxLen) (hlc : l.length ≤ c) (hp : ∀ x ∈ l, x.path.length ≤ 900000) (w : World) (h : NodesAt w ad l) :
    Calls Tryz.prog 9 #[.slice ad l.length c] w fun e w' => e = .returned (.int .i64 (checkT l)) ∧ Below w.heap.size w w' := by
  have HI := Lib.hid info_nd4
  have HC : Hid (checkT l = if 400 < l.length then 63 else if treeB l then 0 else 2) := Lib.hid rfl
  have HN := Lib.hid h
  have HP := Lib.hid hp
  have HB := Lib.hid (Below.refl w.heap.size w)
  have HTI := Lib.hid (treeB_iff l)
  have HLEN := Lib.hid (rfl : l.length = l.length)
  unfold maxLen at hl
  have HG : Hid (∀ i, i < l.length → ∃ x, l[i]? = some x) := Lib.hid fun i hi => ⟨_, List.getElem?_eq_getElem hi⟩
  have HLT : Hid (∀ (k : Nat) (x : Nd), l[k]? = some x → k < l.length) := Lib.hid fun k x hx => (List.getElem?_eq_some_iff.1 hx).1
  have HTL : Hid (∀ k, k ≤ l.length → (l.take k).length = k) := Lib.hid fun k hk => by rw [List.length_take]; omega
  obtain ⟨N, hN⟩ : ∃ N, N = l.length := ⟨_, rfl⟩
  rw [← hN] at hl HC HG HLT HTL hlc ⊢
  clear h hp hN HLEN
  by_cases h4 : 400 < N
  · have HR := Lib.hid (HC.out.trans (if_pos h4))
    have g : ¬ (N : Int) ≤ 400 := by omega
    clear HC
    go_enter Tryz.func9, Tryz.ntmps9
    go_wp2
    go_ret
    exact ⟨by rw [HR.out]; rfl, HB.out⟩
  have HC2 : Hid (checkT l = if treeB l then 0 else 2) := Lib.hid (HC.out.trans (if_neg h4))
  have g4 : (N : Int) ≤ 400 := by omega
  clear HC
  go_enter Tryz.func9, Tryz.ntmps9
  go_upto_region 4 with (fail)
  go_loopw [3, 4, 10] (fun _ _ i wr => ∃ k : Nat, k ≤ N ∧ i = .int .i64 k ∧ Hid (∀ j y, j < k → l[j]? = some y → mayN y = true ∧ followN (l.take j) y.path = true) ∧ Hid (Below w.heap.size w wr)) (fun _ _ i _ => N - (intOf i).toNat)
  case atStart => exact ⟨0, Nat.zero_le _, rfl, Lib.hid (fun j y hj => by omega), Lib.hid (Below.refl _ _)⟩
  case round =>
    obtain ⟨k, hk, rfl, hok, hBr⟩ := hrel
    by_cases hlt : k < N
    · obtain ⟨x, hx⟩ := HG.out k hlt
      have HX := Lib.hid hx
      obtain ⟨ax, rfl, hax, hcx⟩ := HN.out k x hx
      have HCX : Hid (∀ W, Below w.heap.size w W → ∀ j u, (ndV x)[j]? = some u → W.cell? ((ax.add (k * 4)).add j) = some u) := Lib.hid fun W hb j u hu => by
        rw [cell_far hb (by rw [add_blk, add_blk]; exact hax)]
        exact hcx j u hu
      have HONE := Lib.hid (ndA_one x)
      have g1 : (k : Int) < (N : Int) := by omega
      have g2 : (k : Int) ≤ (N : Int) := by omega
      have g3 : (0 : Int) ≤ (k : Int) := by omega
      have g5 : (k : Int) ≤ (c : Int) := by omega
      have HXL := Lib.hid (HP.out x (List.mem_of_getElem? hx))
      obtain ⟨W1, hW1⟩ : ∃ W1, W1 = wr.alloc (.cells (ndA x) 41) := ⟨_, rfl⟩
      have HW1 := Lib.hid hW1
      have HB1 : Hid (Below w.heap.size w W1) := Lib.hid (by rw [hW1]; exact hBr.out.alloc hBr.out.size _)
      have HZ1 : Hid (rowC W1 wr.heap.size (ndA x) 41) := Lib.hid (by rw [hW1]; exact rowC_new wr _ _)
      have HNO := Lib.hid (treeB_not hx)
      have HTF : Hid (mayN x = true → followN (l.take k) x.path = true → ∀ j y, j < k + 1 → l[j]? = some y → mayN y = true ∧ followN (l.take j) y.path = true) := Lib.hid fun h1 h2 => take_follow hok.out hx h1 h2
      have HRS := Lib.hid (rise_take (l := l) (k := k) fun j y hj hy => (hok.out j y hj hy).2)
      have hxN := HTL.out k hk
      clear hW1 hx hcx
      go_upto_region 6 with (first
        | ((with_reducible show wpList _ _ _ (⟨some 14, .load _ _, _, _, _, _⟩ :: _) _ _); refine wpList_load_at rfl 41 _ rfl (ax.add (k * 4)) rfl (ndV x) _ (HCX.out wr hBr.out) Tryz.underlying41 rfl HI.out ?_)
        | ((with_reducible show wpList _ _ _ (⟨none, .store _ (.tmp 4) _, _, _, _, _⟩ :: _) _ _); refine wpList_store_last rfl 41 _ _ rfl wr.heap.size (ndA x) rfl rfl 41 _ rfl HI.out rfl HONE.out ?_))
      rw [← HW1.out]
      try simp only [Act.put]
      have CM : Hid (∀ w', Gn W1 no w' → Calls Tryz.prog 23 #[.agg #[.string (str x.path), .int .i64 x.kind, .int .i64 x.mode, .string (str x.data)]] w' fun e w'' => e = .returned (.bool (mayN x)) ∧ Gn W1 no w'') := Lib.hid fun w' hg => (mayN_any x HXL.out w').mono fun _ _ ⟨h1, h2⟩ => ⟨h1, hg.call h2⟩
      have CF : Hid (∀ w', Gn W1 no w' → Calls Tryz.prog 24 #[.slice (some ax) k c, .string (str x.path)] w' fun e w'' => e = .returned (.bool (followN (l.take k) x.path)) ∧ Gn W1 no w'') := Lib.hid fun w' hg => by
        have hb : Below w.heap.size w w' := HB1.out.trans (hg.below HB1.out.size (fun _ _ => id))
        have := follow_any (l.take k) x.path (some ax) c (by rw [hxN]; omega) (by have := HXL.out; omega) HRS.out w' ((HN.out.take k).far hb (Nat.le_refl _))
        rw [hxN] at this
        exact this.mono fun _ _ ⟨h1, h2⟩ => ⟨h1, hg.call h2⟩
      have OS : ∀ w', Gn W1 no w' → w'.rangeAt wr.heap.size 0 (ndV x) ∧ w'.cell? ⟨wr.heap.size, 0, none⟩ = some (.string (str x.path)) := fun w' hg =>
        ⟨rowC_range (hg.row HZ1.out id) 0 _ (fun j u hj => by rw [Nat.zero_add, ← ndV_arr, List.getElem?_toArray]; exact hj), rowC_cell (hg.row HZ1.out id) 0⟩
      have SO : ∀ w', Gn W1 no w' → Gn W1 no w' := fun _ h => h
      have HEND : Hid (∀ w', Gn W1 no w' → Below w.heap.size w w') := Lib.hid fun w' hg => HB1.out.trans (hg.below HB1.out.size (fun _ _ => id))
      clear hxN HTL
      have ui := Tryz.underlying41
      have ii := info_nd4
      refine wp_region_noPanic ?_
      refine wp_region_held_drew (S := Gn W1 no) (by kernel_rfl) (Gn.start _ _) (fun hHeld => ?_)
      generalize W1.drew = wd at *
      cases hmay : mayN x with
      | false =>
        have HR := Lib.hid (HC2.out.trans (if_neg (by rw [HNO.out (by rw [hmay]; rfl)]; decide)))
        rw [hmay] at CM
        clear HNO HTF HC2 HTI
        refine wpAnyH_take (i := 0) (oi := { dst := some 15, op := Op.load 41 (Operand.tmp 4), type := 41, pos := "trees.go:65", after := #[], guard := none }) (v := _) rfl (by kernel_rfl) (by kernel_rfl) (by kernel_rfl) (fun _ _ _ h => h) (yieldsIf_load_mid (by rfl) _ _ rfl _ _ rfl _ _ (by intro w hSw; have hSw := OS _ hSw; go_split_ands; assumption) (by assumption) rfl (by assumption)) (by assumption) ?_
        try simp only [Act.put, List.setIfInBounds_toArray, List.set_cons_zero, List.set_cons_succ]
        refine wpAnyH_ready (rs := [1]) (by kernel_rfl) (by simp) ?_
        refine (AllReadyH.cons (o := { dst := some 16, op := Op.call { callee := Callee.value (Operand.func 23), args := #[Operand.tmp 15], argTypes := #[41] }, type := 4, pos := "trees.go:65", after := #[{ on := 0, ground := Ground.data }], guard := none }) rfl (fun K hK => ?_) AllReadyH.nil)
        go_simp
        refine (CM.out _ (by assumption)).mono ?_
        rintro e w1' ⟨rfl, m1'⟩
        refine hK.out _ _ (SO _ (by assumption)) (fun hHeld => ?_)
        clear hK K
        try simp only [Act.put, List.setIfInBounds_toArray, List.set_cons_zero, List.set_cons_succ]
        refine wpAnyH_take (i := 2) (oi := { dst := some 17, op := Op.unOp UnOp.not 4 (Operand.tmp 16), type := 4, pos := "trees.go:65", after := #[{ on := 1, ground := Ground.data }], guard := none }) (v := ?_) rfl (by kernel_rfl) (by kernel_rfl) (by kernel_rfl) (fun _ _ _ h => h) (Or.inl ⟨by rfl, ?_⟩) (by assumption) ?_
        rotate_left
        · intro w hSw
          skip
          clear hSw
          go_simp
          try with_reducible rfl
        try simp only [Act.put, List.setIfInBounds_toArray, List.set_cons_zero, List.set_cons_succ]
        refine wpAnyH_take (i := 3) (oi := { dst := some 18, op := Op.move (Operand.tmp 17), type := 4, pos := "trees.go:65", after := #[{ on := 2, ground := Ground.data }, { on := 1, ground := Ground.chain }], guard := none }) (v := ?_) rfl (by kernel_rfl) (by kernel_rfl) (by kernel_rfl) (fun _ _ _ h => h) (Or.inl ⟨by rfl, ?_⟩) (by assumption) ?_
        rotate_left
        · intro w hSw
          skip
          clear hSw
          go_simp
          try with_reducible rfl
        try simp only [Act.put, List.setIfInBounds_toArray, List.set_cons_zero, List.set_cons_succ]
        refine wpAnyH_take (i := 4) (oi := { dst := some 19, op := Op.move (Operand.tmp 0), type := 24, pos := "trees.go:65", after := #[{ on := 3, ground := Ground.guard }], guard := some (3, false) }) (v := undef) rfl (by kernel_rfl) (by kernel_rfl) (by kernel_rfl) (fun _ _ _ h => h) (Or.inr ⟨by rfl, rfl⟩) (by assumption) ?_
        try simp only [Act.put, List.setIfInBounds_toArray, List.set_cons_zero, List.set_cons_succ]
        refine wpAnyH_take (i := 5) (oi := { dst := some 20, op := Op.move (Operand.tmp 3), type := 3, pos := "trees.go:65", after := #[{ on := 3, ground := Ground.guard }], guard := some (3, false) }) (v := undef) rfl (by kernel_rfl) (by kernel_rfl) (by kernel_rfl) (fun _ _ _ h => h) (Or.inr ⟨by rfl, rfl⟩) (by assumption) ?_
        try simp only [Act.put, List.setIfInBounds_toArray, List.set_cons_zero, List.set_cons_succ]
        refine wpAnyH_take (i := 6) (oi := { dst := some 21, op := Op.slice 24 (Operand.tmp 19) none (some (Operand.tmp 20)) none, type := 24, pos := "trees.go:65", after := #[{ on := 4, ground := Ground.data }, { on := 5, ground := Ground.data }, { on := 3, ground := Ground.guard }], guard := some (3, false) }) (v := undef) rfl (by kernel_rfl) (by kernel_rfl) (by kernel_rfl) (fun _ _ _ h => h) (Or.inr ⟨by rfl, rfl⟩) (by assumption) ?_
        try simp only [Act.put, List.setIfInBounds_toArray, List.set_cons_zero, List.set_cons_succ]
        refine wpAnyH_take (i := 7) (oi := { dst := some 22, op := Op.fieldAddr 41 (Operand.tmp 4) 0, type := 0, pos := "trees.go:65", after := #[{ on := 3, ground := Ground.guard }], guard := some (3, false) }) (v := undef) rfl (by kernel_rfl) (by kernel_rfl) (by kernel_rfl) (fun _ _ _ h => h) (Or.inr ⟨by rfl, rfl⟩) (by assumption) ?_
        try simp only [Act.put, List.setIfInBounds_toArray, List.set_cons_zero, List.set_cons_succ]
        refine wpAnyH_take (i := 8) (oi := { dst := some 23, op := Op.load 9 (Operand.tmp 22), type := 9, pos := "trees.go:65", after := #[{ on := 7, ground := Ground.data }, { on := 3, ground := Ground.guard }], guard := some (3, false) }) (v := undef) rfl (by kernel_rfl) (by kernel_rfl) (by kernel_rfl) (fun _ _ _ h => h) (Or.inr ⟨by rfl, rfl⟩) (by assumption) ?_
        try simp only [Act.put, List.setIfInBounds_toArray, List.set_cons_zero, List.set_cons_succ]
        refine wpAnyH_take (i := 9) (oi := { dst := some 24, op := Op.call { callee := Callee.value (Operand.func 24), args := #[Operand.tmp 21, Operand.tmp 23], argTypes := #[24, 9] }, type := 4, pos := "trees.go:65", after := #[{ on := 6, ground := Ground.data }, { on := 8, ground := Ground.data }, { on := 3, ground := Ground.chain }, { on := 3, ground := Ground.guard }], guard := some (3, false) }) (v := undef) rfl (by kernel_rfl) (by kernel_rfl) (by kernel_rfl) (fun _ _ _ h => h) (Or.inr ⟨by rfl, rfl⟩) (by assumption) ?_
        try simp only [Act.put, List.setIfInBounds_toArray, List.set_cons_zero, List.set_cons_succ]
        refine wpAnyH_take (i := 10) (oi := { dst := some 25, op := Op.unOp UnOp.not 4 (Operand.tmp 24), type := 4, pos := "trees.go:65", after := #[{ on := 9, ground := Ground.data }, { on := 3, ground := Ground.guard }], guard := some (3, false) }) (v := undef) rfl (by kernel_rfl) (by kernel_rfl) (by kernel_rfl) (fun _ _ _ h => h) (Or.inr ⟨by rfl, rfl⟩) (by assumption) ?_
        try simp only [Act.put, List.setIfInBounds_toArray, List.set_cons_zero, List.set_cons_succ]
        refine wpAnyH_take (i := 11) (oi := { dst := some 26, op := Op.pick (Operand.tmp 18) (Operand.const (Value.bool true)) (Operand.tmp 25), type := 4, pos := "trees.go:65", after := #[{ on := 3, ground := Ground.data }, { on := 10, ground := Ground.data }], guard := none }) (v := ?_) rfl (by kernel_rfl) (by kernel_rfl) (by kernel_rfl) (fun _ _ _ h => h) (Or.inl ⟨by rfl, ?_⟩) (by assumption) ?_
        rotate_left
        · intro w hSw
          skip
          clear hSw
          go_simp
          try with_reducible rfl
        try simp only [Act.put, List.setIfInBounds_toArray, List.set_cons_zero, List.set_cons_succ]
        refine wpAnyH_done (by kernel_rfl) ?_ _
        refine NoPanic.normal ?_
        go_wp2
        go_ret
        exact ⟨by rw [HR.out]; rfl, HEND.out _ (by assumption)⟩
      | true =>
        rw [hmay] at CM
        cases hfol : followN (l.take k) x.path with
        | false =>
          have HR := Lib.hid (HC2.out.trans (if_neg (by rw [HNO.out (by rw [hmay, hfol]; rfl)]; decide)))
          rw [hfol] at CF
          clear HNO HTF HC2 HTI
          refine wpAnyH_take (i := 0) (oi := { dst := some 15, op := Op.load 41 (Operand.tmp 4), type := 41, pos := "trees.go:65", after := #[], guard := none }) (v := _) rfl (by kernel_rfl) (by kernel_rfl) (by kernel_rfl) (fun _ _ _ h => h) (yieldsIf_load_mid (by rfl) _ _ rfl _ _ rfl _ _ (by intro w hSw; have hSw := OS _ hSw; go_split_ands; assumption) (by assumption) rfl (by assumption)) (by assumption) ?_
          try simp only [Act.put, List.setIfInBounds_toArray, List.set_cons_zero, List.set_cons_succ]
          refine wpAnyH_ready (rs := [1]) (by kernel_rfl) (by simp) ?_
          refine (AllReadyH.cons (o := { dst := some 16, op := Op.call { callee := Callee.value (Operand.func 23), args := #[Operand.tmp 15], argTypes := #[41] }, type := 4, pos := "trees.go:65", after := #[{ on := 0, ground := Ground.data }], guard := none }) rfl (fun K hK => ?_) AllReadyH.nil)
          go_simp
          refine (CM.out _ (by assumption)).mono ?_
          rintro e w1' ⟨rfl, m1'⟩
          refine hK.out _ _ (SO _ (by assumption)) (fun hHeld => ?_)
          clear hK K
          try simp only [Act.put, List.setIfInBounds_toArray, List.set_cons_zero, List.set_cons_succ]
          refine wpAnyH_take (i := 2) (oi := { dst := some 17, op := Op.unOp UnOp.not 4 (Operand.tmp 16), type := 4, pos := "trees.go:65", after := #[{ on := 1, ground := Ground.data }], guard := none }) (v := ?_) rfl (by kernel_rfl) (by kernel_rfl) (by kernel_rfl) (fun _ _ _ h => h) (Or.inl ⟨by rfl, ?_⟩) (by assumption) ?_
          rotate_left
          · intro w hSw
            skip
            clear hSw
            go_simp
            try with_reducible rfl
          try simp only [Act.put, List.setIfInBounds_toArray, List.set_cons_zero, List.set_cons_succ]
          refine wpAnyH_take (i := 3) (oi := { dst := some 18, op := Op.move (Operand.tmp 17), type := 4, pos := "trees.go:65", after := #[{ on := 2, ground := Ground.data }, { on := 1, ground := Ground.chain }], guard := none }) (v := ?_) rfl (by kernel_rfl) (by kernel_rfl) (by kernel_rfl) (fun _ _ _ h => h) (Or.inl ⟨by rfl, ?_⟩) (by assumption) ?_
          rotate_left
          · intro w hSw
            skip
            clear hSw
            go_simp
            try with_reducible rfl
          try simp only [Act.put, List.setIfInBounds_toArray, List.set_cons_zero, List.set_cons_succ]
          refine wpAnyH_take (i := 4) (oi := { dst := some 19, op := Op.move (Operand.tmp 0), type := 24, pos := "trees.go:65", after := #[{ on := 3, ground := Ground.guard }], guard := some (3, false) }) (v := ?_) rfl (by kernel_rfl) (by kernel_rfl) (by kernel_rfl) (fun _ _ _ h => h) (Or.inl ⟨by rfl, ?_⟩) (by assumption) ?_
          rotate_left
          · intro w hSw
            skip
            clear hSw
            go_simp
            try with_reducible rfl
          try simp only [Act.put, List.setIfInBounds_toArray, List.set_cons_zero, List.set_cons_succ]
          refine wpAnyH_take (i := 5) (oi := { dst := some 20, op := Op.move (Operand.tmp 3), type := 3, pos := "trees.go:65", after := #[{ on := 3, ground := Ground.guard }], guard := some (3, false) }) (v := ?_) rfl (by kernel_rfl) (by kernel_rfl) (by kernel_rfl) (fun _ _ _ h => h) (Or.inl ⟨by rfl, ?_⟩) (by assumption) ?_
          rotate_left
          · intro w hSw
            skip
            clear hSw
            go_simp
            try with_reducible rfl
          try simp only [Act.put, List.setIfInBounds_toArray, List.set_cons_zero, List.set_cons_succ]
          refine wpAnyH_take (i := 6) (oi := { dst := some 21, op := Op.slice 24 (Operand.tmp 19) none (some (Operand.tmp 20)) none, type := 24, pos := "trees.go:65", after := #[{ on := 4, ground := Ground.data }, { on := 5, ground := Ground.data }, { on := 3, ground := Ground.guard }], guard := some (3, false) }) (v := ?_) rfl (by kernel_rfl) (by kernel_rfl) (by kernel_rfl) (fun _ _ _ h => h) (Or.inl ⟨by rfl, ?_⟩) (by assumption) ?_
          rotate_left
          · intro w hSw
            skip
            clear hSw
            go_simp
            try with_reducible rfl
          try simp only [Act.put, List.setIfInBounds_toArray, List.set_cons_zero, List.set_cons_succ]
          refine wpAnyH_take (i := 7) (oi := { dst := some 22, op := Op.fieldAddr 41 (Operand.tmp 4) 0, type := 0, pos := "trees.go:65", after := #[{ on := 3, ground := Ground.guard }], guard := some (3, false) }) (v := ?_) rfl (by kernel_rfl) (by kernel_rfl) (by kernel_rfl) (fun _ _ _ h => h) (Or.inl ⟨by rfl, ?_⟩) (by assumption) ?_
          rotate_left
          · intro w hSw
            skip
            clear hSw
            go_simp
            try with_reducible rfl
          try simp only [Act.put, List.setIfInBounds_toArray, List.set_cons_zero, List.set_cons_succ]
          refine wpAnyH_take (i := 8) (oi := { dst := some 23, op := Op.load 9 (Operand.tmp 22), type := 9, pos := "trees.go:65", after := #[{ on := 7, ground := Ground.data }, { on := 3, ground := Ground.guard }], guard := some (3, false) }) (v := ?_) rfl (by kernel_rfl) (by kernel_rfl) (by kernel_rfl) (fun _ _ _ h => h) (Or.inl ⟨by rfl, ?_⟩) (by assumption) ?_
          rotate_left
          · intro w hSw
            have hSw := OS _ hSw
            go_simp
            try with_reducible rfl
          try simp only [Act.put, List.setIfInBounds_toArray, List.set_cons_zero, List.set_cons_succ]
          refine wpAnyH_ready (rs := [9]) (by kernel_rfl) (by simp) ?_
          refine (AllReadyH.cons (o := { dst := some 24, op := Op.call { callee := Callee.value (Operand.func 24), args := #[Operand.tmp 21, Operand.tmp 23], argTypes := #[24, 9] }, type := 4, pos := "trees.go:65", after := #[{ on := 6, ground := Ground.data }, { on := 8, ground := Ground.data }, { on := 3, ground := Ground.chain }, { on := 3, ground := Ground.guard }], guard := some (3, false) }) rfl (fun K hK => ?_) AllReadyH.nil)
          go_simp
          refine (CF.out _ (by assumption)).mono ?_
          rintro e w9' ⟨rfl, m9'⟩
          refine hK.out _ _ (SO _ (by assumption)) (fun hHeld => ?_)
          clear hK K
          try simp only [Act.put, List.setIfInBounds_toArray, List.set_cons_zero, List.set_cons_succ]
          refine wpAnyH_take (i := 10) (oi := { dst := some 25, op := Op.unOp UnOp.not 4 (Operand.tmp 24), type := 4, pos := "trees.go:65", after := #[{ on := 9, ground := Ground.data }, { on := 3, ground := Ground.guard }], guard := some (3, false) }) (v := ?_) rfl (by kernel_rfl) (by kernel_rfl) (by kernel_rfl) (fun _ _ _ h => h) (Or.inl ⟨by rfl, ?_⟩) (by assumption) ?_
          rotate_left
          · intro w hSw
            skip
            clear hSw
            go_simp
            try with_reducible rfl
          try simp only [Act.put, List.setIfInBounds_toArray, List.set_cons_zero, List.set_cons_succ]
          refine wpAnyH_take (i := 11) (oi := { dst := some 26, op := Op.pick (Operand.tmp 18) (Operand.const (Value.bool true)) (Operand.tmp 25), type := 4, pos := "trees.go:65", after := #[{ on := 3, ground := Ground.data }, { on := 10, ground := Ground.data }], guard := none }) (v := ?_) rfl (by kernel_rfl) (by kernel_rfl) (by kernel_rfl) (fun _ _ _ h => h) (Or.inl ⟨by rfl, ?_⟩) (by assumption) ?_
          rotate_left
          · intro w hSw
            skip
            clear hSw
            go_simp
            try with_reducible rfl
          try simp only [Act.put, List.setIfInBounds_toArray, List.set_cons_zero, List.set_cons_succ]
          refine wpAnyH_done (by kernel_rfl) ?_ _
          refine NoPanic.normal ?_
          go_wp2
          go_ret
          exact ⟨by rw [HR.out]; rfl, HEND.out _ (by assumption)⟩
        | true =>
          have HOK := Lib.hid (HTF.out hmay hfol)
          rw [hfol] at CF
          clear HNO HTF HTI
          refine wpAnyH_take (i := 0) (oi := { dst := some 15, op := Op.load 41 (Operand.tmp 4), type := 41, pos := "trees.go:65", after := #[], guard := none }) (v := _) rfl (by kernel_rfl) (by kernel_rfl) (by kernel_rfl) (fun _ _ _ h => h) (yieldsIf_load_mid (by rfl) _ _ rfl _ _ rfl _ _ (by intro w hSw; have hSw := OS _ hSw; go_split_ands; assumption) (by assumption) rfl (by assumption)) (by assumption) ?_
          try simp only [Act.put, List.setIfInBounds_toArray, List.set_cons_zero, List.set_cons_succ]
          refine wpAnyH_ready (rs := [1]) (by kernel_rfl) (by simp) ?_
          refine (AllReadyH.cons (o := { dst := some 16, op := Op.call { callee := Callee.value (Operand.func 23), args := #[Operand.tmp 15], argTypes := #[41] }, type := 4, pos := "trees.go:65", after := #[{ on := 0, ground := Ground.data }], guard := none }) rfl (fun K hK => ?_) AllReadyH.nil)
          go_simp
          refine (CM.out _ (by assumption)).mono ?_
          rintro e w1' ⟨rfl, m1'⟩
          refine hK.out _ _ (SO _ (by assumption)) (fun hHeld => ?_)
          clear hK K
          try simp only [Act.put, List.setIfInBounds_toArray, List.set_cons_zero, List.set_cons_succ]
          refine wpAnyH_take (i := 2) (oi := { dst := some 17, op := Op.unOp UnOp.not 4 (Operand.tmp 16), type := 4, pos := "trees.go:65", after := #[{ on := 1, ground := Ground.data }], guard := none }) (v := ?_) rfl (by kernel_rfl) (by kernel_rfl) (by kernel_rfl) (fun _ _ _ h => h) (Or.inl ⟨by rfl, ?_⟩) (by assumption) ?_
          rotate_left
          · intro w hSw
            skip
            clear hSw
            go_simp
            try with_reducible rfl
          try simp only [Act.put, List.setIfInBounds_toArray, List.set_cons_zero, List.set_cons_succ]
          refine wpAnyH_take (i := 3) (oi := { dst := some 18, op := Op.move (Operand.tmp 17), type := 4, pos := "trees.go:65", after := #[{ on := 2, ground := Ground.data }, { on := 1, ground := Ground.chain }], guard := none }) (v := ?_) rfl (by kernel_rfl) (by kernel_rfl) (by kernel_rfl) (fun _ _ _ h => h) (Or.inl ⟨by rfl, ?_⟩) (by assumption) ?_
          rotate_left
          · intro w hSw
            skip
            clear hSw
            go_simp
            try with_reducible rfl
          try simp only [Act.put, List.setIfInBounds_toArray, List.set_cons_zero, List.set_cons_succ]
          refine wpAnyH_take (i := 4) (oi := { dst := some 19, op := Op.move (Operand.tmp 0), type := 24, pos := "trees.go:65", after := #[{ on := 3, ground := Ground.guard }], guard := some (3, false) }) (v := ?_) rfl (by kernel_rfl) (by kernel_rfl) (by kernel_rfl) (fun _ _ _ h => h) (Or.inl ⟨by rfl, ?_⟩) (by assumption) ?_
          rotate_left
          · intro w hSw
            skip
            clear hSw
            go_simp
            try with_reducible rfl
          try simp only [Act.put, List.setIfInBounds_toArray, List.set_cons_zero, List.set_cons_succ]
          refine wpAnyH_take (i := 5) (oi := { dst := some 20, op := Op.move (Operand.tmp 3), type := 3, pos := "trees.go:65", after := #[{ on := 3, ground := Ground.guard }], guard := some (3, false) }) (v := ?_) rfl (by kernel_rfl) (by kernel_rfl) (by kernel_rfl) (fun _ _ _ h => h) (Or.inl ⟨by rfl, ?_⟩) (by assumption) ?_
          rotate_left
          · intro w hSw
            skip
            clear hSw
            go_simp
            try with_reducible rfl
          try simp only [Act.put, List.setIfInBounds_toArray, List.set_cons_zero, List.set_cons_succ]
          refine wpAnyH_take (i := 6) (oi := { dst := some 21, op := Op.slice 24 (Operand.tmp 19) none (some (Operand.tmp 20)) none, type := 24, pos := "trees.go:65", after := #[{ on := 4, ground := Ground.data }, { on := 5, ground := Ground.data }, { on := 3, ground := Ground.guard }], guard := some (3, false) }) (v := ?_) rfl (by kernel_rfl) (by kernel_rfl) (by kernel_rfl) (fun _ _ _ h => h) (Or.inl ⟨by rfl, ?_⟩) (by assumption) ?_
          rotate_left
          · intro w hSw
            skip
            clear hSw
            go_simp
            try with_reducible rfl
          try simp only [Act.put, List.setIfInBounds_toArray, List.set_cons_zero, List.set_cons_succ]
          refine wpAnyH_take (i := 7) (oi := { dst := some 22, op := Op.fieldAddr 41 (Operand.tmp 4) 0, type := 0, pos := "trees.go:65", after := #[{ on := 3, ground := Ground.guard }], guard := some (3, false) }) (v := ?_) rfl (by kernel_rfl) (by kernel_rfl) (by kernel_rfl) (fun _ _ _ h => h) (Or.inl ⟨by rfl, ?_⟩) (by assumption) ?_
          rotate_left
          · intro w hSw
            skip
            clear hSw
            go_simp
            try with_reducible rfl
          try simp only [Act.put, List.setIfInBounds_toArray, List.set_cons_zero, List.set_cons_succ]
          refine wpAnyH_take (i := 8) (oi := { dst := some 23, op := Op.load 9 (Operand.tmp 22), type := 9, pos := "trees.go:65", after := #[{ on := 7, ground := Ground.data }, { on := 3, ground := Ground.guard }], guard := some (3, false) }) (v := ?_) rfl (by kernel_rfl) (by kernel_rfl) (by kernel_rfl) (fun _ _ _ h => h) (Or.inl ⟨by rfl, ?_⟩) (by assumption) ?_
          rotate_left
          · intro w hSw
            have hSw := OS _ hSw
            go_simp
            try with_reducible rfl
          try simp only [Act.put, List.setIfInBounds_toArray, List.set_cons_zero, List.set_cons_succ]
          refine wpAnyH_ready (rs := [9]) (by kernel_rfl) (by simp) ?_
          refine (AllReadyH.cons (o := { dst := some 24, op := Op.call { callee := Callee.value (Operand.func 24), args := #[Operand.tmp 21, Operand.tmp 23], argTypes := #[24, 9] }, type := 4, pos := "trees.go:65", after := #[{ on := 6, ground := Ground.data }, { on := 8, ground := Ground.data }, { on := 3, ground := Ground.chain }, { on := 3, ground := Ground.guard }], guard := some (3, false) }) rfl (fun K hK => ?_) AllReadyH.nil)
          go_simp
          refine (CF.out _ (by assumption)).mono ?_
          rintro e w9' ⟨rfl, m9'⟩
          refine hK.out _ _ (SO _ (by assumption)) (fun hHeld => ?_)
          clear hK K
          try simp only [Act.put, List.setIfInBounds_toArray, List.set_cons_zero, List.set_cons_succ]
          refine wpAnyH_take (i := 10) (oi := { dst := some 25, op := Op.unOp UnOp.not 4 (Operand.tmp 24), type := 4, pos := "trees.go:65", after := #[{ on := 9, ground := Ground.data }, { on := 3, ground := Ground.guard }], guard := some (3, false) }) (v := ?_) rfl (by kernel_rfl) (by kernel_rfl) (by kernel_rfl) (fun _ _ _ h => h) (Or.inl ⟨by rfl, ?_⟩) (by assumption) ?_
          rotate_left
          · intro w hSw
            skip
            clear hSw
            go_simp
            try with_reducible rfl
          try simp only [Act.put, List.setIfInBounds_toArray, List.set_cons_zero, List.set_cons_succ]
          refine wpAnyH_take (i := 11) (oi := { dst := some 26, op := Op.pick (Operand.tmp 18) (Operand.const (Value.bool true)) (Operand.tmp 25), type := 4, pos := "trees.go:65", after := #[{ on := 3, ground := Ground.data }, { on := 10, ground := Ground.data }], guard := none }) (v := ?_) rfl (by kernel_rfl) (by kernel_rfl) (by kernel_rfl) (fun _ _ _ h => h) (Or.inl ⟨by rfl, ?_⟩) (by assumption) ?_
          rotate_left
          · intro w hSw
            skip
            clear hSw
            go_simp
            try with_reducible rfl
          try simp only [Act.put, List.setIfInBounds_toArray, List.set_cons_zero, List.set_cons_succ]
          refine wpAnyH_done (by kernel_rfl) ?_ _
          refine NoPanic.normal ?_
          have HBF := Lib.hid (HEND.out _ (by assumption))
          go_wp2
          go_roundw
          case rel => exact ⟨k + 1, by omega, by go_num, HOK, HBF⟩
          case measure => simp [intOf]; omega
    · have HR := Lib.hid (HC2.out.trans (if_pos (HTI.out.2 fun j y hy => hok.out j y (by have := HLT.out j y hy; omega) hy)))
      go_wp2
      go_ret
      exact ⟨by rw [HR.out]; rfl, hBr.out⟩
end Go.Proofs.YtbjgmkjinnbokaaGreatDoor
#print axioms Go.Proofs.YtbjgmkjinnbokaaGreatDoor.check_any

