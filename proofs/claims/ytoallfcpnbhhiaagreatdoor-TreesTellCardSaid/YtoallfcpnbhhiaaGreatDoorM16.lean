/- Merged: TtH, TtI. -/
import Derived.Test.YtoallfcpnbhhiaaGreatDoorM15
import Derived.Laws.IdiomRangeMap
import Derived.Deep.LoopGhost
/- Layer 16: the program's groundOf. -/
namespace Go.Proofs.YtoallfcpnbhhiaaGreatDoor
open Go.RowKit

theorem ground_snoc (l : List Nd) (x : Nd) : groundOf (l ++ [x]) = putG (groundOf l) ⟨x, 0⟩ := by simp [groundOf]
theorem cut_recN {α : Type} (P : List α → Prop) (h0 : P []) (h1 : ∀ l x, P l → P (l ++ [x])) : ∀ l, P l := fun l => by
  rcases List.eq_nil_or_concat l with rfl | ⟨r, x, rfl⟩
  · exact h0
  · rw [List.concat_eq_append]
    exact h1 r x (cut_recN P h0 h1 r)
termination_by l => l.length
decreasing_by rename_i h; rw [h]; simp
theorem ground_len (l : List Nd) : (groundOf l).length ≤ l.length := by
  refine cut_recN (fun l => (groundOf l).length ≤ l.length) (Nat.le_refl _) (fun l x h => ?_) l
  rw [ground_snoc, List.length_append]
  have := put_len (groundOf l) ⟨x, 0⟩
  simp only [List.length_singleton]
  omega
theorem ground_rise (l : List Nd) : Rise (groundOf l) := by
  refine cut_recN (fun l => Rise (groundOf l)) List.Pairwise.nil (fun l x h => ?_) l
  rw [ground_snoc]
  exact rise_put h _
set_option maxRecDepth 100000 in
set_option maxHeartbeats 16000000 in
theorem groundOf_any (l : List Nd) (ad : Option Addr) (c : Nat) (hl : l.length ≤ 1000000) (hp : ∀ x ∈ l, x.path.length ≤ 900000) (w : World) (h : NodesAt w ad l) :
    Calls Tryz.prog 38 #[.slice ad l.length c] w fun e w' => e = .returned (.pointer (some ⟨w.heap.size + 1, 0, none⟩)) ∧ rowC w' (w.heap.size + 1) #[.map (some w.heap.size), .int .i64 0] 102 ∧ MapG w' w.heap.size (groundOf l) ∧ Below w.heap.size w w' := by
  have HI := Lib.hid info_nd4
  have hmm := @run_makeMap Tryz.prog
  have HN := Lib.hid h
  have HP := Lib.hid hp
  have HG : Hid (∀ i, i < l.length → ∃ x, l[i]? = some x ∧ groundOf (l.take (i + 1)) = putG (groundOf (l.take i)) ⟨x, 0⟩) := Lib.hid fun i hi => ⟨_, List.getElem?_eq_getElem hi, by rw [List.take_succ_eq_append_getElem hi, ground_snoc]⟩
  have HGL : Hid (∀ i, (groundOf (l.take i)).length ≤ 1000000) := Lib.hid fun i => by
    have := ground_len (l.take i)
    rw [List.length_take] at this
    omega
  have HALL : Hid (l.take l.length = l) := Lib.hid (List.take_length)
  obtain ⟨N, hN⟩ : ∃ N, N = l.length := ⟨_, rfl⟩
  rw [← hN] at hl HG HALL ⊢
  clear h hp hN
  have HM0 : Hid (MapG (w.alloc (.map #[] 0)) w.heap.size []) := Lib.hid (MapG.made w)
  obtain ⟨W0, hW0⟩ : ∃ W0, W0 = (w.alloc (.map #[] 0)).alloc (.cells #[.map (some w.heap.size), .int .i64 0] 102) := ⟨_, rfl⟩
  have HW0 := Lib.hid hW0
  have HR0 : Hid (rowC W0 (w.heap.size + 1) #[.map (some w.heap.size), .int .i64 0] 102) := Lib.hid (by
    have := rowC_new (w.alloc (.map #[] 0)) #[.map (some w.heap.size), .int .i64 0] 102
    rw [size_alloc] at this
    rw [hW0]; exact this)
  have HMM : Hid (MapG W0 w.heap.size []) := Lib.hid (by rw [hW0]; exact HM0.out.below ((Below.refl _ _).alloc (Nat.le_refl _) _))
  have HB0 : Hid (Below w.heap.size w W0) := Lib.hid (by rw [hW0]; exact ((Below.refl _ _).alloc (Nat.le_refl _) _).alloc (by rw [size_alloc]; omega) _)
  clear hW0 HM0
  go_enter Tryz.func38, Tryz.ntmps38
  go_upto_region 3 with (fail)
  rw [← HW0.out]
  go_loopw [5, 11] (fun _ i wr => ∃ k : Nat, k ≤ N ∧ i = .int .i64 k ∧ Hid (rowC wr (w.heap.size + 1) #[.map (some w.heap.size), .int .i64 0] 102) ∧ Hid (MapG wr w.heap.size (groundOf (l.take k))) ∧ Hid (Below w.heap.size w wr)) (fun _ i _ => N - (intOf i).toNat)
  case atStart => exact ⟨0, Nat.zero_le _, rfl, HR0, HMM, HB0⟩
  case round =>
    obtain ⟨k, hk, rfl, hR, hM, hBr⟩ := hrel
    by_cases hlt : k < N
    · obtain ⟨x, hx, hgs⟩ := HG.out k hlt
      obtain ⟨ax, rfl, hax, hcx⟩ := HN.out k x hx
      have HCX : Hid (∀ W, Below w.heap.size w W → ∀ j u, (ndV x)[j]? = some u → W.cell? ((ax.add (k * 4)).add j) = some u) := Lib.hid fun W hb j u hu => by
        rw [cell_far hb (by rw [add_blk, add_blk]; exact hax)]
        exact hcx j u hu
      have HONE := Lib.hid (ndA_one x)
      have HGS := Lib.hid hgs
      have g1 : (k : Int) < (N : Int) := by omega
      have HXL := Lib.hid (HP.out x (List.mem_of_getElem? hx))
      obtain ⟨W1, hW1⟩ : ∃ W1, W1 = wr.alloc (.cells (ndA x) 32) := ⟨_, rfl⟩
      have HW1 := Lib.hid hW1
      have HB1 : Hid (Below w.heap.size w W1) := Lib.hid (by rw [hW1]; exact hBr.out.alloc hBr.out.size _)
      have HZ1 : Hid (rowC W1 wr.heap.size (ndA x) 32) := Lib.hid (by rw [hW1]; exact rowC_new wr _ _)
      have HR1 : Hid (rowC W1 (w.heap.size + 1) #[.map (some w.heap.size), .int .i64 0] 102) := Lib.hid (by rw [hW1]; exact rowC_alloc hR.out _)
      have HM1 : Hid (MapG W1 w.heap.size (groundOf (l.take k))) := Lib.hid (by rw [hW1]; exact hM.out.below ((Below.refl _ _).alloc (Nat.le_refl _) _))
      have hszr : w.heap.size + 1 < wr.heap.size := rowC_lt hR.out
      clear hW1 hx hcx hgs
      go_upto_region 5 with (first
        | ((with_reducible show wpList _ _ _ (⟨some 14, .load _ _, _, _, _, _⟩ :: _) _ _); refine wpList_load_at rfl 32 _ rfl (ax.add (k * 4)) rfl (ndV x) _ (HCX.out wr hBr.out) Tryz.underlying32 rfl HI.out ?_)
        | ((with_reducible show wpList _ _ _ (⟨none, .store _ (.tmp 5) _, _, _, _, _⟩ :: _) _ _); refine wpList_store_last rfl 32 _ _ rfl wr.heap.size (ndA x) rfl rfl 32 _ rfl HI.out rfl HONE.out ?_))
      rw [← HW1.out]
      try simp only [Act.put]
      have OS : ∀ w', Gn W1 (fun j => j = w.heap.size) w' → w'.rangeAt wr.heap.size 0 (ndV x) ∧ w'.cell? ⟨wr.heap.size, 0, none⟩ = some (.string (str x.path)) ∧ w'.cell? ⟨w.heap.size + 1, 0, none⟩ = some (.map (some w.heap.size)) := fun w' hg =>
        ⟨rowC_range (hg.row HZ1.out (by omega)) 0 _ (fun j u hj => by rw [Nat.zero_add, ← ndV_arr, List.getElem?_toArray]; exact hj), rowC_cell (hg.row HZ1.out (by omega)) 0, rowC_cell (hg.row HR1.out (by omega)) 0⟩
      have SO : ∀ w', Gn W1 (fun j => j = w.heap.size) w' → Gn W1 (fun j => j = w.heap.size) w' := fun _ h => h
      have HEND : Hid (∀ w', Gn W1 (fun j => j = w.heap.size) w' → Below w.heap.size w w' ∧ rowC w' (w.heap.size + 1) #[.map (some w.heap.size), .int .i64 0] 102) := Lib.hid fun w' hg => ⟨HB1.out.trans (hg.below HB1.out.size (fun _ h1 h2 => by omega)), hg.row HR1.out (by omega)⟩
      have ui := Tryz.underlying32
      have ii := info_nd4
      refine wp_region_noPanic ?_
      refine wp_region_held_drew (S := Gn W1 (fun j => j = w.heap.size)) (by kernel_rfl) (Gn.start _ _) (fun hHeld => ?_)
      have HMd : Hid (MapG W1.drew w.heap.size (groundOf (l.take k))) := Lib.hid (HM1.out.chg (s := fun _ => False) (Chg.refl _ _).drew id)
      generalize W1.drew = wd at *
      refine wpAnyH_take (i := 0) (oi := { dst := some 15, op := Op.move (Operand.tmp 3), type := 78, pos := "trees.go:189", after := #[], guard := none }) (v := ?_) rfl (by kernel_rfl) (by kernel_rfl) (by kernel_rfl) (fun _ _ _ h => h) (Or.inl ⟨by rfl, ?_⟩) (by assumption) ?_
      rotate_left
      · intro w hSw
        skip
        clear hSw
        go_simp
        try with_reducible rfl
      try simp only [Act.put, List.setIfInBounds_toArray, List.set_cons_zero, List.set_cons_succ]
      refine wpAnyH_take (i := 1) (oi := { dst := some 16, op := Op.nilCheck (Operand.tmp 15), type := 0, pos := "trees.go:189", after := #[{ on := 0, ground := Ground.data }], guard := none }) (v := ?_) rfl (by kernel_rfl) (by kernel_rfl) (by kernel_rfl) (fun _ _ _ h => h) (Or.inl ⟨by rfl, ?_⟩) (by assumption) ?_
      rotate_left
      · intro w hSw
        skip
        clear hSw
        go_simp
        try with_reducible rfl
      try simp only [Act.put, List.setIfInBounds_toArray, List.set_cons_zero, List.set_cons_succ]
      refine wpAnyH_take (i := 2) (oi := { dst := some 17, op := Op.fieldAddr 102 (Operand.tmp 16) 0, type := 0, pos := "trees.go:189", after := #[{ on := 1, ground := Ground.data }], guard := none }) (v := ?_) rfl (by kernel_rfl) (by kernel_rfl) (by kernel_rfl) (fun _ _ _ h => h) (Or.inl ⟨by rfl, ?_⟩) (by assumption) ?_
      rotate_left
      · intro w hSw
        skip
        clear hSw
        go_simp
        try with_reducible rfl
      try simp only [Act.put, List.setIfInBounds_toArray, List.set_cons_zero, List.set_cons_succ]
      refine wpAnyH_take (i := 4) (oi := { dst := some 19, op := Op.fieldAddr 32 (Operand.tmp 5) 0, type := 0, pos := "trees.go:189", after := #[], guard := none }) (v := ?_) rfl (by kernel_rfl) (by kernel_rfl) (by kernel_rfl) (fun _ _ _ h => h) (Or.inl ⟨by rfl, ?_⟩) (by assumption) ?_
      rotate_left
      · intro w hSw
        skip
        clear hSw
        go_simp
        try with_reducible rfl
      try simp only [Act.put, List.setIfInBounds_toArray, List.set_cons_zero, List.set_cons_succ]
      refine wpAnyH_take (i := 3) (oi := { dst := some 18, op := Op.load 100 (Operand.tmp 17), type := 100, pos := "trees.go:189", after := #[{ on := 2, ground := Ground.data }], guard := none }) (v := ?_) rfl (by kernel_rfl) (by kernel_rfl) (by kernel_rfl) (fun _ _ _ h => h) (Or.inl ⟨by rfl, ?_⟩) (by assumption) ?_
      rotate_left
      · intro w hSw
        have hSw := OS _ hSw
        go_simp
        try with_reducible rfl
      try simp only [Act.put, List.setIfInBounds_toArray, List.set_cons_zero, List.set_cons_succ]
      refine wpAnyH_take (i := 5) (oi := { dst := some 20, op := Op.load 9 (Operand.tmp 19), type := 9, pos := "trees.go:189", after := #[{ on := 4, ground := Ground.data }], guard := none }) (v := ?_) rfl (by kernel_rfl) (by kernel_rfl) (by kernel_rfl) (fun _ _ _ h => h) (Or.inl ⟨by rfl, ?_⟩) (by assumption) ?_
      rotate_left
      · intro w hSw
        have hSw := OS _ hSw
        go_simp
        try with_reducible rfl
      try simp only [Act.put, List.setIfInBounds_toArray, List.set_cons_zero, List.set_cons_succ]
      refine wpAnyH_take (i := 6) (oi := { dst := some 21, op := Op.load 32 (Operand.tmp 5), type := 32, pos := "trees.go:189", after := #[], guard := none }) (v := _) rfl (by kernel_rfl) (by kernel_rfl) (by kernel_rfl) (fun _ _ _ h => h) (yieldsIf_load_mid (by rfl) _ _ rfl _ _ rfl _ _ (by intro w hSw; have hSw := OS _ hSw; go_split_ands; assumption) (by assumption) rfl (by assumption)) (by assumption) ?_
      try simp only [Act.put, List.setIfInBounds_toArray, List.set_cons_zero, List.set_cons_succ]
      refine wpAnyH_take (i := 7) (oi := { dst := some 22, op := Op.build 104 #[(0, Operand.tmp 21)], type := 104, pos := "trees.go:189", after := #[{ on := 6, ground := Ground.data }], guard := none }) (v := .agg (plA ⟨x, 0⟩)) rfl (by kernel_rfl) (by kernel_rfl) (by kernel_rfl) (fun _ _ _ h => h) (Or.inl ⟨by rfl, ?_⟩) (by assumption) ?_
      · intro w hSw
        skip
        clear hSw
        go_simp
        rfl
      try simp only [Act.put, List.setIfInBounds_toArray, List.set_cons_zero, List.set_cons_succ]
      refine wpAnyH_ready (rs := [8]) (by kernel_rfl) (by simp) ?_
      refine (AllReadyH.cons (o := { dst := none, op := Op.mapUpdate 100 (Operand.tmp 18) (Operand.tmp 20) (Operand.tmp 22), type := 0, pos := "trees.go:189", after := #[{ on := 3, ground := Ground.data }, { on := 5, ground := Ground.data }, { on := 7, ground := Ground.data }, { on := 0, ground := Ground.phase }, { on := 1, ground := Ground.phase }, { on := 2, ground := Ground.phase }, { on := 3, ground := Ground.phase }, { on := 4, ground := Ground.phase }, { on := 5, ground := Ground.phase }, { on := 6, ground := Ground.phase }, { on := 7, ground := Ground.phase }], guard := none }) rfl (fun K hK => ?_) AllReadyH.nil)
      obtain ⟨w8, hrun8, hM8, hg8⟩ := HMd.out.put (by have := HGL.out k; unfold maxLen; omega) ⟨x, 0⟩ (by have := HXL.out; unfold maxLen; show x.path.length ≤ _; omega)
      have hrun8b : ∀ v, v = Value.agg (plA ⟨x, 0⟩) → (Instr.mapUpdate 100 (.map (some w.heap.size)) (.string (str x.path)) v).run Tryz.prog wd = .ok () w8 := fun v hv => by rw [hv]; exact hrun8
      have hrun9 := hrun8b _ rfl
      unfold plA at hrun9
      simp only at hrun9
      go_simp
      refine hK.out _ _ (SO _ (Gn.grown (by assumption) hg8 (fun j hj => (by cases hj; exact .inl rfl)))) (fun hHeld2 => ?_)
      clear hK K
      refine wpAnyH_done (by kernel_rfl) ?_ _
      refine NoPanic.normal ?_
      have HF1 := Lib.hid (HEND.out _ (by assumption)).1
      have HF2 := Lib.hid (HEND.out _ (by assumption)).2
      have HM2 : Hid (MapG w8 w.heap.size (groundOf (l.take (k + 1)))) := Lib.hid (by rw [HGS.out]; exact hM8)
      go_wp2
      go_roundw
      case rel => exact ⟨k + 1, by omega, by go_num, HF2, HM2, HF1⟩
      case measure => simp [intOf]; omega
    · obtain rfl : k = N := by omega
      have HMF := hM.out
      rw [HALL.out] at HMF
      go_wp2
      go_ret
      exact ⟨rfl, hR.out, HMF, hBr.out⟩
end Go.Proofs.YtoallfcpnbhhiaaGreatDoor
#print axioms Go.Proofs.YtoallfcpnbhhiaaGreatDoor.groundOf_any

/- Layer 16: maps.DeleteFunc over the ground's map, with any predicate on places. -/
namespace Go.Proofs.YtoallfcpnbhhiaaGreatDoor
open Go.RowKit Go.Maps

theorem key_inv {key : Value} {kl : Lit} (h : keyOf Tryz.prog 9 key = some kl) : ∃ s : ByteArray, key = .string s ∧ kl = .string s.data.toList := by
  rw [Go.keyOf_string Tryz.underlying9] at h
  cases key <;> simp [mapKey, Tryz.underlying9] at h
  rename_i s
  exact ⟨s, rfl, h.2.symm⟩
/-- The predicate, on what a map's entry reads as. -/
def pdP (f : Pl → Bool) (_ : Lit) (d : DataW Pl) : Bool := match d with | .held p => f p | _ => false
theorem dat_entry {G : List Pl} {F : Lit × DataW Pl → Bool} {kl : Lit} {p : Pl} {s : ByteArray} (hkl : kl = .string s.data.toList)
    (hat : ∀ zd, (DataW.map ((G.map fun p => ((Lit.string p.nd.path, DataW.held p) : Lit × DataW Pl)).filter F)).atKey kl zd = .held p) : p ∈ G ∧ s = str p.nd.path := by
  subst hkl
  have h := hat .nil
  unfold DataW.atKey at h
  simp only at h
  split at h
  · rename_i q hq
    have h1 := List.find?_some hq
    have h2 := (List.mem_filter.1 (List.mem_of_find?_eq_some hq)).1
    obtain ⟨r, hr, rfl⟩ := List.mem_map.1 h2
    simp only at h h1
    cases h
    rw [string_key] at h1
    refine ⟨hr, ?_⟩
    have e := of_decide_eq_true h1
    refine bytes_toList ?_
    rw [str_toList]
    exact e.symm
  · cases h
set_option maxHeartbeats 16000000 in
set_option maxRecDepth 100000 in
theorem delFunc_any (f : Pl → Bool) (g : Nat) (cb : Array Value) (M : Nat) (G : List Pl) (w : World)
    (eg : ∀ args w, (callFunc g args).run Tryz.prog w = .ok (.enter g args) w) (hM : MapG w M G)
    (hdel : ∀ (W : World) (p : Pl), p ∈ G → w.grownBy W (some M) → Calls Tryz.prog g (#[.string (str p.nd.path), .agg (plA p)] ++ cb) W fun e w' => e = .returned (.bool (f p)) ∧ W.grownBy w' none) :
    Calls Tryz.prog 90 #[.map (some M), .func (.func g) #[] cb] w fun e w' => e = .returned (.tuple #[]) ∧ MapG w' M (G.filter fun p => !f p) ∧ w.grownBy w' (some M) := by
  have HI := Lib.hid info_pl5
  obtain ⟨es0, hes, hap, hkeys⟩ := World.ownsMap.entries hM key_law
  have hes2 : es0 = G.map fun p => ((Lit.string p.nd.path, DataW.held p) : Lit × DataW Pl) := by
    unfold datG at hes
    injection hes with hes
    exact hes.symm
  have hown : w.ownsMap Tryz.prog 9 plR M G.length (.map es0) := by rw [← hes]; exact hM
  have HENT : Hid (∀ {F : Lit × DataW Pl → Bool} {kl : Lit} {p : Pl} {s : ByteArray}, kl = .string s.data.toList → (∀ zd, (DataW.map (es0.filter F)).atKey kl zd = .held p) → p ∈ G ∧ s = str p.nd.path) := Lib.hid fun h1 h2 => dat_entry h1 (by rw [← hes2]; exact h2)
  have HEND : Hid (∀ w' : World, w'.ownsMap Tryz.prog 9 plR M G.length (Lib.deleteFuncD (pdP f) (.map es0)) → MapG w' M (G.filter fun p => !f p)) := Lib.hid fun w' h => by
    rw [← hes, dat_filter] at h
    exact MapG.of h
  have HD : Aside _ := hdel
  obtain ⟨n, hn⟩ : ∃ n, n = G.length := ⟨_, rfl⟩
  rw [← hn] at hown HEND
  clear hdel hM hes hes2 hn
  go_enter Tryz.func90, Tryz.ntmps90
  go_wp2_with (first
    | (at_range; refine wpList_range_own _ rfl _ 100 rfl 9 104 key_law Tryz.underlying100 plR M n _ rfl hown ?_; intro w0 hrg0 hg0 hs0)
    | go_in)
  go_frame
  go_loopw [4, 5, 8] (fun _ _ _ wr => ∃ (left : Lit → Bool) (cnt : Nat), wr.ranges Tryz.prog 9 plR M w.heap.size n (Fk (pdP f) es0 left) left cnt ∧ w.grownBy wr (some M))
    (fun _ _ _ wr => wr.rangeLeft M w.heap.size)
  case atStart => exact ⟨_, _, by rw [Fk_start hkeys]; exact hrg0, hg0.but _⟩
  case round =>
    obtain ⟨left, cnt, hrg, hgw⟩ := hrel
    go_wp2_with (first
      | (at_next; refine wpList_next_ranges _ rfl _ rfl 9 key_law plR Value.string (fun p => Value.agg (plA p)) (fun key kl h => (by obtain ⟨s, h1, _⟩ := key_inv h; exact ⟨s, h1⟩)) (fun v y h => (by obtain ⟨p, h1, _⟩ := plR_inv h; exact ⟨p, h1⟩)) M w.heap.size n _ _ _ rfl hrg ?_ ?_)
      | go_in)
    · intro _ hl0
      go_wp2
      go_end0
      exact ⟨rfl, HEND.out _ (by rw [← Fk_end hl0]; exact hrg.owns), hgw⟩
    · intro s p kl yd yp w1 cnt1 hkey hlx hv hat hrg1 hlt hg1 hs1 hen
      obtain ⟨s', hs', hkl⟩ := key_inv hkey
      obtain rfl : s = s' := by injection hs'
      rw [plR_mk] at hv
      simp only [Option.some.injEq, Prod.mk.injEq] at hv
      obtain ⟨rfl, rfl⟩ := hv
      obtain ⟨hpG, hsp⟩ := HENT.out hkl hat
      subst hsp
      have hgw1 := hgw.andThen hg1 (fun j hj => by cases hj; exact Or.inl (Nat.le_refl _))
      obtain ⟨W2, hW2⟩ : ∃ W2, W2 = w1.alloc (.cells (plA p) 104) := ⟨_, rfl⟩
      have hgA : w1.grownBy W2 none := by rw [hW2]; exact World.grownBy_alloc w1 _ none
      have HZ2 : Hid (rowC W2 w1.heap.size (plA p) 104) := Lib.hid (by rw [hW2]; exact rowC_new w1 _ _)
      have HW2 := Lib.hid hW2
      have hgw2 := hgw1.andThen hgA (fun j hj => by cases hj)
      have hrg2 := hrg1.kept hgA (by simp) (by simp)
      have hc := HD.out W2 p hpG hgw2
      have HONE := Lib.hid (plA_one p)
      clear hW2 hs1
      have hpd : ∀ d : DataW Pl, d = .held p → pdP f kl d = f p := fun d hd => by rw [hd]; rfl
      cases hp : f p <;> rw [hp] at hc
      · go_wp2_with (first
          | ((with_reducible show wpList _ _ _ (⟨none, .store _ (.tmp 5) _, _, _, _, _⟩ :: _) _ _); refine wpList_store_last rfl 104 _ _ rfl w1.heap.size (plA p) rfl rfl 104 _ rfl HI.out rfl HONE.out ?_; rw [← HW2.out])
          | ((with_reducible show wpList _ _ _ (⟨some 15, .load _ _, _, _, _, _⟩ :: _) _ _); refine wpList_load_row rfl 104 _ rfl w1.heap.size rfl 104 (plA p) (0, 0) _ HZ2.out Tryz.underlying104 rfl HI.out ?_)
          | (go_at_fn g; refine hc.mono ?_; rintro e w2 ⟨rfl, hg2⟩)
          | go_in)
        have hrg3 := hrg2.kept hg2 (by simp) (by simp)
        go_roundw
        case rel => exact ⟨_, cnt1, by rw [← Fk_stays hap (key_law.key hkey) hlx (hpd _ rfl ▸ hp) hat]; exact hrg3, hgw2.andThen hg2 (fun j hj => by cases hj)⟩
        case measure => rw [hrg3.left_eq, hrg.left_eq]; exact hlt
      · go_wp2_with (first
          | ((with_reducible show wpList _ _ _ (⟨none, .store _ (.tmp 5) _, _, _, _, _⟩ :: _) _ _); refine wpList_store_last rfl 104 _ _ rfl w1.heap.size (plA p) rfl rfl 104 _ rfl HI.out rfl HONE.out ?_; rw [← HW2.out])
          | ((with_reducible show wpList _ _ _ (⟨some 15, .load _ _, _, _, _, _⟩ :: _) _ _); refine wpList_load_row rfl 104 _ rfl w1.heap.size rfl 104 (plA p) (0, 0) _ HZ2.out Tryz.underlying104 rfl HI.out ?_)
          | (go_at_fn g; refine hc.mono ?_; rintro e w2 ⟨rfl, hg2⟩; have hrg3 := hrg2.kept hg2 (by simp) (by simp))
          | (at_delete; refine wpList_delete_ranges _ rfl _ _ 100 9 rfl 104 key_law Tryz.underlying100 plR M w.heap.size n _ _ _ rfl hrg3 _ _ rfl hkey ?_; intro w3 cnt3 hrg4 hle hturn; go_frame)
          | go_in)
        rw [strike_twice] at hrg4
        go_roundw
        case rel => exact ⟨_, cnt3, by rw [← Fk_struck hap (key_law.key hkey) hlx (hpd _ rfl ▸ hp) hat]; exact hrg4, (hgw2.andThen hg2 (fun j hj => by cases hj)).andThen hturn.grown (fun j hj => by cases hj; exact Or.inr rfl)⟩
        case measure => rw [hrg4.left_eq, hrg.left_eq]; omega
end Go.Proofs.YtoallfcpnbhhiaaGreatDoor
#print axioms Go.Proofs.YtoallfcpnbhhiaaGreatDoor.delFunc_any

