/- Merged: OdQ, OdR, OdS. -/
import Derived.Test.YtnkencdibniagaaGreatDoorM23
import Derived.Test.YtnkencdibniagaaGreatDoorM27
import Derived.Test.YtnkencdibniagaaGreatDoorM30
/- Layer 13: a text's value, that says that it is of a kind. -/
namespace Go.Proofs.YtnkencdibniagaaGreatDoor
open Go.RowKit

/-- What is wrong with a text that was parsed so: 0 is nothing. -/
def codeP (kind : Nat) (R : Res JV) : Nat := match R with | .bad c _ => c | .ok v _ => headV kind v
def ParP (w : World) (kind : Nat) (R : Res JV) (e : Ending) (w' : World) : Prop :=
  ∃ v code y m z n, e = .returned (.tuple #[.agg (row4 v.kind (str v.text) y v.items.length m z v.keys.length n), .int .i64 ((code : Nat) : Int)]) ∧
    HoldsC w' (fun k => w.heap.size ≤ k ∧ k < w'.heap.size) v (.int .i64 v.kind) (.string (str v.text)) (.slice y v.items.length m) (.slice z v.keys.length n) ∧
    ((∃ r, R = .ok v r) ∧ code = 0 ∧ headV kind v = 0 ∨ code ≠ 0 ∧ code = codeP kind R) ∧ Below w.heap.size w w'
theorem parP_bad {w w' : World} {kind code : Nat} {R : Res JV} (hB : Below w.heap.size w w') (h : code ≠ 0 ∧ code = codeP kind R) : ParP w kind R (.returned (.tuple #[.agg zeroV4, .int .i64 ((code : Nat) : Int)])) w' :=
  ⟨.mk 0 [] [] [], code, none, 0, none, 0, rfl, by rw [HoldsC]; exact ⟨rfl, rfl, by simp, .inl ⟨rfl, rfl⟩, .inl ⟨rfl, rfl⟩⟩, .inr h, hB⟩
theorem head_ver {kind : Nat} {v : JV} (h : partV v kVer intV ≠ some 2) : headV kind v = 10 := by unfold headV; rw [if_pos h]
theorem head_med {kind : Nat} {v : JV} (h : partV v kVer intV = some 2) : headV kind v = match anyV [] v kMed (mediaV kind) with | none => 72 | some _ => 0 := by unfold headV; rw [if_neg (by simp [h])]; cases anyV [] v kMed (mediaV kind) <;> rfl
set_option maxRecDepth 100000 in
set_option maxHeartbeats 16000000 in
theorem oparse_any {q : Nat} {S : Bs} {R : Res JV} (hS : S.length ≤ 65536) (kind : Nat) (w : World) (hE : Env2 w) (hR : allP q S = some R) :
    Calls Tryz.prog 31 #[.string (str S), .int .i64 (kind : Int)] w fun e w' => ParP w kind R e w' := by
  obtain ⟨W0, hW0⟩ : ∃ W0, W0 = w.alloc (.cells #[.int .i64 0, .string ⟨#[]⟩, .slice none 0 0, .slice none 0 0] 63) := ⟨_, rfl⟩
  have Z0 : rowC W0 w.heap.size zeroV4 63 := by rw [hW0]; exact rowC_new w _ _
  have B0 : Below w.heap.size w W0 := by rw [hW0]; exact (Below.refl _ _).alloc (Nat.le_refl _) _
  have S0 : W0.heap.size = w.heap.size + 1 := by rw [hW0, size_alloc]
  have hbig := hE.env.big
  have CR := jparse_any (S := S) (by unfold okS; omega) W0 (hE.below B0).env hR
  have HW0 := Lib.hid hW0
  have HZ0 := Lib.hid Z0
  have HB0 := Lib.hid B0
  have HI := Lib.hid info_V
  have HE := Lib.hid hE
  have HRR := Lib.hid hR
  have HSL := Lib.hid hS
  clear hW0 Z0 B0 hE hR hS
  cases R with
  | bad code r =>
    have hc : code ≠ 0 := by rcases all_1x _ _ _ _ HRR.out with h | h <;> omega
    have hci : ¬ (code : Int) = 0 := by omega
    have hcb : ((code : Int) == 0) = false := by rw [beq_eq_false_iff_ne]; exact hci
    unfold saysP at CR
    dsimp only at CR
    go_enter Tryz.func31, Tryz.ntmps31
    go_upto_region 1 with (fail)
    rw [← HW0.out]
    go_upto_region 2 with (first
      | (go_at_call 28; ((with_reducible refine CR.mono ?_); rintro e w2 ⟨rfl, hb2⟩; have HB2 := Lib.hid hb2; have s2 := hb2.size; clear hb2))
      | ((with_reducible show wpList _ _ _ (⟨none, .store _ (.tmp 6) _, _, _, _, _⟩ :: _) _ _); refine wpList_store_last rfl 63 _ _ rfl w2.heap.size zeroV4 rfl rfl 63 zeroV4 rfl HI.out rfl zeroV4_all ?_))
    have B2 : Hid (Below w.heap.size w (w2.alloc (.cells zeroV4 63))) := Lib.hid ((HB0.out.trans (HB2.out.mono (by omega))).alloc (by omega) _)
    have Z2 : Hid (rowC (w2.alloc (.cells zeroV4 63)) w.heap.size zeroV4 63) := Lib.hid (rowC_alloc (rowC_below HZ0.out HB2.out (by omega)) _)
    generalize w2.alloc (.cells zeroV4 63) = W2 at *
    go_wp2_with (first
      | ((with_reducible show wpList _ _ _ (⟨some 21, .build _ _, _, _, _, _⟩ :: _) _ _); refine wpList_build_as rfl 63 _ rfl zeroV4 (by kernel_rfl) ?_)
      | ((with_reducible show wpList _ _ _ (⟨none, .store _ (.tmp 4) _, _, _, _, _⟩ :: _) _ _); refine wpList_store_row rfl 63 _ _ rfl w.heap.size zeroV4 rfl rfl 63 zeroV4 Z2.out HI.out rfl zeroV4_all ?_))
    refine bodyPost_ret (results_row_tmp rfl _ _ w.heap.size 63 zeroV4 _ rfl (rowC_setRow Z2.out _) Tryz.underlying63 rfl HI.out (.int .i64 ((code : Nat) : Int)) rfl) rfl ?_
    exact parP_bad (below_setRow B2.out (Nat.le_refl _) _) ⟨hc, rfl⟩
  | ok v r =>
    unfold saysP at CR
    dsimp only at CR
    have HOR := Lib.hid (okR_all HSL.out HRR.out)
    go_enter Tryz.func31, Tryz.ntmps31
    go_upto_region 1 with (fail)
    rw [← HW0.out]
    go_upto_region 2 with (first
      | (go_at_call 28; ((with_reducible refine CR.mono ?_); rintro e w2 ⟨V, rfl, ⟨a, b, c, d, rfl, hV⟩, hb2⟩; obtain ⟨rfl, rfl, ⟨y, m, rfl⟩, z, n, rfl⟩ := hV.form; have HV := Lib.hid hV; have HB2 := Lib.hid hb2; have s2 := hb2.size; clear hV hb2))
      | ((with_reducible show wpList _ _ _ (⟨none, .store _ (.tmp 6) _, _, _, _, _⟩ :: _) _ _); refine wpList_store_last rfl 63 _ _ rfl w2.heap.size (row4 v.kind (str v.text) y v.items.length m z v.keys.length n) rfl rfl 63 zeroV4 rfl HI.out rfl (row4_all _ _ _ _ _ _ _ _) ?_))
    obtain ⟨W2, hW2⟩ : ∃ W2, W2 = w2.alloc (.cells (row4 v.kind (str v.text) y v.items.length m z v.keys.length n) 63) := ⟨_, rfl⟩
    rw [← hW2]
    have sw2 : W2.heap.size = w2.heap.size + 1 := by rw [hW2]; exact size_alloc _ _
    have B2 : Hid (Below w.heap.size w W2) := Lib.hid (by rw [hW2]; exact (HB0.out.trans (HB2.out.mono (by omega))).alloc (by omega) _)
    have Z2 : Hid (rowC W2 w.heap.size zeroV4 63) := Lib.hid (by rw [hW2]; exact rowC_alloc (rowC_below HZ0.out HB2.out (by omega)) _)
    have R2 : Hid (rowC W2 w2.heap.size (row4 v.kind (str v.text) y v.items.length m z v.keys.length n) 63) := Lib.hid (by rw [hW2]; exact rowC_new _ _ _)
    have H2 : Hid (HoldsC W2 (fun k => w.heap.size < k ∧ k < w2.heap.size) v (.int .i64 v.kind) (.string (str v.text)) (.slice y v.items.length m) (.slice z v.keys.length n)) := Lib.hid (by rw [hW2]; exact HoldsC.chg (s := no) ((Chg.refl _ _).alloc _) (fun _ _ h => h) _ _ _ _ _ (HoldsC.mono (fun k hk _ => by have hk : W0.heap.size ≤ k ∧ k < w2.heap.size := hk; exact ⟨by omega, hk.2⟩) _ _ _ _ _ HV.out))
    clear hW2 HV
    have CI : Calls Tryz.prog 73 #[.agg (row4 v.kind (str v.text) y v.items.length m z v.keys.length n), .string ⟨#[115, 99, 104, 101, 109, 97, 86, 101, 114, 115, 105, 111, 110]⟩, .func (.func 74) #[] #[]] W2 fun e w' => ReadP eInt W2 (partV v kVer intV) e w' :=
      part_int rd_int HOR.out kVer (HE.out.below B2.out) trivial (HoldsC.mono (fun k hk hlt => hlt) _ _ _ _ _ H2.out)
    go_upto_region 5 with (first
      | ((with_reducible show wpList _ _ _ (⟨some 24, .load _ _, _, _, _, _⟩ :: _) _ _); refine wpList_load_row rfl 63 _ rfl w2.heap.size rfl 63 (row4 v.kind (str v.text) y v.items.length m z v.keys.length n) (0, 0) _ R2.out Tryz.underlying63 rfl HI.out ?_)
      | (go_at_call 73; ((with_reducible refine CI.mono ?_); rintro e W3 ⟨n3, tv, ok3, rfl, ⟨rfl, _⟩, hor3, hb3⟩; have HOR3 := Lib.hid hor3; have HB3 := Lib.hid hb3; have s3 := hb3.size; clear hor3 hb3 CI)))
    have B3 : Hid (Below w.heap.size w W3) := Lib.hid (B2.out.trans (HB3.out.mono (by omega)))
    have Z3 : Hid (rowC W3 w.heap.size zeroV4 63) := Lib.hid (rowC_below Z2.out HB3.out (by omega))
    have R3 : Hid (rowC W3 w2.heap.size (row4 v.kind (str v.text) y v.items.length m z v.keys.length n) 63) := Lib.hid (rowC_below R2.out HB3.out (by omega))
    have H3 : Hid (HoldsC W3 (fun k => w.heap.size < k ∧ k < w2.heap.size) v (.int .i64 v.kind) (.string (str v.text)) (.slice y v.items.length m) (.slice z v.keys.length n)) := Lib.hid (HoldsC.chg (Chg.of_below (s := no) HB3.out) (fun _ _ h => h) _ _ _ _ _ H2.out)
    clear B2 Z2 R2 H2
    rcases HOR3.out with ⟨h3, hok⟩ | ⟨h3, hok⟩
    rotate_left
    · subst hok
      have e0 := head_ver (kind := kind) (v := v) (by rw [h3]; simp)
      go_wp2_with (first
        | ((with_reducible show wpList _ _ _ (⟨some 34, .build _ _, _, _, _, _⟩ :: _) _ _); refine wpList_build_as rfl 63 _ rfl zeroV4 (by kernel_rfl) ?_)
        | ((with_reducible show wpList _ _ _ (⟨none, .store _ (.tmp 4) _, _, _, _, _⟩ :: _) _ _); refine wpList_store_row rfl 63 _ _ rfl w.heap.size zeroV4 rfl rfl 63 zeroV4 Z3.out HI.out rfl zeroV4_all ?_))
      refine bodyPost_ret (results_row_tmp rfl _ _ w.heap.size 63 zeroV4 _ rfl (rowC_setRow Z3.out _) Tryz.underlying63 rfl HI.out (.int .i64 ((10 : Nat) : Int)) rfl) rfl ?_
      exact parP_bad (below_setRow B3.out (Nat.le_refl _) _) ⟨by decide, e0.symm⟩
    subst hok
    by_cases h2 : n3 = 2
    rotate_left
    · have e0 := head_ver (kind := kind) (v := v) (by rw [h3]; simpa using h2)
      go_wp2_with (first
        | ((with_reducible show wpList _ _ _ (⟨some 34, .build _ _, _, _, _, _⟩ :: _) _ _); refine wpList_build_as rfl 63 _ rfl zeroV4 (by kernel_rfl) ?_)
        | ((with_reducible show wpList _ _ _ (⟨none, .store _ (.tmp 4) _, _, _, _, _⟩ :: _) _ _); refine wpList_store_row rfl 63 _ _ rfl w.heap.size zeroV4 rfl rfl 63 zeroV4 Z3.out HI.out rfl zeroV4_all ?_))
      refine bodyPost_ret (results_row_tmp rfl _ _ w.heap.size 63 zeroV4 _ rfl (rowC_setRow Z3.out _) Tryz.underlying63 rfl HI.out (.int .i64 ((10 : Nat) : Int)) rfl) rfl ?_
      exact parP_bad (below_setRow B3.out (Nat.le_refl _) _) ⟨by decide, e0.symm⟩
    have e0 := head_med (kind := kind) (v := v) (by rw [h3, h2])
    subst h2
    go_upto_region 7 with (fail)
    have CM : ∀ w', Gn W3 no w' → Calls Tryz.prog 76 #[.int .i64 (kind : Int)] w' fun e w1 => e = .returned (.func (.func 111) #[] #[.pointer (some ⟨w'.heap.size, 0, none⟩)]) ∧ w1.cell? ⟨w'.heap.size, 0, none⟩ = some (.int .i64 (kind : Int)) ∧ Gn W3 no w1 := fun w' hg => (mediaOf_any kind w').mono fun e w1 ⟨h1, h2, h3⟩ => ⟨h1, h2, hg.call h3⟩
    have CP : ∀ bl w', Gn W3 no w' → w'.cell? ⟨bl, 0, none⟩ = some (.int .i64 (kind : Int)) → Calls Tryz.prog 75 #[.agg #[.int .i64 v.kind, .string (str v.text), .slice y v.items.length m, .slice z v.keys.length n], .string ⟨#[109, 101, 100, 105, 97, 84, 121, 112, 101]⟩, .func (.func 111) #[] #[.pointer (some ⟨bl, 0, none⟩)]] w' fun e w2 => ∃ t ok, e = .returned (.tuple #[.string (str t), .bool ok]) ∧ (anyV [] v kMed (mediaV kind) = some t ∧ ok = true ∨ anyV [] v kMed (mediaV kind) = none ∧ ok = false) ∧ Gn W3 no w2 := fun bl w' hg hc => by
      have sw := hg.size
      have hb : Below w.heap.size w w' := B3.out.trans (hg.below (by omega) (fun _ _ h => h))
      refine (any_txt (rd_med kind bl) HOR.out kMed (HE.out.below hb) hc (HoldsC.mono (fun k hk hlt => hlt) _ _ _ _ _ (HoldsC.chg hg (fun _ _ h => h) _ _ _ _ _ H3.out))).mono ?_
      rintro e w2 ⟨t, tv, ok, rfl, ⟨rfl, _⟩, h3, h4⟩
      exact ⟨t, ok, rfl, h3, hg.call h4⟩
    have OS : ∀ w', Gn W3 no w' → w'.rangeAt w2.heap.size 0 [.int .i64 v.kind, .string (str v.text), .slice y v.items.length m, .slice z v.keys.length n] ∧ True := fun w' h => ⟨rowC_range (h.row R3.out id) 0 _ (fun u hq hh => by rw [Nat.zero_add]; simpa [row4] using hh), trivial⟩
    have SO : ∀ w', Gn W3 no w' → Gn W3 no w' := fun _ h => h
    have ui := Tryz.underlying63
    have ii := HI.out
    refine wp_region_noPanic ?_
    refine wp_region_held_drew (S := Gn W3 no) (by kernel_rfl) (Gn.start _ _) (fun hHeld => ?_)
    generalize W3.drew = wd at *
    refine wpAnyH_take (i := 1) (oi := { dst := some 37, op := Op.move (Operand.tmp 1), type := 3, pos := "oci.go:250", after := #[], guard := none }) (v := ?_) rfl (by kernel_rfl) (by kernel_rfl) (by kernel_rfl) (fun _ _ _ h => h) (Or.inl ⟨by rfl, ?_⟩) (by assumption) ?_
    rotate_left
    · intro w hSw
      skip
      clear hSw
      go_simp
      try with_reducible rfl
    try simp only [Act.put, List.setIfInBounds_toArray, List.set_cons_zero, List.set_cons_succ]
    refine wpAnyH_take (i := 0) (oi := { dst := some 36, op := Op.load 63 (Operand.tmp 6), type := 63, pos := "oci.go:250", after := #[], guard := none }) (v := _) rfl (by kernel_rfl) (by kernel_rfl) (by kernel_rfl) (fun _ _ _ h => h) (yieldsIf_load_mid (by rfl) _ _ rfl _ _ rfl _ _ (by intro w hSw; have hSw := OS _ hSw; go_split_ands; assumption) (by assumption) rfl (by assumption)) (by assumption) ?_
    try simp only [Act.put, List.setIfInBounds_toArray, List.set_cons_zero, List.set_cons_succ]
    refine wpAnyH_ready (rs := [2]) (by kernel_rfl) (by simp) ?_
    refine (AllReadyH.cons (o := { dst := some 38, op := Op.call { callee := Callee.value (Operand.func 76), args := #[Operand.tmp 37], argTypes := #[3] }, type := 143, pos := "oci.go:250", after := #[{ on := 1, ground := Ground.data }], guard := none }) rfl (fun K hK => ?_) AllReadyH.nil)
    go_simp
    with_reducible refine (CM _ hHeld).mono ?_
    rintro e w2' ⟨rfl, hc1, m2'⟩
    refine hK.out _ _ (SO _ (by assumption)) (fun hHeld => ?_)
    clear hK K
    try simp only [Act.put, List.setIfInBounds_toArray, List.set_cons_zero, List.set_cons_succ]
    refine wpAnyH_ready (rs := [3]) (by kernel_rfl) (by simp) ?_
    refine (AllReadyH.cons (o := { dst := some 39, op := Op.call { callee := Callee.value (Operand.func 75), args := #[Operand.tmp 36, Operand.const (Value.string { data := #[109, 101, 100, 105, 97, 84, 121, 112, 101] }), Operand.tmp 38], argTypes := #[63, 9, 143] }, type := 94, pos := "oci.go:250", after := #[{ on := 0, ground := Ground.data }, { on := 2, ground := Ground.data }, { on := 2, ground := Ground.chain }], guard := none }) rfl (fun K hK => ?_) AllReadyH.nil)
    go_simp
    with_reducible refine (CP _ _ hHeld hc1).mono ?_
    rintro e w3' ⟨tm, ok4, rfl, hor4, m3'⟩
    refine hK.out _ _ (SO _ (by assumption)) (fun hHeld => ?_)
    clear hK K
    try simp only [Act.put, List.setIfInBounds_toArray, List.set_cons_zero, List.set_cons_succ]
    refine wpAnyH_take (i := 4) (oi := { dst := some 35, op := Op.move (Operand.tmp 39), type := 94, pos := "oci.go:250", after := #[{ on := 3, ground := Ground.data }], guard := none }) (v := ?_) rfl (by kernel_rfl) (by kernel_rfl) (by kernel_rfl) (fun _ _ _ h => h) (Or.inl ⟨by rfl, ?_⟩) (by assumption) ?_
    rotate_left
    · intro w hSw
      skip
      clear hSw
      go_simp
      try with_reducible rfl
    try simp only [Act.put, List.setIfInBounds_toArray, List.set_cons_zero, List.set_cons_succ]
    refine wpAnyH_take (i := 5) (oi := { dst := some 40, op := Op.extract (Operand.tmp 35) 0, type := 9, pos := "oci.go:250", after := #[{ on := 4, ground := Ground.data }], guard := none }) (v := ?_) rfl (by kernel_rfl) (by kernel_rfl) (by kernel_rfl) (fun _ _ _ h => h) (Or.inl ⟨by rfl, ?_⟩) (by assumption) ?_
    rotate_left
    · intro w hSw
      skip
      clear hSw
      go_simp
      try with_reducible rfl
    try simp only [Act.put, List.setIfInBounds_toArray, List.set_cons_zero, List.set_cons_succ]
    refine wpAnyH_take (i := 6) (oi := { dst := some 41, op := Op.extract (Operand.tmp 35) 1, type := 4, pos := "oci.go:250", after := #[{ on := 4, ground := Ground.data }, { on := 7, ground := Ground.gcOnly Departure.lateStores }], guard := none }) (v := ?_) rfl (by kernel_rfl) (by kernel_rfl) (by kernel_rfl) (fun _ _ _ h => h) (Or.inl ⟨by rfl, ?_⟩) (by assumption) ?_
    rotate_left
    · intro w hSw
      skip
      clear hSw
      go_simp
      try with_reducible rfl
    try simp only [Act.put, List.setIfInBounds_toArray, List.set_cons_zero, List.set_cons_succ]
    refine wpAnyH_take (i := 7) (oi := { dst := some 11, op := Op.assign (Operand.tmp 40), type := 9, pos := "oci.go:250", after := #[{ on := 5, ground := Ground.data }, { on := 3, ground := Ground.chain }, { on := 0, ground := Ground.phase }, { on := 1, ground := Ground.phase }, { on := 2, ground := Ground.phase }, { on := 3, ground := Ground.phase }, { on := 4, ground := Ground.phase }, { on := 5, ground := Ground.phase }, { on := 6, ground := Ground.textOnly Departure.lateStores }], guard := none }) (v := ?_) rfl (by kernel_rfl) (by kernel_rfl) (by kernel_rfl) (fun _ _ _ h => h) (Or.inl ⟨by rfl, ?_⟩) (by assumption) ?_
    rotate_left
    · intro w hSw
      skip
      clear hSw
      go_simp
      try with_reducible rfl
    try simp only [Act.put, List.setIfInBounds_toArray, List.set_cons_zero, List.set_cons_succ]
    refine wpAnyH_take (i := 8) (oi := { dst := some 12, op := Op.assign (Operand.tmp 41), type := 4, pos := "oci.go:250", after := #[{ on := 6, ground := Ground.data }, { on := 7, ground := Ground.chain }, { on := 0, ground := Ground.phase }, { on := 1, ground := Ground.phase }, { on := 2, ground := Ground.phase }, { on := 3, ground := Ground.phase }, { on := 4, ground := Ground.phase }, { on := 5, ground := Ground.phase }, { on := 6, ground := Ground.phase }, { on := 7, ground := Ground.phase }], guard := none }) (v := ?_) rfl (by kernel_rfl) (by kernel_rfl) (by kernel_rfl) (fun _ _ _ h => h) (Or.inl ⟨by rfl, ?_⟩) (by assumption) ?_
    rotate_left
    · intro w hSw
      skip
      clear hSw
      go_simp
      try with_reducible rfl
    try simp only [Act.put, List.setIfInBounds_toArray, List.set_cons_zero, List.set_cons_succ]
    refine wpAnyH_done (by kernel_rfl) ?_ _
    refine NoPanic.normal ?_
    have sw3 := m3'.size
    have B4 : Hid (Below w.heap.size w w3') := Lib.hid (B3.out.trans (m3'.below (by omega) (fun _ _ h => h)))
    have Z4 : Hid (rowC w3' w.heap.size zeroV4 63) := Lib.hid (m3'.row Z3.out id)
    have R4 : Hid (rowC w3' w2.heap.size (row4 v.kind (str v.text) y v.items.length m z v.keys.length n) 63) := Lib.hid (m3'.row R3.out id)
    have H4 : Hid (HoldsC w3' (fun k => w.heap.size < k ∧ k < w2.heap.size) v (.int .i64 v.kind) (.string (str v.text)) (.slice y v.items.length m) (.slice z v.keys.length n)) := Lib.hid (HoldsC.chg m3' (fun _ _ h => h) _ _ _ _ _ H3.out)
    rcases hor4 with ⟨h4, hok⟩ | ⟨h4, hok⟩
    · subst hok
      rw [h4] at e0
      go_wp2_with (first
        | ((with_reducible show wpList _ _ _ (⟨some 45, .load _ _, _, _, _, _⟩ :: _) _ _); refine wpList_load_row rfl 63 _ rfl w2.heap.size rfl 63 (row4 v.kind (str v.text) y v.items.length m z v.keys.length n) (0, 0) _ R4.out Tryz.underlying63 rfl HI.out ?_)
        | ((with_reducible show wpList _ _ _ (⟨none, .store _ (.tmp 4) _, _, _, _, _⟩ :: _) _ _); refine wpList_store_row rfl 63 _ _ rfl w.heap.size (row4 v.kind (str v.text) y v.items.length m z v.keys.length n) rfl rfl 63 zeroV4 Z4.out HI.out rfl (row4_all _ _ _ _ _ _ _ _) ?_))
      refine bodyPost_ret (results_row_tmp rfl _ _ w.heap.size 63 (row4 v.kind (str v.text) y v.items.length m z v.keys.length n) _ rfl (rowC_setRow Z4.out _) Tryz.underlying63 rfl HI.out (.int .i64 ((0 : Nat) : Int)) rfl) rfl ?_
      exact ⟨v, 0, y, m, z, n, rfl, HoldsC.mono (fun k hk hlt => ⟨by have := hk.1; omega, hlt⟩) _ _ _ _ _ (HoldsC.chg (s := fun k => k = w.heap.size) ((Chg.refl _ _).setRow _ _ (.inl rfl)) (fun k hk e => by have := hk.1; omega) _ _ _ _ _ H4.out), .inl ⟨⟨r, rfl⟩, rfl, e0⟩, below_setRow B4.out (Nat.le_refl _) _⟩
    · subst hok
      rw [h4] at e0
      go_wp2_with (first
        | ((with_reducible show wpList _ _ _ (⟨some 44, .build _ _, _, _, _, _⟩ :: _) _ _); refine wpList_build_as rfl 63 _ rfl zeroV4 (by kernel_rfl) ?_)
        | ((with_reducible show wpList _ _ _ (⟨none, .store _ (.tmp 4) _, _, _, _, _⟩ :: _) _ _); refine wpList_store_row rfl 63 _ _ rfl w.heap.size zeroV4 rfl rfl 63 zeroV4 Z4.out HI.out rfl zeroV4_all ?_))
      refine bodyPost_ret (results_row_tmp rfl _ _ w.heap.size 63 zeroV4 _ rfl (rowC_setRow Z4.out _) Tryz.underlying63 rfl HI.out (.int .i64 ((72 : Nat) : Int)) rfl) rfl ?_
      exact parP_bad (below_setRow B4.out (Nat.le_refl _) _) ⟨by decide, e0.symm⟩
end Go.Proofs.YtnkencdibniagaaGreatDoor

/- Layer 13: Index. -/
namespace Go.Proofs.YtnkencdibniagaaGreatDoor
open Go.RowKit

def idxR (R : Res JV) : Got (List DV) := match R with | .bad c _ => .bad c | .ok v _ => idxV v
/-- What Index answers. -/
def IdxP (w : World) (G : Got (List DV)) (e : Ending) (w' : World) : Prop :=
  ∃ l t code, e = .returned (.tuple #[t, .int .i64 ((code : Nat) : Int)]) ∧ eDess.at_ w' (fun k => w.heap.size ≤ k ∧ k < w'.heap.size) l t ∧ (G = .ok l ∧ code = 0 ∨ G = .bad code ∧ l = []) ∧ Below w.heap.size w w'
theorem idxR_bad {R : Res JV} {code : Nat} (h : code ≠ 0 ∧ code = codeP 2 R) : idxR R = .bad code := by
  obtain ⟨h0, rfl⟩ := h
  cases R with
  | bad c r => rfl
  | ok v r =>
    have h0 : headV 2 v ≠ 0 := h0
    show idxV v = _
    unfold idxV
    rw [if_pos h0]
    rfl
theorem idx_none {v : JV} (h : headV 2 v = 0) (h2 : partV v kMan (listV descV) = none) : idxV v = .bad 10 := by unfold idxV; rw [if_neg (by simp [h]), h2]
theorem idx_many {v : JV} {l : List DV} (h : headV 2 v = 0) (h2 : partV v kMan (listV descV) = some l) (h3 : 32 < l.length) : idxV v = .bad 63 := by unfold idxV; rw [if_neg (by simp [h]), h2]; dsimp only; rw [if_pos h3]
theorem idx_some {v : JV} {l : List DV} (h : headV 2 v = 0) (h2 : partV v kMan (listV descV) = some l) (h3 : ¬ 32 < l.length) : idxV v = .ok l := by unfold idxV; rw [if_neg (by simp [h]), h2]; dsimp only; rw [if_neg h3]
theorem dess_len {w : World} {F : Nat → Prop} {l : List DV} {t : Value} (h : eDess.at_ w F l t) : ∃ x c, t = .slice x l.length c := by
  rcases h with ⟨h, h2⟩ | ⟨ad, cap, h, _⟩
  · exact ⟨none, 0, by rw [h, h2]; rfl⟩
  · exact ⟨some ad, cap, h⟩
theorem digs_len {w : World} {F : Nat → Prop} {l : List Bs} {t : Value} (h : eDigs.at_ w F l t) : ∃ x c, t = .slice x l.length c := by
  rcases h with ⟨h, h2⟩ | ⟨ad, cap, h, _⟩
  · exact ⟨none, 0, by rw [h, h2]; rfl⟩
  · exact ⟨some ad, cap, h⟩
set_option maxRecDepth 100000 in
set_option maxHeartbeats 16000000 in
theorem index_any2 {q : Nat} {S : Bs} {R : Res JV} (hS : S.length ≤ 65536) (w : World) (hE : Env2 w) (hR : allP q S = some R) :
    Calls Tryz.prog 11 #[.string (str S)] w fun e w' => IdxP w (idxR R) e w' := by
  have CQ : Calls Tryz.prog 31 #[.string (str S), .int .i64 2] w fun e w' => ParP w 2 R e w' := oparse_any hS 2 w hE hR
  obtain ⟨G, hG⟩ : ∃ G, G = idxR R := ⟨_, rfl⟩
  rw [← hG]
  have HG := Lib.hid hG
  have HI := Lib.hid info_V
  have HE := Lib.hid hE
  have HRR := Lib.hid hR
  have HSL := Lib.hid hS
  clear hE hR hS hG
  go_enter Tryz.func11, Tryz.ntmps11
  go_upto_region 2 with (first
    | (go_at_call 31; ((with_reducible refine CQ.mono ?_); rintro e w1 ⟨v, code, y, m, z, n, rfl, hV, hor, hb⟩; have HV := Lib.hid hV; have HOR := Lib.hid hor; have HB := Lib.hid hb; have s1 := hb.size; clear hV hor hb CQ))
    | ((with_reducible show wpList _ _ _ (⟨none, .store _ (.tmp 4) _, _, _, _, _⟩ :: _) _ _); refine wpList_store_last rfl 63 _ _ rfl w1.heap.size (row4 v.kind (str v.text) y v.items.length m z v.keys.length n) rfl rfl 63 zeroV4 rfl HI.out rfl (row4_all _ _ _ _ _ _ _ _) ?_))
  obtain ⟨W2, hW2⟩ : ∃ W2, W2 = w1.alloc (.cells (row4 v.kind (str v.text) y v.items.length m z v.keys.length n) 63) := ⟨_, rfl⟩
  rw [← hW2]
  have sw2 : W2.heap.size = w1.heap.size + 1 := by rw [hW2]; exact size_alloc _ _
  have B2 : Hid (Below w.heap.size w W2) := Lib.hid (by rw [hW2]; exact HB.out.alloc (by omega) _)
  have R2 : Hid (rowC W2 w1.heap.size (row4 v.kind (str v.text) y v.items.length m z v.keys.length n) 63) := Lib.hid (by rw [hW2]; exact rowC_new _ _ _)
  have H2 : Hid (HoldsC W2 (fun k => k < W2.heap.size) v (.int .i64 v.kind) (.string (str v.text)) (.slice y v.items.length m) (.slice z v.keys.length n)) := Lib.hid (by rw [hW2]; exact HoldsC.mono (fun k _ hlt => hlt) _ _ _ _ _ (HoldsC.chg (s := no) ((Chg.refl _ _).alloc _) (fun _ _ h => h) _ _ _ _ _ HV.out))
  clear hW2 HV
  rcases HOR.out with ⟨⟨r, hr⟩, hcode, hv0⟩ | hbad
  rotate_left
  · have e0 : Hid (G = .bad code) := Lib.hid (by rw [HG.out]; exact idxR_bad hbad)
    have hci : ¬ (code : Int) = 0 := by have := hbad.1; omega
    have hcb : ((code : Int) == 0) = false := by rw [beq_eq_false_iff_ne]; exact hci
    clear hbad
    go_wp2
    go_ret2
    rw [e0.out]
    exact ⟨[], _, code, rfl, .inl ⟨rfl, rfl⟩, .inr ⟨rfl, rfl⟩, B2.out⟩
  subst hcode
  have HGV : Hid (G = idxV v) := Lib.hid (by rw [HG.out, hr]; rfl)
  have HOK := Lib.hid (okR_all HSL.out (by rw [← hr]; exact HRR.out))
  clear hr
  have CL : ∀ w', Gn W2 no w' → Calls Tryz.prog 35 #[.func (.func 42) #[] #[]] w' fun e w1 => e = .returned (.func (.func 78) #[] #[.pointer (some ⟨w'.heap.size, 0, none⟩)]) ∧ w1.cell? ⟨w'.heap.size, 0, none⟩ = some (.func (.func 42) #[] #[]) ∧ Gn W2 no w1 := fun w' hg => (listOf_des _ _ w').mono fun e w1 ⟨h1, h2, h3⟩ => ⟨h1, h2, hg.call h3⟩
  have CP : ∀ bl w', Gn W2 no w' → w'.cell? ⟨bl, 0, none⟩ = some (.func (.func 42) #[] #[]) → Calls Tryz.prog 34 #[.agg #[.int .i64 v.kind, .string (str v.text), .slice y v.items.length m, .slice z v.keys.length n], .string ⟨#[109, 97, 110, 105, 102, 101, 115, 116, 115]⟩, .func (.func 78) #[] #[.pointer (some ⟨bl, 0, none⟩)]] w' fun e w2 => ∃ a t ok, e = .returned (.tuple #[t, .bool ok]) ∧ eDess.at_ w2 (fun k => w.heap.size ≤ k ∧ k < w2.heap.size) a t ∧ (partV v kMan (listV descV) = some a ∧ ok = true ∨ partV v kMan (listV descV) = none ∧ ok = false) ∧ Gn W2 no w2 := fun bl w' hg hc => by
    have hb : Below w.heap.size w w' := B2.out.trans (hg.below (by omega) (fun _ _ h => h))
    have sw := hg.size
    refine (part_dess (rd_lsdes rd_des bl) HOK.out kMan (HE.out.below hb) ⟨trivial, hc⟩ (HoldsC.mono (fun k hk hlt => hlt) _ _ _ _ _ (HoldsC.chg hg (fun _ _ h => h) _ _ _ _ _ H2.out))).mono ?_
    rintro e w2 ⟨a, t, ok, rfl, h2, h3, h4⟩
    exact ⟨a, t, ok, rfl, eDess.mono h2 (fun k hk hlt => ⟨by have := hk.1; omega, hlt⟩), h3, hg.call h4⟩
  go_upto_region 4 with (fail)
  have OS : ∀ w', Gn W2 no w' → w'.rangeAt w1.heap.size 0 [.int .i64 v.kind, .string (str v.text), .slice y v.items.length m, .slice z v.keys.length n] ∧ True := fun w' h => ⟨rowC_range (h.row R2.out id) 0 _ (fun u hq hh => by rw [Nat.zero_add]; simpa [row4] using hh), trivial⟩
  have SO : ∀ w', Gn W2 no w' → Gn W2 no w' := fun _ h => h
  have ui := Tryz.underlying63
  have ii := HI.out
  refine wp_region_noPanic ?_
  refine wp_region_held_drew (S := Gn W2 no) (by kernel_rfl) (Gn.start _ _) (fun hHeld => ?_)
  generalize W2.drew = wd at *
  refine wpAnyH_take (i := 0) (oi := { dst := some 15, op := Op.load 63 (Operand.tmp 4), type := 63, pos := "oci.go:111", after := #[], guard := none }) (v := _) rfl (by kernel_rfl) (by kernel_rfl) (by kernel_rfl) (fun _ _ _ h => h) (yieldsIf_load_mid (by rfl) _ _ rfl _ _ rfl _ _ (by intro w hSw; have hSw := OS _ hSw; go_split_ands; assumption) (by assumption) rfl (by assumption)) (by assumption) ?_
  try simp only [Act.put, List.setIfInBounds_toArray, List.set_cons_zero, List.set_cons_succ]
  refine wpAnyH_ready (rs := [1]) (by kernel_rfl) (by simp) ?_
  refine (AllReadyH.cons (o := { dst := some 16, op := Op.call { callee := Callee.value (Operand.func 35), args := #[Operand.func 42], argTypes := #[73] }, type := 75, pos := "oci.go:111", after := #[], guard := none }) rfl (fun K hK => ?_) AllReadyH.nil)
  go_simp
  with_reducible refine (CL _ hHeld).mono ?_
  rintro e w1' ⟨rfl, hc1, m1'⟩
  refine hK.out _ _ (SO _ (by assumption)) (fun hHeld => ?_)
  clear hK K
  try simp only [Act.put, List.setIfInBounds_toArray, List.set_cons_zero, List.set_cons_succ]
  refine wpAnyH_ready (rs := [2]) (by kernel_rfl) (by simp) ?_
  refine (AllReadyH.cons (o := { dst := some 17, op := Op.call { callee := Callee.value (Operand.func 34), args := #[Operand.tmp 15, Operand.const (Value.string { data := #[109, 97, 110, 105, 102, 101, 115, 116, 115] }), Operand.tmp 16], argTypes := #[63, 9, 75] }, type := 48, pos := "oci.go:111", after := #[{ on := 0, ground := Ground.data }, { on := 1, ground := Ground.data }, { on := 1, ground := Ground.chain }], guard := none }) rfl (fun K hK => ?_) AllReadyH.nil)
  go_simp
  with_reducible refine (CP _ _ hHeld hc1).mono ?_
  rintro e w2' ⟨a2, t2, ok2, rfl, hA2, hor2, m2'⟩
  refine hK.out _ _ (SO _ (by assumption)) (fun hHeld => ?_)
  clear hK K
  try simp only [Act.put, List.setIfInBounds_toArray, List.set_cons_zero, List.set_cons_succ]
  refine wpAnyH_take (i := 3) (oi := { dst := some 14, op := Op.move (Operand.tmp 17), type := 48, pos := "oci.go:111", after := #[{ on := 2, ground := Ground.data }], guard := none }) (v := ?_) rfl (by kernel_rfl) (by kernel_rfl) (by kernel_rfl) (fun _ _ _ h => h) (Or.inl ⟨by rfl, ?_⟩) (by assumption) ?_
  rotate_left
  · intro w hSw
    skip
    clear hSw
    go_simp
    try with_reducible rfl
  try simp only [Act.put, List.setIfInBounds_toArray, List.set_cons_zero, List.set_cons_succ]
  refine wpAnyH_take (i := 4) (oi := { dst := some 18, op := Op.extract (Operand.tmp 14) 0, type := 29, pos := "oci.go:111", after := #[{ on := 3, ground := Ground.data }], guard := none }) (v := ?_) rfl (by kernel_rfl) (by kernel_rfl) (by kernel_rfl) (fun _ _ _ h => h) (Or.inl ⟨by rfl, ?_⟩) (by assumption) ?_
  rotate_left
  · intro w hSw
    skip
    clear hSw
    go_simp
    try with_reducible rfl
  try simp only [Act.put, List.setIfInBounds_toArray, List.set_cons_zero, List.set_cons_succ]
  refine wpAnyH_take (i := 5) (oi := { dst := some 19, op := Op.extract (Operand.tmp 14) 1, type := 4, pos := "oci.go:111", after := #[{ on := 3, ground := Ground.data }, { on := 6, ground := Ground.gcOnly Departure.lateStores }], guard := none }) (v := ?_) rfl (by kernel_rfl) (by kernel_rfl) (by kernel_rfl) (fun _ _ _ h => h) (Or.inl ⟨by rfl, ?_⟩) (by assumption) ?_
  rotate_left
  · intro w hSw
    skip
    clear hSw
    go_simp
    try with_reducible rfl
  try simp only [Act.put, List.setIfInBounds_toArray, List.set_cons_zero, List.set_cons_succ]
  refine wpAnyH_take (i := 6) (oi := { dst := some 2, op := Op.assign (Operand.tmp 18), type := 29, pos := "oci.go:111", after := #[{ on := 4, ground := Ground.data }, { on := 2, ground := Ground.chain }, { on := 0, ground := Ground.phase }, { on := 1, ground := Ground.phase }, { on := 2, ground := Ground.phase }, { on := 3, ground := Ground.phase }, { on := 4, ground := Ground.phase }, { on := 5, ground := Ground.textOnly Departure.lateStores }], guard := none }) (v := ?_) rfl (by kernel_rfl) (by kernel_rfl) (by kernel_rfl) (fun _ _ _ h => h) (Or.inl ⟨by rfl, ?_⟩) (by assumption) ?_
  rotate_left
  · intro w hSw
    skip
    clear hSw
    go_simp
    try with_reducible rfl
  try simp only [Act.put, List.setIfInBounds_toArray, List.set_cons_zero, List.set_cons_succ]
  refine wpAnyH_take (i := 7) (oi := { dst := some 5, op := Op.assign (Operand.tmp 19), type := 4, pos := "oci.go:111", after := #[{ on := 5, ground := Ground.data }, { on := 6, ground := Ground.chain }, { on := 0, ground := Ground.phase }, { on := 1, ground := Ground.phase }, { on := 2, ground := Ground.phase }, { on := 3, ground := Ground.phase }, { on := 4, ground := Ground.phase }, { on := 5, ground := Ground.phase }, { on := 6, ground := Ground.phase }], guard := none }) (v := ?_) rfl (by kernel_rfl) (by kernel_rfl) (by kernel_rfl) (fun _ _ _ h => h) (Or.inl ⟨by rfl, ?_⟩) (by assumption) ?_
  rotate_left
  · intro w hSw
    skip
    clear hSw
    go_simp
    try with_reducible rfl
  try simp only [Act.put, List.setIfInBounds_toArray, List.set_cons_zero, List.set_cons_succ]
  refine wpAnyH_done (by kernel_rfl) ?_ _
  refine NoPanic.normal ?_
  have B4 : Hid (Below w.heap.size w w2') := Lib.hid (B2.out.trans (m2'.below (by omega) (fun _ _ h => h)))
  rcases hor2 with ⟨h4, hok⟩ | ⟨h4, hok⟩
  rotate_left
  · subst hok
    have e0 : Hid (G = .bad 10) := Lib.hid (by rw [HGV.out]; exact idx_none hv0 h4)
    go_wp2
    go_ret2
    rw [e0.out]
    exact ⟨[], _, 10, rfl, .inl ⟨rfl, rfl⟩, .inr ⟨rfl, rfl⟩, B4.out⟩
  subst hok
  have hlen := dess_len hA2
  obtain ⟨xl, cl, rfl⟩ := hlen
  by_cases h32 : 32 < a2.length
  · have e0 : Hid (G = .bad 63) := Lib.hid (by rw [HGV.out]; exact idx_many hv0 h4 h32)
    have h32' : (32 : Int) < (a2.length : Int) := by omega
    go_wp2
    go_ret2
    rw [e0.out]
    exact ⟨[], _, 63, rfl, .inl ⟨rfl, rfl⟩, .inr ⟨rfl, rfl⟩, B4.out⟩
  have e0 : Hid (G = .ok a2) := Lib.hid (by rw [HGV.out]; exact idx_some hv0 h4 h32)
  have h32' : ¬ (32 : Int) < (a2.length : Int) := by omega
  have HA := Lib.hid hA2
  clear hA2 h32
  go_wp2
  go_ret2
  rw [e0.out]
  exact ⟨a2, _, 0, rfl, HA.out, .inl ⟨rfl, rfl⟩, B4.out⟩
end Go.Proofs.YtnkencdibniagaaGreatDoor

/- Layer 13: Image. -/
namespace Go.Proofs.YtnkencdibniagaaGreatDoor
open Go.RowKit

def row3 (a b : ByteArray) (x : Option Addr) (n c : Nat) : Array Value := #[.string a, .string b, .slice x n c]
theorem row3_all (a b : ByteArray) (x : Option Addr) (n c : Nat) : (row3 a b x n c).all (·.oneCell') = true := all_oneCell_toArray (fun v hv => by
  rcases List.mem_cons.1 hv with rfl | hv
  · rfl
  rcases List.mem_cons.1 hv with rfl | hv
  · rfl
  rcases List.mem_cons.1 hv with rfl | hv
  · rfl
  cases hv)
def zeroI : Array Value := row3 ⟨#[]⟩ ⟨#[]⟩ none 0 0
theorem info_I : (Tryz.prog.info? 39).map (·.size) = some 3 := by kernel_rfl
def imgR (R : Res JV) : Got ((Bs × Bs) × List Bs) := match R with | .bad c _ => .bad c | .ok v _ => imgV v
/-- What Image answers. -/
def ImgP (w : World) (G : Got ((Bs × Bs) × List Bs)) (e : Ending) (w' : World) : Prop :=
  ∃ p l x c code, e = .returned (.tuple #[.agg (row3 (str p.1) (str p.2) x l.length c), .int .i64 ((code : Nat) : Int)]) ∧ eDigs.at_ w' (fun k => w.heap.size ≤ k ∧ k < w'.heap.size) l (.slice x l.length c) ∧
    (p.1.length ≤ 281474976710656 ∧ p.2.length ≤ 281474976710656) ∧ (G = .ok (p, l) ∧ code = 0 ∨ G = .bad code ∧ code ≠ 0 ∧ p = ([], []) ∧ l = []) ∧ Below w.heap.size w w'
theorem imgP_bad {w w' : World} {code : Nat} (hB : Below w.heap.size w w') (h : code ≠ 0 := by decide) : ImgP w (.bad code) (.returned (.tuple #[.agg zeroI, .int .i64 ((code : Nat) : Int)])) w' :=
  ⟨([], []), [], none, 0, code, rfl, .inl ⟨rfl, rfl⟩, ⟨by simp, by simp⟩, .inr ⟨rfl, h, rfl, rfl⟩, hB⟩
set_option maxRecDepth 100000 in
set_option maxHeartbeats 16000000 in
theorem image_any {q : Nat} {S : Bs} {R : Res JV} (hS : S.length ≤ 65536) (w : World) (hE : Env2 w) (hR : allP q S = some R) :
    Calls Tryz.prog 13 #[.string (str S)] w fun e w' => ImgP w (imgR R) e w' := by
  obtain ⟨W0, hW0⟩ : ∃ W0, W0 = w.alloc (.cells #[.string ⟨#[]⟩, .string ⟨#[]⟩, .slice none 0 0] 39) := ⟨_, rfl⟩
  have Z0 : rowC W0 w.heap.size zeroI 39 := by rw [hW0]; exact rowC_new w _ _
  have B0 : Below w.heap.size w W0 := by rw [hW0]; exact (Below.refl _ _).alloc (Nat.le_refl _) _
  have S0 : W0.heap.size = w.heap.size + 1 := by rw [hW0, size_alloc]
  have CR := jparse_any (S := S) (by unfold okS; omega) W0 (hE.below B0).env hR
  obtain ⟨G, hG⟩ : ∃ G, G = imgR R := ⟨_, rfl⟩
  rw [← hG]
  have HG := Lib.hid hG
  have HW0 := Lib.hid hW0
  have HZ0 := Lib.hid Z0
  have HB0 := Lib.hid B0
  have HI := Lib.hid info_V
  have HIM := Lib.hid info_I
  have HIP := Lib.hid info_P
  have HE := Lib.hid hE
  have HRR := Lib.hid hR
  have HSL := Lib.hid hS
  clear hW0 Z0 B0 hE hR hS hG
  cases R with
  | bad code r =>
    have hc : code ≠ 0 := by rcases all_1x _ _ _ _ HRR.out with h | h <;> omega
    have hci : ¬ (code : Int) = 0 := by omega
    have hcb : ((code : Int) == 0) = false := by rw [beq_eq_false_iff_ne]; exact hci
    have e0 : Hid (G = .bad code) := Lib.hid HG.out
    unfold saysP at CR
    dsimp only at CR
    go_enter Tryz.func13, Tryz.ntmps13
    go_upto_region 1 with (fail)
    rw [← HW0.out]
    go_upto_region 2 with (first
      | (go_at_call 28; ((with_reducible refine CR.mono ?_); rintro e w2 ⟨rfl, hb2⟩; have HB2 := Lib.hid hb2; have s2 := hb2.size; clear hb2))
      | ((with_reducible show wpList _ _ _ (⟨none, .store _ (.tmp 4) _, _, _, _, _⟩ :: _) _ _); refine wpList_store_last rfl 63 _ _ rfl w2.heap.size zeroV4 rfl rfl 63 zeroV4 rfl HI.out rfl zeroV4_all ?_))
    have B2 : Hid (Below w.heap.size w (w2.alloc (.cells zeroV4 63))) := Lib.hid ((HB0.out.trans (HB2.out.mono (by omega))).alloc (by omega) _)
    have Z2 : Hid (rowC (w2.alloc (.cells zeroV4 63)) w.heap.size zeroI 39) := Lib.hid (rowC_alloc (rowC_below HZ0.out HB2.out (by omega)) _)
    generalize w2.alloc (.cells zeroV4 63) = W2 at *
    go_wp2_with (first
      | ((with_reducible show wpList _ _ _ (⟨some 17, .build _ _, _, _, _, _⟩ :: _) _ _); refine wpList_build_as rfl 39 _ rfl zeroI (by kernel_rfl) ?_)
      | ((with_reducible show wpList _ _ _ (⟨none, .store _ (.tmp 2) _, _, _, _, _⟩ :: _) _ _); refine wpList_store_row rfl 39 _ _ rfl w.heap.size zeroI rfl rfl 39 zeroI Z2.out HIM.out rfl (row3_all _ _ _ _ _) ?_))
    refine bodyPost_ret (results_row_tmp rfl _ _ w.heap.size 39 zeroI _ rfl (rowC_setRow Z2.out _) Tryz.underlying39 rfl HIM.out (.int .i64 ((code : Nat) : Int)) rfl) rfl ?_
    rw [e0.out]
    exact imgP_bad (below_setRow B2.out (Nat.le_refl _) _) hc
  | ok v r =>
    unfold saysP at CR
    dsimp only at CR
    have HOR := Lib.hid (okR_all HSL.out HRR.out)
    have HGV : Hid (G = imgV v) := Lib.hid HG.out
    go_enter Tryz.func13, Tryz.ntmps13
    go_upto_region 1 with (fail)
    rw [← HW0.out]
    go_upto_region 2 with (first
      | (go_at_call 28; ((with_reducible refine CR.mono ?_); rintro e w2 ⟨V, rfl, ⟨a, b, c, d, rfl, hV⟩, hb2⟩; obtain ⟨rfl, rfl, ⟨y, m, rfl⟩, z, n, rfl⟩ := hV.form; have HV := Lib.hid hV; have HB2 := Lib.hid hb2; have s2 := hb2.size; clear hV hb2))
      | ((with_reducible show wpList _ _ _ (⟨none, .store _ (.tmp 4) _, _, _, _, _⟩ :: _) _ _); refine wpList_store_last rfl 63 _ _ rfl w2.heap.size (row4 v.kind (str v.text) y v.items.length m z v.keys.length n) rfl rfl 63 zeroV4 rfl HI.out rfl (row4_all _ _ _ _ _ _ _ _) ?_))
    obtain ⟨W2, hW2⟩ : ∃ W2, W2 = w2.alloc (.cells (row4 v.kind (str v.text) y v.items.length m z v.keys.length n) 63) := ⟨_, rfl⟩
    rw [← hW2]
    have sw2 : W2.heap.size = w2.heap.size + 1 := by rw [hW2]; exact size_alloc _ _
    have B2 : Hid (Below w.heap.size w W2) := Lib.hid (by rw [hW2]; exact (HB0.out.trans (HB2.out.mono (by omega))).alloc (by omega) _)
    have Z2 : Hid (rowC W2 w.heap.size zeroI 39) := Lib.hid (by rw [hW2]; exact rowC_alloc (rowC_below HZ0.out HB2.out (by omega)) _)
    have R2 : Hid (rowC W2 w2.heap.size (row4 v.kind (str v.text) y v.items.length m z v.keys.length n) 63) := Lib.hid (by rw [hW2]; exact rowC_new _ _ _)
    have H2 : Hid (HoldsC W2 (fun k => k < W2.heap.size) v (.int .i64 v.kind) (.string (str v.text)) (.slice y v.items.length m) (.slice z v.keys.length n)) := Lib.hid (by rw [hW2]; exact HoldsC.mono (fun k hk hlt => hlt) _ _ _ _ _ (HoldsC.chg (s := no) ((Chg.refl _ _).alloc _) (fun _ _ h => h) _ _ _ _ _ HV.out))
    clear hW2 HV
    have CPL : Calls Tryz.prog 43 #[.agg (row4 v.kind (str v.text) y v.items.length m z v.keys.length n)] W2 fun e w' => ReadP ePla W2 (platV v) e w' := readPlatform_any v W2 y m z n HOR.out (HE.out.below B2.out) H2.out
    go_upto_region 5 with (first
      | ((with_reducible show wpList _ _ _ (⟨some 20, .load _ _, _, _, _, _⟩ :: _) _ _); refine wpList_load_row rfl 63 _ rfl w2.heap.size rfl 63 (row4 v.kind (str v.text) y v.items.length m z v.keys.length n) (0, 0) _ R2.out Tryz.underlying63 rfl HI.out ?_)
      | (go_at_call 43; ((with_reducible refine CPL.mono ?_); rintro e w3 ⟨p, tv, ok3, rfl, ⟨rfl, hp⟩, hor3, hb3⟩; have HP := Lib.hid hp; have HOR3 := Lib.hid hor3; have HB3 := Lib.hid hb3; have s3 := hb3.size; clear hp hor3 hb3 CPL))
      | ((with_reducible show wpList _ _ _ (⟨none, .store _ (.tmp 6) _, _, _, _, _⟩ :: _) _ _); refine wpList_store_last rfl 26 _ _ rfl w3.heap.size (encP p) rfl rfl 26 (encP ([], [])) rfl HIP.out rfl (encP_one _) ?_))
    obtain ⟨W3, hW3⟩ : ∃ W3, W3 = w3.alloc (.cells (encP p) 26) := ⟨_, rfl⟩
    rw [← hW3]
    have sw3 : W3.heap.size = w3.heap.size + 1 := by rw [hW3]; exact size_alloc _ _
    have b23 : Hid (Below W2.heap.size W2 W3) := Lib.hid (by rw [hW3]; exact HB3.out.alloc (by omega) _)
    have B3 : Hid (Below w.heap.size w W3) := Lib.hid (B2.out.trans (b23.out.mono (by omega)))
    have Z3 : Hid (rowC W3 w.heap.size zeroI 39) := Lib.hid (rowC_below Z2.out b23.out (by omega))
    have R3 : Hid (rowC W3 w2.heap.size (row4 v.kind (str v.text) y v.items.length m z v.keys.length n) 63) := Lib.hid (rowC_below R2.out b23.out (by omega))
    have P3 : Hid (rowC W3 w3.heap.size (encP p) 26) := Lib.hid (by rw [hW3]; exact rowC_new _ _ _)
    have H3 : Hid (HoldsC W3 (fun k => k < W3.heap.size) v (.int .i64 v.kind) (.string (str v.text)) (.slice y v.items.length m) (.slice z v.keys.length n)) := Lib.hid (HoldsC.mono (fun k hk hlt => hlt) _ _ _ _ _ (HoldsC.chg (Chg.of_below (s := no) b23.out) (fun _ _ h => h) _ _ _ _ _ H2.out))
    clear hW3
    rcases HOR3.out with ⟨h3, hok⟩ | ⟨h3, hok⟩
    rotate_left
    · subst hok
      have e0 : Hid (G = .bad 10) := Lib.hid (by rw [HGV.out]; unfold imgV; rw [h3])
      go_wp2_with (first
        | ((with_reducible show wpList _ _ _ (⟨some 26, .build _ _, _, _, _, _⟩ :: _) _ _); refine wpList_build_as rfl 39 _ rfl zeroI (by kernel_rfl) ?_)
        | ((with_reducible show wpList _ _ _ (⟨none, .store _ (.tmp 2) _, _, _, _, _⟩ :: _) _ _); refine wpList_store_row rfl 39 _ _ rfl w.heap.size zeroI rfl rfl 39 zeroI Z3.out HIM.out rfl (row3_all _ _ _ _ _) ?_))
      refine bodyPost_ret (results_row_tmp rfl _ _ w.heap.size 39 zeroI _ rfl (rowC_setRow Z3.out _) Tryz.underlying39 rfl HIM.out (.int .i64 ((10 : Nat) : Int)) rfl) rfl ?_
      rw [e0.out]
      exact imgP_bad (below_setRow B3.out (Nat.le_refl _) _)
    subst hok
    have CRO : Calls Tryz.prog 44 #[.agg (row4 v.kind (str v.text) y v.items.length m z v.keys.length n), .string ⟨#[114, 111, 111, 116, 102, 115]⟩, .func (.func 45) #[] #[]] W3 fun e w' => ReadP eDigs W3 (partV v kRoo rootV) e w' := part_digs rd_root HOR.out kRoo (HE.out.below B3.out) trivial H3.out
    go_upto_region 8 with (first
      | ((with_reducible show wpList _ _ _ (⟨some 28, .load _ _, _, _, _, _⟩ :: _) _ _); refine wpList_load_row rfl 63 _ rfl w2.heap.size rfl 63 (row4 v.kind (str v.text) y v.items.length m z v.keys.length n) (0, 0) _ R3.out Tryz.underlying63 rfl HI.out ?_)
      | (go_at_call 44; ((with_reducible refine CRO.mono ?_); rintro e W4 ⟨l, tv, ok4, rfl, hA, hor4, hb4⟩; have HA := Lib.hid hA; have HOR4 := Lib.hid hor4; have HB4 := Lib.hid hb4; have s4 := hb4.size; obtain ⟨xl, cl, rfl⟩ := digs_len hA; clear hA hor4 hb4 CRO)))
    have B4 : Hid (Below w.heap.size w W4) := Lib.hid (B3.out.trans (HB4.out.mono (by omega)))
    have Z4 : Hid (rowC W4 w.heap.size zeroI 39) := Lib.hid (rowC_below Z3.out HB4.out (by omega))
    have P4 : Hid (rowC W4 w3.heap.size (encP p) 26) := Lib.hid (rowC_below P3.out HB4.out (by omega))
    rcases HOR4.out with ⟨h4, hok⟩ | ⟨h4, hok⟩
    rotate_left
    · subst hok
      have e0 : Hid (G = .bad 10) := Lib.hid (by rw [HGV.out]; unfold imgV; rw [h3]; dsimp only; rw [h4])
      go_wp2_with (first
        | ((with_reducible show wpList _ _ _ (⟨some 34, .build _ _, _, _, _, _⟩ :: _) _ _); refine wpList_build_as rfl 39 _ rfl zeroI (by kernel_rfl) ?_)
        | ((with_reducible show wpList _ _ _ (⟨none, .store _ (.tmp 2) _, _, _, _, _⟩ :: _) _ _); refine wpList_store_row rfl 39 _ _ rfl w.heap.size zeroI rfl rfl 39 zeroI Z4.out HIM.out rfl (row3_all _ _ _ _ _) ?_))
      refine bodyPost_ret (results_row_tmp rfl _ _ w.heap.size 39 zeroI _ rfl (rowC_setRow Z4.out _) Tryz.underlying39 rfl HIM.out (.int .i64 ((10 : Nat) : Int)) rfl) rfl ?_
      rw [e0.out]
      exact imgP_bad (below_setRow B4.out (Nat.le_refl _) _)
    subst hok
    by_cases h8 : 8 < l.length
    · have e0 : Hid (G = .bad 63) := Lib.hid (by rw [HGV.out]; unfold imgV; rw [h3]; dsimp only; rw [h4]; dsimp only; rw [if_pos h8])
      have h8' : (8 : Int) < (l.length : Int) := by omega
      go_wp2_with (first
        | ((with_reducible show wpList _ _ _ (⟨some 38, .build _ _, _, _, _, _⟩ :: _) _ _); refine wpList_build_as rfl 39 _ rfl zeroI (by kernel_rfl) ?_)
        | ((with_reducible show wpList _ _ _ (⟨none, .store _ (.tmp 2) _, _, _, _, _⟩ :: _) _ _); refine wpList_store_row rfl 39 _ _ rfl w.heap.size zeroI rfl rfl 39 zeroI Z4.out HIM.out rfl (row3_all _ _ _ _ _) ?_))
      refine bodyPost_ret (results_row_tmp rfl _ _ w.heap.size 39 zeroI _ rfl (rowC_setRow Z4.out _) Tryz.underlying39 rfl HIM.out (.int .i64 ((63 : Nat) : Int)) rfl) rfl ?_
      rw [e0.out]
      exact imgP_bad (below_setRow B4.out (Nat.le_refl _) _)
    have e0 : Hid (G = .ok (p, l)) := Lib.hid (by rw [HGV.out]; unfold imgV; rw [h3]; dsimp only; rw [h4]; dsimp only; rw [if_neg h8])
    have h8' : ¬ (8 : Int) < (l.length : Int) := by omega
    clear h8
    go_wp2_with (first
      | ((with_reducible show wpList _ _ _ (⟨some 39, .load _ _, _, _, _, _⟩ :: _) _ _); refine wpList_load_row rfl 26 _ rfl w3.heap.size rfl 26 (encP p) (0, 0) _ P4.out Tryz.underlying26 rfl HIP.out ?_)
      | ((with_reducible show wpList _ _ _ (⟨some 41, .build _ _, _, _, _, _⟩ :: _) _ _); refine wpList_build_as rfl 39 _ rfl (row3 (str p.1) (str p.2) xl l.length cl) (by kernel_rfl) ?_)
      | ((with_reducible show wpList _ _ _ (⟨none, .store _ (.tmp 2) _, _, _, _, _⟩ :: _) _ _); refine wpList_store_row rfl 39 _ _ rfl w.heap.size (row3 (str p.1) (str p.2) xl l.length cl) rfl rfl 39 zeroI Z4.out HIM.out rfl (row3_all _ _ _ _ _) ?_))
    refine bodyPost_ret (results_row_tmp rfl _ _ w.heap.size 39 (row3 (str p.1) (str p.2) xl l.length cl) _ rfl (rowC_setRow Z4.out _) Tryz.underlying39 rfl HIM.out (.int .i64 ((0 : Nat) : Int)) rfl) rfl ?_
    rw [e0.out]
    exact ⟨p, l, xl, cl, 0, rfl, eDigs.mono (eDigs.chg (s := fun k => k = w.heap.size) HA.out ((Chg.refl _ _).setRow _ _ (.inl rfl)) (fun k hk e => by have := hk.1; omega)) (fun k hk hlt => ⟨by have := hk.1; omega, hlt⟩), HP.out, .inl ⟨rfl, rfl⟩, below_setRow B4.out (Nat.le_refl _) _⟩
end Go.Proofs.YtnkencdibniagaaGreatDoor

