/- Merged: TtI, TtJ. -/
import Derived.Test.YtbjgmkjinnbokaaGreatDoorM13
import Derived.Laws.IdiomRangeMap
import Derived.Deep.LoopGhost
/- Layer 16: maps.DeleteFunc over the ground's map, with any predicate on places. -/
namespace Go.Proofs.YtbjgmkjinnbokaaGreatDoor
open Go.RowKit Go.Maps

theorem key_inv {key : Value} {kl : Lit} (h : keyOf Tryz.prog 9 key = some kl) : ∃ s : ByteArray, key = .string s ∧ kl = .string s.data.toList := by
  rw [Go.keyOf_string Tryz.underlying9] at h
  cases key <;> simp [mapKey, Tryz.underlying9] at h
  rename_i s
  exact ⟨s, rfl, h.2.symm⟩
/-- The predicate, on what a map's entry reads as. -/
def pdP (f : Pl → Bool) (_ : Lit) (d : DataW Pl) : Bool := match d with | .held p => f p | _ => false
theorem dat_entry {G : List Pl} {F : Lit × DataW Pl → Bool} {kl : Lit} {p : Pl} {s : ByteArray} (hkl : kl = .string s.data.toList)
    (hat : ∀ zd, (DataW.map ((G.map fun p => ((Lit.string p.nd.path, DataW.held p) : Lit × DataW Pl)).filter F)).atKey kl zd = .held p) : p ∈ G ∧ s = str p.nd.path := by
  subst hkl
  have h := hat .nil
  unfold DataW.atKey at h
  simp only at h
  split at h
  · rename_i q hq
    have h1 := List.find?_some hq
    have h2 := (List.mem_filter.1 (List.mem_of_find?_eq_some hq)).1
    obtain ⟨r, hr, rfl⟩ := List.mem_map.1 h2
    simp only at h h1
    cases h
    rw [string_key] at h1
    refine ⟨hr, ?_⟩
    have e := of_decide_eq_true h1
    refine bytes_toList ?_
    rw [str_toList]
    exact e.symm
  · cases h
set_option maxHeartbeats 16000000 in
set_option maxRecDepth 100000 in
theorem delFunc_any (f : Pl → Bool) (g : Nat) (cb : Array Value) (M : Nat) (G : List Pl) (w : World)
    (eg : ∀ args w, (callFunc g args).run Tryz.prog w = .ok (.enter g args) w) (hM : MapG w M G)
    (hdel : ∀ (W : World) (p : Pl), p ∈ G → w.grownBy W (some M) → Calls Tryz.prog g (#[.string (str p.nd.path), .agg (plA p)] ++ cb) W fun e w' => e = .returned (.bool (f p)) ∧ W.grownBy w' none) :
    Calls Tryz.prog 62 #[.map (some M), .func (.func g) #[] cb] w fun e w' => e = .returned (.tuple #[]) ∧ MapG w' M (G.filter fun p => !f p) ∧ w.grownBy w' (some M) := by
  have HI := Lib.hid info_pl5
  obtain ⟨es0, hes, hap, hkeys⟩ := World.ownsMap.entries hM key_law
  have hes2 : es0 = G.map fun p => ((Lit.string p.nd.path, DataW.held p) : Lit × DataW Pl) := by
    unfold datG at hes
    injection hes with hes
    exact hes.symm
  have hown : w.ownsMap Tryz.prog 9 plR M G.length (.map es0) := by rw [← hes]; exact hM
  have HENT : Hid (∀ {F : Lit × DataW Pl → Bool} {kl : Lit} {p : Pl} {s : ByteArray}, kl = .string s.data.toList → (∀ zd, (DataW.map (es0.filter F)).atKey kl zd = .held p) → p ∈ G ∧ s = str p.nd.path) := Lib.hid fun h1 h2 => dat_entry h1 (by rw [← hes2]; exact h2)
  have HEND : Hid (∀ w' : World, w'.ownsMap Tryz.prog 9 plR M G.length (Lib.deleteFuncD (pdP f) (.map es0)) → MapG w' M (G.filter fun p => !f p)) := Lib.hid fun w' h => by
    rw [← hes, dat_filter] at h
    exact MapG.of h
  have HD : Aside _ := hdel
  obtain ⟨n, hn⟩ : ∃ n, n = G.length := ⟨_, rfl⟩
  rw [← hn] at hown HEND
  clear hdel hM hes hes2 hn
  go_enter Tryz.func62, Tryz.ntmps62
  go_wp2_with (first
    | (at_range; refine wpList_range_own _ rfl _ 60 rfl 9 64 key_law Tryz.underlying60 plR M n _ rfl hown ?_; intro w0 hrg0 hg0 hs0)
    | go_in)
  go_frame
  go_loopw [4, 5, 8] (fun _ _ _ wr => ∃ (left : Lit → Bool) (cnt : Nat), wr.ranges Tryz.prog 9 plR M w.heap.size n (Fk (pdP f) es0 left) left cnt ∧ w.grownBy wr (some M))
    (fun _ _ _ wr => wr.rangeLeft M w.heap.size)
  case atStart => exact ⟨_, _, by rw [Fk_start hkeys]; exact hrg0, hg0.but _⟩
  case round =>
    obtain ⟨left, cnt, hrg, hgw⟩ := hrel
    go_wp2_with (first
      | (at_next; refine wpList_next_ranges _ rfl _ rfl 9 key_law plR Value.string (fun p => Value.agg (plA p)) (fun key kl h => (by obtain ⟨s, h1, _⟩ := key_inv h; exact ⟨s, h1⟩)) (fun v y h => (by obtain ⟨p, h1, _⟩ := plR_inv h; exact ⟨p, h1⟩)) M w.heap.size n _ _ _ rfl hrg ?_ ?_)
      | go_in)
    · intro _ hl0
      go_wp2
      go_end0
      exact ⟨rfl, HEND.out _ (by rw [← Fk_end hl0]; exact hrg.owns), hgw⟩
    · intro s p kl yd yp w1 cnt1 hkey hlx hv hat hrg1 hlt hg1 hs1 hen
      obtain ⟨s', hs', hkl⟩ := key_inv hkey
      obtain rfl : s = s' := by injection hs'
      rw [plR_mk] at hv
      simp only [Option.some.injEq, Prod.mk.injEq] at hv
      obtain ⟨rfl, rfl⟩ := hv
      obtain ⟨hpG, hsp⟩ := HENT.out hkl hat
      subst hsp
      have hgw1 := hgw.andThen hg1 (fun j hj => by cases hj; exact Or.inl (Nat.le_refl _))
      obtain ⟨W2, hW2⟩ : ∃ W2, W2 = w1.alloc (.cells (plA p) 64) := ⟨_, rfl⟩
      have hgA : w1.grownBy W2 none := by rw [hW2]; exact World.grownBy_alloc w1 _ none
      have HZ2 : Hid (rowC W2 w1.heap.size (plA p) 64) := Lib.hid (by rw [hW2]; exact rowC_new w1 _ _)
      have HW2 := Lib.hid hW2
      have hgw2 := hgw1.andThen hgA (fun j hj => by cases hj)
      have hrg2 := hrg1.kept hgA (by simp) (by simp)
      have hc := HD.out W2 p hpG hgw2
      have HONE := Lib.hid (plA_one p)
      clear hW2 hs1
      have hpd : ∀ d : DataW Pl, d = .held p → pdP f kl d = f p := fun d hd => by rw [hd]; rfl
      cases hp : f p <;> rw [hp] at hc
      · go_wp2_with (first
          | ((with_reducible show wpList _ _ _ (⟨none, .store _ (.tmp 5) _, _, _, _, _⟩ :: _) _ _); refine wpList_store_last rfl 64 _ _ rfl w1.heap.size (plA p) rfl rfl 64 _ rfl HI.out rfl HONE.out ?_; rw [← HW2.out])
          | ((with_reducible show wpList _ _ _ (⟨some 15, .load _ _, _, _, _, _⟩ :: _) _ _); refine wpList_load_row rfl 64 _ rfl w1.heap.size rfl 64 (plA p) (0, 0) _ HZ2.out Tryz.underlying64 rfl HI.out ?_)
          | (go_at_fn g; refine hc.mono ?_; rintro e w2 ⟨rfl, hg2⟩)
          | go_in)
        have hrg3 := hrg2.kept hg2 (by simp) (by simp)
        go_roundw
        case rel => exact ⟨_, cnt1, by rw [← Fk_stays hap (key_law.key hkey) hlx (hpd _ rfl ▸ hp) hat]; exact hrg3, hgw2.andThen hg2 (fun j hj => by cases hj)⟩
        case measure => rw [hrg3.left_eq, hrg.left_eq]; exact hlt
      · go_wp2_with (first
          | ((with_reducible show wpList _ _ _ (⟨none, .store _ (.tmp 5) _, _, _, _, _⟩ :: _) _ _); refine wpList_store_last rfl 64 _ _ rfl w1.heap.size (plA p) rfl rfl 64 _ rfl HI.out rfl HONE.out ?_; rw [← HW2.out])
          | ((with_reducible show wpList _ _ _ (⟨some 15, .load _ _, _, _, _, _⟩ :: _) _ _); refine wpList_load_row rfl 64 _ rfl w1.heap.size rfl 64 (plA p) (0, 0) _ HZ2.out Tryz.underlying64 rfl HI.out ?_)
          | (go_at_fn g; refine hc.mono ?_; rintro e w2 ⟨rfl, hg2⟩; have hrg3 := hrg2.kept hg2 (by simp) (by simp))
          | (at_delete; refine wpList_delete_ranges _ rfl _ _ 60 9 rfl 64 key_law Tryz.underlying60 plR M w.heap.size n _ _ _ rfl hrg3 _ _ rfl hkey ?_; intro w3 cnt3 hrg4 hle hturn; go_frame)
          | go_in)
        rw [strike_twice] at hrg4
        go_roundw
        case rel => exact ⟨_, cnt3, by rw [← Fk_struck hap (key_law.key hkey) hlx (hpd _ rfl ▸ hp) hat]; exact hrg4, (hgw2.andThen hg2 (fun j hj => by cases hj)).andThen hturn.grown (fun j hj => by cases hj; exact Or.inr rfl)⟩
        case measure => rw [hrg4.left_eq, hrg.left_eq]; omega
end Go.Proofs.YtbjgmkjinnbokaaGreatDoor
#print axioms Go.Proofs.YtbjgmkjinnbokaaGreatDoor.delFunc_any

/- Layer 16: the program's closures of what goes; takeAway and put. -/
namespace Go.Proofs.YtbjgmkjinnbokaaGreatDoor
open Go.RowKit

theorem grown_of_below {w w' : World} (h : Below w.heap.size w w') : w.grownBy w' none := ⟨h.os, h.tape, h.output, h.size, fun i hi _ => h.block i hi⟩
theorem from1_any (top p : List UInt8) (b : Nat) (w : World) (hc : w.cell? ⟨b, 0, none⟩ = some (.string (str top))) :
    Calls Tryz.prog 87 (#[.string (str p)] ++ #[.pointer (some ⟨b, 0, none⟩)]) w fun e w' => e = .returned (.bool (insideB top p)) ∧ w = w' := by
  have C := fun W => inside_any top p W
  go_enter Tryz.func87, Tryz.ntmps87
  go_wp2_with (go_at_call 88; ((with_reducible refine (C _).mono ?_); rintro e w1 ⟨rfl, rfl⟩))
  go_ret
  exact ⟨rfl, rfl⟩
theorem in1_any (top p : List UInt8) (b : Nat) (w : World) (hc : w.cell? ⟨b, 0, none⟩ = some (.string (str top))) :
    Calls Tryz.prog 89 (#[.string (str p)] ++ #[.pointer (some ⟨b, 0, none⟩)]) w fun e w' => e = .returned (.bool (!decide (p = top) && insideB top p)) ∧ w = w' := by
  have C := fun W => inside_any top p W
  have q := eq_strs p top
  by_cases h : p = top
  · have hr : (!decide (p = top) && insideB top p) = false := by rw [decide_eq_true h]; rfl
    rw [decide_eq_true h] at q
    rw [hr]
    generalize str p = P at *
    generalize str top = T at *
    clear hr h
    go_enter Tryz.func89, Tryz.ntmps89
    go_wp2
    go_ret
    exact ⟨rfl, rfl⟩
  · have hr : (!decide (p = top) && insideB top p) = insideB top p := by rw [decide_eq_false h]; rfl
    rw [decide_eq_false h] at q
    rw [hr]
    generalize insideB top p = ib at *
    generalize str p = P at *
    generalize str top = T at *
    clear hr h
    go_enter Tryz.func89, Tryz.ntmps89
    go_wp2_with (go_at_call 88; ((with_reducible refine (C _).mono ?_); rintro e w1 ⟨rfl, rfl⟩))
    go_ret
    exact ⟨rfl, rfl⟩
theorem from_any (top : List UInt8) (w : World) :
    Calls Tryz.prog 59 #[.string (str top)] w fun e w' => e = .returned (.func (.func 87) #[] #[.pointer (some ⟨w.heap.size, 0, none⟩)]) ∧ w' = w.alloc (.cells #[.string (str top)] 9) := by
  go_enter Tryz.func59, Tryz.ntmps59
  go_wp2
  go_ret
  exact ⟨rfl, rfl⟩
theorem in_any (top : List UInt8) (w : World) :
    Calls Tryz.prog 61 #[.string (str top)] w fun e w' => e = .returned (.func (.func 89) #[] #[.pointer (some ⟨w.heap.size, 0, none⟩)]) ∧ w' = w.alloc (.cells #[.string (str top)] 9) := by
  go_enter Tryz.func61, Tryz.ntmps61
  go_wp2
  go_ret
  exact ⟨rfl, rfl⟩
set_option maxRecDepth 100000 in
set_option maxHeartbeats 8000000 in
theorem take1_any (g : Nat) (fp : List UInt8 → Bool) (top : List UInt8) (nb : Nat) (eg : ∀ args w, (callFunc g args).run Tryz.prog w = .ok (.enter g args) w)
    (hg : ∀ W : World, W.cell? ⟨nb, 0, none⟩ = some (.string (str top)) → ∀ p, Calls Tryz.prog g (#[.string (str p)] ++ #[.pointer (some ⟨nb, 0, none⟩)]) W fun e w' => e = .returned (.bool (fp p)) ∧ W = w')
    (b4 b8 B : Nat) (k : Int) (x : Pl) (w : World) (c4 : w.cell? ⟨b4, 0, none⟩ = some (.pointer (some ⟨B, 0, none⟩))) (c8 : w.cell? ⟨b8, 0, none⟩ = some (.func (.func g) #[] #[.pointer (some ⟨nb, 0, none⟩)]))
    (cB : w.cell? ⟨B, 1, none⟩ = some (.int .i64 k)) (cn : w.cell? ⟨nb, 0, none⟩ = some (.string (str top))) :
    Calls Tryz.prog 63 (#[.string (str x.nd.path), .agg (plA x)] ++ #[.pointer (some ⟨b4, 0, none⟩), .pointer (some ⟨b8, 0, none⟩)]) w fun e w' => e = .returned (.bool (!decide (x.lay = k) && fp x.nd.path)) ∧ w.grownBy w' none := by
  have HCL := Lib.hid hg
  obtain ⟨W1, hW1⟩ : ∃ W1, W1 = w.alloc (.cells (plA x) 64) := ⟨_, rfl⟩
  have HW1 := Lib.hid hW1
  have HB1 : Hid (Below w.heap.size w W1) := Lib.hid (by rw [hW1]; exact (Below.refl _ _).alloc (Nat.le_refl _) _)
  have HZ1 : Hid (rowC W1 w.heap.size (plA x) 64) := Lib.hid (by rw [hW1]; exact rowC_new w _ _)
  have OS : ∀ w', Gn W1 no w' → w'.cell? ⟨w.heap.size, 4, none⟩ = some (.int .i64 x.lay) ∧ w'.cell? ⟨b4, 0, none⟩ = some (.pointer (some ⟨B, 0, none⟩)) ∧ w'.cell? ⟨b8, 0, none⟩ = some (.func (.func g) #[] #[.pointer (some ⟨nb, 0, none⟩)]) ∧ w'.cell? ⟨B, 1, none⟩ = some (.int .i64 k) ∧ w'.cell? ⟨nb, 0, none⟩ = some (.string (str top)) := fun w' hgn => by
    have hb : Below w.heap.size w w' := HB1.out.trans (hgn.below HB1.out.size (fun _ _ => id))
    have far : ∀ {a : Addr} {v : Value}, w.cell? a = some v → w'.cell? a = some v := fun {a v} h => by
      rw [cell_far hb (World.block_lt_of_cell? w a h)]
      exact h
    exact ⟨rowC_cell (hgn.row HZ1.out id) 4, far c4, far c8, far cB, far cn⟩
  have SO : ∀ w', Gn W1 no w' → Gn W1 no w' := fun _ h => h
  have HEND : Hid (∀ w', Gn W1 no w' → w.grownBy w' none) := Lib.hid fun w' hgn => grown_of_below (HB1.out.trans (hgn.below HB1.out.size (fun _ _ => id)))
  have hpl : (Value.agg (plA x)) = .agg #[.string (str x.nd.path), .int .i64 x.nd.kind, .int .i64 x.nd.mode, .string (str x.nd.data), .int .i64 x.lay] := rfl
  have HW2 : Hid (w.alloc (.cells #[.string (str x.nd.path), .int .i64 x.nd.kind, .int .i64 x.nd.mode, .string (str x.nd.data), .int .i64 x.lay] 64) = W1) := Lib.hid hW1.symm
  rw [hpl]
  clear hW1 hg c4 c8 cB cn hpl
  obtain ⟨R, hR⟩ : ∃ R, R = (!decide (x.lay = k) && fp x.nd.path) := ⟨_, rfl⟩
  have HR := Lib.hid hR
  rw [← hR]
  clear hR
  go_enter Tryz.func63, Tryz.ntmps63
  go_upto_region 1 with (fail)
  rw [HW2.out]
  refine wp_region_noPanic ?_
  refine wp_region_held_drew (S := Gn W1 no) (by kernel_rfl) (Gn.start _ _) (fun hHeld => ?_)
  generalize W1.drew = wd at *
  by_cases hk : x.lay = k
  · have gk : (x.lay != k) = false := by rw [bne_eq_false_iff_eq]; exact hk
    have HR2 : Hid (R = false) := Lib.hid (by rw [HR.out, decide_eq_true hk]; rfl)
    clear HR hk
    refine wpAnyH_take (i := 0) (oi := { dst := some 7, op := Op.fieldAddr 64 (Operand.tmp 5) 1, type := 0, pos := "trees.go:261", after := #[], guard := none }) (v := ?_) rfl (by kernel_rfl) (by kernel_rfl) (by kernel_rfl) (fun _ _ _ h => h) (Or.inl ⟨by rfl, ?_⟩) (by assumption) ?_
    rotate_left
    · intro w hSw
      skip
      clear hSw
      go_simp
      try with_reducible rfl
    try simp only [Act.put, List.setIfInBounds_toArray, List.set_cons_zero, List.set_cons_succ]
    refine wpAnyH_take (i := 1) (oi := { dst := some 8, op := Op.load 3 (Operand.tmp 7), type := 3, pos := "trees.go:261", after := #[{ on := 0, ground := Ground.data }], guard := none }) (v := ?_) rfl (by kernel_rfl) (by kernel_rfl) (by kernel_rfl) (fun _ _ _ h => h) (Or.inl ⟨by rfl, ?_⟩) (by assumption) ?_
    rotate_left
    · intro w hSw
      have hSw := OS _ hSw
      go_simp
      try with_reducible rfl
    try simp only [Act.put, List.setIfInBounds_toArray, List.set_cons_zero, List.set_cons_succ]
    refine wpAnyH_take (i := 2) (oi := { dst := some 9, op := Op.load 43 (Operand.tmp 2), type := 43, pos := "trees.go:261", after := #[], guard := none }) (v := ?_) rfl (by kernel_rfl) (by kernel_rfl) (by kernel_rfl) (fun _ _ _ h => h) (Or.inl ⟨by rfl, ?_⟩) (by assumption) ?_
    rotate_left
    · intro w hSw
      have hSw := OS _ hSw
      go_simp
      try with_reducible rfl
    try simp only [Act.put, List.setIfInBounds_toArray, List.set_cons_zero, List.set_cons_succ]
    refine wpAnyH_take (i := 3) (oi := { dst := some 10, op := Op.nilCheck (Operand.tmp 9), type := 0, pos := "trees.go:261", after := #[{ on := 2, ground := Ground.data }], guard := none }) (v := ?_) rfl (by kernel_rfl) (by kernel_rfl) (by kernel_rfl) (fun _ _ _ h => h) (Or.inl ⟨by rfl, ?_⟩) (by assumption) ?_
    rotate_left
    · intro w hSw
      skip
      clear hSw
      go_simp
      try with_reducible rfl
    try simp only [Act.put, List.setIfInBounds_toArray, List.set_cons_zero, List.set_cons_succ]
    refine wpAnyH_take (i := 4) (oi := { dst := some 11, op := Op.fieldAddr 62 (Operand.tmp 10) 1, type := 0, pos := "trees.go:261", after := #[{ on := 3, ground := Ground.data }], guard := none }) (v := ?_) rfl (by kernel_rfl) (by kernel_rfl) (by kernel_rfl) (fun _ _ _ h => h) (Or.inl ⟨by rfl, ?_⟩) (by assumption) ?_
    rotate_left
    · intro w hSw
      skip
      clear hSw
      go_simp
      try with_reducible rfl
    try simp only [Act.put, List.setIfInBounds_toArray, List.set_cons_zero, List.set_cons_succ]
    refine wpAnyH_take (i := 5) (oi := { dst := some 12, op := Op.load 3 (Operand.tmp 11), type := 3, pos := "trees.go:261", after := #[{ on := 4, ground := Ground.data }], guard := none }) (v := ?_) rfl (by kernel_rfl) (by kernel_rfl) (by kernel_rfl) (fun _ _ _ h => h) (Or.inl ⟨by rfl, ?_⟩) (by assumption) ?_
    rotate_left
    · intro w hSw
      have hSw := OS _ hSw
      go_simp
      try with_reducible rfl
    try simp only [Act.put, List.setIfInBounds_toArray, List.set_cons_zero, List.set_cons_succ]
    refine wpAnyH_take (i := 6) (oi := { dst := some 13, op := Op.binOp BinOp.neq 3 (Operand.tmp 8) (Operand.tmp 12) 3, type := 4, pos := "trees.go:261", after := #[{ on := 1, ground := Ground.data }, { on := 5, ground := Ground.data }], guard := none }) (v := ?_) rfl (by kernel_rfl) (by kernel_rfl) (by kernel_rfl) (fun _ _ _ h => h) (Or.inl ⟨by rfl, ?_⟩) (by assumption) ?_
    rotate_left
    · intro w hSw
      skip
      clear hSw
      go_simp
      try with_reducible rfl
    try simp only [Act.put, List.setIfInBounds_toArray, List.set_cons_zero, List.set_cons_succ]
    refine wpAnyH_take (i := 7) (oi := { dst := some 14, op := Op.move (Operand.tmp 13), type := 4, pos := "trees.go:261", after := #[{ on := 6, ground := Ground.data }], guard := none }) (v := ?_) rfl (by kernel_rfl) (by kernel_rfl) (by kernel_rfl) (fun _ _ _ h => h) (Or.inl ⟨by rfl, ?_⟩) (by assumption) ?_
    rotate_left
    · intro w hSw
      skip
      clear hSw
      go_simp
      try with_reducible rfl
    try simp only [Act.put, List.setIfInBounds_toArray, List.set_cons_zero, List.set_cons_succ]
    refine wpAnyH_take (i := 9) (oi := { dst := some 16, op := Op.move (Operand.tmp 0), type := 9, pos := "trees.go:261", after := #[{ on := 7, ground := Ground.guard }], guard := some (7, true) }) (v := undef) rfl (by kernel_rfl) (by kernel_rfl) (by kernel_rfl) (fun _ _ _ h => h) (Or.inr ⟨by rfl, rfl⟩) (by assumption) ?_
    try simp only [Act.put, List.setIfInBounds_toArray, List.set_cons_zero, List.set_cons_succ]
    refine wpAnyH_take (i := 8) (oi := { dst := some 15, op := Op.load 106 (Operand.tmp 3), type := 106, pos := "trees.go:261", after := #[{ on := 7, ground := Ground.guard }], guard := some (7, true) }) (v := undef) rfl (by kernel_rfl) (by kernel_rfl) (by kernel_rfl) (fun _ _ _ h => h) (Or.inr ⟨by rfl, rfl⟩) (by assumption) ?_
    try simp only [Act.put, List.setIfInBounds_toArray, List.set_cons_zero, List.set_cons_succ]
    refine wpAnyH_take (i := 10) (oi := { dst := some 17, op := Op.call { callee := Callee.value (Operand.tmp 15), args := #[Operand.tmp 16], argTypes := #[9] }, type := 4, pos := "trees.go:261", after := #[{ on := 8, ground := Ground.data }, { on := 9, ground := Ground.data }, { on := 7, ground := Ground.chain }, { on := 7, ground := Ground.guard }], guard := some (7, true) }) (v := undef) rfl (by kernel_rfl) (by kernel_rfl) (by kernel_rfl) (fun _ _ _ h => h) (Or.inr ⟨by rfl, rfl⟩) (by assumption) ?_
    try simp only [Act.put, List.setIfInBounds_toArray, List.set_cons_zero, List.set_cons_succ]
    refine wpAnyH_take (i := 11) (oi := { dst := some 18, op := Op.pick (Operand.tmp 14) (Operand.tmp 17) (Operand.const (Value.bool false)), type := 4, pos := "trees.go:261", after := #[{ on := 7, ground := Ground.data }, { on := 10, ground := Ground.data }], guard := none }) (v := ?_) rfl (by kernel_rfl) (by kernel_rfl) (by kernel_rfl) (fun _ _ _ h => h) (Or.inl ⟨by rfl, ?_⟩) (by assumption) ?_
    rotate_left
    · intro w hSw
      skip
      clear hSw
      go_simp
      try with_reducible rfl
    try simp only [Act.put, List.setIfInBounds_toArray, List.set_cons_zero, List.set_cons_succ]
    refine wpAnyH_take (i := 12) (oi := { dst := some 6, op := Op.assign (Operand.tmp 18), type := 4, pos := "trees.go:261", after := #[{ on := 11, ground := Ground.data }, { on := 10, ground := Ground.chain }, { on := 0, ground := Ground.phase }, { on := 1, ground := Ground.phase }, { on := 2, ground := Ground.phase }, { on := 3, ground := Ground.phase }, { on := 4, ground := Ground.phase }, { on := 5, ground := Ground.phase }, { on := 6, ground := Ground.phase }, { on := 7, ground := Ground.phase }, { on := 8, ground := Ground.phase }, { on := 9, ground := Ground.phase }, { on := 10, ground := Ground.phase }, { on := 11, ground := Ground.phase }], guard := none }) (v := ?_) rfl (by kernel_rfl) (by kernel_rfl) (by kernel_rfl) (fun _ _ _ h => h) (Or.inl ⟨by rfl, ?_⟩) (by assumption) ?_
    rotate_left
    · intro w hSw
      skip
      clear hSw
      go_simp
      try with_reducible rfl
    try simp only [Act.put, List.setIfInBounds_toArray, List.set_cons_zero, List.set_cons_succ]
    refine wpAnyH_done (by kernel_rfl) ?_ _
    refine NoPanic.normal ?_
    go_wp2
    go_ret
    exact ⟨by rw [HR2.out]; rfl, HEND.out _ (by assumption)⟩
  · have gk : (x.lay != k) = true := by rw [bne_iff_ne]; exact hk
    have HR2 : Hid (R = fp x.nd.path) := Lib.hid (by rw [HR.out, decide_eq_false hk]; rfl)
    clear HR hk
    refine wpAnyH_take (i := 0) (oi := { dst := some 7, op := Op.fieldAddr 64 (Operand.tmp 5) 1, type := 0, pos := "trees.go:261", after := #[], guard := none }) (v := ?_) rfl (by kernel_rfl) (by kernel_rfl) (by kernel_rfl) (fun _ _ _ h => h) (Or.inl ⟨by rfl, ?_⟩) (by assumption) ?_
    rotate_left
    · intro w hSw
      skip
      clear hSw
      go_simp
      try with_reducible rfl
    try simp only [Act.put, List.setIfInBounds_toArray, List.set_cons_zero, List.set_cons_succ]
    refine wpAnyH_take (i := 1) (oi := { dst := some 8, op := Op.load 3 (Operand.tmp 7), type := 3, pos := "trees.go:261", after := #[{ on := 0, ground := Ground.data }], guard := none }) (v := ?_) rfl (by kernel_rfl) (by kernel_rfl) (by kernel_rfl) (fun _ _ _ h => h) (Or.inl ⟨by rfl, ?_⟩) (by assumption) ?_
    rotate_left
    · intro w hSw
      have hSw := OS _ hSw
      go_simp
      try with_reducible rfl
    try simp only [Act.put, List.setIfInBounds_toArray, List.set_cons_zero, List.set_cons_succ]
    refine wpAnyH_take (i := 2) (oi := { dst := some 9, op := Op.load 43 (Operand.tmp 2), type := 43, pos := "trees.go:261", after := #[], guard := none }) (v := ?_) rfl (by kernel_rfl) (by kernel_rfl) (by kernel_rfl) (fun _ _ _ h => h) (Or.inl ⟨by rfl, ?_⟩) (by assumption) ?_
    rotate_left
    · intro w hSw
      have hSw := OS _ hSw
      go_simp
      try with_reducible rfl
    try simp only [Act.put, List.setIfInBounds_toArray, List.set_cons_zero, List.set_cons_succ]
    refine wpAnyH_take (i := 3) (oi := { dst := some 10, op := Op.nilCheck (Operand.tmp 9), type := 0, pos := "trees.go:261", after := #[{ on := 2, ground := Ground.data }], guard := none }) (v := ?_) rfl (by kernel_rfl) (by kernel_rfl) (by kernel_rfl) (fun _ _ _ h => h) (Or.inl ⟨by rfl, ?_⟩) (by assumption) ?_
    rotate_left
    · intro w hSw
      skip
      clear hSw
      go_simp
      try with_reducible rfl
    try simp only [Act.put, List.setIfInBounds_toArray, List.set_cons_zero, List.set_cons_succ]
    refine wpAnyH_take (i := 4) (oi := { dst := some 11, op := Op.fieldAddr 62 (Operand.tmp 10) 1, type := 0, pos := "trees.go:261", after := #[{ on := 3, ground := Ground.data }], guard := none }) (v := ?_) rfl (by kernel_rfl) (by kernel_rfl) (by kernel_rfl) (fun _ _ _ h => h) (Or.inl ⟨by rfl, ?_⟩) (by assumption) ?_
    rotate_left
    · intro w hSw
      skip
      clear hSw
      go_simp
      try with_reducible rfl
    try simp only [Act.put, List.setIfInBounds_toArray, List.set_cons_zero, List.set_cons_succ]
    refine wpAnyH_take (i := 5) (oi := { dst := some 12, op := Op.load 3 (Operand.tmp 11), type := 3, pos := "trees.go:261", after := #[{ on := 4, ground := Ground.data }], guard := none }) (v := ?_) rfl (by kernel_rfl) (by kernel_rfl) (by kernel_rfl) (fun _ _ _ h => h) (Or.inl ⟨by rfl, ?_⟩) (by assumption) ?_
    rotate_left
    · intro w hSw
      have hSw := OS _ hSw
      go_simp
      try with_reducible rfl
    try simp only [Act.put, List.setIfInBounds_toArray, List.set_cons_zero, List.set_cons_succ]
    refine wpAnyH_take (i := 6) (oi := { dst := some 13, op := Op.binOp BinOp.neq 3 (Operand.tmp 8) (Operand.tmp 12) 3, type := 4, pos := "trees.go:261", after := #[{ on := 1, ground := Ground.data }, { on := 5, ground := Ground.data }], guard := none }) (v := ?_) rfl (by kernel_rfl) (by kernel_rfl) (by kernel_rfl) (fun _ _ _ h => h) (Or.inl ⟨by rfl, ?_⟩) (by assumption) ?_
    rotate_left
    · intro w hSw
      skip
      clear hSw
      go_simp
      try with_reducible rfl
    try simp only [Act.put, List.setIfInBounds_toArray, List.set_cons_zero, List.set_cons_succ]
    refine wpAnyH_take (i := 7) (oi := { dst := some 14, op := Op.move (Operand.tmp 13), type := 4, pos := "trees.go:261", after := #[{ on := 6, ground := Ground.data }], guard := none }) (v := ?_) rfl (by kernel_rfl) (by kernel_rfl) (by kernel_rfl) (fun _ _ _ h => h) (Or.inl ⟨by rfl, ?_⟩) (by assumption) ?_
    rotate_left
    · intro w hSw
      skip
      clear hSw
      go_simp
      try with_reducible rfl
    try simp only [Act.put, List.setIfInBounds_toArray, List.set_cons_zero, List.set_cons_succ]
    refine wpAnyH_take (i := 9) (oi := { dst := some 16, op := Op.move (Operand.tmp 0), type := 9, pos := "trees.go:261", after := #[{ on := 7, ground := Ground.guard }], guard := some (7, true) }) (v := ?_) rfl (by kernel_rfl) (by kernel_rfl) (by kernel_rfl) (fun _ _ _ h => h) (Or.inl ⟨by rfl, ?_⟩) (by assumption) ?_
    rotate_left
    · intro w hSw
      skip
      clear hSw
      go_simp
      try with_reducible rfl
    try simp only [Act.put, List.setIfInBounds_toArray, List.set_cons_zero, List.set_cons_succ]
    refine wpAnyH_take (i := 8) (oi := { dst := some 15, op := Op.load 106 (Operand.tmp 3), type := 106, pos := "trees.go:261", after := #[{ on := 7, ground := Ground.guard }], guard := some (7, true) }) (v := ?_) rfl (by kernel_rfl) (by kernel_rfl) (by kernel_rfl) (fun _ _ _ h => h) (Or.inl ⟨by rfl, ?_⟩) (by assumption) ?_
    rotate_left
    · intro w hSw
      have hSw := OS _ hSw
      go_simp
      try with_reducible rfl
    try simp only [Act.put, List.setIfInBounds_toArray, List.set_cons_zero, List.set_cons_succ]
    refine wpAnyH_ready (rs := [10]) (by kernel_rfl) (by simp) ?_
    refine (AllReadyH.cons (o := { dst := some 17, op := Op.call { callee := Callee.value (Operand.tmp 15), args := #[Operand.tmp 16], argTypes := #[9] }, type := 4, pos := "trees.go:261", after := #[{ on := 8, ground := Ground.data }, { on := 9, ground := Ground.data }, { on := 7, ground := Ground.chain }, { on := 7, ground := Ground.guard }], guard := some (7, true) }) rfl (fun K hK => ?_) AllReadyH.nil)
    go_simp
    refine (HCL.out _ (OS _ (by assumption)).2.2.2.2 x.nd.path).mono ?_
    rintro e w10 ⟨rfl, rfl⟩
    refine hK.out _ _ (SO _ (by assumption)) (fun hHeld => ?_)
    clear hK K
    try simp only [Act.put, List.setIfInBounds_toArray, List.set_cons_zero, List.set_cons_succ]
    refine wpAnyH_take (i := 11) (oi := { dst := some 18, op := Op.pick (Operand.tmp 14) (Operand.tmp 17) (Operand.const (Value.bool false)), type := 4, pos := "trees.go:261", after := #[{ on := 7, ground := Ground.data }, { on := 10, ground := Ground.data }], guard := none }) (v := ?_) rfl (by kernel_rfl) (by kernel_rfl) (by kernel_rfl) (fun _ _ _ h => h) (Or.inl ⟨by rfl, ?_⟩) (by assumption) ?_
    rotate_left
    · intro w hSw
      skip
      clear hSw
      go_simp
      try with_reducible rfl
    try simp only [Act.put, List.setIfInBounds_toArray, List.set_cons_zero, List.set_cons_succ]
    refine wpAnyH_take (i := 12) (oi := { dst := some 6, op := Op.assign (Operand.tmp 18), type := 4, pos := "trees.go:261", after := #[{ on := 11, ground := Ground.data }, { on := 10, ground := Ground.chain }, { on := 0, ground := Ground.phase }, { on := 1, ground := Ground.phase }, { on := 2, ground := Ground.phase }, { on := 3, ground := Ground.phase }, { on := 4, ground := Ground.phase }, { on := 5, ground := Ground.phase }, { on := 6, ground := Ground.phase }, { on := 7, ground := Ground.phase }, { on := 8, ground := Ground.phase }, { on := 9, ground := Ground.phase }, { on := 10, ground := Ground.phase }, { on := 11, ground := Ground.phase }], guard := none }) (v := ?_) rfl (by kernel_rfl) (by kernel_rfl) (by kernel_rfl) (fun _ _ _ h => h) (Or.inl ⟨by rfl, ?_⟩) (by assumption) ?_
    rotate_left
    · intro w hSw
      skip
      clear hSw
      go_simp
      try with_reducible rfl
    try simp only [Act.put, List.setIfInBounds_toArray, List.set_cons_zero, List.set_cons_succ]
    refine wpAnyH_done (by kernel_rfl) ?_ _
    refine NoPanic.normal ?_
    go_wp2
    go_ret
    exact ⟨by rw [HR2.out]; rfl, HEND.out _ (by assumption)⟩
end Go.Proofs.YtbjgmkjinnbokaaGreatDoor
#print axioms Go.Proofs.YtbjgmkjinnbokaaGreatDoor.take1_any

