/- Layer 16: the law's own file, path, white, paths; the program's Find. -/
import Derived.Test.YtokeiagcdahmaaaDoorTtW
import Derived.Test.YtokeiagcdahmaaaDoorByt
namespace Go.Proofs.YtokeiagcdahmaaaDoor
open Go.RowKit

def fileE (name data : List UInt8) : En := ⟨1, name, [], 0, data⟩
theorem file_any (name data : List UInt8) (w : World) :
    Calls Tryd.prog 5 #[.string (str name), .string (str data)] w fun e w' => e = .returned (.agg (enA (fileE name data))) ∧ Below w.heap.size w w' := by
  have HI := Lib.hid info_en5
  obtain ⟨W0, hW0⟩ : ∃ W0, W0 = w.alloc (.cells #[.int .i64 0, .string ⟨#[]⟩, .string ⟨#[]⟩, .int .i64 0, .string ⟨#[]⟩] 27) := ⟨_, rfl⟩
  have HW0 := Lib.hid hW0
  have HR0 : Hid (rowC W0 w.heap.size #[.int .i64 0, .string ⟨#[]⟩, .string ⟨#[]⟩, .int .i64 0, .string ⟨#[]⟩] 27) := Lib.hid (by rw [hW0]; exact rowC_new w _ _)
  have HB0 : Hid (Below w.heap.size w W0) := Lib.hid (by rw [hW0]; exact (Below.refl _ _).alloc (Nat.le_refl _) _)
  have hone := Lib.hid (enA_one (fileE name data))
  clear hW0
  go_enter Tryd.func5, Tryd.ntmps5
  go_upto_region 1 with (fail)
  rw [← HW0.out]
  go_wp2_with (first
    | ((with_reducible show wpList _ _ _ (⟨none, .store _ (.tmp 4) _, _, _, _, _⟩ :: _) _ _); refine wpList_store_row rfl 27 _ _ rfl w.heap.size (enA (fileE name data)) rfl rfl 27 _ HR0.out HI.out rfl hone.out ?_))
  refine bodyPost_ret (results_cell_row rfl _ _ w.heap.size 27 (enA (fileE name data)) (0, 0) _ rfl (rowC_setRow HR0.out _) Tryd.underlying27 rfl HI.out) rfl ?_
  exact ⟨rfl, below_setRow HB0.out (Nat.le_refl _) _⟩
/-! ### path -/
def dirL (r : Nat) : List UInt8 := if r = 0 then [] else if r = 1 then [97, 47] else [98, 47]
def pathL (n : Nat) : List UInt8 := dirL (n % 3) ++ [102] ++ [UInt8.ofNat (97 + n / 3 % 6)]
theorem conv_one (c : Nat) (hc : c < 256) (b : Nat) (W : World) (h : rowC W b #[.int .u8 (c : Int)] 5) : (convert 22 9 (.slice (some ⟨b, 0, none⟩) 1 1)).run Tryd.prog W = .ok (.string (str [UInt8.ofNat c])) W := by
  have ho : W.ownsRow 0 5 1 (.slice (some ⟨b, 0, none⟩) 1 1) 1 ([UInt8.ofNat c].map byteV) := by
    refine ⟨by simp, .inr ⟨b, 1, _, rfl, Nat.zero_le _, h, Nat.le_refl _, by unfold maxLen; omega, by simp, ?_⟩⟩
    simp [byteV, Nat.mod_eq_of_lt hc]
  obtain ⟨a, cap, hv, hcv⟩ := conv_own ho rfl
  simp only [Value.slice.injEq, true_and] at hv
  obtain ⟨rfl, rfl⟩ := hv
  exact hcv
set_option maxRecDepth 100000 in
set_option maxHeartbeats 8000000 in
theorem path_any (n : Nat) (hn : n < 256) (w : World) :
    Calls Tryd.prog 6 #[.int .u8 (n : Int)] w fun e w' => e = .returned (.string (str (pathL n))) ∧ Below w.heap.size w w' := by
  obtain ⟨r, hr⟩ : ∃ r, r = n % 3 := ⟨_, rfl⟩
  obtain ⟨s, hs⟩ : ∃ s, s = n / 3 % 6 := ⟨_, rfl⟩
  obtain ⟨C, hC⟩ : ∃ C, C = 97 + s := ⟨_, rfl⟩
  have HP : Hid (str (pathL n) = (str (dirL r) ++ ⟨#[102]⟩) ++ str [UInt8.ofNat C]) := Lib.hid (by
    unfold pathL
    rw [← hr, ← hs, ← hC, show (⟨#[102]⟩ : ByteArray) = str [102] from rfl, str_append, str_append])
  have hr3 : r < 3 := by omega
  have hs6 : s < 6 := by omega
  have m1 : Int.tmod (n : Int) 3 = (r : Int) := by rw [Int.tmod_eq_emod_of_nonneg (by omega)]; omega
  have m2 : (n : Int) % 3 = (r : Int) := by omega
  have m3 : Int.tmod (Int.tdiv (n : Int) 3) 6 = (s : Int) := by rw [Int.tdiv_eq_ediv_of_nonneg (by omega), Int.tmod_eq_emod_of_nonneg (by omega)]; omega
  have m4 : (n : Int) / 3 % 6 = (s : Int) := by omega
  have m6 : Int.tmod ((n : Int) / 3) 6 = (s : Int) := by rw [Int.tmod_eq_emod_of_nonneg (by omega)]; omega
  have m5 : IntKind.u8.wrap (97 + (s : Int)) = (C : Int) := by simp [IntKind.wrap, IntKind.bits, IntKind.signed]; omega
  have m7 : IntKind.u8.wrap ((n : Int) / 3) = (n : Int) / 3 := by simp [IntKind.wrap, IntKind.bits, IntKind.signed]; omega
  have r0 : (0 : Int) ≤ (r : Int) := by omega
  have r3 : (r : Int) < 3 := by omega
  have HCV : Hid (∀ W : World, rowC W (w.heap.size + 1) #[.int .u8 (C : Int)] 5 → (convert 22 9 (.slice (some ⟨w.heap.size + 1, 0, none⟩) 1 1)).run Tryd.prog W = .ok (.string (str [UInt8.ofNat C])) W) := Lib.hid fun W hW => conv_one C (by omega) _ W hW
  obtain ⟨W1, hW1⟩ : ∃ W1, W1 = w.alloc (.cells #[.string ⟨#[]⟩, .string ⟨#[97, 47]⟩, .string ⟨#[98, 47]⟩] 41) := ⟨_, rfl⟩
  have HW1 := Lib.hid hW1
  have HR1 : Hid (rowC W1 w.heap.size #[.string ⟨#[]⟩, .string ⟨#[97, 47]⟩, .string ⟨#[98, 47]⟩] 41) := Lib.hid (by rw [hW1]; exact rowC_new w _ _)
  have HB1 : Hid (Below w.heap.size w W1) := Lib.hid (by rw [hW1]; exact (Below.refl _ _).alloc (Nat.le_refl _) _)
  have hz1 : W1.heap.size = w.heap.size + 1 := by rw [hW1, size_alloc]
  have HD : Hid (∀ W : World, rowC W w.heap.size #[.string ⟨#[]⟩, .string ⟨#[97, 47]⟩, .string ⟨#[98, 47]⟩] 41 → W.cell? ⟨w.heap.size, r, none⟩ = some (.string (str (dirL r)))) := Lib.hid fun W hW => by
    rw [rowC_cell hW r]
    match r, hr3 with
    | 0, _ => rfl
    | 1, _ => rfl
    | 2, _ => rfl
  have zd : (str (dirL r)).size ≤ 2 := by
    rw [str_size]
    unfold dirL
    split
    · decide
    · split <;> decide
  have hi3 := Lib.hid (show (Tryd.prog.info? 41).map (·.size) = some 3 by kernel_rfl)
  clear hW1 hr hs hr3 hn hC
  generalize str (dirL r) = DS at *
  have z1 : (⟨#[102]⟩ : ByteArray).size = 1 := rfl
  have z2 : (str [UInt8.ofNat C]).size = 1 := rfl
  go_enter Tryd.func6, Tryd.ntmps6
  go_upto_region 2 with (first
    | ((with_reducible show wpList _ _ _ (⟨none, .store _ (.tmp 3) _, _, _, _, _⟩ :: _) _ _); refine wpList_store_last rfl 41 _ _ rfl w.heap.size #[.string ⟨#[]⟩, .string ⟨#[97, 47]⟩, .string ⟨#[98, 47]⟩] rfl rfl 41 _ rfl hi3.out rfl rfl ?_))
  try simp only [Act.put]
  rw [← HW1.out]
  have OS : ∀ w', Gn W1 no w' → w'.cell? ⟨w.heap.size, r, none⟩ = some (.string DS) := fun w' h => HD.out w' (h.row HR1.out id)
  refine wp_region_noPanic ?_
  refine wp_region_held_drew (S := Gn W1 no) (by kernel_rfl) (Gn.start _ _) (fun hHeld => ?_)
  have hzd : W1.drew.heap.size = w.heap.size + 1 := hz1
  generalize W1.drew = wd at *
  refine wpAnyH_take (i := 0) (oi := { dst := some 5, op := Op.move (Operand.tmp 0), type := 5, pos := "outright.go:129", after := #[], guard := none }) (v := ?_) rfl (by kernel_rfl) (by kernel_rfl) (by kernel_rfl) (fun _ _ _ h => h) (Or.inl ⟨by rfl, ?_⟩) (by assumption) ?_
  rotate_left
  · intro w hSw
    skip
    clear hSw
    go_simp
    try with_reducible rfl
  try simp only [Act.put, List.setIfInBounds_toArray, List.set_cons_zero, List.set_cons_succ]
  refine wpAnyH_take (i := 1) (oi := { dst := some 6, op := Op.binOp BinOp.rem 5 (Operand.tmp 5) (Operand.const (Value.int IntKind.u8 3)) 5, type := 5, pos := "outright.go:129", after := #[{ on := 0, ground := Ground.data }], guard := none }) (v := ?_) rfl (by kernel_rfl) (by kernel_rfl) (by kernel_rfl) (fun _ _ _ h => h) (Or.inl ⟨by rfl, ?_⟩) (by assumption) ?_
  rotate_left
  · intro w hSw
    skip
    clear hSw
    go_simp
    try with_reducible rfl
  try simp only [Act.put, List.setIfInBounds_toArray, List.set_cons_zero, List.set_cons_succ]
  refine wpAnyH_take (i := 2) (oi := { dst := some 7, op := Op.indexAddr 41 (Operand.tmp 3) (Operand.tmp 6), type := 0, pos := "outright.go:129", after := #[{ on := 1, ground := Ground.data }], guard := none }) (v := ?_) rfl (by kernel_rfl) (by kernel_rfl) (by kernel_rfl) (fun _ _ _ h => h) (Or.inl ⟨by rfl, ?_⟩) (by assumption) ?_
  rotate_left
  · intro w hSw
    skip
    clear hSw
    go_simp
    try with_reducible rfl
  try simp only [Act.put, List.setIfInBounds_toArray, List.set_cons_zero, List.set_cons_succ]
  refine wpAnyH_take (i := 5) (oi := { dst := some 10, op := Op.move (Operand.tmp 0), type := 5, pos := "outright.go:129", after := #[], guard := none }) (v := ?_) rfl (by kernel_rfl) (by kernel_rfl) (by kernel_rfl) (fun _ _ _ h => h) (Or.inl ⟨by rfl, ?_⟩) (by assumption) ?_
  rotate_left
  · intro w hSw
    skip
    clear hSw
    go_simp
    try with_reducible rfl
  try simp only [Act.put, List.setIfInBounds_toArray, List.set_cons_zero, List.set_cons_succ]
  refine wpAnyH_take (i := 6) (oi := { dst := some 11, op := Op.binOp BinOp.quo 5 (Operand.tmp 10) (Operand.const (Value.int IntKind.u8 3)) 5, type := 5, pos := "outright.go:129", after := #[{ on := 5, ground := Ground.data }], guard := none }) (v := ?_) rfl (by kernel_rfl) (by kernel_rfl) (by kernel_rfl) (fun _ _ _ h => h) (Or.inl ⟨by rfl, ?_⟩) (by assumption) ?_
  rotate_left
  · intro w hSw
    skip
    clear hSw
    go_simp
    try with_reducible rfl
  try simp only [Act.put, List.setIfInBounds_toArray, List.set_cons_zero, List.set_cons_succ]
  refine wpAnyH_take (i := 7) (oi := { dst := some 12, op := Op.binOp BinOp.rem 5 (Operand.tmp 11) (Operand.const (Value.int IntKind.u8 6)) 5, type := 5, pos := "outright.go:129", after := #[{ on := 6, ground := Ground.data }], guard := none }) (v := ?_) rfl (by kernel_rfl) (by kernel_rfl) (by kernel_rfl) (fun _ _ _ h => h) (Or.inl ⟨by rfl, ?_⟩) (by assumption) ?_
  rotate_left
  · intro w hSw
    skip
    clear hSw
    go_simp
    try with_reducible rfl
  try simp only [Act.put, List.setIfInBounds_toArray, List.set_cons_zero, List.set_cons_succ]
  refine wpAnyH_take (i := 8) (oi := { dst := some 13, op := Op.binOp BinOp.add 5 (Operand.const (Value.int IntKind.u8 97)) (Operand.tmp 12) 5, type := 5, pos := "outright.go:129", after := #[{ on := 7, ground := Ground.data }], guard := none }) (v := ?_) rfl (by kernel_rfl) (by kernel_rfl) (by kernel_rfl) (fun _ _ _ h => h) (Or.inl ⟨by rfl, ?_⟩) (by assumption) ?_
  rotate_left
  · intro w hSw
    skip
    clear hSw
    go_simp
    try with_reducible rfl
  try simp only [Act.put, List.setIfInBounds_toArray, List.set_cons_zero, List.set_cons_succ]
  refine wpAnyH_take (i := 3) (oi := { dst := some 8, op := Op.load 9 (Operand.tmp 7), type := 9, pos := "outright.go:129", after := #[{ on := 2, ground := Ground.data }], guard := none }) (v := ?_) rfl (by kernel_rfl) (by kernel_rfl) (by kernel_rfl) (fun _ _ _ h => h) (Or.inl ⟨by rfl, ?_⟩) (by assumption) ?_
  rotate_left
  · intro w hSw
    have hSw := OS _ hSw
    go_simp
    try with_reducible rfl
  try simp only [Act.put, List.setIfInBounds_toArray, List.set_cons_zero, List.set_cons_succ]
  refine wpAnyH_take (i := 4) (oi := { dst := some 9, op := Op.binOp BinOp.add 9 (Operand.tmp 8) (Operand.const (Value.string { data := #[102] })) 9, type := 9, pos := "outright.go:129", after := #[{ on := 3, ground := Ground.data }], guard := none }) (v := ?_) rfl (by kernel_rfl) (by kernel_rfl) (by kernel_rfl) (fun _ _ _ h => h) (Or.inl ⟨by rfl, ?_⟩) (by assumption) ?_
  rotate_left
  · intro w hSw
    skip
    clear hSw
    go_simp
    first | with_reducible rfl | (rw [if_neg (by omega)])
  try simp only [Act.put, List.setIfInBounds_toArray, List.set_cons_zero, List.set_cons_succ]
  refine wpAnyH_ready (rs := [9]) (by kernel_rfl) (by simp) ?_
  refine (AllReadyH.cons (o := { dst := some 14, op := Op.buildSlice 22 1 #[(0, Operand.tmp 13)], type := 22, pos := "outright.go:129", after := #[{ on := 8, ground := Ground.data }], guard := none }) rfl (fun K hK => ?_) AllReadyH.nil)
  go_simp
  refine hK.out _ _ (Gn.alloc hHeld _) (fun hHeld => ?_)
  clear hK K
  have hcv := HCV.out _ (by have := rowC_new wd #[.int .u8 (C : Int)] 5; rwa [hzd] at this)
  refine wpAnyH_ready (rs := [10]) (by kernel_rfl) (by simp) ?_
  refine (AllReadyH.cons (o := { dst := some 15, op := Op.convert 22 9 (Operand.tmp 14), type := 9, pos := "outright.go:129", after := #[{ on := 9, ground := Ground.data }], guard := none }) rfl (fun K hK => ?_) AllReadyH.nil)
  go_simp
  refine hK.out _ _ hHeld (fun hHeld2 => ?_)
  clear hK K
  refine wpAnyH_take (i := 11) (oi := { dst := some 16, op := Op.binOp BinOp.add 9 (Operand.tmp 9) (Operand.tmp 15) 9, type := 9, pos := "outright.go:129", after := #[{ on := 4, ground := Ground.data }, { on := 10, ground := Ground.data }], guard := none }) (v := ?_) rfl (by kernel_rfl) (by kernel_rfl) (by kernel_rfl) (fun _ _ _ h => h) (Or.inl ⟨by rfl, ?_⟩) (by assumption) ?_
  rotate_left
  · intro w hSw
    skip
    clear hSw
    go_simp
    first | with_reducible rfl | (rw [if_neg (by omega)])
  try simp only [Act.put, List.setIfInBounds_toArray, List.set_cons_zero, List.set_cons_succ]
  refine wpAnyH_take (i := 12) (oi := { dst := some 2, op := Op.assign (Operand.tmp 16), type := 9, pos := "outright.go:129", after := #[{ on := 11, ground := Ground.data }, { on := 0, ground := Ground.phase }, { on := 1, ground := Ground.phase }, { on := 2, ground := Ground.phase }, { on := 3, ground := Ground.phase }, { on := 4, ground := Ground.phase }, { on := 5, ground := Ground.phase }, { on := 6, ground := Ground.phase }, { on := 7, ground := Ground.phase }, { on := 8, ground := Ground.phase }, { on := 9, ground := Ground.phase }, { on := 10, ground := Ground.phase }, { on := 11, ground := Ground.phase }], guard := none }) (v := ?_) rfl (by kernel_rfl) (by kernel_rfl) (by kernel_rfl) (fun _ _ _ h => h) (Or.inl ⟨by rfl, ?_⟩) (by assumption) ?_
  rotate_left
  · intro w hSw
    skip
    clear hSw
    go_simp
    try with_reducible rfl
  try simp only [Act.put, List.setIfInBounds_toArray, List.set_cons_zero, List.set_cons_succ]
  refine wpAnyH_done (by kernel_rfl) ?_ _
  refine NoPanic.normal ?_
  go_wp2
  go_ret
  exact ⟨by rw [HP.out]; rfl, HB1.out.trans (hHeld2.below HB1.out.size (fun _ _ => id))⟩
end Go.Proofs.YtokeiagcdahmaaaDoor
#print axioms Go.Proofs.YtokeiagcdahmaaaDoor.path_any
