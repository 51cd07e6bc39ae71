/- Merged: OdZ, OcN, OcO, OcP, OcQ, OeA. -/
import Derived.Test.YtlknngplnimdpaaGreatDoorM10
import Derived.Deep.RegionHeld3
import Derived.Test.YtlknngplnimdpaaGreatDoorM02
import Derived.Lib.ValidLaws
import Derived.Lib.ItoaLen
/- Layer 13: a descriptor's fields, to be put. -/
namespace Go.Proofs.YtlknngplnimdpaaGreatDoor
open Go.RowKit

theorem leaf_holds (w : World) (F : Nat → Prop) (k : Int) (t : Bs) (h : t.length ≤ 281474976710656) : HoldsC w F (.mk k t [] []) (.int .i64 k) (.string (str t)) (.slice none 0 0) (.slice none 0 0) := by
  rw [HoldsC]
  exact ⟨rfl, rfl, h, .inl ⟨rfl, rfl⟩, .inl ⟨rfl, rfl⟩⟩
/-- The three fields, in memory. -/
def fldC (d : DV) : Array Value := #[.string ⟨#[109, 101, 100, 105, 97, 84, 121, 112, 101]⟩, .int .i64 4, .string (str d.media), .slice none 0 0, .slice none 0 0,
  .string ⟨#[100, 105, 103, 101, 115, 116]⟩, .int .i64 4, .string (str (textL d.dig)), .slice none 0 0, .slice none 0 0,
  .string ⟨#[115, 105, 122, 101]⟩, .int .i64 3, .string (str (Lib.itoa d.size)), .slice none 0 0, .slice none 0 0]
def FldsP (w : World) (d : DV) (e : Ending) (w' : World) : Prop :=
  ∃ g, e = .returned (.slice (some ⟨g, 0, none⟩) 3 3) ∧ rowC w' g (fldC d) 102 ∧ w.heap.size ≤ g ∧ g < w'.heap.size ∧ Below w.heap.size w w'
theorem encD_range {w : World} {b : Nat} {d : DV} (hd : d.dig.length = 32) (h : rowC w b (encD d) 28) :
    w.cell? ⟨b, 0, none⟩ = some (.string (str d.media)) ∧ w.rangeAt b 1 (cells8 d.dig).toList ∧ w.cell? ⟨b, 33, none⟩ = some (.int .i64 d.size) := by
  rw [encD_list] at h
  refine ⟨rowC_cell h 0, rowC_range h 1 _ (fun j v hv => ?_), ?_⟩
  · rw [List.getElem?_toArray]
    unfold encL cells8 at *
    simp only [List.cons_append, List.nil_append] at *
    rw [Nat.add_comm, List.getElem?_cons_succ, List.getElem?_append_left (by
      have := (List.getElem?_eq_some_iff.1 hv).1
      simpa using this)]
    simpa using hv
  · rw [rowC_cell h 33, List.getElem?_toArray]
    unfold encL
    rw [List.append_assoc, List.getElem?_append_right (by simp), List.getElem?_append_right (by simp [hd])]
    simp [hd]
set_option maxRecDepth 100000 in
set_option maxHeartbeats 16000000 in
theorem fields_put (d : DV) (hd : d.dig.length = 32) (h0 : -9223372036854775808 ≤ d.size) (h1 : d.size ≤ 9223372036854775807) (w : World) (hE : Env2 w) :
    Calls Tryz.prog 91 #[.agg (encD d)] w fun e w' => FldsP w d e w' := by
  obtain ⟨W0, hW0⟩ : ∃ W0, W0 = w.alloc (.cells (encD d) 28) := ⟨_, rfl⟩
  have R0 : rowC W0 w.heap.size (encD d) 28 := by rw [hW0]; exact rowC_new w _ _
  have B0 : Below w.heap.size w W0 := by rw [hW0]; exact (Below.refl _ _).alloc (Nat.le_refl _) _
  have S0 : W0.heap.size = w.heap.size + 1 := by rw [hW0, size_alloc]
  have CT : ∀ w', Gn W0 no w' → Calls Tryz.prog 52 #[.string (str d.media)] w' fun e w2 => e = .returned (.agg #[.int .i64 4, .string (str d.media), .slice none 0 0, .slice none 0 0]) ∧ Gn W0 no w2 := fun w' hg =>
    (text_put d.media w').mono (fun e w2 h => ⟨h.1, hg.call h.2⟩)
  obtain ⟨X, hX⟩ : ∃ X, X = (cells8 d.dig).toList := ⟨_, rfl⟩
  have hXa : X.toArray = cells8 d.dig := by rw [hX]
  have CD : ∀ w', Gn W0 no w' → Calls Tryz.prog 62 #[.agg X.toArray] w' fun e w2 => e = .returned (.agg #[.int .i64 4, .string (str (textL d.dig)), .slice none 0 0, .slice none 0 0]) ∧ Gn W0 no w2 := fun w' hg => by
    rw [hXa]
    exact (digest_put d.dig hd w').mono (fun e w2 h => ⟨h.1, hg.call h.2⟩)
  have CI : ∀ w', Gn W0 no w' → Calls Tryz.prog 51 #[.int .i64 d.size] w' fun e w2 => e = .returned (.agg #[.int .i64 3, .string (str (Lib.itoa d.size)), .slice none 0 0, .slice none 0 0]) ∧ Gn W0 no w2 := fun w' hg =>
    (number_put d.size h0 h1 w' (hE.below (B0.trans (hg.below (by omega) (fun _ _ h => h))))).mono (fun e w2 h => ⟨h.1, hg.call h.2⟩)
  have OS : ∀ w', Gn W0 no w' → w'.cell? ⟨w.heap.size, 0, none⟩ = some (.string (str d.media)) ∧ w'.rangeAt w.heap.size 1 X ∧ w'.cell? ⟨w.heap.size, 33, none⟩ = some (.int .i64 d.size) := fun w' h => by
    rw [hX]
    exact encD_range hd (h.row R0 id)
  have iD : (Tryz.prog.info? 24).map (·.size) = some X.length := by
    have := info_Gc d.dig hd
    rw [this, hX]
    simp
  have uD := Tryz.underlying24
  have HW0 := Lib.hid hW0
  have HB0 := Lib.hid B0
  have HE := Lib.hid hE
  clear hW0 B0 R0 hX hXa hE h0 h1 hd
  go_enter Tryz.func91, Tryz.ntmps91
  go_upto_region 1 with (fail)
  rw [← HW0.out]
  have SO : ∀ w', Gn W0 no w' → Gn W0 no w' := fun _ h => h
  refine wp_region_noPanic ?_
  refine wp_region_held_drew (S := Gn W0 no) (by kernel_rfl) (Gn.start _ _) (fun hHeld => ?_)
  generalize W0.drew = wd at *
  refine wpAnyH_take (i := 0) (oi := { dst := some 3, op := Op.fieldAddr 28 (Operand.tmp 1) 0, type := 0, pos := "oci.go:362", after := #[], guard := none }) (v := ?_) rfl (by kernel_rfl) (by kernel_rfl) (by kernel_rfl) (fun _ _ _ h => h) (Or.inl ⟨by rfl, ?_⟩) (by assumption) ?_
  rotate_left
  · intro w hSw
    skip
    clear hSw
    go_simp
    try with_reducible rfl
  try simp only [Act.put, List.setIfInBounds_toArray, List.set_cons_zero, List.set_cons_succ]
  refine wpAnyH_take (i := 4) (oi := { dst := some 7, op := Op.fieldAddr 28 (Operand.tmp 1) 1, type := 0, pos := "oci.go:362", after := #[], guard := none }) (v := ?_) rfl (by kernel_rfl) (by kernel_rfl) (by kernel_rfl) (fun _ _ _ h => h) (Or.inl ⟨by rfl, ?_⟩) (by assumption) ?_
  rotate_left
  · intro w hSw
    skip
    clear hSw
    go_simp
    try with_reducible rfl
  try simp only [Act.put, List.setIfInBounds_toArray, List.set_cons_zero, List.set_cons_succ]
  refine wpAnyH_take (i := 8) (oi := { dst := some 11, op := Op.fieldAddr 28 (Operand.tmp 1) 2, type := 0, pos := "oci.go:362", after := #[], guard := none }) (v := ?_) rfl (by kernel_rfl) (by kernel_rfl) (by kernel_rfl) (fun _ _ _ h => h) (Or.inl ⟨by rfl, ?_⟩) (by assumption) ?_
  rotate_left
  · intro w hSw
    skip
    clear hSw
    go_simp
    try with_reducible rfl
  try simp only [Act.put, List.setIfInBounds_toArray, List.set_cons_zero, List.set_cons_succ]
  refine wpAnyH_take (i := 1) (oi := { dst := some 4, op := Op.load 9 (Operand.tmp 3), type := 9, pos := "oci.go:362", after := #[{ on := 0, ground := Ground.data }], guard := none }) (v := ?_) rfl (by kernel_rfl) (by kernel_rfl) (by kernel_rfl) (fun _ _ _ h => h) (Or.inl ⟨by rfl, ?_⟩) (by assumption) ?_
  rotate_left
  · intro w hSw
    have hSw := OS _ hSw
    go_simp
    try with_reducible rfl
  try simp only [Act.put, List.setIfInBounds_toArray, List.set_cons_zero, List.set_cons_succ]
  refine wpAnyH_take (i := 5) (oi := { dst := some 8, op := Op.load 24 (Operand.tmp 7), type := 24, pos := "oci.go:362", after := #[{ on := 4, ground := Ground.data }], guard := none }) (v := _) rfl (by kernel_rfl) (by kernel_rfl) (by kernel_rfl) (fun _ _ _ h => h) (yieldsIf_load_mid (by rfl) _ _ rfl _ _ rfl _ _ (by intro w hSw; have hSw := OS _ hSw; go_split_ands; assumption) (by assumption) rfl (by assumption)) (by assumption) ?_
  try simp only [Act.put, List.setIfInBounds_toArray, List.set_cons_zero, List.set_cons_succ]
  refine wpAnyH_take (i := 9) (oi := { dst := some 12, op := Op.load 3 (Operand.tmp 11), type := 3, pos := "oci.go:362", after := #[{ on := 8, ground := Ground.data }], guard := none }) (v := ?_) rfl (by kernel_rfl) (by kernel_rfl) (by kernel_rfl) (fun _ _ _ h => h) (Or.inl ⟨by rfl, ?_⟩) (by assumption) ?_
  rotate_left
  · intro w hSw
    have hSw := OS _ hSw
    go_simp
    try with_reducible rfl
  try simp only [Act.put, List.setIfInBounds_toArray, List.set_cons_zero, List.set_cons_succ]
  refine wpAnyH_ready (rs := [2]) (by kernel_rfl) (by simp) ?_
  refine (AllReadyH.cons (o := { dst := some 5, op := Op.call { callee := Callee.value (Operand.func 52), args := #[Operand.tmp 4], argTypes := #[9] }, type := 63, pos := "oci.go:363", after := #[{ on := 1, ground := Ground.data }], guard := none }) rfl (fun K hK => ?_) AllReadyH.nil)
  go_simp
  with_reducible refine (CT _ hHeld).mono ?_
  rintro e w2' ⟨rfl, m2'⟩
  refine hK.out _ _ (SO _ (by assumption)) (fun hHeld => ?_)
  clear hK K
  try simp only [Act.put, List.setIfInBounds_toArray, List.set_cons_zero, List.set_cons_succ]
  refine wpAnyH_take (i := 3) (oi := { dst := some 6, op := Op.build 102 #[(0, Operand.const (Value.string { data := #[109, 101, 100, 105, 97, 84, 121, 112, 101] })), (1, Operand.tmp 5)], type := 102, pos := "oci.go:362", after := #[{ on := 2, ground := Ground.data }], guard := none }) (v := ?_) rfl (by kernel_rfl) (by kernel_rfl) (by kernel_rfl) (fun _ _ _ h => h) (Or.inl ⟨by rfl, ?_⟩) (by assumption) ?_
  rotate_left
  · intro w hSw
    skip
    clear hSw
    go_simp
    try with_reducible rfl
  try simp only [Act.put, List.setIfInBounds_toArray, List.set_cons_zero, List.set_cons_succ]
  refine wpAnyH_ready (rs := [6]) (by kernel_rfl) (by simp) ?_
  refine (AllReadyH.cons (o := { dst := some 9, op := Op.call { callee := Callee.value (Operand.func 62), args := #[Operand.tmp 8], argTypes := #[24] }, type := 63, pos := "oci.go:364", after := #[{ on := 5, ground := Ground.data }, { on := 2, ground := Ground.chain }], guard := none }) rfl (fun K hK => ?_) AllReadyH.nil)
  go_simp
  with_reducible refine (CD _ hHeld).mono ?_
  rintro e w6' ⟨rfl, m6'⟩
  refine hK.out _ _ (SO _ (by assumption)) (fun hHeld => ?_)
  clear hK K
  try simp only [Act.put, List.setIfInBounds_toArray, List.set_cons_zero, List.set_cons_succ]
  refine wpAnyH_take (i := 7) (oi := { dst := some 10, op := Op.build 102 #[(0, Operand.const (Value.string { data := #[100, 105, 103, 101, 115, 116] })), (1, Operand.tmp 9)], type := 102, pos := "oci.go:362", after := #[{ on := 6, ground := Ground.data }], guard := none }) (v := ?_) rfl (by kernel_rfl) (by kernel_rfl) (by kernel_rfl) (fun _ _ _ h => h) (Or.inl ⟨by rfl, ?_⟩) (by assumption) ?_
  rotate_left
  · intro w hSw
    skip
    clear hSw
    go_simp
    try with_reducible rfl
  try simp only [Act.put, List.setIfInBounds_toArray, List.set_cons_zero, List.set_cons_succ]
  refine wpAnyH_ready (rs := [10]) (by kernel_rfl) (by simp) ?_
  refine (AllReadyH.cons (o := { dst := some 13, op := Op.call { callee := Callee.value (Operand.func 51), args := #[Operand.tmp 12], argTypes := #[3] }, type := 63, pos := "oci.go:365", after := #[{ on := 9, ground := Ground.data }, { on := 6, ground := Ground.chain }], guard := none }) rfl (fun K hK => ?_) AllReadyH.nil)
  go_simp
  with_reducible refine (CI _ hHeld).mono ?_
  rintro e w10' ⟨rfl, m10'⟩
  refine hK.out _ _ (SO _ (by assumption)) (fun hHeld => ?_)
  clear hK K
  try simp only [Act.put, List.setIfInBounds_toArray, List.set_cons_zero, List.set_cons_succ]
  refine wpAnyH_take (i := 11) (oi := { dst := some 14, op := Op.build 102 #[(0, Operand.const (Value.string { data := #[115, 105, 122, 101] })), (1, Operand.tmp 13)], type := 102, pos := "oci.go:362", after := #[{ on := 10, ground := Ground.data }], guard := none }) (v := ?_) rfl (by kernel_rfl) (by kernel_rfl) (by kernel_rfl) (fun _ _ _ h => h) (Or.inl ⟨by rfl, ?_⟩) (by assumption) ?_
  rotate_left
  · intro w hSw
    skip
    clear hSw
    go_simp
    try with_reducible rfl
  try simp only [Act.put, List.setIfInBounds_toArray, List.set_cons_zero, List.set_cons_succ]
  refine wpAnyH_ready (rs := [12]) (by kernel_rfl) (by simp) ?_
  refine (AllReadyH.cons (o := { dst := some 15, op := Op.buildSlice 158 3 #[(0, Operand.tmp 6), (1, Operand.tmp 10), (2, Operand.tmp 14)], type := 158, pos := "oci.go:362", after := #[{ on := 3, ground := Ground.data }, { on := 7, ground := Ground.data }, { on := 11, ground := Ground.data }], guard := none }) rfl (fun K hK => ?_) AllReadyH.nil)
  skip
  go_simp
  refine hK.out _ _ (SO _ (by exact Gn.alloc hHeld _)) (fun hHeld => ?_)
  clear hK K
  try simp only [Act.put, List.setIfInBounds_toArray, List.set_cons_zero, List.set_cons_succ]
  refine wpAnyH_take (i := 13) (oi := { dst := some 2, op := Op.assign (Operand.tmp 15), type := 158, pos := "oci.go:362", after := #[{ on := 12, ground := Ground.data }, { on := 10, ground := Ground.chain }, { on := 0, ground := Ground.phase }, { on := 1, ground := Ground.phase }, { on := 2, ground := Ground.phase }, { on := 3, ground := Ground.phase }, { on := 4, ground := Ground.phase }, { on := 5, ground := Ground.phase }, { on := 6, ground := Ground.phase }, { on := 7, ground := Ground.phase }, { on := 8, ground := Ground.phase }, { on := 9, ground := Ground.phase }, { on := 10, ground := Ground.phase }, { on := 11, ground := Ground.phase }, { on := 12, ground := Ground.phase }], guard := none }) (v := ?_) rfl (by kernel_rfl) (by kernel_rfl) (by kernel_rfl) (fun _ _ _ h => h) (Or.inl ⟨by rfl, ?_⟩) (by assumption) ?_
  rotate_left
  · intro w hSw
    skip
    clear hSw
    go_simp
    try with_reducible rfl
  try simp only [Act.put, List.setIfInBounds_toArray, List.set_cons_zero, List.set_cons_succ]
  refine wpAnyH_done (by kernel_rfl) ?_ _
  refine NoPanic.normal ?_
  go_wp2
  go_ret
  exact ⟨_, rfl, rowC_new _ _ _, by have := m10'.size; omega, by rw [size_alloc]; omega, HB0.out.trans ((hHeld.below (B := W0.heap.size) (by omega) (fun _ _ h => h)).mono (by omega))⟩
end Go.Proofs.YtlknngplnimdpaaGreatDoor

/- Layer 13, plain: numerals are numbers; what is put is read as it was. -/
namespace Go.Proofs.YtlknngplnimdpaaGreatDoor
open Go.Lib

theorem dec_all (n : Nat) : ∀ c ∈ decDigits n, isDg c = true := by
  induction n using Nat.strongRecOn with
  | ind n ih =>
    have one : ∀ k : Fin 10, isDg (UInt8.ofNat (48 + k.val)) = true := by decide
    rw [decDigits]
    split
    · rename_i h
      intro c hc
      rw [List.mem_singleton.1 hc]
      exact one ⟨n, h⟩
    · rename_i h
      intro c hc
      rcases List.mem_append.1 hc with hc | hc
      · exact ih (n / 10) (by omega) c hc
      · rw [List.mem_singleton.1 hc]
        exact one ⟨n % 10, by omega⟩
theorem dec_ne (n : Nat) : decDigits n ≠ [] := by
  rw [decDigits]
  split
  · simp
  · simp
theorem dec_hd (n : Nat) (h : n ≠ 0) : hd (decDigits n) ≠ 48 := by
  induction n using Nat.strongRecOn with
  | ind n ih =>
    have one : ∀ k : Fin 10, k.val ≠ 0 → UInt8.ofNat (48 + k.val) ≠ 48 := by decide
    rw [decDigits]
    split
    · rename_i h10
      exact one ⟨n, h10⟩ h
    · rename_i h10
      rw [hd_app (dec_ne _)]
      exact ih (n / 10) (by omega) (by omega)
theorem dropD_all {l : Bs} (h : ∀ c ∈ l, isDg c = true) : dropD l = [] := by
  induction l with
  | nil => rfl
  | cons c l ih =>
    rw [dropD, if_pos (h c (by simp))]
    exact ih fun x hx => h x (by simp [hx])
theorem dec_num (n : Nat) : isNum (decDigits n) := by
  unfold isNum numP
  have h45 : hd (decDigits n) ≠ 45 := by
    intro e
    have h1 := dec_all n (hd (decDigits n)) (by
      have := dec_ne n
      cases hh : decDigits n with
      | nil => exact absurd hh this
      | cons a l => simp [hd])
    rw [e] at h1
    exact absurd h1 (by decide)
  rw [if_neg h45]
  unfold intP
  have h0 : fracP [] = .ok () [] := by rfl
  by_cases hz : n = 0
  · subst hz
    have : decDigits 0 = [48] := by rw [decDigits]; rfl
    rw [this]
    rfl
  · rw [if_neg (dec_hd n hz), dig_all (dropD_all (dec_all n)) (dec_ne n)]
    exact h0
theorem parse_app : ∀ (a b : Bs) (acc u : Nat), parseUint10 acc a = .ok u → parseUint10 acc (a ++ b) = parseUint10 u b
  | [], b, acc, u, h => by
    simp only [parseUint10] at h
    injection h with h
    rw [h]
    rfl
  | c :: a, b, acc, u, h => by
    rw [List.cons_append]
    simp only [parseUint10] at h ⊢
    by_cases h1 : 48 ≤ c.toNat ∧ c.toNat ≤ 57
    · rw [if_pos h1] at h ⊢
      by_cases h2 : 1844674407370955162 ≤ acc
      · rw [if_pos h2] at h
        cases h
      · rw [if_neg h2] at h ⊢
        by_cases h3 : 18446744073709551616 ≤ acc * 10 + (c.toNat - 48)
        · rw [if_pos h3] at h
          cases h
        · rw [if_neg h3] at h ⊢
          exact parse_app a b _ u h
    · rw [if_neg h1] at h
      cases h
theorem parse_one (acc d : Nat) (hd : d < 10) (ha : acc < 1844674407370955161) : parseUint10 acc [UInt8.ofNat (48 + d)] = .ok (acc * 10 + d) := by
  have h : (UInt8.ofNat (48 + d)).toNat = 48 + d := by
    rw [UInt8.toNat_ofNat']
    omega
  simp only [parseUint10, h]
  rw [if_pos (by omega), if_neg (by omega), if_neg (by omega)]
  congr 1
  omega
theorem parse_dec (n : Nat) (h : n < 10000000000000000000) : parseUint10 0 (decDigits n) = .ok n := by
  induction n using Nat.strongRecOn with
  | ind n ih =>
    rw [decDigits]
    split
    · rename_i h10
      have := parse_one 0 n h10 (by omega)
      simpa using this
    · rename_i h10
      rw [parse_app _ _ _ _ (ih (n / 10) (by omega) (by omega)), parse_one _ _ (by omega) (by omega)]
      congr 1
      omega
theorem atoi_dec {n : Nat} (h : n ≤ 9007199254740992) : atoiAll (decDigits n) = .ok (n : Int) := by
  have hp := parse_dec n (by omega)
  have hne := dec_ne n
  have hall := dec_all n
  cases hh : decDigits n with
  | nil => exact absurd hh hne
  | cons c r =>
    rw [hh] at hp hall
    have hc := hall c (by simp)
    unfold isDg at hc
    simp only [Bool.and_eq_true, decide_eq_true_eq] at hc
    have h1 : 48 ≤ c.toNat := hc.1
    have h2 : c.toNat ≤ 57 := hc.2
    unfold atoiAll
    dsimp only
    rw [if_neg (by omega)]
    have : parseMag (c :: r) = .ok n := by
      unfold parseMag
      rw [if_neg (by simp)]
      exact hp
    rw [this]
    dsimp only
    rw [if_neg (by omega), if_neg (by omega), if_neg (by omega)]
theorem itoa_of {n : Int} (h : 0 ≤ n) : itoa n = decDigits n.toNat := by
  unfold itoa
  rw [if_neg (by omega)]
theorem itoa_num {n : Int} (h : 0 ≤ n) : isNum (itoa n) := by rw [itoa_of h]; exact dec_num _
theorem int_num {n : Int} (h : 0 ≤ n) (h2 : n ≤ 9007199254740992) : intV (numJ n) = some n := by
  have hk : intV (numJ n) = if (3 : Int) = 3 ∧ isNumB (itoa n) = true then (match atoiAll (itoa n) with | .ok n => if -9007199254740992 ≤ n ∧ n ≤ 9007199254740992 then some n else none | _ => none) else none := rfl
  rw [hk, if_pos ⟨rfl, (isNumB_iff _).2 (itoa_num h)⟩, itoa_of h, atoi_dec (by omega)]
  dsimp only
  rw [if_pos (by omega)]
  congr 1
  omega
/-! ### What is put is read -/
theorem mayD_iff (d : DV) : mayD d = true ↔ 0 ≤ d.size ∧ d.size ≤ 9007199254740992 ∧ validD d.media = true ∧ validD d.os = true ∧ validD d.arch = true := by
  unfold mayD
  simp only [Bool.and_eq_true, decide_eq_true_eq]
  constructor
  · rintro ⟨⟨⟨a, b⟩, c⟩, d, e⟩
    exact ⟨a, b, c, d, e⟩
  · rintro ⟨a, b, c, d, e⟩
    exact ⟨⟨⟨a, b⟩, c⟩, d, e⟩
theorem dig_txt {l : Bs} (h : l.length = 32) : digV (txtJ (textL l)) = some l := by
  have hk : digV (txtJ (textL l)) = if (4 : Int) = 4 ∧ isText (textL l) = true then some (digL (textL l)) else none := rfl
  rw [hk, if_pos ⟨rfl, isText_textL h⟩, digL_textL h]
theorem size_num {n : Int} (h : 0 ≤ n) (h2 : n ≤ 9007199254740992) : sizeV (numJ n) = some n := by
  unfold sizeV
  rw [int_num h h2]
  show (if n < 0 then none else some n) = some n
  rw [if_neg (by omega)]
theorem desc_full {d : DV} (hm : mayD d = true) (hd : d.dig.length = 32) : descV (fullJ d) = some d := by
  obtain ⟨h1, h2, _⟩ := (mayD_iff d).1 hm
  have e1 : partV (fullJ d) kMed textV = some d.media := rfl
  have e2 : partV (fullJ d) kDig digV = digV (txtJ (textL d.dig)) := rfl
  have e3 : partV (fullJ d) kSiz sizeV = sizeV (numJ d.size) := rfl
  have e4 : anyV ([], []) (fullJ d) kPla platV = some (d.os, d.arch) := rfl
  unfold descV
  rw [e1, e2, e3, e4, dig_txt hd, size_num h1 h2]
theorem desc_bare {d : DV} (hm : mayD d = true) (hd : d.dig.length = 32) : plainV (bareJ d) = some d.plain := by
  obtain ⟨h1, h2, _⟩ := (mayD_iff d).1 hm
  have e1 : partV (bareJ d) kMed textV = some d.media := rfl
  have e2 : partV (bareJ d) kDig digV = digV (txtJ (textL d.dig)) := rfl
  have e3 : partV (bareJ d) kSiz sizeV = sizeV (numJ d.size) := rfl
  have e4 : anyV ([], []) (bareJ d) kPla platV = some ([], []) := rfl
  unfold plainV descV
  rw [e1, e2, e3, e4, dig_txt hd, size_num h1 h2]
  rfl
theorem mapO_map {α β : Type} (f : JV → Option α) (g : β → JV) (t : β → α) : ∀ l : List β, (∀ x ∈ l, f (g x) = some (t x)) → mapO f (l.map g) = some (l.map t)
  | [], _ => rfl
  | x :: l, h => by
    rw [List.map_cons, mapO, h x (by simp), mapO_map f g t l fun y hy => h y (by simp [hy])]
    rfl
theorem plain_plain (d : DV) : d.plain.plain = d.plain := rfl
theorem bare_plain (d : DV) : bareJ d.plain = bareJ d := rfl
theorem may_plain {d : DV} (h : mayD d = true) : mayD d.plain = true := by
  obtain ⟨h1, h2, h3, _⟩ := (mayD_iff d).1 h
  exact (mayD_iff d.plain).2 ⟨h1, h2, h3, rfl, rfl⟩
theorem fits_plain (c : DV) (l : List DV) : fitsN c.plain (l.map DV.plain) = fitsN c l := by
  unfold fitsN
  rw [List.length_map, List.all_map]
  rfl
theorem man_back {c : DV} {l : List DV} (h : (manA c l).2 = 0) (hc : c.dig.length = 32) (hl : ∀ d ∈ l, d.dig.length = 32) :
    manA c l = printA (manJ c l) ∧ manV (manJ c l) = .ok (c.plain, l.map DV.plain) ∧ manA c.plain (l.map DV.plain) = manA c l := by
  have hm : mayD c = true ∧ l.all mayD = true := by
    unfold manA at h
    by_cases hh : mayD c = false ∨ l.all mayD = false
    · rw [if_pos hh] at h
      exact absurd h (by decide)
    · simpa using hh
  have hf : fitsN c l = 0 := by
    unfold manA at h
    rw [if_neg (by simp [hm])] at h
    by_cases hh : fitsN c l = 0
    · exact hh
    · rw [if_pos hh] at h
      exact absurd h hh
  have e1 : manA c l = printA (manJ c l) := by
    unfold manA
    rw [if_neg (by simp [hm]), if_neg (by simp [hf])]
  have hall := List.all_eq_true.1 hm.2
  refine ⟨e1, ?_, ?_⟩
  · have a1 : partV (manJ c l) kVer intV = intV (numJ 2) := rfl
    have a2 : anyV [] (manJ c l) kMed (mediaV 1) = some mMan := by show mediaV 1 (txtJ mMan) = some mMan; rfl
    have a3 : partV (manJ c l) kCfg plainV = plainV (bareJ c) := rfl
    have a4 : partV (manJ c l) kLay (listV plainV) = mapO plainV (l.map bareJ) := rfl
    have a0 : headV 1 (manJ c l) = 0 := by
      unfold headV
      rw [a1, int_num (by decide) (by decide), if_neg (by simp), a2]
    unfold manV
    rw [a0, if_neg (by simp), a3, desc_bare hm.1 hc, a4, mapO_map plainV bareJ DV.plain l fun d hd => desc_bare (hall d hd) (hl d hd)]
    dsimp only
    rw [fits_plain, if_neg (by simp [hf])]
  · rw [e1]
    unfold manA
    have : (l.map DV.plain).all mayD = true := by
      rw [List.all_eq_true]
      intro x hx
      obtain ⟨d, hd, rfl⟩ := List.mem_map.1 hx
      exact may_plain (hall d hd)
    rw [if_neg (by simp [may_plain hm.1, this]), fits_plain, if_neg (by simp [hf])]
    unfold manJ
    rw [List.map_map, bare_plain]
    rfl
theorem idx_back {l : List DV} (h : (idxA l).2 = 0) (hl : ∀ d ∈ l, d.dig.length = 32) : idxA l = printA (idxJ l) ∧ idxV (idxJ l) = .ok l := by
  have hm : l.all mayD = true := by
    unfold idxA at h
    by_cases hh : l.all mayD = false
    · rw [if_pos hh] at h
      exact absurd h (by decide)
    · simpa using hh
  have hn : ¬ 32 < l.length := by
    unfold idxA at h
    rw [if_neg (by simp [hm])] at h
    intro hh
    rw [if_pos hh] at h
    exact absurd h (by decide)
  have hall := List.all_eq_true.1 hm
  refine ⟨?_, ?_⟩
  · unfold idxA
    rw [if_neg (by simp [hm]), if_neg hn]
  · have a1 : partV (idxJ l) kVer intV = intV (numJ 2) := rfl
    have a2 : anyV [] (idxJ l) kMed (mediaV 2) = some mIdx := by show mediaV 2 (txtJ mIdx) = some mIdx; rfl
    have a4 : partV (idxJ l) kMan (listV descV) = mapO descV (l.map fullJ) := rfl
    have a0 : headV 2 (idxJ l) = 0 := by
      unfold headV
      rw [a1, int_num (by decide) (by decide), if_neg (by simp), a2]
    unfold idxV
    rw [a0, if_neg (by simp), a4, mapO_map descV fullJ id l fun d hd => desc_full (hall d hd) (hl d hd)]
    dsimp only
    rw [List.map_id, if_neg hn]
theorem img_back {p : Bs × Bs} {l : List Bs} (h : (imgA p l).2 = 0) (hl : ∀ d ∈ l, d.length = 32) : imgA p l = printA (imgJ p l) ∧ imgV (imgJ p l) = .ok (p, l) := by
  have hm : (validD p.1 && validD p.2) = true := by
    unfold imgA at h
    by_cases hh : (validD p.1 && validD p.2) = false
    · rw [if_pos hh] at h
      exact absurd h (by decide)
    · simpa using hh
  have hn : ¬ 8 < l.length := by
    unfold imgA at h
    rw [if_neg (by simp [hm])] at h
    intro hh
    rw [if_pos hh] at h
    exact absurd h (by decide)
  refine ⟨?_, ?_⟩
  · unfold imgA
    rw [if_neg (by simp [hm]), if_neg hn]
  · have a1 : platV (imgJ p l) = some p := rfl
    have a2 : partV (imgJ p l) kRoo rootV = mapO digV (l.map fun d => txtJ (textL d)) := rfl
    unfold imgV
    rw [a1, a2, mapO_map digV (fun d => txtJ (textL d)) id l fun d hd => dig_txt (hl d hd)]
    dsimp only
    rw [List.map_id, if_neg hn]
end Go.Proofs.YtlknngplnimdpaaGreatDoor

/- Layer 13, plain: keys in another order, and one more, make no difference. -/
namespace Go.Proofs.YtlknngplnimdpaaGreatDoor
open Go.Lib

def annJ : JV := .mk 5 [] [.mk 0 [] [] []] []
/-- A list, turned. -/
def rotL {α : Type} (b : Nat) (l : List α) : List α := l.drop (b % l.length) ++ l.take (b % l.length)
mutual
def turnJ (b : Nat) : JV → JV
  | .mk k t items keys => if k = 6 then .mk 6 t (rotL b (turnL b items) ++ [annJ]) (rotL b keys ++ [kAnn]) else .mk k t (turnL b items) []
def turnL (b : Nat) : List JV → List JV
  | [] => []
  | x :: l => turnJ b x :: turnL b l
end
theorem turnL_map (b : Nat) : ∀ l : List JV, turnL b l = l.map (turnJ b)
  | [] => by rw [turnL]; rfl
  | x :: l => by rw [turnL, turnL_map b l]; rfl
theorem turn_kind (b : Nat) : ∀ v : JV, (turnJ b v).kind = v.kind ∧ (turnJ b v).text = v.text
  | .mk k t items keys => by
    rw [turnJ]
    split
    · rename_i h
      exact ⟨h.symm, rfl⟩
    · exact ⟨rfl, rfl⟩
theorem rot_map {α β : Type} (f : α → β) (b : Nat) (l : List α) : rotL b (l.map f) = (rotL b l).map f := by
  unfold rotL
  rw [List.length_map, List.map_append, List.map_drop, List.map_take]
theorem rot_length {α : Type} (b : Nat) (l : List α) : (rotL b l).length = l.length := by
  unfold rotL
  rw [List.length_append, List.length_drop, List.length_take]
  by_cases h : l.length = 0
  · omega
  · have := Nat.mod_lt b (Nat.pos_of_ne_zero h)
    omega
theorem rot_perm {α : Type} (b : Nat) (l : List α) : (rotL b l).Perm l := by
  unfold rotL
  refine List.perm_append_comm.trans ?_
  rw [List.take_append_drop]
/-- The i-th one of a list that was turned. -/
theorem rot_at {α : Type} (b : Nat) (l : List α) (i : Nat) (hi : i < l.length) : (rotL b l)[i]? = l[(i + b) % l.length]? := by
  unfold rotL
  obtain ⟨n, hn⟩ : ∃ n, l.length = n := ⟨_, rfl⟩
  have hm := Nat.mod_lt b (show 0 < n by omega)
  have e : (i + b) % n = (i + b % n) % n := by rw [Nat.add_mod, Nat.mod_eq_of_lt (show i < n by omega)]
  rw [hn, e]
  obtain ⟨m, hm0⟩ : ∃ m, b % n = m := ⟨_, rfl⟩
  rw [hm0] at hm ⊢
  by_cases h : i < n - m
  · rw [List.getElem?_append_left (by rw [List.length_drop, hn]; omega), List.getElem?_drop, Nat.mod_eq_of_lt (show i + m < n by omega), Nat.add_comm]
  · rw [List.getElem?_append_right (by rw [List.length_drop, hn]; omega), List.length_drop, hn, List.getElem?_take, if_pos (by omega), show i + m = (i - (n - m)) + n by omega, Nat.add_mod_right, Nat.mod_eq_of_lt (by omega)]
theorem getL_app : ∀ (a : List Bs) (x : List JV) (b : List Bs) (y : List JV) (key : Bs), a.length = x.length → getL (a ++ b) (x ++ y) key = (getL a x key).or (getL b y key)
  | [], [], b, y, key, _ => by
    show getL b y key = (getL [] [] key).or _
    rw [show getL [] [] key = none by rfl, Option.none_or]
  | k :: a, z :: x, b, y, key, h => by
    show getL (k :: (a ++ b)) (z :: (x ++ y)) key = _
    rw [getL, getL]
    by_cases e : k = key
    · rw [if_pos e, if_pos e]
      rfl
    · rw [if_neg e, if_neg e, getL_app a x b y key (by simpa using h)]
  | [], _ :: _, _, _, _, h => by simp at h
  | _ :: _, [], _, _, _, h => by simp at h
theorem getL_none : ∀ (a : List Bs) (x : List JV) (key : Bs), key ∉ a → getL a x key = none
  | [], _, _, _ => by simp [getL]
  | _ :: _, [], _, _ => by simp [getL]
  | k :: a, z :: x, key, h => by
    rw [getL, if_neg (fun e => h (by simp [e])), getL_none a x key fun hm => h (by simp [hm])]
theorem getL_map (f : JV → JV) : ∀ (a : List Bs) (x : List JV) (key : Bs), getL a (x.map f) key = (getL a x key).map f
  | [], x, _ => by simp [getL]
  | _ :: _, [], _ => by simp [getL]
  | k :: a, z :: x, key => by
    rw [List.map_cons, getL, getL]
    by_cases e : k = key
    · rw [if_pos e, if_pos e]
      rfl
    · rw [if_neg e, if_neg e, getL_map f a x key]
theorem getL_rot (b : Nat) (a : List Bs) (x : List JV) (key : Bs) (hl : a.length = x.length) (hn : a.Nodup) : getL (rotL b a) (rotL b x) key = getL a x key := by
  unfold rotL
  rw [← hl]
  have e1 : getL a x key = (getL (a.take (b % a.length)) (x.take (b % a.length)) key).or (getL (a.drop (b % a.length)) (x.drop (b % a.length)) key) := by
    rw [← getL_app _ _ _ _ _ (by simp [hl]), List.take_append_drop, List.take_append_drop]
  rw [getL_app _ _ _ _ _ (by simp [hl]), e1]
  by_cases h : key ∈ a.take (b % a.length)
  · have h2 : key ∉ a.drop (b % a.length) := by
      intro hd
      rw [← List.take_append_drop (b % a.length) a] at hn
      exact (List.nodup_append.1 hn).2.2 key h key hd rfl
    rw [getL_none _ _ _ h2, Option.none_or, Option.or_none]
  · rw [getL_none _ _ _ h, Option.none_or, Option.or_none]
theorem getV_turn (b : Nat) {v : JV} (hv : may v) {key : Bs} (hk : key ≠ kAnn) : getV (turnJ b v) key = (getV v key).map (turnJ b) := by
  obtain ⟨k, t, items, keys⟩ := v
  unfold getV
  rw [(turn_kind b _).1]
  show (if k = 6 then _ else _) = _
  by_cases h : k = 6
  · subst h
    obtain ⟨_, _, h3, _, h5⟩ := may_obj hv
    rw [if_pos rfl, if_pos (show (JV.mk 6 t items keys).kind = 6 from rfl), turnJ, if_pos rfl]
    show getL (rotL b keys ++ [kAnn]) (rotL b (turnL b items) ++ [annJ]) key = (getL keys items key).map (turnJ b)
    rw [getL_app _ _ _ _ _ (by rw [rot_length, rot_length, turnL_map, List.length_map, h3]), getL_none [kAnn] _ _ (by simpa using hk), Option.or_none, turnL_map, getL_rot b keys _ key (by rw [List.length_map, h3]) h5, getL_map]
  · rw [if_neg h, if_neg (show ¬ (JV.mk k t items keys).kind = 6 from h)]
    rfl
theorem getL_may : ∀ (a : List Bs) (x : List JV) (key : Bs) (v : JV), mayL x → getL a x key = some v → may v
  | [], _, _, _, _, h => by simp [getL] at h
  | _ :: _, [], _, _, _, h => by simp [getL] at h
  | k :: a, z :: x, key, v, hm, h => by
    rw [getL] at h
    by_cases e : k = key
    · rw [if_pos e] at h
      injection h with h
      rw [← h]
      exact mayL_mem hm z (by simp)
    · rw [if_neg e] at h
      exact getL_may a x key v (by rw [mayL] at hm; exact hm.2) h
theorem getV_may {v x : JV} {key : Bs} (hv : may v) (h : getV v key = some x) : may x := by
  unfold getV at h
  split at h
  · obtain ⟨k, t, items, keys⟩ := v
    rename_i hk
    have hk : k = 6 := hk
    subst hk
    exact getL_may keys items key x (may_obj hv).1 h
  · cases h
theorem partV_turn {α : Type} (b : Nat) {v : JV} (hv : may v) {key : Bs} (hk : key ≠ kAnn) (f : JV → Option α) (hf : ∀ x, may x → f (turnJ b x) = f x) : partV (turnJ b v) key f = partV v key f := by
  unfold partV
  rw [getV_turn b hv hk]
  cases h : getV v key with
  | none => rfl
  | some x => exact hf x (getV_may hv h)
theorem anyV_turn {α : Type} (b : Nat) (z : α) {v : JV} (hv : may v) {key : Bs} (hk : key ≠ kAnn) (f : JV → Option α) (hf : ∀ x, may x → f (turnJ b x) = f x) : anyV z (turnJ b v) key f = anyV z v key f := by
  unfold anyV
  rw [getV_turn b hv hk]
  cases h : getV v key with
  | none => rfl
  | some x => exact hf x (getV_may hv h)
theorem textV_turn (b : Nat) (v : JV) : textV (turnJ b v) = textV v := by
  unfold textV
  rw [(turn_kind b v).1, (turn_kind b v).2]
theorem intV_turn (b : Nat) (v : JV) : intV (turnJ b v) = intV v := by
  unfold intV
  rw [(turn_kind b v).1, (turn_kind b v).2]
theorem digV_turn (b : Nat) (v : JV) : digV (turnJ b v) = digV v := by
  unfold digV
  rw [(turn_kind b v).1, (turn_kind b v).2]
theorem sizeV_turn (b : Nat) (v : JV) : sizeV (turnJ b v) = sizeV v := by
  unfold sizeV
  rw [intV_turn]
theorem mediaV_turn (b n : Nat) (v : JV) : mediaV n (turnJ b v) = mediaV n v := by
  unfold mediaV
  rw [textV_turn]
theorem platV_turn (b : Nat) {v : JV} (hv : may v) : platV (turnJ b v) = platV v := by
  unfold platV
  rw [partV_turn b hv (by decide) textV fun x _ => textV_turn b x, partV_turn b hv (by decide) textV fun x _ => textV_turn b x]
theorem descV_turn (b : Nat) {v : JV} (hv : may v) : descV (turnJ b v) = descV v := by
  unfold descV
  rw [partV_turn b hv (by decide) textV fun x _ => textV_turn b x, partV_turn b hv (by decide) digV fun x _ => digV_turn b x, partV_turn b hv (by decide) sizeV fun x _ => sizeV_turn b x, anyV_turn b _ hv (by decide) platV fun x hx => platV_turn b hx]
theorem mapO_turn {α : Type} (b : Nat) (f : JV → Option α) (hf : ∀ x, may x → f (turnJ b x) = f x) : ∀ l : List JV, mayL l → mapO f (l.map (turnJ b)) = mapO f l
  | [], _ => rfl
  | x :: l, h => by
    rw [mayL] at h
    rw [List.map_cons, mapO, mapO, hf x h.1, mapO_turn b f hf l h.2]
theorem listV_turn {α : Type} (b : Nat) (f : JV → Option α) (hf : ∀ x, may x → f (turnJ b x) = f x) {v : JV} (hv : may v) : listV f (turnJ b v) = listV f v := by
  unfold listV
  rw [(turn_kind b v).1]
  by_cases h : v.kind = 5
  · obtain ⟨k, t, items, keys⟩ := v
    have h : k = 5 := h
    subst h
    have hi : (turnJ b (.mk 5 t items keys)).items = items.map (turnJ b) := by
      rw [turnJ, if_neg (by decide)]
      exact turnL_map b items
    rw [if_pos (show (JV.mk 5 t items keys).kind = 5 from rfl), if_pos (show (JV.mk 5 t items keys).kind = 5 from rfl), hi]
    exact mapO_turn b f hf items (may_list hv).1
  · rw [if_neg h, if_neg h]
theorem headV_turn (b n : Nat) {v : JV} (hv : may v) : headV n (turnJ b v) = headV n v := by
  unfold headV
  rw [partV_turn b hv (by decide) intV fun x _ => intV_turn b x, anyV_turn b _ hv (by decide) (mediaV n) fun x _ => mediaV_turn b n x]
theorem idxV_turn (b : Nat) {v : JV} (hv : may v) : idxV (turnJ b v) = idxV v := by
  unfold idxV
  rw [headV_turn b 2 hv, partV_turn b hv (by decide) (listV descV) fun x hx => listV_turn b descV (fun y hy => descV_turn b hy) hx]
theorem rootV_turn (b : Nat) {v : JV} (hv : may v) : rootV (turnJ b v) = rootV v := by
  unfold rootV
  rw [partV_turn b hv (by decide) textV fun x _ => textV_turn b x, partV_turn b hv (by decide) (listV digV) fun x hx => listV_turn b digV (fun y _ => digV_turn b y) hx]
theorem imgV_turn (b : Nat) {v : JV} (hv : may v) : imgV (turnJ b v) = imgV v := by
  unfold imgV
  rw [platV_turn b hv, partV_turn b hv (by decide) rootV fun x hx => rootV_turn b hx]
end Go.Proofs.YtlknngplnimdpaaGreatDoor

/- Layer 13, plain: what is put may be, turned, too; how long its text is. -/
namespace Go.Proofs.YtlknngplnimdpaaGreatDoor
open Go.Lib

theorem may_txt {s : Bs} (h : validD s = true) : may (txtJ s) := by
  unfold txtJ
  rw [may]
  exact ⟨by rw [mayL]; trivial, by simp [h]⟩
theorem may_numJ {n : Int} (h : 0 ≤ n) : may (numJ n) := by
  unfold numJ
  rw [may]
  refine ⟨by rw [mayL]; trivial, ?_⟩
  have := itoa_num h
  simp [this]
theorem may_lst {l : List JV} (h : ∀ x ∈ l, may x) : may (lstJ l) := by
  unfold lstJ
  rw [may]
  exact ⟨mayL_of h, by simp⟩
theorem may_objJ {l : List (Bs × JV)} (h : ∀ p ∈ l, may p.2) (hv : (l.map (·.1)).all validD = true) (hn : (l.map (·.1)).Nodup) : may (objJ l) := by
  unfold objJ
  rw [may]
  refine ⟨mayL_of fun x hx => ?_, ?_⟩
  · obtain ⟨p, hp, rfl⟩ := List.mem_map.1 hx
    exact h p hp
  · exact .inr (.inr (.inr (.inr ⟨rfl, rfl, by simp, List.all_eq_true.1 hv, hn⟩)))
theorem valid_ascii : ∀ l : Bs, (∀ c ∈ l, c.toNat < 128) → validD l = true
  | [], _ => rfl
  | b :: t, h => by
    rw [validD_cons b t (h b (by simp))]
    exact valid_ascii t fun c hc => h c (by simp [hc])
theorem hexB_valid : ∀ k : Fin 16, (hexB k.val).toNat < 128 := by decide
theorem valid_text (l : Bs) : validD (textL l) = true := by
  have h : ∀ c ∈ textL l, c.toNat < 128 := by
    intro c hc
    unfold textL at hc
    rcases List.mem_append.1 hc with hc | hc
    · have h0 : ∀ c ∈ nameL, c.toNat < 128 := by decide
      exact h0 c hc
    · unfold hexL at hc
      obtain ⟨b, _, hc⟩ := List.mem_flatMap.1 hc
      have h1 := hexB_valid ⟨b.toNat / 16, by have := b.toNat_lt; omega⟩
      have h2 := hexB_valid ⟨b.toNat % 16, by omega⟩
      simp only [List.mem_cons, List.not_mem_nil, or_false] at hc
      rcases hc with rfl | rfl
      · exact h1
      · exact h2
  exact valid_ascii _ h
theorem may_fld {d : DV} (hm : mayD d = true) : ∀ p ∈ fldJ d, may p.2 := by
  obtain ⟨h1, h2, h3, _⟩ := (mayD_iff d).1 hm
  intro p hp
  unfold fldJ at hp
  simp only [List.mem_cons, List.not_mem_nil, or_false] at hp
  rcases hp with rfl | rfl | rfl
  · exact may_txt h3
  · exact may_txt (valid_text _)
  · exact may_numJ h1
theorem may_bare {d : DV} (hm : mayD d = true) : may (bareJ d) := may_objJ (may_fld hm) (by show [kMed, kDig, kSiz].all validD = true; decide) (by show [kMed, kDig, kSiz].Nodup; decide)
theorem may_pla {os arch : Bs} (h1 : validD os = true) (h2 : validD arch = true) : may (plaJ os arch) := by
  refine may_objJ (fun p hp => ?_) (by show [kOS, kArc].all validD = true; decide) (by show [kOS, kArc].Nodup; decide)
  simp only [List.mem_cons, List.not_mem_nil, or_false] at hp
  rcases hp with rfl | rfl
  · exact may_txt h1
  · exact may_txt h2
theorem may_full {d : DV} (hm : mayD d = true) : may (fullJ d) := by
  obtain ⟨_, _, _, h4, h5⟩ := (mayD_iff d).1 hm
  refine may_objJ (fun p hp => ?_) (by show [kMed, kDig, kSiz, kPla].all validD = true; decide) (by show [kMed, kDig, kSiz, kPla].Nodup; decide)
  rcases List.mem_append.1 hp with hp | hp
  · exact may_fld hm p hp
  · rw [List.mem_singleton.1 hp]
    exact may_pla h4 h5
theorem may_man {c : DV} {l : List DV} (hc : mayD c = true) (hl : ∀ d ∈ l, mayD d = true) : may (manJ c l) := by
  refine may_objJ (fun p hp => ?_) (by show [kVer, kMed, kCfg, kLay].all validD = true; decide) (by show [kVer, kMed, kCfg, kLay].Nodup; decide)
  simp only [List.mem_cons, List.not_mem_nil, or_false] at hp
  rcases hp with rfl | rfl | rfl | rfl
  · exact may_numJ (by decide)
  · exact may_txt (by decide)
  · exact may_bare hc
  · refine may_lst fun x hx => ?_
    obtain ⟨d, hd, rfl⟩ := List.mem_map.1 hx
    exact may_bare (hl d hd)
theorem may_idx {l : List DV} (hl : ∀ d ∈ l, mayD d = true) : may (idxJ l) := by
  refine may_objJ (fun p hp => ?_) (by show [kVer, kMed, kMan].all validD = true; decide) (by show [kVer, kMed, kMan].Nodup; decide)
  simp only [List.mem_cons, List.not_mem_nil, or_false] at hp
  rcases hp with rfl | rfl | rfl
  · exact may_numJ (by decide)
  · exact may_txt (by decide)
  · refine may_lst fun x hx => ?_
    obtain ⟨d, hd, rfl⟩ := List.mem_map.1 hx
    exact may_full (hl d hd)
theorem may_img {p : Bs × Bs} {l : List Bs} (h1 : validD p.1 = true) (h2 : validD p.2 = true) : may (imgJ p l) := by
  refine may_objJ (fun q hq => ?_) (by show [kArc, kOS, kRoo].all validD = true; decide) (by show [kArc, kOS, kRoo].Nodup; decide)
  simp only [List.mem_cons, List.not_mem_nil, or_false] at hq
  rcases hq with rfl | rfl | rfl
  · exact may_txt h2
  · exact may_txt h1
  · refine may_objJ (fun q hq => ?_) (by show [kTyp, kDif].all validD = true; decide) (by show [kTyp, kDif].Nodup; decide)
    simp only [List.mem_cons, List.not_mem_nil, or_false] at hq
    rcases hq with rfl | rfl
    · exact may_txt (by decide)
    · refine may_lst fun x hx => ?_
      obtain ⟨d, hd, rfl⟩ := List.mem_map.1 hx
      exact may_txt (valid_text _)
theorem deep_leaf (v : JV) (h5 : v.kind ≠ 5) (h6 : v.kind ≠ 6) (h : v.items = []) : deep v = 0 := by
  obtain ⟨k, t, items, keys⟩ := v
  have h : items = [] := h
  subst h
  rw [deep, if_neg (by intro e; rcases e with e | e; exact h5 e; exact h6 e), deepL]
theorem deep_objJ {l : List (Bs × JV)} {n : Nat} (h : ∀ p ∈ l, deep p.2 ≤ n) : deep (objJ l) ≤ n + 1 := by
  unfold objJ
  rw [deep, if_pos (.inr rfl)]
  have : deepL (l.map (·.2)) ≤ n := deepL_of fun x hx => by
    obtain ⟨p, hp, rfl⟩ := List.mem_map.1 hx
    exact h p hp
  omega
theorem deep_lst {l : List JV} {n : Nat} (h : ∀ x ∈ l, deep x ≤ n) : deep (lstJ l) ≤ n + 1 := by
  unfold lstJ
  rw [deep, if_pos (.inl rfl)]
  have : deepL l ≤ n := deepL_of h
  omega
theorem deep_txt (s : Bs) : deep (txtJ s) = 0 := deep_leaf _ (show (4 : Int) ≠ 5 by decide) (show (4 : Int) ≠ 6 by decide) rfl
theorem deep_num (n : Int) : deep (numJ n) = 0 := deep_leaf _ (show (3 : Int) ≠ 5 by decide) (show (3 : Int) ≠ 6 by decide) rfl
theorem deep_bare (d : DV) : deep (bareJ d) ≤ 2 := deep_objJ (n := 1) fun p hp => by
  unfold fldJ at hp
  simp only [List.mem_cons, List.not_mem_nil, or_false] at hp
  rcases hp with rfl | rfl | rfl
  · rw [deep_txt]; omega
  · rw [deep_txt]; omega
  · rw [deep_num]; omega
theorem deep_full (d : DV) : deep (fullJ d) ≤ 2 := deep_objJ (n := 1) fun p hp => by
  rcases List.mem_append.1 hp with hp | hp
  · unfold fldJ at hp
    simp only [List.mem_cons, List.not_mem_nil, or_false] at hp
    rcases hp with rfl | rfl | rfl
    · rw [deep_txt]; omega
    · rw [deep_txt]; omega
    · rw [deep_num]; omega
  · rw [List.mem_singleton.1 hp]
    refine deep_objJ (n := 0) fun q hq => ?_
    simp only [List.mem_cons, List.not_mem_nil, or_false] at hq
    rcases hq with rfl | rfl
    · rw [deep_txt]; omega
    · rw [deep_txt]; omega
theorem deep_man (c : DV) (l : List DV) : deep (manJ c l) ≤ 4 := deep_objJ (n := 3) fun p hp => by
  simp only [List.mem_cons, List.not_mem_nil, or_false] at hp
  rcases hp with rfl | rfl | rfl | rfl
  · rw [deep_num]; omega
  · rw [deep_txt]; omega
  · exact Nat.le_trans (deep_bare c) (by omega)
  · exact deep_lst (n := 2) fun x hx => by
      obtain ⟨d, _, rfl⟩ := List.mem_map.1 hx
      exact deep_bare d
theorem deep_idx (l : List DV) : deep (idxJ l) ≤ 4 := deep_objJ (n := 3) fun p hp => by
  simp only [List.mem_cons, List.not_mem_nil, or_false] at hp
  rcases hp with rfl | rfl | rfl
  · rw [deep_num]; omega
  · rw [deep_txt]; omega
  · exact deep_lst (n := 2) fun x hx => by
      obtain ⟨d, _, rfl⟩ := List.mem_map.1 hx
      exact deep_full d
theorem deep_img (p : Bs × Bs) (l : List Bs) : deep (imgJ p l) ≤ 4 := deep_objJ (n := 3) fun q hq => by
  simp only [List.mem_cons, List.not_mem_nil, or_false] at hq
  rcases hq with rfl | rfl | rfl
  · rw [deep_txt]; omega
  · rw [deep_txt]; omega
  · refine deep_objJ (n := 2) fun q hq => ?_
    simp only [List.mem_cons, List.not_mem_nil, or_false] at hq
    rcases hq with rfl | rfl
    · rw [deep_txt]; omega
    · exact Nat.le_trans (deep_lst (n := 0) fun x hx => by
        obtain ⟨d, _, rfl⟩ := List.mem_map.1 hx
        rw [deep_txt]; omega) (by omega)
/-! ### Turned -/
mutual
/-- No object in it has the key that is put to it. -/
def noAnn : JV → Prop
  | .mk _ _ items keys => kAnn ∉ keys ∧ noAnnL items
def noAnnL : List JV → Prop
  | [] => True
  | x :: l => noAnn x ∧ noAnnL l
end
theorem noAnnL_of : ∀ {l : List JV}, (∀ x ∈ l, noAnn x) → noAnnL l
  | [], _ => by rw [noAnnL]; trivial
  | x :: l, h => by rw [noAnnL]; exact ⟨h x (by simp), noAnnL_of fun y hy => h y (by simp [hy])⟩
theorem may_ann : may annJ := by
  unfold annJ
  rw [may]
  refine ⟨?_, by simp⟩
  rw [mayL]
  refine ⟨?_, by rw [mayL]; trivial⟩
  rw [may]
  exact ⟨by rw [mayL]; trivial, by simp⟩
theorem deep_ann : deep annJ = 1 := by
  unfold annJ
  rw [deep, if_pos (.inl rfl), deepL, deepL, deep_leaf _ (by decide) (by decide) rfl]
  rfl
mutual
theorem turn_may (b : Nat) : ∀ v : JV, may v → noAnn v → may (turnJ b v) ∧ deep (turnJ b v) ≤ deep v + 1
  | .mk k t items keys, hm, hn => by
    rw [noAnn] at hn
    have hmi : mayL items := by rw [may] at hm; exact hm.1
    have ih := turn_mayL b items hmi hn.2
    rw [turnJ]
    by_cases h : k = 6
    · subst h
      obtain ⟨_, h2, h3, h4, h5⟩ := may_obj hm
      rw [if_pos rfl]
      have hit : ∀ x ∈ rotL b (turnL b items) ++ [annJ], may x ∧ deep x ≤ deepL items + 1 := by
        intro x hx
        rcases List.mem_append.1 hx with hx | hx
        · exact ih x ((rot_perm b _).mem_iff.1 hx)
        · rw [List.mem_singleton.1 hx]
          exact ⟨may_ann, by rw [deep_ann]; omega⟩
      refine ⟨?_, ?_⟩
      · rw [may]
        refine ⟨mayL_of fun x hx => (hit x hx).1, .inr (.inr (.inr (.inr ⟨rfl, h2, ?_, ?_, ?_⟩)))⟩
        · rw [List.length_append, List.length_append, rot_length, rot_length, turnL_map, List.length_map, h3]
          rfl
        · intro x hx
          rcases List.mem_append.1 hx with hx | hx
          · exact h4 x ((rot_perm b _).mem_iff.1 hx)
          · rw [List.mem_singleton.1 hx]
            decide
        · rw [List.nodup_append]
          refine ⟨(rot_perm b keys).nodup_iff.2 h5, by simp, ?_⟩
          intro x hx y hy e
          rw [List.mem_singleton.1 hy] at e
          rw [e] at hx
          exact hn.1 ((rot_perm b _).mem_iff.1 hx)
      · rw [deep, if_pos (.inr rfl), deep, if_pos (.inr rfl)]
        have : deepL (rotL b (turnL b items) ++ [annJ]) ≤ deepL items + 1 := deepL_of fun x hx => (hit x hx).2
        omega
    · rw [if_neg h]
      refine ⟨?_, ?_⟩
      · rw [may] at hm ⊢
        refine ⟨mayL_of fun x hx => (ih x hx).1, ?_⟩
        have h2 := hm.2
        rcases h2 with ⟨a, b1, c, _⟩ | ⟨a, b1, c, _⟩ | ⟨a, b1, c, _⟩ | ⟨a, b1, _⟩ | ⟨a, _⟩
        · subst c
          rw [turnL]
          exact .inl ⟨a, b1, rfl, rfl⟩
        · subst c
          rw [turnL]
          exact .inr (.inl ⟨a, b1, rfl, rfl⟩)
        · subst c
          rw [turnL]
          exact .inr (.inr (.inl ⟨a, b1, rfl, rfl⟩))
        · exact .inr (.inr (.inr (.inl ⟨a, b1, rfl⟩)))
        · exact absurd a h
      · rw [deep, deep]
        have : deepL (turnL b items) ≤ deepL items + 1 := deepL_of fun x hx => (ih x hx).2
        by_cases h5 : k = 5 ∨ k = 6
        · rw [if_pos h5, if_pos h5]; omega
        · rw [if_neg h5, if_neg h5]; exact this
theorem turn_mayL (b : Nat) : ∀ l : List JV, mayL l → noAnnL l → ∀ x ∈ turnL b l, may x ∧ deep x ≤ deepL l + 1
  | [], _, _ => by rw [turnL]; intro x hx; cases hx
  | y :: l, hm, hn => by
    rw [mayL] at hm
    rw [noAnnL] at hn
    rw [turnL, deepL]
    intro x hx
    rcases List.mem_cons.1 hx with rfl | hx
    · have := turn_may b y hm.1 hn.1
      exact ⟨this.1, by omega⟩
    · have := turn_mayL b l hm.2 hn.2 x hx
      exact ⟨this.1, by omega⟩
end
end Go.Proofs.YtlknngplnimdpaaGreatDoor

/- Layer 13, plain: how long what is turned is, as a text. -/
namespace Go.Proofs.YtlknngplnimdpaaGreatDoor
open Go.Lib

theorem printedR_le (c : Nat) : (printedR c).length ≤ 6 * (encodeRune (c : Int)).length := by
  have := enc_pos c
  unfold printedR
  split
  · show 2 ≤ _
    omega
  · split
    · show 6 ≤ _
      omega
    · split
      · show 6 ≤ _
        omega
      · omega
theorem quo_le {t : Bs} (h : validD t = true) : (quoT t).length ≤ 6 * t.length + 2 := by
  obtain ⟨cs, hs, rfl⟩ := valid_utf _ t (Nat.le_refl _) h
  unfold quoT quoR
  rw [runesT_utf hs, List.length_cons, List.length_append, List.length_singleton]
  have : ∀ l : List Nat, (l.flatMap printedR).length ≤ 6 * (utfB l).length := by
    intro l
    induction l with
    | nil => exact Nat.le_refl _
    | cons c l ih =>
      have h1 := printedR_le c
      rw [List.flatMap_cons, utfB, List.length_append, List.length_append]
      omega
  have := this cs
  omega
mutual
/-- No less than its text is long, turned. -/
def szJ : JV → Nat
  | .mk _ t items keys => 6 * t.length + 107 + (keys.map fun x => 6 * x.length + 4).sum + szL items
def szL : List JV → Nat
  | [] => 0
  | x :: l => szJ x + 1 + szL l
end
theorem join_le : ∀ l : List Bs, (joinG [] l).length ≤ (l.map fun x => x.length + 1).sum
  | [] => Nat.le_refl _
  | [x] => by show x.length ≤ _; simp
  | x :: y :: l => by
    have := join_le (y :: l)
    rw [joinG, List.map_cons, List.sum_cons]
    simp only [List.length_append, List.length_nil, List.length_singleton]
    omega
theorem zip_le : ∀ (keys ts : List Bs), (∀ k ∈ keys, validD k = true) → ((List.zipWith (pairG []) keys ts).map fun x => x.length + 1).sum ≤ (keys.map fun x => 6 * x.length + 4).sum + (ts.map fun x => x.length + 1).sum
  | [], _, _ => by simp
  | _ :: _, [], _ => by simp
  | k :: keys, t :: ts, h => by
    have h1 := zip_le keys ts fun x hx => h x (by simp [hx])
    have h2 := quo_le (h k (by simp))
    have h3 : (pairG [] k t).length = (quoT k).length + 1 + t.length := by
      unfold pairG
      simp only [List.length_append, List.length_nil, List.length_singleton]
    rw [List.zipWith_cons_cons, List.map_cons, List.map_cons, List.map_cons, List.sum_cons, List.sum_cons, List.sum_cons, h3]
    omega
theorem sum_rot {α : Type} (b : Nat) (f : α → Nat) (l : List α) : ((rotL b l).map f).sum = (l.map f).sum := by
  have e : (l.map f).sum = ((l.take (b % l.length) ++ l.drop (b % l.length)).map f).sum := by rw [List.take_append_drop]
  rw [e]
  unfold rotL
  rw [List.map_append, List.map_append, List.sum_append, List.sum_append]
  omega
theorem wordOf_le2 (k : Int) : (wordOf k).length ≤ 5 := by
  unfold wordOf
  split
  · decide
  split <;> decide
theorem quo_ann : (quoT kAnn).length = 13 := by rfl
theorem pr_ann : (prG [] annJ).length = 6 := by rfl
mutual
theorem sz_turn (b : Nat) : ∀ v : JV, may v → (prG [] (turnJ b v)).length ≤ szJ v
  | .mk k t items keys, hm => by
    have hmi : mayL items := by rw [may] at hm; exact hm.1
    have ih := sz_turnL b items hmi
    rw [szJ, turnJ]
    by_cases h6 : k = 6
    · subst h6
      obtain ⟨_, h2, h3, h4, h5⟩ := may_obj hm
      rw [if_pos rfl, prG, if_neg (by decide), if_neg (by decide), if_neg (by decide), if_pos rfl]
      have hv : ∀ x ∈ rotL b keys ++ [kAnn], validD x = true := by
        intro x hx
        rcases List.mem_append.1 hx with hx | hx
        · exact h4 x ((rot_perm b _).mem_iff.1 hx)
        · rw [List.mem_singleton.1 hx]
          decide
      have h7 := join_le (List.zipWith (pairG []) (rotL b keys ++ [kAnn]) (prL [] (rotL b (turnL b items) ++ [annJ])))
      have h8 := zip_le (rotL b keys ++ [kAnn]) (prL [] (rotL b (turnL b items) ++ [annJ])) hv
      have h9 : ((prL [] (rotL b (turnL b items) ++ [annJ])).map fun x => x.length + 1).sum = ((turnL b items).map fun x => (prG [] x).length + 1).sum + 7 := by
        rw [prL_map, List.map_map, List.map_append, List.sum_append, sum_rot]
        rfl
      have h10 : ((rotL b keys ++ [kAnn]).map fun x => 6 * x.length + 4).sum = (keys.map fun x => 6 * x.length + 4).sum + 70 := by
        rw [List.map_append, List.sum_append, sum_rot]
        rfl
      simp only [List.length_append, List.length_nil, List.length_singleton]
      omega
    · rw [if_neg h6, prG]
      by_cases h3 : k = 3
      · rw [if_pos h3]; omega
      · rw [if_neg h3]
        by_cases h4 : k = 4
        · subst h4
          rw [if_pos rfl]
          have := quo_le (may_str hm).1
          omega
        · rw [if_neg h4]
          by_cases h5 : k = 5
          · rw [if_pos h5]
            have h7 := join_le (prL [] (turnL b items))
            rw [prL_map, List.map_map] at h7
            have e : (List.map ((fun x : Bs => x.length + 1) ∘ prG []) (turnL b items)).sum = ((turnL b items).map fun x => (prG [] x).length + 1).sum := rfl
            rw [e] at h7
            rw [prL_map]
            simp only [List.length_append, List.length_nil, List.length_singleton]
            omega
          · rw [if_neg h5, if_neg h6]
            have := wordOf_le2 k
            omega
theorem sz_turnL (b : Nat) : ∀ l : List JV, mayL l → ((turnL b l).map fun x => (prG [] x).length + 1).sum ≤ szL l
  | [], _ => by rw [turnL]; simp
  | x :: l, h => by
    rw [mayL] at h
    have h1 := sz_turn b x h.1
    have h2 := sz_turnL b l h.2
    rw [turnL, szL, List.map_cons, List.sum_cons]
    omega
end
theorem sz_txt (s : Bs) : szJ (txtJ s) = 6 * s.length + 107 := by
  unfold txtJ
  rw [szJ, szL]
  simp
theorem sz_num {n : Int} (h0 : -9223372036854775808 ≤ n) (h1 : n ≤ 9223372036854775807) : szJ (numJ n) ≤ 233 := by
  unfold numJ
  rw [szJ, szL]
  have := itoa_length_le n h0 h1
  simp
  omega
theorem szL_le (n : Nat) : ∀ l : List JV, (∀ x ∈ l, szJ x ≤ n) → szL l ≤ l.length * (n + 1)
  | [], _ => by rw [szL]; simp
  | x :: l, h => by
    have h1 := h x (by simp)
    have h2 := szL_le n l fun y hy => h y (by simp [hy])
    rw [szL, List.length_cons, Nat.succ_mul]
    omega
theorem sz_full {d : DV} (hm : mayD d = true) (hd : d.dig.length = 32) (h1 : d.media.length ≤ 200) (h2 : d.os.length ≤ 200) (h3 : d.arch.length ≤ 200) : szJ (fullJ d) ≤ 6000 := by
  obtain ⟨n1, n2, _⟩ := (mayD_iff d).1 hm
  have e1 := sz_txt d.media
  have e2 := sz_txt (textL d.dig)
  have e3 := sz_num (n := d.size) (by omega) (by omega)
  have e4 := sz_txt d.os
  have e5 := sz_txt d.arch
  have e6 := textL_length d.dig
  have e7 : szJ (plaJ d.os d.arch) = 107 + (16 + 76) + (szJ (txtJ d.os) + 1 + (szJ (txtJ d.arch) + 1)) := by
    unfold plaJ objJ
    show szJ (.mk 6 [] [txtJ d.os, txtJ d.arch] [kOS, kArc]) = _
    rw [szJ, szL, szL, szL]
    simp [kOS, kArc]
  have e8 : szJ (fullJ d) = 107 + 178 + (szJ (txtJ d.media) + 1 + (szJ (txtJ (textL d.dig)) + 1 + (szJ (numJ d.size) + 1 + (szJ (plaJ d.os d.arch) + 1)))) := by
    show szJ (.mk 6 [] [txtJ d.media, txtJ (textL d.dig), numJ d.size, plaJ d.os d.arch] [kMed, kDig, kSiz, kPla]) = _
    rw [szJ, szL, szL, szL, szL, szL]
    simp [kMed, kDig, kSiz, kPla]
  omega
theorem sz_idx {l : List DV} (hl : l.length ≤ 8) (h : ∀ d ∈ l, szJ (fullJ d) ≤ 6000) : szJ (idxJ l) ≤ 60000 := by
  have e1 := sz_num (n := 2) (by omega) (by omega)
  have e2 := sz_txt mIdx
  have e3 : szJ (lstJ (l.map fullJ)) ≤ 107 + 8 * 6001 := by
    unfold lstJ
    rw [szJ]
    have := szL_le 6000 (l.map fullJ) fun x hx => by
      obtain ⟨d, hd, rfl⟩ := List.mem_map.1 hx
      exact h d hd
    rw [List.length_map] at this
    simp
    omega
  have e4 : mIdx.length ≤ 60 := by decide
  have e8 : szJ (idxJ l) = 107 + ((6 * 13 + 4) + (6 * 9 + 4) + (6 * 9 + 4)) + (szJ (numJ 2) + 1 + (szJ (txtJ mIdx) + 1 + (szJ (lstJ (l.map fullJ)) + 1))) := by
    show szJ (.mk 6 [] [numJ 2, txtJ mIdx, lstJ (l.map fullJ)] [kVer, kMed, kMan]) = _
    rw [szJ, szL, szL, szL, szL]
    simp [kVer, kMed, kMan]
  omega
theorem sz_img {p : Bs × Bs} {l : List Bs} (hl : l.length ≤ 8) (h1 : p.1.length ≤ 200) (h2 : p.2.length ≤ 200) (h : ∀ d ∈ l, d.length = 32) : szJ (imgJ p l) ≤ 60000 := by
  have e1 := sz_txt p.1
  have e2 := sz_txt p.2
  have e3 : szJ (lstJ (l.map fun d => txtJ (textL d))) ≤ 107 + 8 * 601 := by
    unfold lstJ
    rw [szJ]
    have := szL_le 600 (l.map fun d => txtJ (textL d)) fun x hx => by
      obtain ⟨d, hd, rfl⟩ := List.mem_map.1 hx
      have e6 := textL_length d
      have e7 := h d hd
      rw [sz_txt]
      omega
    rw [List.length_map] at this
    simp
    omega
  have e4 : szJ (txtJ kLay) = 143 := by rw [sz_txt]; rfl
  have e5 : szJ (objJ [(kTyp, txtJ kLay), (kDif, lstJ (l.map fun d => txtJ (textL d)))]) = 107 + (28 + 52) + (szJ (txtJ kLay) + 1 + (szJ (lstJ (l.map fun d => txtJ (textL d))) + 1)) := by
    show szJ (.mk 6 [] [txtJ kLay, lstJ (l.map fun d => txtJ (textL d))] [kTyp, kDif]) = _
    rw [szJ, szL, szL, szL]
    simp [kTyp, kDif]
  have e8 : szJ (imgJ p l) = 107 + (76 + 16 + 40) + (szJ (txtJ p.2) + 1 + (szJ (txtJ p.1) + 1 + (szJ (objJ [(kTyp, txtJ kLay), (kDif, lstJ (l.map fun d => txtJ (textL d)))]) + 1))) := by
    show szJ (.mk 6 [] [txtJ p.2, txtJ p.1, objJ [(kTyp, txtJ kLay), (kDif, lstJ (l.map fun d => txtJ (textL d)))]] [kArc, kOS, kRoo]) = _
    rw [szJ, szL, szL, szL, szL]
    simp [kArc, kOS, kRoo]
  omega
end Go.Proofs.YtlknngplnimdpaaGreatDoor

/- Layer 13: a descriptor put without its platform. -/
namespace Go.Proofs.YtlknngplnimdpaaGreatDoor
open Go.RowKit

/-- What may be put: numbers within an int, texts no longer than memory takes. -/
def putD (d : DV) : Prop := goodD d ∧ -9223372036854775808 ≤ d.size ∧ d.size ≤ 9223372036854775807
theorem fldr_of {w : World} {g B : Nat} {d : DV} (h : rowC w g (fldC d) 102) (hg : g < w.heap.size) (hd : putD d) : FldR w B (fldJ d) (some ⟨g, 0, none⟩) := by
  intro i k v hi
  have h71 : (textL d.dig).length ≤ 281474976710656 := by rw [textL_length, hd.1.1]; omega
  have hit : (Lib.itoa d.size).length ≤ 281474976710656 := by have := Lib.itoa_length_le d.size hd.2.1 hd.2.2; omega
  unfold fldJ at hi
  rcases i with _ | _ | _ | i
  · simp only [List.getElem?_cons_zero, Option.some.injEq, Prod.mk.injEq] at hi
    obtain ⟨rfl, rfl⟩ := hi
    refine ⟨⟨g, 0, none⟩, _, _, _, _, rfl, hg, ?_, leaf_holds w _ 4 d.media hd.1.2.1⟩
    intro j u hu
    rcases j with _ | _ | _ | _ | _ | j
    · exact (rowC_cell h 0).trans hu
    · exact (rowC_cell h 1).trans hu
    · exact (rowC_cell h 2).trans hu
    · exact (rowC_cell h 3).trans hu
    · exact (rowC_cell h 4).trans hu
    · simp at hu
  · simp only [List.getElem?_cons_succ, List.getElem?_cons_zero, Option.some.injEq, Prod.mk.injEq] at hi
    obtain ⟨rfl, rfl⟩ := hi
    refine ⟨⟨g, 0, none⟩, _, _, _, _, rfl, hg, ?_, leaf_holds w _ 4 (textL d.dig) h71⟩
    intro j u hu
    rcases j with _ | _ | _ | _ | _ | j
    · exact (rowC_cell h 5).trans hu
    · exact (rowC_cell h 6).trans hu
    · exact (rowC_cell h 7).trans hu
    · exact (rowC_cell h 8).trans hu
    · exact (rowC_cell h 9).trans hu
    · simp at hu
  · simp only [List.getElem?_cons_succ, List.getElem?_cons_zero, Option.some.injEq, Prod.mk.injEq] at hi
    obtain ⟨rfl, rfl⟩ := hi
    refine ⟨⟨g, 0, none⟩, _, _, _, _, rfl, hg, ?_, leaf_holds w _ 3 (Lib.itoa d.size) hit⟩
    intro j u hu
    rcases j with _ | _ | _ | _ | _ | j
    · exact (rowC_cell h 10).trans hu
    · exact (rowC_cell h 11).trans hu
    · exact (rowC_cell h 12).trans hu
    · exact (rowC_cell h 13).trans hu
    · exact (rowC_cell h 14).trans hu
    · simp at hu
  · simp at hi
/-- A value put: in blocks of its own. -/
def PutP (w : World) (v : JV) (e : Ending) (w' : World) : Prop :=
  ∃ y m z n, e = .returned (.agg (row4 v.kind (str v.text) y v.items.length m z v.keys.length n)) ∧ HoldsC w' (fun q => w.heap.size ≤ q ∧ q < w'.heap.size) v (.int .i64 v.kind) (.string (str v.text)) (.slice y v.items.length m) (.slice z v.keys.length n) ∧ Below w.heap.size w w'
theorem obj_putP {w w3 : World} {l : List (Bs × JV)} {B c m n : Nat} {y z : Option Addr} (hh : HoldsC w3 (fun q => B ≤ q ∧ q < w3.heap.size) (objJ l) (.int .i64 6) (.string ⟨#[]⟩) (.slice y l.length m) (.slice z l.length n)) (hb : Below w.heap.size w w3) (hc : w.heap.size ≤ c) (hcB : c < B) (cs : Array Value) :
    PutP w (objJ l) (.returned (.agg (row4 6 ⟨#[]⟩ y l.length m z l.length n))) (w3.setRow c cs) := by
  have cz : Chg (fun q => q = c) w3 (w3.setRow c cs) := (Chg.refl _ _).setRow _ _ (.inl rfl)
  have h2 := HoldsC.mono (G := fun q => w.heap.size ≤ q ∧ q < (w3.setRow c cs).heap.size) (fun q hq hlt => ⟨by have := hq.1; omega, hlt⟩) _ _ _ _ _ (HoldsC.chg cz (fun q hq e => by have := hq.1; omega) _ _ _ _ _ hh)
  have e1 : (objJ l).items.length = l.length := by unfold objJ; simp [JV.items]
  have e2 : (objJ l).keys.length = l.length := by unfold objJ; simp [JV.keys]
  refine ⟨y, m, z, n, ?_, ?_, below_setRow hb hc _⟩
  · rw [e1, e2]
    rfl
  · rw [e1, e2]
    exact h2
set_option maxRecDepth 100000 in
set_option maxHeartbeats 8000000 in
theorem plain_put (d : DV) (hd : putD d) (w : World) (hE : Env2 w) :
    Calls Tryz.prog 53 #[.agg (encD d)] w fun e w' => PutP w (bareJ d) e w' := by
  have HI := Lib.hid info_V
  have HID := Lib.hid (show (Tryz.prog.info? 28).map (·.size) = some (encD d).size by rw [encD_size d hd.1]; exact info_D)
  obtain ⟨W0, hW0⟩ : ∃ W0, W0 = (w.alloc (.cells (encD d) 28)).alloc (.cells #[.int .i64 0, .string ⟨#[]⟩, .slice none 0 0, .slice none 0 0] 63) := ⟨_, rfl⟩
  have R0 : rowC W0 w.heap.size (encD d) 28 := by rw [hW0]; exact rowC_alloc (rowC_new w _ _) _
  have Z0 : rowC W0 (w.heap.size + 1) zeroV4 63 := by rw [hW0, ← size_alloc w (.cells (encD d) 28)]; exact rowC_new _ _ _
  have B0 : Below w.heap.size w W0 := by rw [hW0]; exact ((Below.refl _ _).alloc (Nat.le_refl _) _).alloc (by rw [size_alloc]; omega) _
  have S0 : W0.heap.size = w.heap.size + 2 := by rw [hW0, size_alloc, size_alloc]
  have CF := fields_put d hd.1.1 hd.2.1 hd.2.2 W0 (hE.below B0)
  have CO : ∀ g w', rowC w' g (fldC d) 102 → g < w'.heap.size → w.heap.size + 2 ≤ w'.heap.size → Calls Tryz.prog 50 #[.slice (some ⟨g, 0, none⟩) 3 3] w' fun e w2 => ObjP w' (w.heap.size + 2) (fldJ d) e w2 :=
    fun g w' h1 h2 h3 => object_put (fldJ d) (w.heap.size + 2) _ 3 w' h3 (by show 3 ≤ 1000; omega) (fldr_of h1 h2 hd)
  have HW0 := Lib.hid hW0
  have HR0 := Lib.hid R0
  have HZ0 := Lib.hid Z0
  have HB0 := Lib.hid B0
  clear hW0 R0 Z0 B0 hE hd
  go_enter Tryz.func53, Tryz.ntmps53
  go_upto_region 1 with (fail)
  rw [← HW0.out]
  go_wp2_with (first
    | ((with_reducible show wpList _ _ _ (⟨some 3, .load _ _, _, _, _, _⟩ :: _) _ _); refine wpList_load_row rfl 28 _ rfl w.heap.size rfl 28 (encD d) (0, 0) _ HR0.out Tryz.underlying28 rfl HID.out ?_)
    | (go_at_call 91; ((with_reducible refine CF.mono ?_); rintro e w2 ⟨g, rfl, hr2, hg2, hl2, hb2⟩; have HB2 := Lib.hid hb2; have s2 := hb2.size; have HZ2 := Lib.hid (rowC_below HZ0.out hb2 (by omega)); have C2 := CO g w2 hr2 hl2 (by omega); clear hb2))
    | (go_at_call 50; ((with_reducible refine C2.mono ?_); rintro e w3 ⟨y, m, z, n, rfl, hh3, hb3⟩; have HB3 := Lib.hid hb3; have s3 := hb3.size; have HH3 := Lib.hid hh3; have HZ3 := Lib.hid (rowC_below HZ2.out hb3 (by omega)); clear hb3 hh3))
    | ((with_reducible show wpList _ _ _ (⟨none, .store _ (.tmp 2) _, _, _, _, _⟩ :: _) _ _); refine wpList_store_row rfl 63 _ _ rfl (w.heap.size + 1) (row4 6 ⟨#[]⟩ y (fldJ d).length m z (fldJ d).length n) rfl rfl 63 zeroV4 HZ3.out HI.out rfl (row4_all _ _ _ _ _ _ _ _) ?_))
  refine bodyPost_ret (results_cell_row rfl _ _ (w.heap.size + 1) 63 (row4 6 ⟨#[]⟩ y (fldJ d).length m z (fldJ d).length n) (0, 0) _ rfl (rowC_setRow HZ3.out _) Tryz.underlying63 rfl HI.out) rfl ?_
  have b3 := (HB0.out.trans (HB2.out.mono (by omega))).trans (HB3.out.mono (by omega))
  exact obj_putP HH3.out b3 (by omega) (by omega) _
end Go.Proofs.YtlknngplnimdpaaGreatDoor

