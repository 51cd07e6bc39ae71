/- Merged: OdZ, OcN, OcP, OeA, OeB, OeC. -/
import Derived.Test.YtlknngplnimdpaaGreatDoorM10
import Derived.Deep.RegionHeld3
import Derived.Test.YtlknngplnimdpaaGreatDoorM02
import Derived.Lib.ValidLaws
import Derived.Lib.ItoaLen
import Derived.Deep.AppendLies
import Derived.Test.YtlknngplnimdpaaGreatDoorM01
/- Layer 13: a descriptor's fields, to be put. -/
namespace Go.Proofs.YtlknngplnimdpaaGreatDoor
open Go.RowKit

theorem leaf_holds (w : World) (F : Nat → Prop) (k : Int) (t : Bs) (h : t.length ≤ 281474976710656) : HoldsC w F (.mk k t [] []) (.int .i64 k) (.string (str t)) (.slice none 0 0) (.slice none 0 0) := by
  rw [HoldsC]
  exact ⟨rfl, rfl, h, .inl ⟨rfl, rfl⟩, .inl ⟨rfl, rfl⟩⟩
/-- The three fields, in memory. -/
def fldC (d : DV) : Array Value := #[.string ⟨#[109, 101, 100, 105, 97, 84, 121, 112, 101]⟩, .int .i64 4, .string (str d.media), .slice none 0 0, .slice none 0 0,
  .string ⟨#[100, 105, 103, 101, 115, 116]⟩, .int .i64 4, .string (str (textL d.dig)), .slice none 0 0, .slice none 0 0,
  .string ⟨#[115, 105, 122, 101]⟩, .int .i64 3, .string (str (Lib.itoa d.size)), .slice none 0 0, .slice none 0 0]
def FldsP (w : World) (d : DV) (e : Ending) (w' : World) : Prop :=
  ∃ g, e = .returned (.slice (some ⟨g, 0, none⟩) 3 3) ∧ rowC w' g (fldC d) 102 ∧ w.heap.size ≤ g ∧ g < w'.heap.size ∧ Below w.heap.size w w'
theorem encD_range {w : World} {b : Nat} {d : DV} (hd : d.dig.length = 32) (h : rowC w b (encD d) 28) :
    w.cell? ⟨b, 0, none⟩ = some (.string (str d.media)) ∧ w.rangeAt b 1 (cells8 d.dig).toList ∧ w.cell? ⟨b, 33, none⟩ = some (.int .i64 d.size) := by
  rw [encD_list] at h
  refine ⟨rowC_cell h 0, rowC_range h 1 _ (fun j v hv => ?_), ?_⟩
  · rw [List.getElem?_toArray]
    unfold encL cells8 at *
    simp only [List.cons_append, List.nil_append] at *
    rw [Nat.add_comm, List.getElem?_cons_succ, List.getElem?_append_left (by
      have := (List.getElem?_eq_some_iff.1 hv).1
      simpa using this)]
    simpa using hv
  · rw [rowC_cell h 33, List.getElem?_toArray]
    unfold encL
    rw [List.append_assoc, List.getElem?_append_right (by simp), List.getElem?_append_right (by simp [hd])]
    simp [hd]
set_option maxRecDepth 100000 in
set_option maxHeartbeats 16000000 in
theorem fields_put (d : DV) (hd : d.dig.length = 32) (h0 : -9223372036854775808 ≤ d.size) (h1 : d.size ≤ 9223372036854775807) (w : World) (hE : Env2 w) :
    Calls Tryz.prog 91 #[.agg (encD d)] w fun e w' => FldsP w d e w' := by
  obtain ⟨W0, hW0⟩ : ∃ W0, W0 = w.alloc (.cells (encD d) 28) := ⟨_, rfl⟩
  have R0 : rowC W0 w.heap.size (encD d) 28 := by rw [hW0]; exact rowC_new w _ _
  have B0 : Below w.heap.size w W0 := by rw [hW0]; exact (Below.refl _ _).alloc (Nat.le_refl _) _
  have S0 : W0.heap.size = w.heap.size + 1 := by rw [hW0, size_alloc]
  have CT : ∀ w', Gn W0 no w' → Calls Tryz.prog 52 #[.string (str d.media)] w' fun e w2 => e = .returned (.agg #[.int .i64 4, .string (str d.media), .slice none 0 0, .slice none 0 0]) ∧ Gn W0 no w2 := fun w' hg =>
    (text_put d.media w').mono (fun e w2 h => ⟨h.1, hg.call h.2⟩)
  obtain ⟨X, hX⟩ : ∃ X, X = (cells8 d.dig).toList := ⟨_, rfl⟩
  have hXa : X.toArray = cells8 d.dig := by rw [hX]
  have CD : ∀ w', Gn W0 no w' → Calls Tryz.prog 62 #[.agg X.toArray] w' fun e w2 => e = .returned (.agg #[.int .i64 4, .string (str (textL d.dig)), .slice none 0 0, .slice none 0 0]) ∧ Gn W0 no w2 := fun w' hg => by
    rw [hXa]
    exact (digest_put d.dig hd w').mono (fun e w2 h => ⟨h.1, hg.call h.2⟩)
  have CI : ∀ w', Gn W0 no w' → Calls Tryz.prog 51 #[.int .i64 d.size] w' fun e w2 => e = .returned (.agg #[.int .i64 3, .string (str (Lib.itoa d.size)), .slice none 0 0, .slice none 0 0]) ∧ Gn W0 no w2 := fun w' hg =>
    (number_put d.size h0 h1 w' (hE.below (B0.trans (hg.below (by omega) (fun _ _ h => h))))).mono (fun e w2 h => ⟨h.1, hg.call h.2⟩)
  have OS : ∀ w', Gn W0 no w' → w'.cell? ⟨w.heap.size, 0, none⟩ = some (.string (str d.media)) ∧ w'.rangeAt w.heap.size 1 X ∧ w'.cell? ⟨w.heap.size, 33, none⟩ = some (.int .i64 d.size) := fun w' h => by
    rw [hX]
    exact encD_range hd (h.row R0 id)
  have iD : (Tryz.prog.info? 24).map (·.size) = some X.length := by
    have := info_Gc d.dig hd
    rw [this, hX]
    simp
  have uD := Tryz.underlying24
  have HW0 := Lib.hid hW0
  have HB0 := Lib.hid B0
  have HE := Lib.hid hE
  clear hW0 B0 R0 hX hXa hE h0 h1 hd
  go_enter Tryz.func91, Tryz.ntmps91
  go_upto_region 1 with (fail)
  rw [← HW0.out]
  have SO : ∀ w', Gn W0 no w' → Gn W0 no w' := fun _ h => h
  refine wp_region_noPanic ?_
  refine wp_region_held_drew (S := Gn W0 no) (by kernel_rfl) (Gn.start _ _) (fun hHeld => ?_)
  generalize W0.drew = wd at *
  refine wpAnyH_take (i := 0) (oi := { dst := some 3, op := Op.fieldAddr 28 (Operand.tmp 1) 0, type := 0, pos := "oci.go:362", after := #[], guard := none }) (v := ?_) rfl (by kernel_rfl) (by kernel_rfl) (by kernel_rfl) (fun _ _ _ h => h) (Or.inl ⟨by rfl, ?_⟩) (by assumption) ?_
  rotate_left
  · intro w hSw
    skip
    clear hSw
    go_simp
    try with_reducible rfl
  try simp only [Act.put, List.setIfInBounds_toArray, List.set_cons_zero, List.set_cons_succ]
  refine wpAnyH_take (i := 4) (oi := { dst := some 7, op := Op.fieldAddr 28 (Operand.tmp 1) 1, type := 0, pos := "oci.go:362", after := #[], guard := none }) (v := ?_) rfl (by kernel_rfl) (by kernel_rfl) (by kernel_rfl) (fun _ _ _ h => h) (Or.inl ⟨by rfl, ?_⟩) (by assumption) ?_
  rotate_left
  · intro w hSw
    skip
    clear hSw
    go_simp
    try with_reducible rfl
  try simp only [Act.put, List.setIfInBounds_toArray, List.set_cons_zero, List.set_cons_succ]
  refine wpAnyH_take (i := 8) (oi := { dst := some 11, op := Op.fieldAddr 28 (Operand.tmp 1) 2, type := 0, pos := "oci.go:362", after := #[], guard := none }) (v := ?_) rfl (by kernel_rfl) (by kernel_rfl) (by kernel_rfl) (fun _ _ _ h => h) (Or.inl ⟨by rfl, ?_⟩) (by assumption) ?_
  rotate_left
  · intro w hSw
    skip
    clear hSw
    go_simp
    try with_reducible rfl
  try simp only [Act.put, List.setIfInBounds_toArray, List.set_cons_zero, List.set_cons_succ]
  refine wpAnyH_take (i := 1) (oi := { dst := some 4, op := Op.load 9 (Operand.tmp 3), type := 9, pos := "oci.go:362", after := #[{ on := 0, ground := Ground.data }], guard := none }) (v := ?_) rfl (by kernel_rfl) (by kernel_rfl) (by kernel_rfl) (fun _ _ _ h => h) (Or.inl ⟨by rfl, ?_⟩) (by assumption) ?_
  rotate_left
  · intro w hSw
    have hSw := OS _ hSw
    go_simp
    try with_reducible rfl
  try simp only [Act.put, List.setIfInBounds_toArray, List.set_cons_zero, List.set_cons_succ]
  refine wpAnyH_take (i := 5) (oi := { dst := some 8, op := Op.load 24 (Operand.tmp 7), type := 24, pos := "oci.go:362", after := #[{ on := 4, ground := Ground.data }], guard := none }) (v := _) rfl (by kernel_rfl) (by kernel_rfl) (by kernel_rfl) (fun _ _ _ h => h) (yieldsIf_load_mid (by rfl) _ _ rfl _ _ rfl _ _ (by intro w hSw; have hSw := OS _ hSw; go_split_ands; assumption) (by assumption) rfl (by assumption)) (by assumption) ?_
  try simp only [Act.put, List.setIfInBounds_toArray, List.set_cons_zero, List.set_cons_succ]
  refine wpAnyH_take (i := 9) (oi := { dst := some 12, op := Op.load 3 (Operand.tmp 11), type := 3, pos := "oci.go:362", after := #[{ on := 8, ground := Ground.data }], guard := none }) (v := ?_) rfl (by kernel_rfl) (by kernel_rfl) (by kernel_rfl) (fun _ _ _ h => h) (Or.inl ⟨by rfl, ?_⟩) (by assumption) ?_
  rotate_left
  · intro w hSw
    have hSw := OS _ hSw
    go_simp
    try with_reducible rfl
  try simp only [Act.put, List.setIfInBounds_toArray, List.set_cons_zero, List.set_cons_succ]
  refine wpAnyH_ready (rs := [2]) (by kernel_rfl) (by simp) ?_
  refine (AllReadyH.cons (o := { dst := some 5, op := Op.call { callee := Callee.value (Operand.func 52), args := #[Operand.tmp 4], argTypes := #[9] }, type := 63, pos := "oci.go:363", after := #[{ on := 1, ground := Ground.data }], guard := none }) rfl (fun K hK => ?_) AllReadyH.nil)
  go_simp
  with_reducible refine (CT _ hHeld).mono ?_
  rintro e w2' ⟨rfl, m2'⟩
  refine hK.out _ _ (SO _ (by assumption)) (fun hHeld => ?_)
  clear hK K
  try simp only [Act.put, List.setIfInBounds_toArray, List.set_cons_zero, List.set_cons_succ]
  refine wpAnyH_take (i := 3) (oi := { dst := some 6, op := Op.build 102 #[(0, Operand.const (Value.string { data := #[109, 101, 100, 105, 97, 84, 121, 112, 101] })), (1, Operand.tmp 5)], type := 102, pos := "oci.go:362", after := #[{ on := 2, ground := Ground.data }], guard := none }) (v := ?_) rfl (by kernel_rfl) (by kernel_rfl) (by kernel_rfl) (fun _ _ _ h => h) (Or.inl ⟨by rfl, ?_⟩) (by assumption) ?_
  rotate_left
  · intro w hSw
    skip
    clear hSw
    go_simp
    try with_reducible rfl
  try simp only [Act.put, List.setIfInBounds_toArray, List.set_cons_zero, List.set_cons_succ]
  refine wpAnyH_ready (rs := [6]) (by kernel_rfl) (by simp) ?_
  refine (AllReadyH.cons (o := { dst := some 9, op := Op.call { callee := Callee.value (Operand.func 62), args := #[Operand.tmp 8], argTypes := #[24] }, type := 63, pos := "oci.go:364", after := #[{ on := 5, ground := Ground.data }, { on := 2, ground := Ground.chain }], guard := none }) rfl (fun K hK => ?_) AllReadyH.nil)
  go_simp
  with_reducible refine (CD _ hHeld).mono ?_
  rintro e w6' ⟨rfl, m6'⟩
  refine hK.out _ _ (SO _ (by assumption)) (fun hHeld => ?_)
  clear hK K
  try simp only [Act.put, List.setIfInBounds_toArray, List.set_cons_zero, List.set_cons_succ]
  refine wpAnyH_take (i := 7) (oi := { dst := some 10, op := Op.build 102 #[(0, Operand.const (Value.string { data := #[100, 105, 103, 101, 115, 116] })), (1, Operand.tmp 9)], type := 102, pos := "oci.go:362", after := #[{ on := 6, ground := Ground.data }], guard := none }) (v := ?_) rfl (by kernel_rfl) (by kernel_rfl) (by kernel_rfl) (fun _ _ _ h => h) (Or.inl ⟨by rfl, ?_⟩) (by assumption) ?_
  rotate_left
  · intro w hSw
    skip
    clear hSw
    go_simp
    try with_reducible rfl
  try simp only [Act.put, List.setIfInBounds_toArray, List.set_cons_zero, List.set_cons_succ]
  refine wpAnyH_ready (rs := [10]) (by kernel_rfl) (by simp) ?_
  refine (AllReadyH.cons (o := { dst := some 13, op := Op.call { callee := Callee.value (Operand.func 51), args := #[Operand.tmp 12], argTypes := #[3] }, type := 63, pos := "oci.go:365", after := #[{ on := 9, ground := Ground.data }, { on := 6, ground := Ground.chain }], guard := none }) rfl (fun K hK => ?_) AllReadyH.nil)
  go_simp
  with_reducible refine (CI _ hHeld).mono ?_
  rintro e w10' ⟨rfl, m10'⟩
  refine hK.out _ _ (SO _ (by assumption)) (fun hHeld => ?_)
  clear hK K
  try simp only [Act.put, List.setIfInBounds_toArray, List.set_cons_zero, List.set_cons_succ]
  refine wpAnyH_take (i := 11) (oi := { dst := some 14, op := Op.build 102 #[(0, Operand.const (Value.string { data := #[115, 105, 122, 101] })), (1, Operand.tmp 13)], type := 102, pos := "oci.go:362", after := #[{ on := 10, ground := Ground.data }], guard := none }) (v := ?_) rfl (by kernel_rfl) (by kernel_rfl) (by kernel_rfl) (fun _ _ _ h => h) (Or.inl ⟨by rfl, ?_⟩) (by assumption) ?_
  rotate_left
  · intro w hSw
    skip
    clear hSw
    go_simp
    try with_reducible rfl
  try simp only [Act.put, List.setIfInBounds_toArray, List.set_cons_zero, List.set_cons_succ]
  refine wpAnyH_ready (rs := [12]) (by kernel_rfl) (by simp) ?_
  refine (AllReadyH.cons (o := { dst := some 15, op := Op.buildSlice 158 3 #[(0, Operand.tmp 6), (1, Operand.tmp 10), (2, Operand.tmp 14)], type := 158, pos := "oci.go:362", after := #[{ on := 3, ground := Ground.data }, { on := 7, ground := Ground.data }, { on := 11, ground := Ground.data }], guard := none }) rfl (fun K hK => ?_) AllReadyH.nil)
  skip
  go_simp
  refine hK.out _ _ (SO _ (by exact Gn.alloc hHeld _)) (fun hHeld => ?_)
  clear hK K
  try simp only [Act.put, List.setIfInBounds_toArray, List.set_cons_zero, List.set_cons_succ]
  refine wpAnyH_take (i := 13) (oi := { dst := some 2, op := Op.assign (Operand.tmp 15), type := 158, pos := "oci.go:362", after := #[{ on := 12, ground := Ground.data }, { on := 10, ground := Ground.chain }, { on := 0, ground := Ground.phase }, { on := 1, ground := Ground.phase }, { on := 2, ground := Ground.phase }, { on := 3, ground := Ground.phase }, { on := 4, ground := Ground.phase }, { on := 5, ground := Ground.phase }, { on := 6, ground := Ground.phase }, { on := 7, ground := Ground.phase }, { on := 8, ground := Ground.phase }, { on := 9, ground := Ground.phase }, { on := 10, ground := Ground.phase }, { on := 11, ground := Ground.phase }, { on := 12, ground := Ground.phase }], guard := none }) (v := ?_) rfl (by kernel_rfl) (by kernel_rfl) (by kernel_rfl) (fun _ _ _ h => h) (Or.inl ⟨by rfl, ?_⟩) (by assumption) ?_
  rotate_left
  · intro w hSw
    skip
    clear hSw
    go_simp
    try with_reducible rfl
  try simp only [Act.put, List.setIfInBounds_toArray, List.set_cons_zero, List.set_cons_succ]
  refine wpAnyH_done (by kernel_rfl) ?_ _
  refine NoPanic.normal ?_
  go_wp2
  go_ret
  exact ⟨_, rfl, rowC_new _ _ _, by have := m10'.size; omega, by rw [size_alloc]; omega, HB0.out.trans ((hHeld.below (B := W0.heap.size) (by omega) (fun _ _ h => h)).mono (by omega))⟩
end Go.Proofs.YtlknngplnimdpaaGreatDoor

/- Layer 13, plain: numerals are numbers; what is put is read as it was. -/
namespace Go.Proofs.YtlknngplnimdpaaGreatDoor
open Go.Lib

theorem dec_all (n : Nat) : ∀ c ∈ decDigits n, isDg c = true := by
  induction n using Nat.strongRecOn with
  | ind n ih =>
    have one : ∀ k : Fin 10, isDg (UInt8.ofNat (48 + k.val)) = true := by decide
    rw [decDigits]
    split
    · rename_i h
      intro c hc
      rw [List.mem_singleton.1 hc]
      exact one ⟨n, h⟩
    · rename_i h
      intro c hc
      rcases List.mem_append.1 hc with hc | hc
      · exact ih (n / 10) (by omega) c hc
      · rw [List.mem_singleton.1 hc]
        exact one ⟨n % 10, by omega⟩
theorem dec_ne (n : Nat) : decDigits n ≠ [] := by
  rw [decDigits]
  split
  · simp
  · simp
theorem dec_hd (n : Nat) (h : n ≠ 0) : hd (decDigits n) ≠ 48 := by
  induction n using Nat.strongRecOn with
  | ind n ih =>
    have one : ∀ k : Fin 10, k.val ≠ 0 → UInt8.ofNat (48 + k.val) ≠ 48 := by decide
    rw [decDigits]
    split
    · rename_i h10
      exact one ⟨n, h10⟩ h
    · rename_i h10
      rw [hd_app (dec_ne _)]
      exact ih (n / 10) (by omega) (by omega)
theorem dropD_all {l : Bs} (h : ∀ c ∈ l, isDg c = true) : dropD l = [] := by
  induction l with
  | nil => rfl
  | cons c l ih =>
    rw [dropD, if_pos (h c (by simp))]
    exact ih fun x hx => h x (by simp [hx])
theorem dec_num (n : Nat) : isNum (decDigits n) := by
  unfold isNum numP
  have h45 : hd (decDigits n) ≠ 45 := by
    intro e
    have h1 := dec_all n (hd (decDigits n)) (by
      have := dec_ne n
      cases hh : decDigits n with
      | nil => exact absurd hh this
      | cons a l => simp [hd])
    rw [e] at h1
    exact absurd h1 (by decide)
  rw [if_neg h45]
  unfold intP
  have h0 : fracP [] = .ok () [] := by rfl
  by_cases hz : n = 0
  · subst hz
    have : decDigits 0 = [48] := by rw [decDigits]; rfl
    rw [this]
    rfl
  · rw [if_neg (dec_hd n hz), dig_all (dropD_all (dec_all n)) (dec_ne n)]
    exact h0
theorem parse_app : ∀ (a b : Bs) (acc u : Nat), parseUint10 acc a = .ok u → parseUint10 acc (a ++ b) = parseUint10 u b
  | [], b, acc, u, h => by
    simp only [parseUint10] at h
    injection h with h
    rw [h]
    rfl
  | c :: a, b, acc, u, h => by
    rw [List.cons_append]
    simp only [parseUint10] at h ⊢
    by_cases h1 : 48 ≤ c.toNat ∧ c.toNat ≤ 57
    · rw [if_pos h1] at h ⊢
      by_cases h2 : 1844674407370955162 ≤ acc
      · rw [if_pos h2] at h
        cases h
      · rw [if_neg h2] at h ⊢
        by_cases h3 : 18446744073709551616 ≤ acc * 10 + (c.toNat - 48)
        · rw [if_pos h3] at h
          cases h
        · rw [if_neg h3] at h ⊢
          exact parse_app a b _ u h
    · rw [if_neg h1] at h
      cases h
theorem parse_one (acc d : Nat) (hd : d < 10) (ha : acc < 1844674407370955161) : parseUint10 acc [UInt8.ofNat (48 + d)] = .ok (acc * 10 + d) := by
  have h : (UInt8.ofNat (48 + d)).toNat = 48 + d := by
    rw [UInt8.toNat_ofNat']
    omega
  simp only [parseUint10, h]
  rw [if_pos (by omega), if_neg (by omega), if_neg (by omega)]
  congr 1
  omega
theorem parse_dec (n : Nat) (h : n < 10000000000000000000) : parseUint10 0 (decDigits n) = .ok n := by
  induction n using Nat.strongRecOn with
  | ind n ih =>
    rw [decDigits]
    split
    · rename_i h10
      have := parse_one 0 n h10 (by omega)
      simpa using this
    · rename_i h10
      rw [parse_app _ _ _ _ (ih (n / 10) (by omega) (by omega)), parse_one _ _ (by omega) (by omega)]
      congr 1
      omega
theorem atoi_dec {n : Nat} (h : n ≤ 9007199254740992) : atoiAll (decDigits n) = .ok (n : Int) := by
  have hp := parse_dec n (by omega)
  have hne := dec_ne n
  have hall := dec_all n
  cases hh : decDigits n with
  | nil => exact absurd hh hne
  | cons c r =>
    rw [hh] at hp hall
    have hc := hall c (by simp)
    unfold isDg at hc
    simp only [Bool.and_eq_true, decide_eq_true_eq] at hc
    have h1 : 48 ≤ c.toNat := hc.1
    have h2 : c.toNat ≤ 57 := hc.2
    unfold atoiAll
    dsimp only
    rw [if_neg (by omega)]
    have : parseMag (c :: r) = .ok n := by
      unfold parseMag
      rw [if_neg (by simp)]
      exact hp
    rw [this]
    dsimp only
    rw [if_neg (by omega), if_neg (by omega), if_neg (by omega)]
theorem itoa_of {n : Int} (h : 0 ≤ n) : itoa n = decDigits n.toNat := by
  unfold itoa
  rw [if_neg (by omega)]
theorem itoa_num {n : Int} (h : 0 ≤ n) : isNum (itoa n) := by rw [itoa_of h]; exact dec_num _
theorem int_num {n : Int} (h : 0 ≤ n) (h2 : n ≤ 9007199254740992) : intV (numJ n) = some n := by
  have hk : intV (numJ n) = if (3 : Int) = 3 ∧ isNumB (itoa n) = true then (match atoiAll (itoa n) with | .ok n => if -9007199254740992 ≤ n ∧ n ≤ 9007199254740992 then some n else none | _ => none) else none := rfl
  rw [hk, if_pos ⟨rfl, (isNumB_iff _).2 (itoa_num h)⟩, itoa_of h, atoi_dec (by omega)]
  dsimp only
  rw [if_pos (by omega)]
  congr 1
  omega
/-! ### What is put is read -/
theorem mayD_iff (d : DV) : mayD d = true ↔ 0 ≤ d.size ∧ d.size ≤ 9007199254740992 ∧ validD d.media = true ∧ validD d.os = true ∧ validD d.arch = true := by
  unfold mayD
  simp only [Bool.and_eq_true, decide_eq_true_eq]
  constructor
  · rintro ⟨⟨⟨a, b⟩, c⟩, d, e⟩
    exact ⟨a, b, c, d, e⟩
  · rintro ⟨a, b, c, d, e⟩
    exact ⟨⟨⟨a, b⟩, c⟩, d, e⟩
theorem dig_txt {l : Bs} (h : l.length = 32) : digV (txtJ (textL l)) = some l := by
  have hk : digV (txtJ (textL l)) = if (4 : Int) = 4 ∧ isText (textL l) = true then some (digL (textL l)) else none := rfl
  rw [hk, if_pos ⟨rfl, isText_textL h⟩, digL_textL h]
theorem size_num {n : Int} (h : 0 ≤ n) (h2 : n ≤ 9007199254740992) : sizeV (numJ n) = some n := by
  unfold sizeV
  rw [int_num h h2]
  show (if n < 0 then none else some n) = some n
  rw [if_neg (by omega)]
theorem desc_full {d : DV} (hm : mayD d = true) (hd : d.dig.length = 32) : descV (fullJ d) = some d := by
  obtain ⟨h1, h2, _⟩ := (mayD_iff d).1 hm
  have e1 : partV (fullJ d) kMed textV = some d.media := rfl
  have e2 : partV (fullJ d) kDig digV = digV (txtJ (textL d.dig)) := rfl
  have e3 : partV (fullJ d) kSiz sizeV = sizeV (numJ d.size) := rfl
  have e4 : anyV ([], []) (fullJ d) kPla platV = some (d.os, d.arch) := rfl
  unfold descV
  rw [e1, e2, e3, e4, dig_txt hd, size_num h1 h2]
theorem desc_bare {d : DV} (hm : mayD d = true) (hd : d.dig.length = 32) : plainV (bareJ d) = some d.plain := by
  obtain ⟨h1, h2, _⟩ := (mayD_iff d).1 hm
  have e1 : partV (bareJ d) kMed textV = some d.media := rfl
  have e2 : partV (bareJ d) kDig digV = digV (txtJ (textL d.dig)) := rfl
  have e3 : partV (bareJ d) kSiz sizeV = sizeV (numJ d.size) := rfl
  have e4 : anyV ([], []) (bareJ d) kPla platV = some ([], []) := rfl
  unfold plainV descV
  rw [e1, e2, e3, e4, dig_txt hd, size_num h1 h2]
  rfl
theorem mapO_map {α β : Type} (f : JV → Option α) (g : β → JV) (t : β → α) : ∀ l : List β, (∀ x ∈ l, f (g x) = some (t x)) → mapO f (l.map g) = some (l.map t)
  | [], _ => rfl
  | x :: l, h => by
    rw [List.map_cons, mapO, h x (by simp), mapO_map f g t l fun y hy => h y (by simp [hy])]
    rfl
theorem plain_plain (d : DV) : d.plain.plain = d.plain := rfl
theorem bare_plain (d : DV) : bareJ d.plain = bareJ d := rfl
theorem may_plain {d : DV} (h : mayD d = true) : mayD d.plain = true := by
  obtain ⟨h1, h2, h3, _⟩ := (mayD_iff d).1 h
  exact (mayD_iff d.plain).2 ⟨h1, h2, h3, rfl, rfl⟩
theorem fits_plain (c : DV) (l : List DV) : fitsN c.plain (l.map DV.plain) = fitsN c l := by
  unfold fitsN
  rw [List.length_map, List.all_map]
  rfl
theorem man_back {c : DV} {l : List DV} (h : (manA c l).2 = 0) (hc : c.dig.length = 32) (hl : ∀ d ∈ l, d.dig.length = 32) :
    manA c l = printA (manJ c l) ∧ manV (manJ c l) = .ok (c.plain, l.map DV.plain) ∧ manA c.plain (l.map DV.plain) = manA c l := by
  have hm : mayD c = true ∧ l.all mayD = true := by
    unfold manA at h
    by_cases hh : mayD c = false ∨ l.all mayD = false
    · rw [if_pos hh] at h
      exact absurd h (by decide)
    · simpa using hh
  have hf : fitsN c l = 0 := by
    unfold manA at h
    rw [if_neg (by simp [hm])] at h
    by_cases hh : fitsN c l = 0
    · exact hh
    · rw [if_pos hh] at h
      exact absurd h hh
  have e1 : manA c l = printA (manJ c l) := by
    unfold manA
    rw [if_neg (by simp [hm]), if_neg (by simp [hf])]
  have hall := List.all_eq_true.1 hm.2
  refine ⟨e1, ?_, ?_⟩
  · have a1 : partV (manJ c l) kVer intV = intV (numJ 2) := rfl
    have a2 : anyV [] (manJ c l) kMed (mediaV 1) = some mMan := by show mediaV 1 (txtJ mMan) = some mMan; rfl
    have a3 : partV (manJ c l) kCfg plainV = plainV (bareJ c) := rfl
    have a4 : partV (manJ c l) kLay (listV plainV) = mapO plainV (l.map bareJ) := rfl
    have a0 : headV 1 (manJ c l) = 0 := by
      unfold headV
      rw [a1, int_num (by decide) (by decide), if_neg (by simp), a2]
    unfold manV
    rw [a0, if_neg (by simp), a3, desc_bare hm.1 hc, a4, mapO_map plainV bareJ DV.plain l fun d hd => desc_bare (hall d hd) (hl d hd)]
    dsimp only
    rw [fits_plain, if_neg (by simp [hf])]
  · rw [e1]
    unfold manA
    have : (l.map DV.plain).all mayD = true := by
      rw [List.all_eq_true]
      intro x hx
      obtain ⟨d, hd, rfl⟩ := List.mem_map.1 hx
      exact may_plain (hall d hd)
    rw [if_neg (by simp [may_plain hm.1, this]), fits_plain, if_neg (by simp [hf])]
    unfold manJ
    rw [List.map_map, bare_plain]
    rfl
theorem idx_back {l : List DV} (h : (idxA l).2 = 0) (hl : ∀ d ∈ l, d.dig.length = 32) : idxA l = printA (idxJ l) ∧ idxV (idxJ l) = .ok l := by
  have hm : l.all mayD = true := by
    unfold idxA at h
    by_cases hh : l.all mayD = false
    · rw [if_pos hh] at h
      exact absurd h (by decide)
    · simpa using hh
  have hn : ¬ 32 < l.length := by
    unfold idxA at h
    rw [if_neg (by simp [hm])] at h
    intro hh
    rw [if_pos hh] at h
    exact absurd h (by decide)
  have hall := List.all_eq_true.1 hm
  refine ⟨?_, ?_⟩
  · unfold idxA
    rw [if_neg (by simp [hm]), if_neg hn]
  · have a1 : partV (idxJ l) kVer intV = intV (numJ 2) := rfl
    have a2 : anyV [] (idxJ l) kMed (mediaV 2) = some mIdx := by show mediaV 2 (txtJ mIdx) = some mIdx; rfl
    have a4 : partV (idxJ l) kMan (listV descV) = mapO descV (l.map fullJ) := rfl
    have a0 : headV 2 (idxJ l) = 0 := by
      unfold headV
      rw [a1, int_num (by decide) (by decide), if_neg (by simp), a2]
    unfold idxV
    rw [a0, if_neg (by simp), a4, mapO_map descV fullJ id l fun d hd => desc_full (hall d hd) (hl d hd)]
    dsimp only
    rw [List.map_id, if_neg hn]
theorem img_back {p : Bs × Bs} {l : List Bs} (h : (imgA p l).2 = 0) (hl : ∀ d ∈ l, d.length = 32) : imgA p l = printA (imgJ p l) ∧ imgV (imgJ p l) = .ok (p, l) := by
  have hm : (validD p.1 && validD p.2) = true := by
    unfold imgA at h
    by_cases hh : (validD p.1 && validD p.2) = false
    · rw [if_pos hh] at h
      exact absurd h (by decide)
    · simpa using hh
  have hn : ¬ 8 < l.length := by
    unfold imgA at h
    rw [if_neg (by simp [hm])] at h
    intro hh
    rw [if_pos hh] at h
    exact absurd h (by decide)
  refine ⟨?_, ?_⟩
  · unfold imgA
    rw [if_neg (by simp [hm]), if_neg hn]
  · have a1 : platV (imgJ p l) = some p := rfl
    have a2 : partV (imgJ p l) kRoo rootV = mapO digV (l.map fun d => txtJ (textL d)) := rfl
    unfold imgV
    rw [a1, a2, mapO_map digV (fun d => txtJ (textL d)) id l fun d hd => dig_txt (hl d hd)]
    dsimp only
    rw [List.map_id, if_neg hn]
end Go.Proofs.YtlknngplnimdpaaGreatDoor

/- Layer 13, plain: what is put may be. -/
namespace Go.Proofs.YtlknngplnimdpaaGreatDoor
open Go.Lib

theorem may_txt {s : Bs} (h : validD s = true) : may (txtJ s) := by
  unfold txtJ
  rw [may]
  exact ⟨by rw [mayL]; trivial, by simp [h]⟩
theorem may_numJ {n : Int} (h : 0 ≤ n) : may (numJ n) := by
  unfold numJ
  rw [may]
  refine ⟨by rw [mayL]; trivial, ?_⟩
  have := itoa_num h
  simp [this]
theorem may_lst {l : List JV} (h : ∀ x ∈ l, may x) : may (lstJ l) := by
  unfold lstJ
  rw [may]
  exact ⟨mayL_of h, by simp⟩
theorem may_objJ {l : List (Bs × JV)} (h : ∀ p ∈ l, may p.2) (hv : (l.map (·.1)).all validD = true) (hn : (l.map (·.1)).Nodup) : may (objJ l) := by
  unfold objJ
  rw [may]
  refine ⟨mayL_of fun x hx => ?_, ?_⟩
  · obtain ⟨p, hp, rfl⟩ := List.mem_map.1 hx
    exact h p hp
  · exact .inr (.inr (.inr (.inr ⟨rfl, rfl, by simp, List.all_eq_true.1 hv, hn⟩)))
theorem valid_ascii : ∀ l : Bs, (∀ c ∈ l, c.toNat < 128) → validD l = true
  | [], _ => rfl
  | b :: t, h => by
    rw [validD_cons b t (h b (by simp))]
    exact valid_ascii t fun c hc => h c (by simp [hc])
theorem hexB_valid : ∀ k : Fin 16, (hexB k.val).toNat < 128 := by decide
theorem valid_text (l : Bs) : validD (textL l) = true := by
  have h : ∀ c ∈ textL l, c.toNat < 128 := by
    intro c hc
    unfold textL at hc
    rcases List.mem_append.1 hc with hc | hc
    · have h0 : ∀ c ∈ nameL, c.toNat < 128 := by decide
      exact h0 c hc
    · unfold hexL at hc
      obtain ⟨b, _, hc⟩ := List.mem_flatMap.1 hc
      have h1 := hexB_valid ⟨b.toNat / 16, by have := b.toNat_lt; omega⟩
      have h2 := hexB_valid ⟨b.toNat % 16, by omega⟩
      simp only [List.mem_cons, List.not_mem_nil, or_false] at hc
      rcases hc with rfl | rfl
      · exact h1
      · exact h2
  exact valid_ascii _ h
theorem may_fld {d : DV} (hm : mayD d = true) : ∀ p ∈ fldJ d, may p.2 := by
  obtain ⟨h1, h2, h3, _⟩ := (mayD_iff d).1 hm
  intro p hp
  unfold fldJ at hp
  simp only [List.mem_cons, List.not_mem_nil, or_false] at hp
  rcases hp with rfl | rfl | rfl
  · exact may_txt h3
  · exact may_txt (valid_text _)
  · exact may_numJ h1
theorem may_bare {d : DV} (hm : mayD d = true) : may (bareJ d) := may_objJ (may_fld hm) (by show [kMed, kDig, kSiz].all validD = true; decide) (by show [kMed, kDig, kSiz].Nodup; decide)
theorem may_pla {os arch : Bs} (h1 : validD os = true) (h2 : validD arch = true) : may (plaJ os arch) := by
  refine may_objJ (fun p hp => ?_) (by show [kOS, kArc].all validD = true; decide) (by show [kOS, kArc].Nodup; decide)
  simp only [List.mem_cons, List.not_mem_nil, or_false] at hp
  rcases hp with rfl | rfl
  · exact may_txt h1
  · exact may_txt h2
theorem may_full {d : DV} (hm : mayD d = true) : may (fullJ d) := by
  obtain ⟨_, _, _, h4, h5⟩ := (mayD_iff d).1 hm
  refine may_objJ (fun p hp => ?_) (by show [kMed, kDig, kSiz, kPla].all validD = true; decide) (by show [kMed, kDig, kSiz, kPla].Nodup; decide)
  rcases List.mem_append.1 hp with hp | hp
  · exact may_fld hm p hp
  · rw [List.mem_singleton.1 hp]
    exact may_pla h4 h5
theorem may_man {c : DV} {l : List DV} (hc : mayD c = true) (hl : ∀ d ∈ l, mayD d = true) : may (manJ c l) := by
  refine may_objJ (fun p hp => ?_) (by show [kVer, kMed, kCfg, kLay].all validD = true; decide) (by show [kVer, kMed, kCfg, kLay].Nodup; decide)
  simp only [List.mem_cons, List.not_mem_nil, or_false] at hp
  rcases hp with rfl | rfl | rfl | rfl
  · exact may_numJ (by decide)
  · exact may_txt (by decide)
  · exact may_bare hc
  · refine may_lst fun x hx => ?_
    obtain ⟨d, hd, rfl⟩ := List.mem_map.1 hx
    exact may_bare (hl d hd)
theorem may_idx {l : List DV} (hl : ∀ d ∈ l, mayD d = true) : may (idxJ l) := by
  refine may_objJ (fun p hp => ?_) (by show [kVer, kMed, kMan].all validD = true; decide) (by show [kVer, kMed, kMan].Nodup; decide)
  simp only [List.mem_cons, List.not_mem_nil, or_false] at hp
  rcases hp with rfl | rfl | rfl
  · exact may_numJ (by decide)
  · exact may_txt (by decide)
  · refine may_lst fun x hx => ?_
    obtain ⟨d, hd, rfl⟩ := List.mem_map.1 hx
    exact may_full (hl d hd)
theorem may_img {p : Bs × Bs} {l : List Bs} (h1 : validD p.1 = true) (h2 : validD p.2 = true) : may (imgJ p l) := by
  refine may_objJ (fun q hq => ?_) (by show [kArc, kOS, kRoo].all validD = true; decide) (by show [kArc, kOS, kRoo].Nodup; decide)
  simp only [List.mem_cons, List.not_mem_nil, or_false] at hq
  rcases hq with rfl | rfl | rfl
  · exact may_txt h2
  · exact may_txt h1
  · refine may_objJ (fun q hq => ?_) (by show [kTyp, kDif].all validD = true; decide) (by show [kTyp, kDif].Nodup; decide)
    simp only [List.mem_cons, List.not_mem_nil, or_false] at hq
    rcases hq with rfl | rfl
    · exact may_txt (by decide)
    · refine may_lst fun x hx => ?_
      obtain ⟨d, hd, rfl⟩ := List.mem_map.1 hx
      exact may_txt (valid_text _)
theorem deep_leaf (v : JV) (h5 : v.kind ≠ 5) (h6 : v.kind ≠ 6) (h : v.items = []) : deep v = 0 := by
  obtain ⟨k, t, items, keys⟩ := v
  have h : items = [] := h
  subst h
  rw [deep, if_neg (by intro e; rcases e with e | e; exact h5 e; exact h6 e), deepL]
theorem deep_objJ {l : List (Bs × JV)} {n : Nat} (h : ∀ p ∈ l, deep p.2 ≤ n) : deep (objJ l) ≤ n + 1 := by
  unfold objJ
  rw [deep, if_pos (.inr rfl)]
  have : deepL (l.map (·.2)) ≤ n := deepL_of fun x hx => by
    obtain ⟨p, hp, rfl⟩ := List.mem_map.1 hx
    exact h p hp
  omega
theorem deep_lst {l : List JV} {n : Nat} (h : ∀ x ∈ l, deep x ≤ n) : deep (lstJ l) ≤ n + 1 := by
  unfold lstJ
  rw [deep, if_pos (.inl rfl)]
  have : deepL l ≤ n := deepL_of h
  omega
theorem deep_txt (s : Bs) : deep (txtJ s) = 0 := deep_leaf _ (show (4 : Int) ≠ 5 by decide) (show (4 : Int) ≠ 6 by decide) rfl
theorem deep_num (n : Int) : deep (numJ n) = 0 := deep_leaf _ (show (3 : Int) ≠ 5 by decide) (show (3 : Int) ≠ 6 by decide) rfl
theorem deep_bare (d : DV) : deep (bareJ d) ≤ 2 := deep_objJ (n := 1) fun p hp => by
  unfold fldJ at hp
  simp only [List.mem_cons, List.not_mem_nil, or_false] at hp
  rcases hp with rfl | rfl | rfl
  · rw [deep_txt]; omega
  · rw [deep_txt]; omega
  · rw [deep_num]; omega
theorem deep_full (d : DV) : deep (fullJ d) ≤ 2 := deep_objJ (n := 1) fun p hp => by
  rcases List.mem_append.1 hp with hp | hp
  · unfold fldJ at hp
    simp only [List.mem_cons, List.not_mem_nil, or_false] at hp
    rcases hp with rfl | rfl | rfl
    · rw [deep_txt]; omega
    · rw [deep_txt]; omega
    · rw [deep_num]; omega
  · rw [List.mem_singleton.1 hp]
    refine deep_objJ (n := 0) fun q hq => ?_
    simp only [List.mem_cons, List.not_mem_nil, or_false] at hq
    rcases hq with rfl | rfl
    · rw [deep_txt]; omega
    · rw [deep_txt]; omega
theorem deep_man (c : DV) (l : List DV) : deep (manJ c l) ≤ 4 := deep_objJ (n := 3) fun p hp => by
  simp only [List.mem_cons, List.not_mem_nil, or_false] at hp
  rcases hp with rfl | rfl | rfl | rfl
  · rw [deep_num]; omega
  · rw [deep_txt]; omega
  · exact Nat.le_trans (deep_bare c) (by omega)
  · exact deep_lst (n := 2) fun x hx => by
      obtain ⟨d, _, rfl⟩ := List.mem_map.1 hx
      exact deep_bare d
theorem deep_idx (l : List DV) : deep (idxJ l) ≤ 4 := deep_objJ (n := 3) fun p hp => by
  simp only [List.mem_cons, List.not_mem_nil, or_false] at hp
  rcases hp with rfl | rfl | rfl
  · rw [deep_num]; omega
  · rw [deep_txt]; omega
  · exact deep_lst (n := 2) fun x hx => by
      obtain ⟨d, _, rfl⟩ := List.mem_map.1 hx
      exact deep_full d
theorem deep_img (p : Bs × Bs) (l : List Bs) : deep (imgJ p l) ≤ 4 := deep_objJ (n := 3) fun q hq => by
  simp only [List.mem_cons, List.not_mem_nil, or_false] at hq
  rcases hq with rfl | rfl | rfl
  · rw [deep_txt]; omega
  · rw [deep_txt]; omega
  · refine deep_objJ (n := 2) fun q hq => ?_
    simp only [List.mem_cons, List.not_mem_nil, or_false] at hq
    rcases hq with rfl | rfl
    · rw [deep_txt]; omega
    · exact Nat.le_trans (deep_lst (n := 0) fun x hx => by
        obtain ⟨d, _, rfl⟩ := List.mem_map.1 hx
        rw [deep_txt]; omega) (by omega)
/-! ### Turned -/
end Go.Proofs.YtlknngplnimdpaaGreatDoor

/- Layer 13: a descriptor put without its platform. -/
namespace Go.Proofs.YtlknngplnimdpaaGreatDoor
open Go.RowKit

/-- What may be put: numbers within an int, texts no longer than memory takes. -/
def putD (d : DV) : Prop := goodD d ∧ -9223372036854775808 ≤ d.size ∧ d.size ≤ 9223372036854775807
theorem fldr_of {w : World} {g B : Nat} {d : DV} (h : rowC w g (fldC d) 102) (hg : g < w.heap.size) (hd : putD d) : FldR w B (fldJ d) (some ⟨g, 0, none⟩) := by
  intro i k v hi
  have h71 : (textL d.dig).length ≤ 281474976710656 := by rw [textL_length, hd.1.1]; omega
  have hit : (Lib.itoa d.size).length ≤ 281474976710656 := by have := Lib.itoa_length_le d.size hd.2.1 hd.2.2; omega
  unfold fldJ at hi
  rcases i with _ | _ | _ | i
  · simp only [List.getElem?_cons_zero, Option.some.injEq, Prod.mk.injEq] at hi
    obtain ⟨rfl, rfl⟩ := hi
    refine ⟨⟨g, 0, none⟩, _, _, _, _, rfl, hg, ?_, leaf_holds w _ 4 d.media hd.1.2.1⟩
    intro j u hu
    rcases j with _ | _ | _ | _ | _ | j
    · exact (rowC_cell h 0).trans hu
    · exact (rowC_cell h 1).trans hu
    · exact (rowC_cell h 2).trans hu
    · exact (rowC_cell h 3).trans hu
    · exact (rowC_cell h 4).trans hu
    · simp at hu
  · simp only [List.getElem?_cons_succ, List.getElem?_cons_zero, Option.some.injEq, Prod.mk.injEq] at hi
    obtain ⟨rfl, rfl⟩ := hi
    refine ⟨⟨g, 0, none⟩, _, _, _, _, rfl, hg, ?_, leaf_holds w _ 4 (textL d.dig) h71⟩
    intro j u hu
    rcases j with _ | _ | _ | _ | _ | j
    · exact (rowC_cell h 5).trans hu
    · exact (rowC_cell h 6).trans hu
    · exact (rowC_cell h 7).trans hu
    · exact (rowC_cell h 8).trans hu
    · exact (rowC_cell h 9).trans hu
    · simp at hu
  · simp only [List.getElem?_cons_succ, List.getElem?_cons_zero, Option.some.injEq, Prod.mk.injEq] at hi
    obtain ⟨rfl, rfl⟩ := hi
    refine ⟨⟨g, 0, none⟩, _, _, _, _, rfl, hg, ?_, leaf_holds w _ 3 (Lib.itoa d.size) hit⟩
    intro j u hu
    rcases j with _ | _ | _ | _ | _ | j
    · exact (rowC_cell h 10).trans hu
    · exact (rowC_cell h 11).trans hu
    · exact (rowC_cell h 12).trans hu
    · exact (rowC_cell h 13).trans hu
    · exact (rowC_cell h 14).trans hu
    · simp at hu
  · simp at hi
/-- A value put: in blocks of its own. -/
def PutP (w : World) (v : JV) (e : Ending) (w' : World) : Prop :=
  ∃ y m z n, e = .returned (.agg (row4 v.kind (str v.text) y v.items.length m z v.keys.length n)) ∧ HoldsC w' (fun q => w.heap.size ≤ q ∧ q < w'.heap.size) v (.int .i64 v.kind) (.string (str v.text)) (.slice y v.items.length m) (.slice z v.keys.length n) ∧ Below w.heap.size w w'
theorem obj_putP {w w3 : World} {l : List (Bs × JV)} {B c m n : Nat} {y z : Option Addr} (hh : HoldsC w3 (fun q => B ≤ q ∧ q < w3.heap.size) (objJ l) (.int .i64 6) (.string ⟨#[]⟩) (.slice y l.length m) (.slice z l.length n)) (hb : Below w.heap.size w w3) (hc : w.heap.size ≤ c) (hcB : c < B) (cs : Array Value) :
    PutP w (objJ l) (.returned (.agg (row4 6 ⟨#[]⟩ y l.length m z l.length n))) (w3.setRow c cs) := by
  have cz : Chg (fun q => q = c) w3 (w3.setRow c cs) := (Chg.refl _ _).setRow _ _ (.inl rfl)
  have h2 := HoldsC.mono (G := fun q => w.heap.size ≤ q ∧ q < (w3.setRow c cs).heap.size) (fun q hq hlt => ⟨by have := hq.1; omega, hlt⟩) _ _ _ _ _ (HoldsC.chg cz (fun q hq e => by have := hq.1; omega) _ _ _ _ _ hh)
  have e1 : (objJ l).items.length = l.length := by unfold objJ; simp [JV.items]
  have e2 : (objJ l).keys.length = l.length := by unfold objJ; simp [JV.keys]
  refine ⟨y, m, z, n, ?_, ?_, below_setRow hb hc _⟩
  · rw [e1, e2]
    rfl
  · rw [e1, e2]
    exact h2
set_option maxRecDepth 100000 in
set_option maxHeartbeats 8000000 in
theorem plain_put (d : DV) (hd : putD d) (w : World) (hE : Env2 w) :
    Calls Tryz.prog 53 #[.agg (encD d)] w fun e w' => PutP w (bareJ d) e w' := by
  have HI := Lib.hid info_V
  have HID := Lib.hid (show (Tryz.prog.info? 28).map (·.size) = some (encD d).size by rw [encD_size d hd.1]; exact info_D)
  obtain ⟨W0, hW0⟩ : ∃ W0, W0 = (w.alloc (.cells (encD d) 28)).alloc (.cells #[.int .i64 0, .string ⟨#[]⟩, .slice none 0 0, .slice none 0 0] 63) := ⟨_, rfl⟩
  have R0 : rowC W0 w.heap.size (encD d) 28 := by rw [hW0]; exact rowC_alloc (rowC_new w _ _) _
  have Z0 : rowC W0 (w.heap.size + 1) zeroV4 63 := by rw [hW0, ← size_alloc w (.cells (encD d) 28)]; exact rowC_new _ _ _
  have B0 : Below w.heap.size w W0 := by rw [hW0]; exact ((Below.refl _ _).alloc (Nat.le_refl _) _).alloc (by rw [size_alloc]; omega) _
  have S0 : W0.heap.size = w.heap.size + 2 := by rw [hW0, size_alloc, size_alloc]
  have CF := fields_put d hd.1.1 hd.2.1 hd.2.2 W0 (hE.below B0)
  have CO : ∀ g w', rowC w' g (fldC d) 102 → g < w'.heap.size → w.heap.size + 2 ≤ w'.heap.size → Calls Tryz.prog 50 #[.slice (some ⟨g, 0, none⟩) 3 3] w' fun e w2 => ObjP w' (w.heap.size + 2) (fldJ d) e w2 :=
    fun g w' h1 h2 h3 => object_put (fldJ d) (w.heap.size + 2) _ 3 w' h3 (by show 3 ≤ 1000; omega) (fldr_of h1 h2 hd)
  have HW0 := Lib.hid hW0
  have HR0 := Lib.hid R0
  have HZ0 := Lib.hid Z0
  have HB0 := Lib.hid B0
  clear hW0 R0 Z0 B0 hE hd
  go_enter Tryz.func53, Tryz.ntmps53
  go_upto_region 1 with (fail)
  rw [← HW0.out]
  go_wp2_with (first
    | ((with_reducible show wpList _ _ _ (⟨some 3, .load _ _, _, _, _, _⟩ :: _) _ _); refine wpList_load_row rfl 28 _ rfl w.heap.size rfl 28 (encD d) (0, 0) _ HR0.out Tryz.underlying28 rfl HID.out ?_)
    | (go_at_call 91; ((with_reducible refine CF.mono ?_); rintro e w2 ⟨g, rfl, hr2, hg2, hl2, hb2⟩; have HB2 := Lib.hid hb2; have s2 := hb2.size; have HZ2 := Lib.hid (rowC_below HZ0.out hb2 (by omega)); have C2 := CO g w2 hr2 hl2 (by omega); clear hb2))
    | (go_at_call 50; ((with_reducible refine C2.mono ?_); rintro e w3 ⟨y, m, z, n, rfl, hh3, hb3⟩; have HB3 := Lib.hid hb3; have s3 := hb3.size; have HH3 := Lib.hid hh3; have HZ3 := Lib.hid (rowC_below HZ2.out hb3 (by omega)); clear hb3 hh3))
    | ((with_reducible show wpList _ _ _ (⟨none, .store _ (.tmp 2) _, _, _, _, _⟩ :: _) _ _); refine wpList_store_row rfl 63 _ _ rfl (w.heap.size + 1) (row4 6 ⟨#[]⟩ y (fldJ d).length m z (fldJ d).length n) rfl rfl 63 zeroV4 HZ3.out HI.out rfl (row4_all _ _ _ _ _ _ _ _) ?_))
  refine bodyPost_ret (results_cell_row rfl _ _ (w.heap.size + 1) 63 (row4 6 ⟨#[]⟩ y (fldJ d).length m z (fldJ d).length n) (0, 0) _ rfl (rowC_setRow HZ3.out _) Tryz.underlying63 rfl HI.out) rfl ?_
  have b3 := (HB0.out.trans (HB2.out.mono (by omega))).trans (HB3.out.mono (by omega))
  exact obj_putP HH3.out b3 (by omega) (by omega) _
end Go.Proofs.YtlknngplnimdpaaGreatDoor

/- Layer 13: a descriptor put with its platform. -/
namespace Go.Proofs.YtlknngplnimdpaaGreatDoor
open Go.RowKit

def row5z : Value := .agg #[.string ⟨#[]⟩, .int .i64 0, .string ⟨#[]⟩, .slice none 0 0, .slice none 0 0]
theorem info_F3 : (Tryz.prog.info? 102).map (fun i => (i.zero, i.size, i.bytes)) = some (some row5z, 5, 88) := by kernel_rfl
theorem all_one5 {s : ByteArray} {k : Int} {t : ByteArray} {x1 : Option Addr} {n1 c1 : Nat} {x2 : Option Addr} {n2 c2 : Nat} : ∀ u ∈ ([.string s, .int .i64 k, .string t, .slice x1 n1 c1, .slice x2 n2 c2] : List Value), u.oneCell' = true := by
  intro u hu
  simp only [List.mem_cons, List.not_mem_nil, or_false] at hu
  rcases hu with rfl | rfl | rfl | rfl | rfl <;> rfl
theorem owns_fld {w : World} {g B : Nat} {d : DV} (h : rowC w g (fldC d) 102) (hg : B ≤ g) : w.ownsRow B 102 5 (.slice (some ⟨g, 0, none⟩) 3 3) 3 (fldC d).toList :=
  ⟨rfl, .inr ⟨g, 3, fldC d, rfl, hg, h, Nat.le_refl _, by decide, rfl, rfl⟩⟩
/-- The platform's fields, in memory. -/
@[reducible] def plaC (d : DV) : Array Value := #[.string ⟨#[111, 115]⟩, .int .i64 4, .string (str d.os), .slice none 0 0, .slice none 0 0, .string ⟨#[97, 114, 99, 104, 105, 116, 101, 99, 116, 117, 114, 101]⟩, .int .i64 4, .string (str d.arch), .slice none 0 0, .slice none 0 0]
theorem pla_fldr {w : World} {g B : Nat} {d : DV} (h : rowC w g (plaC d) 102) (hg : g < w.heap.size) (hd : putD d) : FldR w B [(kOS, txtJ d.os), (kArc, txtJ d.arch)] (some ⟨g, 0, none⟩) := by
  intro i k v hi
  rcases i with _ | _ | i
  · simp only [List.getElem?_cons_zero, Option.some.injEq, Prod.mk.injEq] at hi
    obtain ⟨rfl, rfl⟩ := hi
    refine ⟨⟨g, 0, none⟩, _, _, _, _, rfl, hg, ?_, leaf_holds w _ 4 d.os hd.1.2.2.1⟩
    intro j u hu
    rcases j with _ | _ | _ | _ | _ | j
    · exact (rowC_cell h 0).trans hu
    · exact (rowC_cell h 1).trans hu
    · exact (rowC_cell h 2).trans hu
    · exact (rowC_cell h 3).trans hu
    · exact (rowC_cell h 4).trans hu
    · simp at hu
  · simp only [List.getElem?_cons_succ, List.getElem?_cons_zero, Option.some.injEq, Prod.mk.injEq] at hi
    obtain ⟨rfl, rfl⟩ := hi
    refine ⟨⟨g, 0, none⟩, _, _, _, _, rfl, hg, ?_, leaf_holds w _ 4 d.arch hd.1.2.2.2⟩
    intro j u hu
    rcases j with _ | _ | _ | _ | _ | j
    · exact (rowC_cell h 5).trans hu
    · exact (rowC_cell h 6).trans hu
    · exact (rowC_cell h 7).trans hu
    · exact (rowC_cell h 8).trans hu
    · exact (rowC_cell h 9).trans hu
    · simp at hu
  · simp at hi
theorem des_fldr {w : World} {gk cap B m n : Nat} {y z : Option Addr} {d : DV} (h : w.ownsRow B 102 5 (.slice (some ⟨gk, 0, none⟩) (3 + 1) cap) (3 + 1) ((fldC d).toList ++ [.string ⟨#[112, 108, 97, 116, 102, 111, 114, 109]⟩, .int .i64 6, .string ⟨#[]⟩, .slice y 2 m, .slice z 2 n])) (hg : gk < w.heap.size)
    (hh : HoldsC w (fun q => B ≤ q ∧ q < w.heap.size) (plaJ d.os d.arch) (.int .i64 6) (.string ⟨#[]⟩) (.slice y 2 m) (.slice z 2 n)) (hd : putD d) : FldR w B (fldJ d ++ [(kPla, plaJ d.os d.arch)]) (some ⟨gk, 0, none⟩) := by
  have hc : ∀ j u, ((fldC d).toList ++ [.string ⟨#[112, 108, 97, 116, 102, 111, 114, 109]⟩, .int .i64 6, .string ⟨#[]⟩, .slice y 2 m, .slice z 2 n])[j]? = some u → w.cell? ⟨gk, j, none⟩ = some u := fun j u hj => by
    have := h.cells (g := gk) rfl j u hj
    by_cases hj0 : j = 0
    · subst hj0
      simpa [Addr.add] using this
    · simpa [Addr.add, hj0] using this
  have h71 : (textL d.dig).length ≤ 281474976710656 := by rw [textL_length, hd.1.1]; omega
  have hit : (Lib.itoa d.size).length ≤ 281474976710656 := by have := Lib.itoa_length_le d.size hd.2.1 hd.2.2; omega
  intro i k v hi
  unfold fldJ at hi
  rcases i with _ | _ | _ | _ | i
  · simp only [List.cons_append, List.nil_append, List.getElem?_cons_zero, Option.some.injEq, Prod.mk.injEq] at hi
    obtain ⟨rfl, rfl⟩ := hi
    refine ⟨⟨gk, 0, none⟩, _, _, _, _, rfl, hg, ?_, leaf_holds w _ 4 d.media hd.1.2.1⟩
    intro j u hu
    rcases j with _ | _ | _ | _ | _ | j
    · exact hc 0 u hu
    · exact hc 1 u hu
    · exact hc 2 u hu
    · exact hc 3 u hu
    · exact hc 4 u hu
    · simp at hu
  · simp only [List.cons_append, List.nil_append, List.getElem?_cons_succ, List.getElem?_cons_zero, Option.some.injEq, Prod.mk.injEq] at hi
    obtain ⟨rfl, rfl⟩ := hi
    refine ⟨⟨gk, 0, none⟩, _, _, _, _, rfl, hg, ?_, leaf_holds w _ 4 (textL d.dig) h71⟩
    intro j u hu
    rcases j with _ | _ | _ | _ | _ | j
    · exact hc 5 u hu
    · exact hc 6 u hu
    · exact hc 7 u hu
    · exact hc 8 u hu
    · exact hc 9 u hu
    · simp at hu
  · simp only [List.cons_append, List.nil_append, List.getElem?_cons_succ, List.getElem?_cons_zero, Option.some.injEq, Prod.mk.injEq] at hi
    obtain ⟨rfl, rfl⟩ := hi
    refine ⟨⟨gk, 0, none⟩, _, _, _, _, rfl, hg, ?_, leaf_holds w _ 3 (Lib.itoa d.size) hit⟩
    intro j u hu
    rcases j with _ | _ | _ | _ | _ | j
    · exact hc 10 u hu
    · exact hc 11 u hu
    · exact hc 12 u hu
    · exact hc 13 u hu
    · exact hc 14 u hu
    · simp at hu
  · simp only [List.cons_append, List.nil_append, List.getElem?_cons_succ, List.getElem?_cons_zero, Option.some.injEq, Prod.mk.injEq] at hi
    obtain ⟨rfl, rfl⟩ := hi
    refine ⟨⟨gk, 0, none⟩, _, _, _, _, rfl, hg, ?_, hh⟩
    intro j u hu
    rcases j with _ | _ | _ | _ | _ | j
    · exact hc 15 u hu
    · exact hc 16 u hu
    · exact hc 17 u hu
    · exact hc 18 u hu
    · exact hc 19 u hu
    · simp at hu
  · simp at hi
theorem encD_pla {w : World} {b : Nat} {d : DV} (hd : d.dig.length = 32) (h : rowC w b (encD d) 28) :
    w.rangeAt b 0 (encL d) ∧ w.cell? ⟨b, 34, none⟩ = some (.string (str d.os)) ∧ w.cell? ⟨b, 35, none⟩ = some (.string (str d.arch)) := by
  rw [encD_list] at h
  refine ⟨rowC_range h 0 _ (fun j v hv => by rw [Nat.zero_add, List.getElem?_toArray]; exact hv), ?_, ?_⟩
  · rw [rowC_cell h 34, List.getElem?_toArray]
    unfold encL
    rw [List.append_assoc, List.getElem?_append_right (by simp), List.getElem?_append_right (by simp [hd])]
    simp [hd]
  · rw [rowC_cell h 35, List.getElem?_toArray]
    unfold encL
    rw [List.append_assoc, List.getElem?_append_right (by simp), List.getElem?_append_right (by simp [hd])]
    simp [hd]
set_option maxRecDepth 100000 in
set_option maxHeartbeats 16000000 in
theorem descriptor_put (d : DV) (hd : putD d) (w : World) (hE : Env2 w) :
    Calls Tryz.prog 59 #[.agg (encD d)] w fun e w' => PutP w (fullJ d) e w' := by
  have HI := Lib.hid info_V
  obtain ⟨f0, hf0, hf1, hf2, hf3⟩ := info_parts info_F3
  obtain ⟨W0, hW0⟩ : ∃ W0, W0 = (w.alloc (.cells (encD d) 28)).alloc (.cells #[.int .i64 0, .string ⟨#[]⟩, .slice none 0 0, .slice none 0 0] 63) := ⟨_, rfl⟩
  have R0 : rowC W0 w.heap.size (encD d) 28 := by rw [hW0]; exact rowC_alloc (rowC_new w _ _) _
  have Z0 : rowC W0 (w.heap.size + 1) zeroV4 63 := by rw [hW0, ← size_alloc w (.cells (encD d) 28)]; exact rowC_new _ _ _
  have B0 : Below w.heap.size w W0 := by rw [hW0]; exact ((Below.refl _ _).alloc (Nat.le_refl _) _).alloc (by rw [size_alloc]; omega) _
  have S0 : W0.heap.size = w.heap.size + 2 := by rw [hW0, size_alloc, size_alloc]
  obtain ⟨SB, hSB⟩ : ∃ SB : Nat → Prop, SB = fun q => q = w.heap.size + 1 := ⟨_, rfl⟩
  have sb1 : SB (w.heap.size + 1) := by rw [hSB]
  have sb0 : ¬ SB w.heap.size := by rw [hSB]; intro e; have e : w.heap.size = w.heap.size + 1 := e; omega
  have sbl : ∀ q, q < w.heap.size → ¬ SB q := fun q hq e => by rw [hSB] at e; have e : q = w.heap.size + 1 := e; omega
  have HBW : ∀ w', Gn W0 SB w' → Below w.heap.size w w' := fun w' hg => B0.trans (hg.below (B := w.heap.size) (by omega) sbl)
  obtain ⟨X, hX⟩ : ∃ X, X = encL d := ⟨_, rfl⟩
  have hXa : X.toArray = encD d := by rw [hX, encD_list]
  have CF : ∀ w', Gn W0 SB w' → Calls Tryz.prog 91 #[.agg X.toArray] w' fun e w2 => ∃ g, e = .returned (.slice (some ⟨g, 0, none⟩) 3 3) ∧ rowC w2 g (fldC d) 102 ∧ W0.heap.size ≤ g ∧ g < w2.heap.size ∧ Below w'.heap.size w' w2 ∧ Gn W0 SB w2 := fun w' hg => by
    rw [hXa]
    refine (fields_put d hd.1.1 hd.2.1 hd.2.2 w' (hE.below (HBW w' hg))).mono ?_
    rintro e w2 ⟨g, rfl, h1, h2, h3, h4⟩
    exact ⟨g, rfl, h1, by have := hg.size; omega, h3, h4, hg.call h4⟩
  have CT : ∀ w', Gn W0 SB w' → Calls Tryz.prog 52 #[.string (str d.os)] w' fun e w2 => e = .returned (.agg #[.int .i64 4, .string (str d.os), .slice none 0 0, .slice none 0 0]) ∧ Below w'.heap.size w' w2 ∧ Gn W0 SB w2 := fun w' hg =>
    (text_put d.os w').mono (fun e w2 h => ⟨h.1, h.2, hg.call h.2⟩)
  have CA : ∀ w', Gn W0 SB w' → Calls Tryz.prog 52 #[.string (str d.arch)] w' fun e w2 => e = .returned (.agg #[.int .i64 4, .string (str d.arch), .slice none 0 0, .slice none 0 0]) ∧ Below w'.heap.size w' w2 ∧ Gn W0 SB w2 := fun w' hg =>
    (text_put d.arch w').mono (fun e w2 h => ⟨h.1, h.2, hg.call h.2⟩)
  have CP : ∀ w' b, Gn W0 SB w' → rowC w' b (plaC d) 102 → b < w'.heap.size → Calls Tryz.prog 50 #[.slice (some ⟨b, 0, none⟩) 2 2] w' fun e w2 => ∃ y m z n, e = .returned (.agg #[.int .i64 6, .string ⟨#[]⟩, .slice y 2 m, .slice z 2 n]) ∧ HoldsC w2 (fun q => w'.heap.size ≤ q ∧ q < w2.heap.size) (plaJ d.os d.arch) (.int .i64 6) (.string ⟨#[]⟩) (.slice y 2 m) (.slice z 2 n) ∧ Below w'.heap.size w' w2 ∧ Gn W0 SB w2 := fun w' b hg h1 h2 => by
    refine (object_put [(kOS, txtJ d.os), (kArc, txtJ d.arch)] w'.heap.size _ 2 w' (Nat.le_refl _) (by show 2 ≤ 1000; omega) (pla_fldr h1 h2 hd)).mono ?_
    rintro e w2 ⟨y, m, z, n, rfl, h3, h4⟩
    exact ⟨y, m, z, n, rfl, h3, h4, hg.call h4⟩
  have CO : ∀ w' b c, Gn W0 SB w' → FldR w' W0.heap.size (fldJ d ++ [(kPla, plaJ d.os d.arch)]) (some ⟨b, 0, none⟩) → Calls Tryz.prog 50 #[.slice (some ⟨b, 0, none⟩) (3 + 1) c] w' fun e w2 => ∃ y m z n, e = .returned (.agg (row4 6 ⟨#[]⟩ y 4 m z 4 n)) ∧ HoldsC w2 (fun q => W0.heap.size ≤ q ∧ q < w2.heap.size) (objJ (fldJ d ++ [(kPla, plaJ d.os d.arch)])) (.int .i64 6) (.string ⟨#[]⟩) (.slice y 4 m) (.slice z 4 n) ∧ Below w'.heap.size w' w2 ∧ Gn W0 SB w2 := fun w' b c hg h1 => by
    refine (object_put (fldJ d ++ [(kPla, plaJ d.os d.arch)]) W0.heap.size _ c w' hg.size (by show 4 ≤ 1000; omega) h1).mono ?_
    rintro e w2 ⟨y, m, z, n, rfl, h3, h4⟩
    exact ⟨y, m, z, n, rfl, h3, h4, hg.call h4⟩
  have OS : ∀ w', Gn W0 SB w' → w'.rangeAt w.heap.size 0 X ∧ w'.cell? ⟨w.heap.size, 34, none⟩ = some (.string (str d.os)) ∧ w'.cell? ⟨w.heap.size, 35, none⟩ = some (.string (str d.arch)) := fun w' h => by
    rw [hX]
    exact encD_pla hd.1.1 (h.row R0 sb0)
  have iD : (Tryz.prog.info? 28).map (·.size) = some X.length := by
    rw [hX, encL_len hd.1.1]
    exact info_D
  have uD := Tryz.underlying28
  have HW0 := Lib.hid hW0
  have HB0 := Lib.hid B0
  have HPD := Lib.hid hd
  have HZD : Hid (rowC W0.drew (w.heap.size + 1) zeroV4 63) := Lib.hid Z0
  have HBB := Lib.hid HBW
  clear hW0 B0 R0 Z0 hX hXa hE hd hSB sbl sb0 HBW
  go_enter Tryz.func59, Tryz.ntmps59
  go_upto_region 1 with (fail)
  rw [← HW0.out]
  have SO : ∀ w', Gn W0 SB w' → Gn W0 SB w' := fun _ h => h
  refine wp_region_noPanic ?_
  refine wp_region_held_drew (S := Gn W0 SB) (by kernel_rfl) (Gn.start _ _) (fun hHeld => ?_)
  generalize W0.drew = wd at *
  refine wpAnyH_take (i := 2) (oi := { dst := some 5, op := Op.fieldAddr 28 (Operand.tmp 1) 3, type := 0, pos := "oci.go:349", after := #[], guard := none }) (v := ?_) rfl (by kernel_rfl) (by kernel_rfl) (by kernel_rfl) (fun _ _ _ h => h) (Or.inl ⟨by rfl, ?_⟩) (by assumption) ?_
  rotate_left
  · intro w hSw
    skip
    clear hSw
    go_simp
    try with_reducible rfl
  try simp only [Act.put, List.setIfInBounds_toArray, List.set_cons_zero, List.set_cons_succ]
  refine wpAnyH_take (i := 3) (oi := { dst := some 6, op := Op.fieldAddr 26 (Operand.tmp 5) 0, type := 0, pos := "oci.go:349", after := #[{ on := 2, ground := Ground.data }], guard := none }) (v := ?_) rfl (by kernel_rfl) (by kernel_rfl) (by kernel_rfl) (fun _ _ _ h => h) (Or.inl ⟨by rfl, ?_⟩) (by assumption) ?_
  rotate_left
  · intro w hSw
    skip
    clear hSw
    go_simp
    try with_reducible rfl
  try simp only [Act.put, List.setIfInBounds_toArray, List.set_cons_zero, List.set_cons_succ]
  refine wpAnyH_take (i := 7) (oi := { dst := some 10, op := Op.fieldAddr 28 (Operand.tmp 1) 3, type := 0, pos := "oci.go:349", after := #[], guard := none }) (v := ?_) rfl (by kernel_rfl) (by kernel_rfl) (by kernel_rfl) (fun _ _ _ h => h) (Or.inl ⟨by rfl, ?_⟩) (by assumption) ?_
  rotate_left
  · intro w hSw
    skip
    clear hSw
    go_simp
    try with_reducible rfl
  try simp only [Act.put, List.setIfInBounds_toArray, List.set_cons_zero, List.set_cons_succ]
  refine wpAnyH_take (i := 8) (oi := { dst := some 11, op := Op.fieldAddr 26 (Operand.tmp 10) 1, type := 0, pos := "oci.go:349", after := #[{ on := 7, ground := Ground.data }], guard := none }) (v := ?_) rfl (by kernel_rfl) (by kernel_rfl) (by kernel_rfl) (fun _ _ _ h => h) (Or.inl ⟨by rfl, ?_⟩) (by assumption) ?_
  rotate_left
  · intro w hSw
    skip
    clear hSw
    go_simp
    try with_reducible rfl
  try simp only [Act.put, List.setIfInBounds_toArray, List.set_cons_zero, List.set_cons_succ]
  refine wpAnyH_take (i := 0) (oi := { dst := some 3, op := Op.load 28 (Operand.tmp 1), type := 28, pos := "oci.go:349", after := #[], guard := none }) (v := _) rfl (by kernel_rfl) (by kernel_rfl) (by kernel_rfl) (fun _ _ _ h => h) (yieldsIf_load_mid (by rfl) _ _ rfl _ _ rfl _ _ (by intro w hSw; have hSw := OS _ hSw; go_split_ands; assumption) (by assumption) rfl (by assumption)) (by assumption) ?_
  try simp only [Act.put, List.setIfInBounds_toArray, List.set_cons_zero, List.set_cons_succ]
  refine wpAnyH_take (i := 4) (oi := { dst := some 7, op := Op.load 9 (Operand.tmp 6), type := 9, pos := "oci.go:349", after := #[{ on := 3, ground := Ground.data }], guard := none }) (v := ?_) rfl (by kernel_rfl) (by kernel_rfl) (by kernel_rfl) (fun _ _ _ h => h) (Or.inl ⟨by rfl, ?_⟩) (by assumption) ?_
  rotate_left
  · intro w hSw
    have hSw := OS _ hSw
    go_simp
    try with_reducible rfl
  try simp only [Act.put, List.setIfInBounds_toArray, List.set_cons_zero, List.set_cons_succ]
  refine wpAnyH_take (i := 9) (oi := { dst := some 12, op := Op.load 9 (Operand.tmp 11), type := 9, pos := "oci.go:349", after := #[{ on := 8, ground := Ground.data }], guard := none }) (v := ?_) rfl (by kernel_rfl) (by kernel_rfl) (by kernel_rfl) (fun _ _ _ h => h) (Or.inl ⟨by rfl, ?_⟩) (by assumption) ?_
  rotate_left
  · intro w hSw
    have hSw := OS _ hSw
    go_simp
    try with_reducible rfl
  try simp only [Act.put, List.setIfInBounds_toArray, List.set_cons_zero, List.set_cons_succ]
  refine wpAnyH_ready (rs := [1]) (by kernel_rfl) (by simp) ?_
  refine (AllReadyH.cons (o := { dst := some 4, op := Op.call { callee := Callee.value (Operand.func 91), args := #[Operand.tmp 3], argTypes := #[28] }, type := 158, pos := "oci.go:349", after := #[{ on := 0, ground := Ground.data }], guard := none }) rfl (fun K hK => ?_) AllReadyH.nil)
  go_simp
  with_reducible refine (CF _ hHeld).mono ?_
  rintro e w1' ⟨g, rfl, r1, g1, g2, b1, m1'⟩
  have HGE := Lib.hid g1; have R1 := Lib.hid r1; have Z1 := Lib.hid (rowC_below HZD.out b1 (rowC_lt HZD.out)); clear b1 r1
  refine hK.out _ _ (SO _ (by assumption)) (fun hHeld => ?_)
  clear hK K
  try simp only [Act.put, List.setIfInBounds_toArray, List.set_cons_zero, List.set_cons_succ]
  refine wpAnyH_ready (rs := [5]) (by kernel_rfl) (by simp) ?_
  refine (AllReadyH.cons (o := { dst := some 8, op := Op.call { callee := Callee.value (Operand.func 52), args := #[Operand.tmp 7], argTypes := #[9] }, type := 63, pos := "oci.go:350", after := #[{ on := 4, ground := Ground.data }, { on := 1, ground := Ground.chain }], guard := none }) rfl (fun K hK => ?_) AllReadyH.nil)
  go_simp
  with_reducible refine (CT _ hHeld).mono ?_
  rintro e w5' ⟨rfl, b5, m5'⟩
  have R5 := Lib.hid (rowC_below R1.out b5 g2); have Z5 := Lib.hid (rowC_below Z1.out b5 (rowC_lt Z1.out)); have s5 := b5.size; clear b5
  refine hK.out _ _ (SO _ (by assumption)) (fun hHeld => ?_)
  clear hK K
  try simp only [Act.put, List.setIfInBounds_toArray, List.set_cons_zero, List.set_cons_succ]
  refine wpAnyH_take (i := 6) (oi := { dst := some 9, op := Op.build 102 #[(0, Operand.const (Value.string { data := #[111, 115] })), (1, Operand.tmp 8)], type := 102, pos := "oci.go:349", after := #[{ on := 5, ground := Ground.data }], guard := none }) (v := ?_) rfl (by kernel_rfl) (by kernel_rfl) (by kernel_rfl) (fun _ _ _ h => h) (Or.inl ⟨by rfl, ?_⟩) (by assumption) ?_
  rotate_left
  · intro w hSw
    skip
    clear hSw
    go_simp
    try with_reducible rfl
  try simp only [Act.put, List.setIfInBounds_toArray, List.set_cons_zero, List.set_cons_succ]
  refine wpAnyH_ready (rs := [10]) (by kernel_rfl) (by simp) ?_
  refine (AllReadyH.cons (o := { dst := some 13, op := Op.call { callee := Callee.value (Operand.func 52), args := #[Operand.tmp 12], argTypes := #[9] }, type := 63, pos := "oci.go:351", after := #[{ on := 9, ground := Ground.data }, { on := 5, ground := Ground.chain }], guard := none }) rfl (fun K hK => ?_) AllReadyH.nil)
  go_simp
  with_reducible refine (CA _ hHeld).mono ?_
  rintro e w10' ⟨rfl, b10, m10'⟩
  have R10 := Lib.hid (rowC_below R5.out b10 (rowC_lt R5.out)); have Z10 := Lib.hid (rowC_below Z5.out b10 (rowC_lt Z5.out)); have HG10 : Hid (g < w10'.heap.size ∧ W0.heap.size ≤ w10'.heap.size) := Lib.hid ⟨rowC_lt R10.out, m10'.size⟩; clear b10
  refine hK.out _ _ (SO _ (by assumption)) (fun hHeld => ?_)
  clear hK K
  try simp only [Act.put, List.setIfInBounds_toArray, List.set_cons_zero, List.set_cons_succ]
  refine wpAnyH_take (i := 11) (oi := { dst := some 14, op := Op.build 102 #[(0, Operand.const (Value.string { data := #[97, 114, 99, 104, 105, 116, 101, 99, 116, 117, 114, 101] })), (1, Operand.tmp 13)], type := 102, pos := "oci.go:349", after := #[{ on := 10, ground := Ground.data }], guard := none }) (v := ?_) rfl (by kernel_rfl) (by kernel_rfl) (by kernel_rfl) (fun _ _ _ h => h) (Or.inl ⟨by rfl, ?_⟩) (by assumption) ?_
  rotate_left
  · intro w hSw
    skip
    clear hSw
    go_simp
    try with_reducible rfl
  try simp only [Act.put, List.setIfInBounds_toArray, List.set_cons_zero, List.set_cons_succ]
  refine wpAnyH_ready (rs := [12]) (by kernel_rfl) (by simp) ?_
  refine (AllReadyH.cons (o := { dst := some 15, op := Op.buildSlice 158 2 #[(0, Operand.tmp 9), (1, Operand.tmp 14)], type := 158, pos := "oci.go:349", after := #[{ on := 6, ground := Ground.data }, { on := 11, ground := Ground.data }], guard := none }) rfl (fun K hK => ?_) AllReadyH.nil)
  skip
  go_simp
  refine hK.out _ _ (SO _ (by first | exact m16 | exact Gn.set hHeld _ _ (.inl sb1) | exact Gn.alloc hHeld _)) (fun hHeld => ?_)
  clear hK K
  try simp only [Act.put, List.setIfInBounds_toArray, List.set_cons_zero, List.set_cons_succ]
  refine wpAnyH_ready (rs := [13]) (by kernel_rfl) (by simp) ?_
  refine (AllReadyH.cons (o := { dst := some 16, op := Op.call { callee := Callee.value (Operand.func 50), args := #[Operand.tmp 15], argTypes := #[158] }, type := 63, pos := "oci.go:349", after := #[{ on := 12, ground := Ground.data }, { on := 10, ground := Ground.chain }], guard := none }) rfl (fun K hK => ?_) AllReadyH.nil)
  go_simp
  with_reducible refine (CP _ _ hHeld (rowC_new _ _ _) (by rw [size_alloc]; omega)).mono ?_
  rintro e w13' ⟨y, m, z, n, rfl, h13, b13, m13'⟩
  have h13 : HoldsC w13' (fun q => w10'.heap.size + 1 ≤ q ∧ q < w13'.heap.size) (plaJ d.os d.arch) (.int .i64 6) (.string ⟨#[]⟩) (.slice y 2 m) (.slice z 2 n) := (by rw [size_alloc] at h13; exact h13); have R13 := Lib.hid (rowC_below (rowC_alloc R10.out _) b13 (rowC_lt (rowC_alloc R10.out _))); have Z13 := Lib.hid (rowC_below (rowC_alloc Z10.out _) b13 (rowC_lt (rowC_alloc Z10.out _))); clear b13
  refine hK.out _ _ (SO _ (by assumption)) (fun hHeld => ?_)
  clear hK K
  try simp only [Act.put, List.setIfInBounds_toArray, List.set_cons_zero, List.set_cons_succ]
  refine wpAnyH_take (i := 14) (oi := { dst := some 17, op := Op.build 102 #[(0, Operand.const (Value.string { data := #[112, 108, 97, 116, 102, 111, 114, 109] })), (1, Operand.tmp 16)], type := 102, pos := "oci.go:349", after := #[{ on := 13, ground := Ground.data }], guard := none }) (v := ?_) rfl (by kernel_rfl) (by kernel_rfl) (by kernel_rfl) (fun _ _ _ h => h) (Or.inl ⟨by rfl, ?_⟩) (by assumption) ?_
  rotate_left
  · intro w hSw
    skip
    clear hSw
    go_simp
    try with_reducible rfl
  try simp only [Act.put, List.setIfInBounds_toArray, List.set_cons_zero, List.set_cons_succ]
  refine wpAnyH_ready (rs := [15]) (by kernel_rfl) (by simp) ?_
  refine (AllReadyH.cons (o := { dst := some 18, op := Op.buildSlice 158 1 #[(0, Operand.tmp 17)], type := 158, pos := "oci.go:349", after := #[{ on := 14, ground := Ground.data }], guard := none }) rfl (fun K hK => ?_) AllReadyH.nil)
  skip
  go_simp
  refine hK.out _ _ (SO _ (by first | exact m16 | exact Gn.set hHeld _ _ (.inl sb1) | exact Gn.alloc hHeld _)) (fun hHeld => ?_)
  clear hK K
  try simp only [Act.put, List.setIfInBounds_toArray, List.set_cons_zero, List.set_cons_succ]
  refine wpAnyH_ready (rs := [16]) (by kernel_rfl) (by simp) ?_
  refine (AllReadyH.cons (o := { dst := some 19, op := Op.call { callee := Callee.builtin Builtin.append, args := #[Operand.tmp 4, Operand.tmp 18], argTypes := #[158, 158] }, type := 158, pos := "oci.go:349", after := #[{ on := 1, ground := Ground.data }, { on := 15, ground := Ground.data }, { on := 13, ground := Ground.chain }], guard := none }) rfl (fun K hK => ?_) AllReadyH.nil)
  have OW : ∀ o, (w13'.alloc o).ownsRow W0.heap.size 102 5 (.slice (some ⟨g, 0, none⟩) 3 3) 3 (fldC d).toList := fun o => (owns_fld R13.out HGE.out).alloc o
  have SG : ∀ o w7, (w13'.alloc o).grownBy w7 (Value.slice (some ⟨g, 0, none⟩) 3 3).ownBlock → Gn W0 SB w7 := fun o w7 hg => Gn.grown (Gn.alloc m13' o) hg (fun q hq => .inr (by simp only [Value.ownBlock, Option.some.injEq] at hq; have := HGE.out; omega))
  refine step_append_lies _ (by rfl) _ _ 158 (by rfl) W0.heap.size 102 f0 (row5z) 5 88 Tryz.underlying158 hf0 hf1 hf2 hf3 (by rfl) (by decide) (.slice (some ⟨g, 0, none⟩) 3 3) 3 (fldC d).toList (by rfl) (OW _) ⟨w13'.heap.size, 0, none⟩ 1 1 [.string ⟨#[112, 108, 97, 116, 102, 111, 114, 109]⟩, .int .i64 6, .string ⟨#[]⟩, .slice y 2 m, .slice z 2 n] (by rfl) (by rfl) (World.news_of_block (heap_alloc_new w13' _)) (fun u hu => all_one5 u hu) (by decide) (by unfold maxLen; omega) (by omega) (by have := m13'.size; rw [size_alloc]; omega) _ rfl ?_
  intro gk capk w16 hown16 hgrow16 hat16 hlt16
  have m16 := SG _ _ hgrow16
  have z16 : rowC w16 (w.heap.size + 1) zeroV4 63 := Chg.rowC (((Chg.refl (fun q => (Value.slice (some ⟨g, 0, none⟩) 3 3).ownBlock = some q) w13').alloc _).grown hgrow16 (fun q hq => .inl hq)) Z13.out (fun e => by simp only [Value.ownBlock, Option.some.injEq] at e; have := HGE.out; omega)
  have FR := des_fldr hown16 hlt16 (HoldsC.mono (G := fun q => W0.heap.size ≤ q ∧ q < w16.heap.size) (fun q hq hlt => ⟨by have := hq.1; have := HG10.out; omega, hlt⟩) _ _ _ _ _ (HoldsC.chg (((Chg.refl (fun q => (Value.slice (some ⟨g, 0, none⟩) 3 3).ownBlock = some q) w13').alloc _).grown hgrow16 (fun q hq => .inl hq)) (fun q hq e => by simp only [Value.ownBlock, Option.some.injEq] at e; have := HG10.out; have := hq.1; omega) _ _ _ _ _ h13)) HPD.out
  clear hown16 hgrow16 hat16 OW SG
  refine hK.out _ _ (SO _ (by first | exact m16 | exact Gn.set hHeld _ _ (.inl sb1) | exact Gn.alloc hHeld _)) (fun hHeld => ?_)
  clear hK K
  try simp only [Act.put, List.setIfInBounds_toArray, List.set_cons_zero, List.set_cons_succ]
  refine wpAnyH_ready (rs := [17]) (by kernel_rfl) (by simp) ?_
  refine (AllReadyH.cons (o := { dst := some 20, op := Op.call { callee := Callee.value (Operand.func 50), args := #[Operand.tmp 19], argTypes := #[158] }, type := 63, pos := "oci.go:349", after := #[{ on := 16, ground := Ground.data }, { on := 16, ground := Ground.chain }], guard := none }) rfl (fun K hK => ?_) AllReadyH.nil)
  go_simp
  with_reducible refine (CO _ _ _ hHeld FR).mono ?_
  rintro e w17' ⟨y7, m7, z7, n7, rfl, h17, b17, m17'⟩
  have H17 := Lib.hid h17; have Z17 := Lib.hid (rowC_below z16 b17 (rowC_lt z16)); clear h17 b17
  refine hK.out _ _ (SO _ (by assumption)) (fun hHeld => ?_)
  clear hK K
  try simp only [Act.put, List.setIfInBounds_toArray, List.set_cons_zero, List.set_cons_succ]
  refine wpAnyH_ready (rs := [18]) (by kernel_rfl) (by simp) ?_
  refine (AllReadyH.cons (o := { dst := none, op := Op.store 63 (Operand.tmp 2) (Operand.tmp 20), type := 0, pos := "oci.go:349", after := #[{ on := 17, ground := Ground.data }, { on := 17, ground := Ground.chain }, { on := 0, ground := Ground.phase }, { on := 1, ground := Ground.phase }, { on := 2, ground := Ground.phase }, { on := 3, ground := Ground.phase }, { on := 4, ground := Ground.phase }, { on := 5, ground := Ground.phase }, { on := 6, ground := Ground.phase }, { on := 7, ground := Ground.phase }, { on := 8, ground := Ground.phase }, { on := 9, ground := Ground.phase }, { on := 10, ground := Ground.phase }, { on := 11, ground := Ground.phase }, { on := 12, ground := Ground.phase }, { on := 13, ground := Ground.phase }, { on := 14, ground := Ground.phase }, { on := 15, ground := Ground.phase }, { on := 16, ground := Ground.phase }, { on := 17, ground := Ground.phase }], guard := none }) rfl (fun K hK => ?_) AllReadyH.nil)
  refine step_store_row (by rfl) 63 _ _ (by rfl) (w.heap.size + 1) (row4 6 ⟨#[]⟩ y7 4 m7 z7 4 n7) (by rfl) (by rfl) 63 zeroV4 Z17.out HI.out (by rfl) (row4_all _ _ _ _ _ _ _ _) ?_
  refine hK.out _ _ (SO _ (by first | exact m16 | exact Gn.set hHeld _ _ (.inl sb1) | exact Gn.alloc hHeld _)) (fun hHeld => ?_)
  clear hK K
  try simp only [Act.put]
  refine wpAnyH_done (by kernel_rfl) ?_ _
  refine NoPanic.normal ?_
  go_wp2
  refine bodyPost_ret (results_cell_row rfl _ _ (w.heap.size + 1) 63 (row4 6 ⟨#[]⟩ y7 4 m7 z7 4 n7) (0, 0) _ rfl (rowC_setRow Z17.out _) Tryz.underlying63 rfl HI.out) rfl ?_
  exact obj_putP (l := fldJ d ++ [(kPla, plaJ d.os d.arch)]) H17.out (HBB.out _ m17') (by omega) (by omega) _
end Go.Proofs.YtlknngplnimdpaaGreatDoor

/- Layer 13: isText. -/
namespace Go.Proofs.YtlknngplnimdpaaGreatDoor
open Go.RowKit

set_option maxRecDepth 100000 in
set_option maxHeartbeats 4000000 in
theorem isText_any (p : Bs × Bs) (h1 : p.1.length ≤ 281474976710656) (h2 : p.2.length ≤ 281474976710656) (w : World) (hE : Env2 w) :
    Calls Tryz.prog 60 #[.agg (encP p)] w fun e w' => e = .returned (.bool (Lib.validD p.1 && Lib.validD p.2)) ∧ Below w.heap.size w w' := by
  obtain ⟨W0, hW0⟩ : ∃ W0, W0 = w.alloc (.cells (encP p) 26) := ⟨_, rfl⟩
  have R0 : rowC W0 w.heap.size (encP p) 26 := by rw [hW0]; exact rowC_new w _ _
  have B0 : Below w.heap.size w W0 := by rw [hW0]; exact (Below.refl _ _).alloc (Nat.le_refl _) _
  have S0 : W0.heap.size = w.heap.size + 1 := by rw [hW0, size_alloc]
  have E0 := hE.below B0
  have CV := fun w' (hb : Below W0.heap.size W0 w') => Tryz.utf8_ValidString (str p.1) w' (by rw [str_size]; omega) (E0.below hb).env.tabs
  have CW := fun w' (hb : Below W0.heap.size W0 w') => Tryz.utf8_ValidString (str p.2) w' (by rw [str_size]; omega) (E0.below hb).env.tabs
  rw [str_toList] at CV CW
  have g0 : W0.cell? ⟨w.heap.size, 0, none⟩ = some (.string (str p.1)) := rowC_cell R0 0
  have HR0 := Lib.hid R0
  have HW0 := Lib.hid hW0
  have HB0 := Lib.hid B0
  clear hW0 R0 B0 E0 hE h1 h2
  have HC := Lib.hid CW
  have CV := CV W0 (Below.refl _ _)
  cases hv : Lib.validD p.1 with
  | true =>
    rw [hv] at CV
    clear CW hv
    go_enter Tryz.func60, Tryz.ntmps60
    go_upto_region 1 with (fail)
    rw [show w.alloc (.cells (encP p) 26) = W0 from HW0.out.symm]
    go_wp2_with (first
      | (go_at_call 89; ((with_reducible refine CV.mono ?_); rintro e w2 ⟨rfl, hb2⟩; have CW := HC.out w2 hb2; have HB2 := Lib.hid hb2; have g1 : w2.cell? ⟨w.heap.size, 1, none⟩ = some (.string (str p.2)) := rowC_cell (rowC_below HR0.out hb2 (rowC_lt HR0.out)) 1; clear hb2 g0 CV))
      | (go_at_call 89; ((with_reducible refine CW.mono ?_); rintro e w3 ⟨rfl, hb3⟩; have HB3 := Lib.hid hb3; clear hb3)))
    go_ret
    exact ⟨rfl, (HB0.out.trans (HB2.out.mono (by omega))).trans (HB3.out.mono (by have := HB2.out.size; omega))⟩
  | false =>
    rw [hv] at CV
    clear CW hv
    go_enter Tryz.func60, Tryz.ntmps60
    go_upto_region 1 with (fail)
    rw [show w.alloc (.cells (encP p) 26) = W0 from HW0.out.symm]
    go_wp2_with (go_at_call 89; ((with_reducible refine CV.mono ?_); rintro e w2 ⟨rfl, hb2⟩))
    go_ret
    exact ⟨rfl, HB0.out.trans (hb2.mono (by omega))⟩
end Go.Proofs.YtlknngplnimdpaaGreatDoor

