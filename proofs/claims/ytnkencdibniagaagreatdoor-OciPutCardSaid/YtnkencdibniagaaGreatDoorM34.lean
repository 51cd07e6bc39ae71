/- Merged: OdZ, OcN, OcP. -/
import Derived.Test.YtnkencdibniagaaGreatDoorM33
import Derived.Deep.RegionHeld3
import Derived.Test.YtnkencdibniagaaGreatDoorM05
import Derived.Lib.ValidLaws
/- Layer 13: a descriptor's fields, to be put. -/
namespace Go.Proofs.YtnkencdibniagaaGreatDoor
open Go.RowKit

theorem leaf_holds (w : World) (F : Nat → Prop) (k : Int) (t : Bs) (h : t.length ≤ 281474976710656) : HoldsC w F (.mk k t [] []) (.int .i64 k) (.string (str t)) (.slice none 0 0) (.slice none 0 0) := by
  rw [HoldsC]
  exact ⟨rfl, rfl, h, .inl ⟨rfl, rfl⟩, .inl ⟨rfl, rfl⟩⟩
/-- The three fields, in memory. -/
def fldC (d : DV) : Array Value := #[.string ⟨#[109, 101, 100, 105, 97, 84, 121, 112, 101]⟩, .int .i64 4, .string (str d.media), .slice none 0 0, .slice none 0 0,
  .string ⟨#[100, 105, 103, 101, 115, 116]⟩, .int .i64 4, .string (str (textL d.dig)), .slice none 0 0, .slice none 0 0,
  .string ⟨#[115, 105, 122, 101]⟩, .int .i64 3, .string (str (Lib.itoa d.size)), .slice none 0 0, .slice none 0 0]
def FldsP (w : World) (d : DV) (e : Ending) (w' : World) : Prop :=
  ∃ g, e = .returned (.slice (some ⟨g, 0, none⟩) 3 3) ∧ rowC w' g (fldC d) 102 ∧ w.heap.size ≤ g ∧ g < w'.heap.size ∧ Below w.heap.size w w'
theorem encD_range {w : World} {b : Nat} {d : DV} (hd : d.dig.length = 32) (h : rowC w b (encD d) 28) :
    w.cell? ⟨b, 0, none⟩ = some (.string (str d.media)) ∧ w.rangeAt b 1 (cells8 d.dig).toList ∧ w.cell? ⟨b, 33, none⟩ = some (.int .i64 d.size) := by
  rw [encD_list] at h
  refine ⟨rowC_cell h 0, rowC_range h 1 _ (fun j v hv => ?_), ?_⟩
  · rw [List.getElem?_toArray]
    unfold encL cells8 at *
    simp only [List.cons_append, List.nil_append] at *
    rw [Nat.add_comm, List.getElem?_cons_succ, List.getElem?_append_left (by
      have := (List.getElem?_eq_some_iff.1 hv).1
      simpa using this)]
    simpa using hv
  · rw [rowC_cell h 33, List.getElem?_toArray]
    unfold encL
    rw [List.append_assoc, List.getElem?_append_right (by simp), List.getElem?_append_right (by simp [hd])]
    simp [hd]
set_option maxRecDepth 100000 in
set_option maxHeartbeats 16000000 in
theorem fields_put (d : DV) (hd : d.dig.length = 32) (h0 : -9223372036854775808 ≤ d.size) (h1 : d.size ≤ 9223372036854775807) (w : World) (hE : Env2 w) :
    Calls Tryz.prog 91 #[.agg (encD d)] w fun e w' => FldsP w d e w' := by
  obtain ⟨W0, hW0⟩ : ∃ W0, W0 = w.alloc (.cells (encD d) 28) := ⟨_, rfl⟩
  have R0 : rowC W0 w.heap.size (encD d) 28 := by rw [hW0]; exact rowC_new w _ _
  have B0 : Below w.heap.size w W0 := by rw [hW0]; exact (Below.refl _ _).alloc (Nat.le_refl _) _
  have S0 : W0.heap.size = w.heap.size + 1 := by rw [hW0, size_alloc]
  have CT : ∀ w', Gn W0 no w' → Calls Tryz.prog 52 #[.string (str d.media)] w' fun e w2 => e = .returned (.agg #[.int .i64 4, .string (str d.media), .slice none 0 0, .slice none 0 0]) ∧ Gn W0 no w2 := fun w' hg =>
    (text_put d.media w').mono (fun e w2 h => ⟨h.1, hg.call h.2⟩)
  obtain ⟨X, hX⟩ : ∃ X, X = (cells8 d.dig).toList := ⟨_, rfl⟩
  have hXa : X.toArray = cells8 d.dig := by rw [hX]
  have CD : ∀ w', Gn W0 no w' → Calls Tryz.prog 62 #[.agg X.toArray] w' fun e w2 => e = .returned (.agg #[.int .i64 4, .string (str (textL d.dig)), .slice none 0 0, .slice none 0 0]) ∧ Gn W0 no w2 := fun w' hg => by
    rw [hXa]
    exact (digest_put d.dig hd w').mono (fun e w2 h => ⟨h.1, hg.call h.2⟩)
  have CI : ∀ w', Gn W0 no w' → Calls Tryz.prog 51 #[.int .i64 d.size] w' fun e w2 => e = .returned (.agg #[.int .i64 3, .string (str (Lib.itoa d.size)), .slice none 0 0, .slice none 0 0]) ∧ Gn W0 no w2 := fun w' hg =>
    (number_put d.size h0 h1 w' (hE.below (B0.trans (hg.below (by omega) (fun _ _ h => h))))).mono (fun e w2 h => ⟨h.1, hg.call h.2⟩)
  have OS : ∀ w', Gn W0 no w' → w'.cell? ⟨w.heap.size, 0, none⟩ = some (.string (str d.media)) ∧ w'.rangeAt w.heap.size 1 X ∧ w'.cell? ⟨w.heap.size, 33, none⟩ = some (.int .i64 d.size) := fun w' h => by
    rw [hX]
    exact encD_range hd (h.row R0 id)
  have iD : (Tryz.prog.info? 24).map (·.size) = some X.length := by
    have := info_Gc d.dig hd
    rw [this, hX]
    simp
  have uD := Tryz.underlying24
  have HW0 := Lib.hid hW0
  have HB0 := Lib.hid B0
  have HE := Lib.hid hE
  clear hW0 B0 R0 hX hXa hE h0 h1 hd
  go_enter Tryz.func91, Tryz.ntmps91
  go_upto_region 1 with (fail)
  rw [← HW0.out]
  have SO : ∀ w', Gn W0 no w' → Gn W0 no w' := fun _ h => h
  refine wp_region_noPanic ?_
  refine wp_region_held_drew (S := Gn W0 no) (by kernel_rfl) (Gn.start _ _) (fun hHeld => ?_)
  generalize W0.drew = wd at *
  refine wpAnyH_take (i := 0) (oi := { dst := some 3, op := Op.fieldAddr 28 (Operand.tmp 1) 0, type := 0, pos := "oci.go:362", after := #[], guard := none }) (v := ?_) rfl (by kernel_rfl) (by kernel_rfl) (by kernel_rfl) (fun _ _ _ h => h) (Or.inl ⟨by rfl, ?_⟩) (by assumption) ?_
  rotate_left
  · intro w hSw
    skip
    clear hSw
    go_simp
    try with_reducible rfl
  try simp only [Act.put, List.setIfInBounds_toArray, List.set_cons_zero, List.set_cons_succ]
  refine wpAnyH_take (i := 4) (oi := { dst := some 7, op := Op.fieldAddr 28 (Operand.tmp 1) 1, type := 0, pos := "oci.go:362", after := #[], guard := none }) (v := ?_) rfl (by kernel_rfl) (by kernel_rfl) (by kernel_rfl) (fun _ _ _ h => h) (Or.inl ⟨by rfl, ?_⟩) (by assumption) ?_
  rotate_left
  · intro w hSw
    skip
    clear hSw
    go_simp
    try with_reducible rfl
  try simp only [Act.put, List.setIfInBounds_toArray, List.set_cons_zero, List.set_cons_succ]
  refine wpAnyH_take (i := 8) (oi := { dst := some 11, op := Op.fieldAddr 28 (Operand.tmp 1) 2, type := 0, pos := "oci.go:362", after := #[], guard := none }) (v := ?_) rfl (by kernel_rfl) (by kernel_rfl) (by kernel_rfl) (fun _ _ _ h => h) (Or.inl ⟨by rfl, ?_⟩) (by assumption) ?_
  rotate_left
  · intro w hSw
    skip
    clear hSw
    go_simp
    try with_reducible rfl
  try simp only [Act.put, List.setIfInBounds_toArray, List.set_cons_zero, List.set_cons_succ]
  refine wpAnyH_take (i := 1) (oi := { dst := some 4, op := Op.load 9 (Operand.tmp 3), type := 9, pos := "oci.go:362", after := #[{ on := 0, ground := Ground.data }], guard := none }) (v := ?_) rfl (by kernel_rfl) (by kernel_rfl) (by kernel_rfl) (fun _ _ _ h => h) (Or.inl ⟨by rfl, ?_⟩) (by assumption) ?_
  rotate_left
  · intro w hSw
    have hSw := OS _ hSw
    go_simp
    try with_reducible rfl
  try simp only [Act.put, List.setIfInBounds_toArray, List.set_cons_zero, List.set_cons_succ]
  refine wpAnyH_take (i := 5) (oi := { dst := some 8, op := Op.load 24 (Operand.tmp 7), type := 24, pos := "oci.go:362", after := #[{ on := 4, ground := Ground.data }], guard := none }) (v := _) rfl (by kernel_rfl) (by kernel_rfl) (by kernel_rfl) (fun _ _ _ h => h) (yieldsIf_load_mid (by rfl) _ _ rfl _ _ rfl _ _ (by intro w hSw; have hSw := OS _ hSw; go_split_ands; assumption) (by assumption) rfl (by assumption)) (by assumption) ?_
  try simp only [Act.put, List.setIfInBounds_toArray, List.set_cons_zero, List.set_cons_succ]
  refine wpAnyH_take (i := 9) (oi := { dst := some 12, op := Op.load 3 (Operand.tmp 11), type := 3, pos := "oci.go:362", after := #[{ on := 8, ground := Ground.data }], guard := none }) (v := ?_) rfl (by kernel_rfl) (by kernel_rfl) (by kernel_rfl) (fun _ _ _ h => h) (Or.inl ⟨by rfl, ?_⟩) (by assumption) ?_
  rotate_left
  · intro w hSw
    have hSw := OS _ hSw
    go_simp
    try with_reducible rfl
  try simp only [Act.put, List.setIfInBounds_toArray, List.set_cons_zero, List.set_cons_succ]
  refine wpAnyH_ready (rs := [2]) (by kernel_rfl) (by simp) ?_
  refine (AllReadyH.cons (o := { dst := some 5, op := Op.call { callee := Callee.value (Operand.func 52), args := #[Operand.tmp 4], argTypes := #[9] }, type := 63, pos := "oci.go:363", after := #[{ on := 1, ground := Ground.data }], guard := none }) rfl (fun K hK => ?_) AllReadyH.nil)
  go_simp
  with_reducible refine (CT _ hHeld).mono ?_
  rintro e w2' ⟨rfl, m2'⟩
  refine hK.out _ _ (SO _ (by assumption)) (fun hHeld => ?_)
  clear hK K
  try simp only [Act.put, List.setIfInBounds_toArray, List.set_cons_zero, List.set_cons_succ]
  refine wpAnyH_take (i := 3) (oi := { dst := some 6, op := Op.build 102 #[(0, Operand.const (Value.string { data := #[109, 101, 100, 105, 97, 84, 121, 112, 101] })), (1, Operand.tmp 5)], type := 102, pos := "oci.go:362", after := #[{ on := 2, ground := Ground.data }], guard := none }) (v := ?_) rfl (by kernel_rfl) (by kernel_rfl) (by kernel_rfl) (fun _ _ _ h => h) (Or.inl ⟨by rfl, ?_⟩) (by assumption) ?_
  rotate_left
  · intro w hSw
    skip
    clear hSw
    go_simp
    try with_reducible rfl
  try simp only [Act.put, List.setIfInBounds_toArray, List.set_cons_zero, List.set_cons_succ]
  refine wpAnyH_ready (rs := [6]) (by kernel_rfl) (by simp) ?_
  refine (AllReadyH.cons (o := { dst := some 9, op := Op.call { callee := Callee.value (Operand.func 62), args := #[Operand.tmp 8], argTypes := #[24] }, type := 63, pos := "oci.go:364", after := #[{ on := 5, ground := Ground.data }, { on := 2, ground := Ground.chain }], guard := none }) rfl (fun K hK => ?_) AllReadyH.nil)
  go_simp
  with_reducible refine (CD _ hHeld).mono ?_
  rintro e w6' ⟨rfl, m6'⟩
  refine hK.out _ _ (SO _ (by assumption)) (fun hHeld => ?_)
  clear hK K
  try simp only [Act.put, List.setIfInBounds_toArray, List.set_cons_zero, List.set_cons_succ]
  refine wpAnyH_take (i := 7) (oi := { dst := some 10, op := Op.build 102 #[(0, Operand.const (Value.string { data := #[100, 105, 103, 101, 115, 116] })), (1, Operand.tmp 9)], type := 102, pos := "oci.go:362", after := #[{ on := 6, ground := Ground.data }], guard := none }) (v := ?_) rfl (by kernel_rfl) (by kernel_rfl) (by kernel_rfl) (fun _ _ _ h => h) (Or.inl ⟨by rfl, ?_⟩) (by assumption) ?_
  rotate_left
  · intro w hSw
    skip
    clear hSw
    go_simp
    try with_reducible rfl
  try simp only [Act.put, List.setIfInBounds_toArray, List.set_cons_zero, List.set_cons_succ]
  refine wpAnyH_ready (rs := [10]) (by kernel_rfl) (by simp) ?_
  refine (AllReadyH.cons (o := { dst := some 13, op := Op.call { callee := Callee.value (Operand.func 51), args := #[Operand.tmp 12], argTypes := #[3] }, type := 63, pos := "oci.go:365", after := #[{ on := 9, ground := Ground.data }, { on := 6, ground := Ground.chain }], guard := none }) rfl (fun K hK => ?_) AllReadyH.nil)
  go_simp
  with_reducible refine (CI _ hHeld).mono ?_
  rintro e w10' ⟨rfl, m10'⟩
  refine hK.out _ _ (SO _ (by assumption)) (fun hHeld => ?_)
  clear hK K
  try simp only [Act.put, List.setIfInBounds_toArray, List.set_cons_zero, List.set_cons_succ]
  refine wpAnyH_take (i := 11) (oi := { dst := some 14, op := Op.build 102 #[(0, Operand.const (Value.string { data := #[115, 105, 122, 101] })), (1, Operand.tmp 13)], type := 102, pos := "oci.go:362", after := #[{ on := 10, ground := Ground.data }], guard := none }) (v := ?_) rfl (by kernel_rfl) (by kernel_rfl) (by kernel_rfl) (fun _ _ _ h => h) (Or.inl ⟨by rfl, ?_⟩) (by assumption) ?_
  rotate_left
  · intro w hSw
    skip
    clear hSw
    go_simp
    try with_reducible rfl
  try simp only [Act.put, List.setIfInBounds_toArray, List.set_cons_zero, List.set_cons_succ]
  refine wpAnyH_ready (rs := [12]) (by kernel_rfl) (by simp) ?_
  refine (AllReadyH.cons (o := { dst := some 15, op := Op.buildSlice 158 3 #[(0, Operand.tmp 6), (1, Operand.tmp 10), (2, Operand.tmp 14)], type := 158, pos := "oci.go:362", after := #[{ on := 3, ground := Ground.data }, { on := 7, ground := Ground.data }, { on := 11, ground := Ground.data }], guard := none }) rfl (fun K hK => ?_) AllReadyH.nil)
  skip
  go_simp
  refine hK.out _ _ (SO _ (by exact Gn.alloc hHeld _)) (fun hHeld => ?_)
  clear hK K
  try simp only [Act.put, List.setIfInBounds_toArray, List.set_cons_zero, List.set_cons_succ]
  refine wpAnyH_take (i := 13) (oi := { dst := some 2, op := Op.assign (Operand.tmp 15), type := 158, pos := "oci.go:362", after := #[{ on := 12, ground := Ground.data }, { on := 10, ground := Ground.chain }, { on := 0, ground := Ground.phase }, { on := 1, ground := Ground.phase }, { on := 2, ground := Ground.phase }, { on := 3, ground := Ground.phase }, { on := 4, ground := Ground.phase }, { on := 5, ground := Ground.phase }, { on := 6, ground := Ground.phase }, { on := 7, ground := Ground.phase }, { on := 8, ground := Ground.phase }, { on := 9, ground := Ground.phase }, { on := 10, ground := Ground.phase }, { on := 11, ground := Ground.phase }, { on := 12, ground := Ground.phase }], guard := none }) (v := ?_) rfl (by kernel_rfl) (by kernel_rfl) (by kernel_rfl) (fun _ _ _ h => h) (Or.inl ⟨by rfl, ?_⟩) (by assumption) ?_
  rotate_left
  · intro w hSw
    skip
    clear hSw
    go_simp
    try with_reducible rfl
  try simp only [Act.put, List.setIfInBounds_toArray, List.set_cons_zero, List.set_cons_succ]
  refine wpAnyH_done (by kernel_rfl) ?_ _
  refine NoPanic.normal ?_
  go_wp2
  go_ret
  exact ⟨_, rfl, rowC_new _ _ _, by have := m10'.size; omega, by rw [size_alloc]; omega, HB0.out.trans ((hHeld.below (B := W0.heap.size) (by omega) (fun _ _ h => h)).mono (by omega))⟩
end Go.Proofs.YtnkencdibniagaaGreatDoor

/- Layer 13, plain: numerals are numbers; what is put is read as it was. -/
namespace Go.Proofs.YtnkencdibniagaaGreatDoor
open Go.Lib

theorem dec_all (n : Nat) : ∀ c ∈ decDigits n, isDg c = true := by
  induction n using Nat.strongRecOn with
  | ind n ih =>
    have one : ∀ k : Fin 10, isDg (UInt8.ofNat (48 + k.val)) = true := by decide
    rw [decDigits]
    split
    · rename_i h
      intro c hc
      rw [List.mem_singleton.1 hc]
      exact one ⟨n, h⟩
    · rename_i h
      intro c hc
      rcases List.mem_append.1 hc with hc | hc
      · exact ih (n / 10) (by omega) c hc
      · rw [List.mem_singleton.1 hc]
        exact one ⟨n % 10, by omega⟩
theorem dec_ne (n : Nat) : decDigits n ≠ [] := by
  rw [decDigits]
  split
  · simp
  · simp
theorem dec_hd (n : Nat) (h : n ≠ 0) : hd (decDigits n) ≠ 48 := by
  induction n using Nat.strongRecOn with
  | ind n ih =>
    have one : ∀ k : Fin 10, k.val ≠ 0 → UInt8.ofNat (48 + k.val) ≠ 48 := by decide
    rw [decDigits]
    split
    · rename_i h10
      exact one ⟨n, h10⟩ h
    · rename_i h10
      rw [hd_app (dec_ne _)]
      exact ih (n / 10) (by omega) (by omega)
theorem dropD_all {l : Bs} (h : ∀ c ∈ l, isDg c = true) : dropD l = [] := by
  induction l with
  | nil => rfl
  | cons c l ih =>
    rw [dropD, if_pos (h c (by simp))]
    exact ih fun x hx => h x (by simp [hx])
theorem dec_num (n : Nat) : isNum (decDigits n) := by
  unfold isNum numP
  have h45 : hd (decDigits n) ≠ 45 := by
    intro e
    have h1 := dec_all n (hd (decDigits n)) (by
      have := dec_ne n
      cases hh : decDigits n with
      | nil => exact absurd hh this
      | cons a l => simp [hd])
    rw [e] at h1
    exact absurd h1 (by decide)
  rw [if_neg h45]
  unfold intP
  have h0 : fracP [] = .ok () [] := by rfl
  by_cases hz : n = 0
  · subst hz
    have : decDigits 0 = [48] := by rw [decDigits]; rfl
    rw [this]
    rfl
  · rw [if_neg (dec_hd n hz), dig_all (dropD_all (dec_all n)) (dec_ne n)]
    exact h0
theorem itoa_of {n : Int} (h : 0 ≤ n) : itoa n = decDigits n.toNat := by
  unfold itoa
  rw [if_neg (by omega)]
theorem itoa_num {n : Int} (h : 0 ≤ n) : isNum (itoa n) := by rw [itoa_of h]; exact dec_num _
/-! ### What is put is read -/
theorem mayD_iff (d : DV) : mayD d = true ↔ 0 ≤ d.size ∧ d.size ≤ 9007199254740992 ∧ validD d.media = true ∧ validD d.os = true ∧ validD d.arch = true := by
  unfold mayD
  simp only [Bool.and_eq_true, decide_eq_true_eq]
  constructor
  · rintro ⟨⟨⟨a, b⟩, c⟩, d, e⟩
    exact ⟨a, b, c, d, e⟩
  · rintro ⟨a, b, c, d, e⟩
    exact ⟨⟨⟨a, b⟩, c⟩, d, e⟩
end Go.Proofs.YtnkencdibniagaaGreatDoor

/- Layer 13, plain: what is put may be. -/
namespace Go.Proofs.YtnkencdibniagaaGreatDoor
open Go.Lib

theorem may_txt {s : Bs} (h : validD s = true) : may (txtJ s) := by
  unfold txtJ
  rw [may]
  exact ⟨by rw [mayL]; trivial, by simp [h]⟩
theorem may_numJ {n : Int} (h : 0 ≤ n) : may (numJ n) := by
  unfold numJ
  rw [may]
  refine ⟨by rw [mayL]; trivial, ?_⟩
  have := itoa_num h
  simp [this]
theorem may_lst {l : List JV} (h : ∀ x ∈ l, may x) : may (lstJ l) := by
  unfold lstJ
  rw [may]
  exact ⟨mayL_of h, by simp⟩
theorem may_objJ {l : List (Bs × JV)} (h : ∀ p ∈ l, may p.2) (hv : (l.map (·.1)).all validD = true) (hn : (l.map (·.1)).Nodup) : may (objJ l) := by
  unfold objJ
  rw [may]
  refine ⟨mayL_of fun x hx => ?_, ?_⟩
  · obtain ⟨p, hp, rfl⟩ := List.mem_map.1 hx
    exact h p hp
  · exact .inr (.inr (.inr (.inr ⟨rfl, rfl, by simp, List.all_eq_true.1 hv, hn⟩)))
theorem valid_ascii : ∀ l : Bs, (∀ c ∈ l, c.toNat < 128) → validD l = true
  | [], _ => rfl
  | b :: t, h => by
    rw [validD_cons b t (h b (by simp))]
    exact valid_ascii t fun c hc => h c (by simp [hc])
theorem hexB_valid : ∀ k : Fin 16, (hexB k.val).toNat < 128 := by decide
theorem valid_text (l : Bs) : validD (textL l) = true := by
  have h : ∀ c ∈ textL l, c.toNat < 128 := by
    intro c hc
    unfold textL at hc
    rcases List.mem_append.1 hc with hc | hc
    · have h0 : ∀ c ∈ nameL, c.toNat < 128 := by decide
      exact h0 c hc
    · unfold hexL at hc
      obtain ⟨b, _, hc⟩ := List.mem_flatMap.1 hc
      have h1 := hexB_valid ⟨b.toNat / 16, by have := b.toNat_lt; omega⟩
      have h2 := hexB_valid ⟨b.toNat % 16, by omega⟩
      simp only [List.mem_cons, List.not_mem_nil, or_false] at hc
      rcases hc with rfl | rfl
      · exact h1
      · exact h2
  exact valid_ascii _ h
theorem may_fld {d : DV} (hm : mayD d = true) : ∀ p ∈ fldJ d, may p.2 := by
  obtain ⟨h1, h2, h3, _⟩ := (mayD_iff d).1 hm
  intro p hp
  unfold fldJ at hp
  simp only [List.mem_cons, List.not_mem_nil, or_false] at hp
  rcases hp with rfl | rfl | rfl
  · exact may_txt h3
  · exact may_txt (valid_text _)
  · exact may_numJ h1
theorem may_bare {d : DV} (hm : mayD d = true) : may (bareJ d) := may_objJ (may_fld hm) (by show [kMed, kDig, kSiz].all validD = true; decide) (by show [kMed, kDig, kSiz].Nodup; decide)
theorem may_pla {os arch : Bs} (h1 : validD os = true) (h2 : validD arch = true) : may (plaJ os arch) := by
  refine may_objJ (fun p hp => ?_) (by show [kOS, kArc].all validD = true; decide) (by show [kOS, kArc].Nodup; decide)
  simp only [List.mem_cons, List.not_mem_nil, or_false] at hp
  rcases hp with rfl | rfl
  · exact may_txt h1
  · exact may_txt h2
theorem may_full {d : DV} (hm : mayD d = true) : may (fullJ d) := by
  obtain ⟨_, _, _, h4, h5⟩ := (mayD_iff d).1 hm
  refine may_objJ (fun p hp => ?_) (by show [kMed, kDig, kSiz, kPla].all validD = true; decide) (by show [kMed, kDig, kSiz, kPla].Nodup; decide)
  rcases List.mem_append.1 hp with hp | hp
  · exact may_fld hm p hp
  · rw [List.mem_singleton.1 hp]
    exact may_pla h4 h5
theorem may_man {c : DV} {l : List DV} (hc : mayD c = true) (hl : ∀ d ∈ l, mayD d = true) : may (manJ c l) := by
  refine may_objJ (fun p hp => ?_) (by show [kVer, kMed, kCfg, kLay].all validD = true; decide) (by show [kVer, kMed, kCfg, kLay].Nodup; decide)
  simp only [List.mem_cons, List.not_mem_nil, or_false] at hp
  rcases hp with rfl | rfl | rfl | rfl
  · exact may_numJ (by decide)
  · exact may_txt (by decide)
  · exact may_bare hc
  · refine may_lst fun x hx => ?_
    obtain ⟨d, hd, rfl⟩ := List.mem_map.1 hx
    exact may_bare (hl d hd)
theorem may_idx {l : List DV} (hl : ∀ d ∈ l, mayD d = true) : may (idxJ l) := by
  refine may_objJ (fun p hp => ?_) (by show [kVer, kMed, kMan].all validD = true; decide) (by show [kVer, kMed, kMan].Nodup; decide)
  simp only [List.mem_cons, List.not_mem_nil, or_false] at hp
  rcases hp with rfl | rfl | rfl
  · exact may_numJ (by decide)
  · exact may_txt (by decide)
  · refine may_lst fun x hx => ?_
    obtain ⟨d, hd, rfl⟩ := List.mem_map.1 hx
    exact may_full (hl d hd)
theorem may_img {p : Bs × Bs} {l : List Bs} (h1 : validD p.1 = true) (h2 : validD p.2 = true) : may (imgJ p l) := by
  refine may_objJ (fun q hq => ?_) (by show [kArc, kOS, kRoo].all validD = true; decide) (by show [kArc, kOS, kRoo].Nodup; decide)
  simp only [List.mem_cons, List.not_mem_nil, or_false] at hq
  rcases hq with rfl | rfl | rfl
  · exact may_txt h2
  · exact may_txt h1
  · refine may_objJ (fun q hq => ?_) (by show [kTyp, kDif].all validD = true; decide) (by show [kTyp, kDif].Nodup; decide)
    simp only [List.mem_cons, List.not_mem_nil, or_false] at hq
    rcases hq with rfl | rfl
    · exact may_txt (by decide)
    · refine may_lst fun x hx => ?_
      obtain ⟨d, hd, rfl⟩ := List.mem_map.1 hx
      exact may_txt (valid_text _)
theorem deep_leaf (v : JV) (h5 : v.kind ≠ 5) (h6 : v.kind ≠ 6) (h : v.items = []) : deep v = 0 := by
  obtain ⟨k, t, items, keys⟩ := v
  have h : items = [] := h
  subst h
  rw [deep, if_neg (by intro e; rcases e with e | e; exact h5 e; exact h6 e), deepL]
theorem deep_objJ {l : List (Bs × JV)} {n : Nat} (h : ∀ p ∈ l, deep p.2 ≤ n) : deep (objJ l) ≤ n + 1 := by
  unfold objJ
  rw [deep, if_pos (.inr rfl)]
  have : deepL (l.map (·.2)) ≤ n := deepL_of fun x hx => by
    obtain ⟨p, hp, rfl⟩ := List.mem_map.1 hx
    exact h p hp
  omega
theorem deep_lst {l : List JV} {n : Nat} (h : ∀ x ∈ l, deep x ≤ n) : deep (lstJ l) ≤ n + 1 := by
  unfold lstJ
  rw [deep, if_pos (.inl rfl)]
  have : deepL l ≤ n := deepL_of h
  omega
theorem deep_txt (s : Bs) : deep (txtJ s) = 0 := deep_leaf _ (show (4 : Int) ≠ 5 by decide) (show (4 : Int) ≠ 6 by decide) rfl
theorem deep_num (n : Int) : deep (numJ n) = 0 := deep_leaf _ (show (3 : Int) ≠ 5 by decide) (show (3 : Int) ≠ 6 by decide) rfl
theorem deep_bare (d : DV) : deep (bareJ d) ≤ 2 := deep_objJ (n := 1) fun p hp => by
  unfold fldJ at hp
  simp only [List.mem_cons, List.not_mem_nil, or_false] at hp
  rcases hp with rfl | rfl | rfl
  · rw [deep_txt]; omega
  · rw [deep_txt]; omega
  · rw [deep_num]; omega
theorem deep_full (d : DV) : deep (fullJ d) ≤ 2 := deep_objJ (n := 1) fun p hp => by
  rcases List.mem_append.1 hp with hp | hp
  · unfold fldJ at hp
    simp only [List.mem_cons, List.not_mem_nil, or_false] at hp
    rcases hp with rfl | rfl | rfl
    · rw [deep_txt]; omega
    · rw [deep_txt]; omega
    · rw [deep_num]; omega
  · rw [List.mem_singleton.1 hp]
    refine deep_objJ (n := 0) fun q hq => ?_
    simp only [List.mem_cons, List.not_mem_nil, or_false] at hq
    rcases hq with rfl | rfl
    · rw [deep_txt]; omega
    · rw [deep_txt]; omega
theorem deep_man (c : DV) (l : List DV) : deep (manJ c l) ≤ 4 := deep_objJ (n := 3) fun p hp => by
  simp only [List.mem_cons, List.not_mem_nil, or_false] at hp
  rcases hp with rfl | rfl | rfl | rfl
  · rw [deep_num]; omega
  · rw [deep_txt]; omega
  · exact Nat.le_trans (deep_bare c) (by omega)
  · exact deep_lst (n := 2) fun x hx => by
      obtain ⟨d, _, rfl⟩ := List.mem_map.1 hx
      exact deep_bare d
theorem deep_idx (l : List DV) : deep (idxJ l) ≤ 4 := deep_objJ (n := 3) fun p hp => by
  simp only [List.mem_cons, List.not_mem_nil, or_false] at hp
  rcases hp with rfl | rfl | rfl
  · rw [deep_num]; omega
  · rw [deep_txt]; omega
  · exact deep_lst (n := 2) fun x hx => by
      obtain ⟨d, _, rfl⟩ := List.mem_map.1 hx
      exact deep_full d
theorem deep_img (p : Bs × Bs) (l : List Bs) : deep (imgJ p l) ≤ 4 := deep_objJ (n := 3) fun q hq => by
  simp only [List.mem_cons, List.not_mem_nil, or_false] at hq
  rcases hq with rfl | rfl | rfl
  · rw [deep_txt]; omega
  · rw [deep_txt]; omega
  · refine deep_objJ (n := 2) fun q hq => ?_
    simp only [List.mem_cons, List.not_mem_nil, or_false] at hq
    rcases hq with rfl | rfl
    · rw [deep_txt]; omega
    · exact Nat.le_trans (deep_lst (n := 0) fun x hx => by
        obtain ⟨d, _, rfl⟩ := List.mem_map.1 hx
        rw [deep_txt]; omega) (by omega)
/-! ### Turned -/
end Go.Proofs.YtnkencdibniagaaGreatDoor

