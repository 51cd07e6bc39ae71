/- Layer 15: the program's reader: a step. -/
import Derived.Test.YtmgpofdmoaafoaaGreatDoorTrH
import Derived.Test.YtmgpofdmoaafoaaGreatDoorStp
namespace Go.Proofs.YtmgpofdmoaafoaaGreatDoor
open Go.RowKit
attribute [local go_sem] wide_fn round_fn

theorem wpQuietIn_load_midG {F : Fence} {n : Nat} {P : Program} {ops : Array Oper} {C : World → Prop} {Q : Act → Prop} {o : Oper} {rest : List Oper} {a : Act} (hF : ∀ f, F.fn f) (hw : Region.wanted o (yielded ops a.tmps) = true) (ty : TypeId) (x : Operand) (ho : o.op = .load ty x)
    (b k : Nat) (hx : a.eval x = .pointer (some ⟨b, k, none⟩)) (cs : List Value) (d : TypeDesc) (hc : ∀ w, C w → w.rangeAt b k cs)
    (hu : P.underlying ty = some d) (hd : d.isRow = true) (hi : (P.info? ty).map (·.size) = some cs.length)
    (h : wpQuietIn F n P ops C Q rest (a.put o.dst (.agg cs.toArray))) : wpQuietIn F n P ops C Q (o :: rest) a :=
  wpQuietIn_step (fun _ _ f _ => hF f) (fun K hK => by
    rw [if_pos hw]
    exact ⟨.agg cs.toArray, fun w hC => by
    unfold Oper.quietAtIn execOp
    simp only [ho, hx, Instr.loadAt, Instr.sureAddr, Sem.run_bind, Sem.run_pure, Result.andThen_ok, run_loadVar_mid w b k ty cs d (hc w hC) hu hd hi]
    exact ⟨rfl, rfl⟩, hK _ h⟩)
theorem step_120 {h : Hd} {rest : Bs} {wt : Option Recs} {out : List Ent} {d r' : Bs} (hnl : ¬ (h.kind = 49 ∨ h.kind = 50 ∨ h.kind = 53)) (h0 : ¬ (h.kind = 0 ∨ h.kind = 48)) (h120 : h.kind = 120) (ht : takeR h.size rest = some (d, r')) :
    stepR h rest wt out = match waitR d wt with | none => .inl 10 | some rs => .inr (r', some rs, out) := by
  unfold stepR waitR
  rw [if_neg hnl, if_neg h0, if_pos h120, ht]
  dsimp only
  cases recsR d ⟨none, none, none⟩ with
  | none => rfl
  | some rs => cases wt <;> rfl
theorem i64_mask (n : Int) (j : Nat) (hj : j ≤ 60) (m : Int) (hm : (BitVec.ofInt 64 m).toNat = 2 ^ j - 1) : bits .and .i64 n m = n % ((2 ^ j : Nat) : Int) := by
  have key : (BitVec.ofInt 64 n &&& BitVec.ofInt 64 m).toNat = (n % ((2 ^ 64 : Nat) : Int)).toNat % 2 ^ j := by
    rw [BitVec.toNat_and, BitVec.toNat_ofInt, hm, Nat.and_two_pow_sub_one_eq_mod]
  show IntKind.i64.wrap ((BitVec.ofInt 64 n &&& BitVec.ofInt 64 m).toNat : Nat) = n % ((2 ^ j : Nat) : Int)
  rw [key, IntKind.wrap_i64]
  have hp : (2 ^ j) ∣ 18446744073709551616 := by
    have : (2 : Nat) ^ j ∣ 2 ^ 64 := Nat.pow_dvd_pow 2 (by omega)
    simpa using this
  have hle : 2 ^ j ≤ 1152921504606846976 := Nat.le_trans (Nat.pow_le_pow_right (n := 2) (by omega) hj) (by decide)
  have hpos : 0 < 2 ^ j := Nat.two_pow_pos j
  generalize 2 ^ j = p at *
  obtain ⟨q, hq⟩ := hp
  have h1 : (n % ((2 ^ 64 : Nat) : Int)).toNat % p < p := Nat.mod_lt _ hpos
  have h2 : (((n % ((2 ^ 64 : Nat) : Int)).toNat % p : Nat) : Int) = n % (p : Int) := by
    rw [Int.natCast_emod, Int.toNat_of_nonneg (Int.emod_nonneg _ (by decide))]
    exact Int.emod_emod_of_dvd _ ⟨(q : Int), by rw [← Int.natCast_mul, ← hq]⟩
  rw [h2]
  have h3 : n % (p : Int) < p := Int.emod_lt_of_pos _ (by omega)
  have h4 : 0 ≤ n % (p : Int) := Int.emod_nonneg _ (by omega)
  omega
theorem i64_and4095 (n : Nat) : bits .and .i64 (n : Int) 4095 = ((n % 4096 : Nat) : Int) := by
  rw [i64_mask n 12 (by decide) 4095 (by decide)]
  rfl
/-- Bounds on what waits and on a head. -/
structure WtB (wt : Option Recs) : Prop where
  p : ((wPath wt).getD []).length ≤ 1000000000
  l : ((wLink wt).getD []).length ≤ 1000000000
  s : ((wSize wt).getD []).length ≤ 1000000000
structure HdB (h : Hd) : Prop where
  name : h.name.length ≤ 1000000000
  link : h.link.length ≤ 1000000000
  size : h.size ≤ 1099511627775
  mode : h.mode ≤ 1099511627775
theorem getD_bound {o : Option Bs} {d : Bs} (h : (o.getD []).length ≤ 1000000000) (hd : d.length ≤ 1000000000) : (o.getD d).length ≤ 1000000000 := by
  cases o with
  | none => exact hd
  | some x => exact h
def codeS : Nat ⊕ (Bs × Option Recs × List Ent) → Nat
  | .inl c => c
  | .inr _ => 0
def RestS (w' : World) (B : Nat) : Nat ⊕ (Bs × Option Recs × List Ent) → Prop
  | .inl c => c ≠ 0
  | .inr (rest', wt', out') => ∃ v', rowC w' B (rdrV rest' wt' v') 50 ∧ OwnsE w' (B + 1) v' out'
theorem says_split {w' : World} {B : Nat} {r : Nat ⊕ (Bs × Option Recs × List Ent)} {e : Ending} (h : SaysS w' B r e) : e = .returned (.int .i64 (codeS r : Int)) ∧ RestS w' B r := by
  cases r with
  | inl c => exact h
  | inr p => obtain ⟨a, b, c⟩ := p; exact h
theorem says_join {w' : World} {B : Nat} {r : Nat ⊕ (Bs × Option Recs × List Ent)} (h : RestS w' B r) : SaysS w' B r (.returned (.int .i64 (codeS r : Int))) := by
  cases r with
  | inl c => exact ⟨rfl, h⟩
  | inr p => obtain ⟨a, b, c⟩ := p; exact ⟨rfl, h⟩
set_option maxRecDepth 100000 in
set_option maxHeartbeats 16000000 in
theorem step_any (B : Nat) (rest : Bs) (wt : Option Recs) (v : Value) (out : List Ent) (h : Hd) (hh : HdB h) (hwt : WtB wt) (hr : rest.length ≤ 1000000000) (hout : out.length ≤ 200) (w : World) (hR : rowC w B (rdrV rest wt v) 50) (ho : OwnsE w (B + 1) v out) :
    Calls Tryz.prog 21 #[.pointer (some ⟨B, 0, none⟩), .agg #[.string (str h.name), .string (str h.link), .int .i64 (h.mode : Int), .int .i64 (h.size : Int), .int .u8 (h.kind.toNat : Int)]] w fun e w' =>
      SaysS w' B (stepR h rest wt out) e ∧ Below B w w' := by
  obtain ⟨m4, hm4e⟩ : ∃ m4 : Nat, m4 = h.mode % 4096 := ⟨_, rfl⟩
  have HM4 := Lib.hid hm4e
  have HI5 : Hid ((Tryz.prog.info? 39).map (·.size) = some (entA ⟨kindL h.kind, (wPath wt).getD h.name, [], (m4 : Int), []⟩).size) := Lib.hid info_ent5
  have HIV := Lib.hid info_val
  have hBlt := rowC_lt hR
  obtain ⟨W0, hW0⟩ : ∃ W0, W0 = w.alloc (.cells #[.string (str h.name), .string (str h.link), .int .i64 (h.mode : Int), .int .i64 (h.size : Int), .int .u8 (h.kind.toNat : Int)] 56) := ⟨_, rfl⟩
  have Z0 : rowC W0 w.heap.size #[.string (str h.name), .string (str h.link), .int .i64 (h.mode : Int), .int .i64 (h.size : Int), .int .u8 (h.kind.toNat : Int)] 56 := by rw [hW0]; exact rowC_new w _ _
  have Y0 : rowC W0 B (rdrV rest wt v) 50 := by rw [hW0]; exact rowC_alloc hR _
  have B0 : Below w.heap.size w W0 := by rw [hW0]; exact (Below.refl _ _).alloc (Nat.le_refl _) _
  have O0 : OwnsE W0 (B + 1) v out := (Chg.of_below (s := fun _ => False) B0).owns ho (fun _ _ hf => hf)
  have S0 : W0.heap.size = w.heap.size + 1 := by rw [hW0, size_alloc]
  have HFAR := Lib.hid (own_far ho)
  have HOLT := Lib.hid (fun k (e : v.ownBlock = some k) => (World.ownsRow.lt ho k e).2)
  have HBB : Hid (Below B w W0) := Lib.hid (B0.mono (by omega))
  have HW0 := Lib.hid hW0
  have HZ0 := Lib.hid Z0
  have HY0 := Lib.hid Y0
  have HO0 := Lib.hid O0
  have HS0 := Lib.hid S0
  have HBL := Lib.hid hBlt
  have HHB := Lib.hid hh
  have HWT := Lib.hid hwt
  have HRL := Lib.hid hr
  have HOUT := Lib.hid hout
  have hm4 := i64_and4095 h.mode
  rw [← hm4e] at hm4
  clear hm4e
  have CK := fun w => kind_any h.kind w
  have CO := fun w => or_any (wPath wt) h.name w
  have HST : Hid (stepR h rest wt out = stepR h rest wt out) := Lib.hid rfl
  obtain ⟨X, hX⟩ : ∃ X : Array Value, X = entA ⟨kindL h.kind, (wPath wt).getD h.name, [], (m4 : Int), []⟩ := ⟨_, rfl⟩
  have HX := Lib.hid hX
  rw [← hX] at HI5
  have HX5 : Hid (5 = X.size) := Lib.hid (by rw [hX]; rfl)
  have HXO : Hid (X.all (·.oneCell') = true) := Lib.hid (by rw [hX]; exact entA_one _)
  unfold entA at hX
  clear hW0 Z0 Y0 B0 O0 S0 hR ho hBlt hh hwt hr hout
  go_enter Tryz.func21, Tryz.ntmps21
  go_upto_region 1 with (fail)
  rw [← HW0.out]
  have OS : ∀ w', Gn W0 no w' → (w'.cell? ⟨w.heap.size, 4, none⟩ = some (.int .u8 (h.kind.toNat : Int)) ∧ w'.cell? ⟨w.heap.size, 0, none⟩ = some (.string (str h.name)) ∧ w'.cell? ⟨w.heap.size, 2, none⟩ = some (.int .i64 (h.mode : Int))) ∧ w'.rangeAt B 2 [.string (str ((wPath wt).getD [])), .bool (wPath wt).isSome] := fun w' hg =>
    ⟨⟨rowC_cell (hg.row HZ0.out id) 4, rowC_cell (hg.row HZ0.out id) 0, rowC_cell (hg.row HZ0.out id) 2⟩, rowC_range (hg.row HY0.out id) 2 _ (fun j u hj => by
      match j, hj with
      | 0, hj => exact hj
      | 1, hj => exact hj)⟩
  have SO : ∀ w', Gn W0 no w' → Gn W0 no w' := fun _ h => h
  have ui := Tryz.underlying46
  have ii := info_val
  have hno : Gn W0 no W0.drew := Gn.start _ _
  have LL1 := True.intro
  have LL2 := True.intro
  have LL3 := True.intro
  refine wp_region_noPanic ?_
  refine wp_region_held_drew (S := Gn W0 no) (by kernel_rfl) (Gn.start _ _) (fun hHeld => ?_)
  generalize W0.drew = wd at *
  refine wpAnyH_take (i := 0) (oi := { dst := some 8, op := Op.fieldAddr 56 (Operand.tmp 3) 4, type := 0, pos := "tar.go:146", after := #[], guard := none }) (v := ?_) rfl (by kernel_rfl) (by kernel_rfl) (by kernel_rfl) (fun _ _ _ h => h) (Or.inl ⟨by rfl, ?_⟩) (by assumption) ?_
  rotate_left
  · intro w hSw
    skip
    clear hSw
    go_simp
    try with_reducible rfl
  try simp only [Act.put, List.setIfInBounds_toArray, List.set_cons_zero, List.set_cons_succ]
  refine wpAnyH_take (i := 3) (oi := { dst := some 11, op := Op.move (Operand.tmp 0), type := 76, pos := "tar.go:146", after := #[], guard := none }) (v := ?_) rfl (by kernel_rfl) (by kernel_rfl) (by kernel_rfl) (fun _ _ _ h => h) (Or.inl ⟨by rfl, ?_⟩) (by assumption) ?_
  rotate_left
  · intro w hSw
    skip
    clear hSw
    go_simp
    try with_reducible rfl
  try simp only [Act.put, List.setIfInBounds_toArray, List.set_cons_zero, List.set_cons_succ]
  refine wpAnyH_take (i := 4) (oi := { dst := some 12, op := Op.nilCheck (Operand.tmp 11), type := 0, pos := "tar.go:146", after := #[{ on := 3, ground := Ground.data }], guard := none }) (v := ?_) rfl (by kernel_rfl) (by kernel_rfl) (by kernel_rfl) (fun _ _ _ h => h) (Or.inl ⟨by rfl, ?_⟩) (by assumption) ?_
  rotate_left
  · intro w hSw
    skip
    clear hSw
    go_simp
    try with_reducible rfl
  try simp only [Act.put, List.setIfInBounds_toArray, List.set_cons_zero, List.set_cons_succ]
  refine wpAnyH_take (i := 5) (oi := { dst := some 13, op := Op.fieldAddr 50 (Operand.tmp 12) 1, type := 0, pos := "tar.go:146", after := #[{ on := 4, ground := Ground.data }], guard := none }) (v := ?_) rfl (by kernel_rfl) (by kernel_rfl) (by kernel_rfl) (fun _ _ _ h => h) (Or.inl ⟨by rfl, ?_⟩) (by assumption) ?_
  rotate_left
  · intro w hSw
    skip
    clear hSw
    go_simp
    try with_reducible rfl
  try simp only [Act.put, List.setIfInBounds_toArray, List.set_cons_zero, List.set_cons_succ]
  refine wpAnyH_take (i := 6) (oi := { dst := some 14, op := Op.fieldAddr 48 (Operand.tmp 13) 1, type := 0, pos := "tar.go:146", after := #[{ on := 5, ground := Ground.data }], guard := none }) (v := ?_) rfl (by kernel_rfl) (by kernel_rfl) (by kernel_rfl) (fun _ _ _ h => h) (Or.inl ⟨by rfl, ?_⟩) (by assumption) ?_
  rotate_left
  · intro w hSw
    skip
    clear hSw
    go_simp
    try with_reducible rfl
  try simp only [Act.put, List.setIfInBounds_toArray, List.set_cons_zero, List.set_cons_succ]
  refine wpAnyH_take (i := 8) (oi := { dst := some 16, op := Op.fieldAddr 56 (Operand.tmp 3) 0, type := 0, pos := "tar.go:146", after := #[], guard := none }) (v := ?_) rfl (by kernel_rfl) (by kernel_rfl) (by kernel_rfl) (fun _ _ _ h => h) (Or.inl ⟨by rfl, ?_⟩) (by assumption) ?_
  rotate_left
  · intro w hSw
    skip
    clear hSw
    go_simp
    try with_reducible rfl
  try simp only [Act.put, List.setIfInBounds_toArray, List.set_cons_zero, List.set_cons_succ]
  refine wpAnyH_take (i := 11) (oi := { dst := some 19, op := Op.fieldAddr 56 (Operand.tmp 3) 2, type := 0, pos := "tar.go:146", after := #[], guard := none }) (v := ?_) rfl (by kernel_rfl) (by kernel_rfl) (by kernel_rfl) (fun _ _ _ h => h) (Or.inl ⟨by rfl, ?_⟩) (by assumption) ?_
  rotate_left
  · intro w hSw
    skip
    clear hSw
    go_simp
    try with_reducible rfl
  try simp only [Act.put, List.setIfInBounds_toArray, List.set_cons_zero, List.set_cons_succ]
  refine wpAnyH_take (i := 1) (oi := { dst := some 9, op := Op.load 5 (Operand.tmp 8), type := 5, pos := "tar.go:146", after := #[{ on := 0, ground := Ground.data }], guard := none }) (v := ?_) rfl (by kernel_rfl) (by kernel_rfl) (by kernel_rfl) (fun _ _ _ h => h) (Or.inl ⟨by rfl, ?_⟩) (by assumption) ?_
  rotate_left
  · intro w hSw
    have hSw := OS _ hSw
    go_simp
    try with_reducible rfl
  try simp only [Act.put, List.setIfInBounds_toArray, List.set_cons_zero, List.set_cons_succ]
  refine wpAnyH_take (i := 7) (oi := { dst := some 15, op := Op.load 46 (Operand.tmp 14), type := 46, pos := "tar.go:146", after := #[{ on := 6, ground := Ground.data }], guard := none }) (v := _) rfl (by kernel_rfl) (by kernel_rfl) (by kernel_rfl) (fun _ _ _ h => h) (yieldsIf_load_mid (by rfl) _ _ rfl _ _ rfl _ _ (by intro w hSw; have hSw := OS _ hSw; go_split_ands; assumption) (by assumption) rfl (by assumption)) (by assumption) ?_
  try simp only [Act.put, List.setIfInBounds_toArray, List.set_cons_zero, List.set_cons_succ]
  refine wpAnyH_take (i := 9) (oi := { dst := some 17, op := Op.load 9 (Operand.tmp 16), type := 9, pos := "tar.go:146", after := #[{ on := 8, ground := Ground.data }], guard := none }) (v := ?_) rfl (by kernel_rfl) (by kernel_rfl) (by kernel_rfl) (fun _ _ _ h => h) (Or.inl ⟨by rfl, ?_⟩) (by assumption) ?_
  rotate_left
  · intro w hSw
    have hSw := OS _ hSw
    go_simp
    try with_reducible rfl
  try simp only [Act.put, List.setIfInBounds_toArray, List.set_cons_zero, List.set_cons_succ]
  refine wpAnyH_take (i := 12) (oi := { dst := some 20, op := Op.load 3 (Operand.tmp 19), type := 3, pos := "tar.go:146", after := #[{ on := 11, ground := Ground.data }], guard := none }) (v := ?_) rfl (by kernel_rfl) (by kernel_rfl) (by kernel_rfl) (fun _ _ _ h => h) (Or.inl ⟨by rfl, ?_⟩) (by assumption) ?_
  rotate_left
  · intro w hSw
    have hSw := OS _ hSw
    go_simp
    try with_reducible rfl
  try simp only [Act.put, List.setIfInBounds_toArray, List.set_cons_zero, List.set_cons_succ]
  refine wpAnyH_take (i := 13) (oi := { dst := some 21, op := Op.binOp BinOp.and 3 (Operand.tmp 20) (Operand.const (Value.int IntKind.i64 4095)) 3, type := 3, pos := "tar.go:146", after := #[{ on := 12, ground := Ground.data }], guard := none }) (v := ?_) rfl (by kernel_rfl) (by kernel_rfl) (by kernel_rfl) (fun _ _ _ h => h) (Or.inl ⟨by rfl, ?_⟩) (by assumption) ?_
  rotate_left
  · intro w hSw
    skip
    clear hSw
    go_simp
    try with_reducible rfl
  try simp only [Act.put, List.setIfInBounds_toArray, List.set_cons_zero, List.set_cons_succ]
  refine wpAnyH_ready (rs := [2, 15]) (by kernel_rfl) (by simp) ?_
  refine (AllReadyH.cons (o := { dst := some 10, op := Op.call { callee := Callee.value (Operand.func 41), args := #[Operand.tmp 9], argTypes := #[5] }, type := 3, pos := "tar.go:146", after := #[{ on := 1, ground := Ground.data }], guard := none }) rfl (fun K hK => ?_) (AllReadyH.cons (o := { dst := some 5, op := Op.alloc 39, type := 0, pos := "tar.go:146", after := #[], guard := none }) rfl (fun K hK => ?_) AllReadyH.nil))
  focus
    go_simp
    with_reducible refine (CK _).mono ?_
    rintro e w2' ⟨rfl, rfl⟩
    refine hK.out _ _ (SO _ hHeld) (fun hHeld => ?_)
    clear hK K
    try simp only [Act.put, List.setIfInBounds_toArray, List.set_cons_zero, List.set_cons_succ]
    refine wpAnyH_ready (rs := [10, 15]) (by kernel_rfl) (by simp) ?_
    refine (AllReadyH.cons (o := { dst := some 18, op := Op.call { callee := Callee.value (Operand.func 42), args := #[Operand.tmp 15, Operand.tmp 17], argTypes := #[46, 9] }, type := 9, pos := "tar.go:146", after := #[{ on := 7, ground := Ground.data }, { on := 9, ground := Ground.data }, { on := 2, ground := Ground.chain }], guard := none }) rfl (fun K hK => ?_) (AllReadyH.cons (o := { dst := some 5, op := Op.alloc 39, type := 0, pos := "tar.go:146", after := #[], guard := none }) rfl (fun K hK => ?_) AllReadyH.nil))
    focus
      go_simp
      with_reducible refine (CO _).mono ?_
      rintro e w10' ⟨rfl, hb10⟩
      refine hK.out _ _ (SO _ (Gn.call hHeld hb10)) (fun hHeld => ?_)
      clear hK K
      try simp only [Act.put, List.setIfInBounds_toArray, List.set_cons_zero, List.set_cons_succ]
      refine wpAnyH_take (i := 14) (oi := { dst := some 22, op := Op.build 39 #[(0, Operand.tmp 10), (1, Operand.tmp 18), (3, Operand.tmp 21)], type := 39, pos := "tar.go:146", after := #[{ on := 2, ground := Ground.data }, { on := 10, ground := Ground.data }, { on := 13, ground := Ground.data }], guard := none }) (v := ?_) rfl (by kernel_rfl) (by kernel_rfl) (by kernel_rfl) (fun _ _ _ h => h) (Or.inl ⟨by rfl, ?_⟩) (by assumption) ?_
      rotate_left
      · intro w hSw
        skip
        clear hSw
        go_simp
        try with_reducible rfl
      try simp only [Act.put, List.setIfInBounds_toArray, List.set_cons_zero, List.set_cons_succ]
      refine wpAnyH_ready (rs := [15]) (by kernel_rfl) (by simp) ?_
      refine (AllReadyH.cons (o := { dst := some 5, op := Op.alloc 39, type := 0, pos := "tar.go:146", after := #[], guard := none }) rfl (fun K hK => ?_) AllReadyH.nil)
      skip
      go_simp
      refine hK.out _ _ (SO _ (by first | exact Gn.alloc hHeld _ | exact Gn.set hHeld _ _ (.inr (by first | exact hno.size | exact Nat.le_trans hno.size hb10.size)))) (fun hHeld => ?_)
      clear hK K
      try simp only [Act.put, List.setIfInBounds_toArray, List.set_cons_zero, List.set_cons_succ]
      refine wpAnyH_ready (rs := [16]) (by kernel_rfl) (by simp) ?_
      refine (AllReadyH.cons (o := { dst := none, op := Op.store 39 (Operand.tmp 5) (Operand.tmp 22), type := 0, pos := "tar.go:146", after := #[{ on := 15, ground := Ground.data }, { on := 14, ground := Ground.data }, { on := 10, ground := Ground.chain }, { on := 0, ground := Ground.phase }, { on := 1, ground := Ground.phase }, { on := 2, ground := Ground.phase }, { on := 3, ground := Ground.phase }, { on := 4, ground := Ground.phase }, { on := 5, ground := Ground.phase }, { on := 6, ground := Ground.phase }, { on := 7, ground := Ground.phase }, { on := 8, ground := Ground.phase }, { on := 9, ground := Ground.phase }, { on := 10, ground := Ground.phase }, { on := 11, ground := Ground.phase }, { on := 12, ground := Ground.phase }, { on := 13, ground := Ground.phase }, { on := 14, ground := Ground.phase }, { on := 15, ground := Ground.phase }], guard := none }) rfl (fun K hK => ?_) AllReadyH.nil)
      refine step_store_row (by rfl) 39 _ _ (by rfl) w10'.heap.size X (by rfl) (by rw [hX]; rfl) 39 #[.int .i64 0, .string ⟨#[]⟩, .string ⟨#[]⟩, .int .i64 0, .string ⟨#[]⟩] (rowC_new _ _ _) HI5.out HX5.out HXO.out ?_
      refine hK.out _ _ (SO _ (by first | exact Gn.alloc hHeld _ | exact Gn.set hHeld _ _ (.inr (by first | exact hno.size | exact Nat.le_trans hno.size hb10.size)))) (fun hHeld => ?_)
      clear hK K
      try simp only [Act.put]
      refine wpAnyH_done (by kernel_rfl) ?_ _
      refine NoPanic.normal ?_
      have HXR : Hid (rowC ((w10'.alloc (.cells #[.int .i64 0, .string ⟨#[]⟩, .string ⟨#[]⟩, .int .i64 0, .string ⟨#[]⟩] 39)).setRow w10'.heap.size X) w10'.heap.size X 39) := Lib.hid (rowC_setRow (rowC_new _ _ _) _)
      have HG := Lib.hid hHeld
      have HGE := Lib.hid (show W0.heap.size ≤ w10'.heap.size from Nat.le_trans hno.size hb10.size)
      clear hHeld hb10 hno LL1 LL2 LL3 OS SO
      generalize (w10'.alloc (.cells #[.int .i64 0, .string ⟨#[]⟩, .string ⟨#[]⟩, .int .i64 0, .string ⟨#[]⟩] 39)).setRow w10'.heap.size X = W2 at *
      generalize w10'.heap.size = xb at *
    rotate_left 1
    focus
      skip
      go_simp
      refine hK.out _ _ (SO _ (by first | exact Gn.alloc hHeld _ | exact Gn.set hHeld _ _ (.inr (by first | exact hno.size | exact Nat.le_trans hno.size hb10.size)))) (fun hHeld => ?_)
      clear hK K
      try simp only [Act.put, List.setIfInBounds_toArray, List.set_cons_zero, List.set_cons_succ]
      refine wpAnyH_ready (rs := [10]) (by kernel_rfl) (by simp) ?_
      refine (AllReadyH.cons (o := { dst := some 18, op := Op.call { callee := Callee.value (Operand.func 42), args := #[Operand.tmp 15, Operand.tmp 17], argTypes := #[46, 9] }, type := 9, pos := "tar.go:146", after := #[{ on := 7, ground := Ground.data }, { on := 9, ground := Ground.data }, { on := 2, ground := Ground.chain }], guard := none }) rfl (fun K hK => ?_) AllReadyH.nil)
      go_simp
      with_reducible refine (CO _).mono ?_
      rintro e w10' ⟨rfl, hb10⟩
      refine hK.out _ _ (SO _ (Gn.call hHeld hb10)) (fun hHeld => ?_)
      clear hK K
      try simp only [Act.put, List.setIfInBounds_toArray, List.set_cons_zero, List.set_cons_succ]
      refine wpAnyH_take (i := 14) (oi := { dst := some 22, op := Op.build 39 #[(0, Operand.tmp 10), (1, Operand.tmp 18), (3, Operand.tmp 21)], type := 39, pos := "tar.go:146", after := #[{ on := 2, ground := Ground.data }, { on := 10, ground := Ground.data }, { on := 13, ground := Ground.data }], guard := none }) (v := ?_) rfl (by kernel_rfl) (by kernel_rfl) (by kernel_rfl) (fun _ _ _ h => h) (Or.inl ⟨by rfl, ?_⟩) (by assumption) ?_
      rotate_left
      · intro w hSw
        skip
        clear hSw
        go_simp
        try with_reducible rfl
      try simp only [Act.put, List.setIfInBounds_toArray, List.set_cons_zero, List.set_cons_succ]
      refine wpAnyH_ready (rs := [16]) (by kernel_rfl) (by simp) ?_
      refine (AllReadyH.cons (o := { dst := none, op := Op.store 39 (Operand.tmp 5) (Operand.tmp 22), type := 0, pos := "tar.go:146", after := #[{ on := 15, ground := Ground.data }, { on := 14, ground := Ground.data }, { on := 10, ground := Ground.chain }, { on := 0, ground := Ground.phase }, { on := 1, ground := Ground.phase }, { on := 2, ground := Ground.phase }, { on := 3, ground := Ground.phase }, { on := 4, ground := Ground.phase }, { on := 5, ground := Ground.phase }, { on := 6, ground := Ground.phase }, { on := 7, ground := Ground.phase }, { on := 8, ground := Ground.phase }, { on := 9, ground := Ground.phase }, { on := 10, ground := Ground.phase }, { on := 11, ground := Ground.phase }, { on := 12, ground := Ground.phase }, { on := 13, ground := Ground.phase }, { on := 14, ground := Ground.phase }, { on := 15, ground := Ground.phase }], guard := none }) rfl (fun K hK => ?_) AllReadyH.nil)
      refine step_store_row (by rfl) 39 _ _ (by rfl) wd.heap.size X (by rfl) (by rw [hX]; rfl) 39 #[.int .i64 0, .string ⟨#[]⟩, .string ⟨#[]⟩, .int .i64 0, .string ⟨#[]⟩] (rowC_below (rowC_new _ _ _) hb10 (by rw [size_alloc]; omega)) HI5.out HX5.out HXO.out ?_
      refine hK.out _ _ (SO _ (by first | exact Gn.alloc hHeld _ | exact Gn.set hHeld _ _ (.inr (by first | exact hno.size | exact Nat.le_trans hno.size hb10.size)))) (fun hHeld => ?_)
      clear hK K
      try simp only [Act.put]
      refine wpAnyH_done (by kernel_rfl) ?_ _
      refine NoPanic.normal ?_
      have HXR : Hid (rowC (w10'.setRow wd.heap.size X) wd.heap.size X 39) := Lib.hid (rowC_setRow (rowC_below (rowC_new _ _ _) hb10 (by rw [size_alloc]; omega)) _)
      have HG := Lib.hid hHeld
      have HGE := Lib.hid (show W0.heap.size ≤ wd.heap.size from hno.size)
      clear hHeld hb10 hno LL1 LL2 LL3 OS SO
      generalize w10'.setRow wd.heap.size X = W2 at *
      generalize wd.heap.size = xb at *
    rotate_left 1
  rotate_left 2
  focus
    skip
    go_simp
    refine hK.out _ _ (SO _ (by first | exact Gn.alloc hHeld _ | exact Gn.set hHeld _ _ (.inr (by first | exact hno.size | exact Nat.le_trans hno.size hb10.size)))) (fun hHeld => ?_)
    clear hK K
    try simp only [Act.put, List.setIfInBounds_toArray, List.set_cons_zero, List.set_cons_succ]
    refine wpAnyH_ready (rs := [2]) (by kernel_rfl) (by simp) ?_
    refine (AllReadyH.cons (o := { dst := some 10, op := Op.call { callee := Callee.value (Operand.func 41), args := #[Operand.tmp 9], argTypes := #[5] }, type := 3, pos := "tar.go:146", after := #[{ on := 1, ground := Ground.data }], guard := none }) rfl (fun K hK => ?_) AllReadyH.nil)
    go_simp
    with_reducible refine (CK _).mono ?_
    rintro e w2' ⟨rfl, rfl⟩
    refine hK.out _ _ (SO _ hHeld) (fun hHeld => ?_)
    clear hK K
    try simp only [Act.put, List.setIfInBounds_toArray, List.set_cons_zero, List.set_cons_succ]
    refine wpAnyH_ready (rs := [10]) (by kernel_rfl) (by simp) ?_
    refine (AllReadyH.cons (o := { dst := some 18, op := Op.call { callee := Callee.value (Operand.func 42), args := #[Operand.tmp 15, Operand.tmp 17], argTypes := #[46, 9] }, type := 9, pos := "tar.go:146", after := #[{ on := 7, ground := Ground.data }, { on := 9, ground := Ground.data }, { on := 2, ground := Ground.chain }], guard := none }) rfl (fun K hK => ?_) AllReadyH.nil)
    go_simp
    with_reducible refine (CO _).mono ?_
    rintro e w10' ⟨rfl, hb10⟩
    refine hK.out _ _ (SO _ (Gn.call hHeld hb10)) (fun hHeld => ?_)
    clear hK K
    try simp only [Act.put, List.setIfInBounds_toArray, List.set_cons_zero, List.set_cons_succ]
    refine wpAnyH_take (i := 14) (oi := { dst := some 22, op := Op.build 39 #[(0, Operand.tmp 10), (1, Operand.tmp 18), (3, Operand.tmp 21)], type := 39, pos := "tar.go:146", after := #[{ on := 2, ground := Ground.data }, { on := 10, ground := Ground.data }, { on := 13, ground := Ground.data }], guard := none }) (v := ?_) rfl (by kernel_rfl) (by kernel_rfl) (by kernel_rfl) (fun _ _ _ h => h) (Or.inl ⟨by rfl, ?_⟩) (by assumption) ?_
    rotate_left
    · intro w hSw
      skip
      clear hSw
      go_simp
      try with_reducible rfl
    try simp only [Act.put, List.setIfInBounds_toArray, List.set_cons_zero, List.set_cons_succ]
    refine wpAnyH_ready (rs := [16]) (by kernel_rfl) (by simp) ?_
    refine (AllReadyH.cons (o := { dst := none, op := Op.store 39 (Operand.tmp 5) (Operand.tmp 22), type := 0, pos := "tar.go:146", after := #[{ on := 15, ground := Ground.data }, { on := 14, ground := Ground.data }, { on := 10, ground := Ground.chain }, { on := 0, ground := Ground.phase }, { on := 1, ground := Ground.phase }, { on := 2, ground := Ground.phase }, { on := 3, ground := Ground.phase }, { on := 4, ground := Ground.phase }, { on := 5, ground := Ground.phase }, { on := 6, ground := Ground.phase }, { on := 7, ground := Ground.phase }, { on := 8, ground := Ground.phase }, { on := 9, ground := Ground.phase }, { on := 10, ground := Ground.phase }, { on := 11, ground := Ground.phase }, { on := 12, ground := Ground.phase }, { on := 13, ground := Ground.phase }, { on := 14, ground := Ground.phase }, { on := 15, ground := Ground.phase }], guard := none }) rfl (fun K hK => ?_) AllReadyH.nil)
    refine step_store_row (by rfl) 39 _ _ (by rfl) wd.heap.size X (by rfl) (by rw [hX]; rfl) 39 #[.int .i64 0, .string ⟨#[]⟩, .string ⟨#[]⟩, .int .i64 0, .string ⟨#[]⟩] (rowC_below (rowC_new _ _ _) hb10 (by rw [size_alloc]; omega)) HI5.out HX5.out HXO.out ?_
    refine hK.out _ _ (SO _ (by first | exact Gn.alloc hHeld _ | exact Gn.set hHeld _ _ (.inr (by first | exact hno.size | exact Nat.le_trans hno.size hb10.size)))) (fun hHeld => ?_)
    clear hK K
    try simp only [Act.put]
    refine wpAnyH_done (by kernel_rfl) ?_ _
    refine NoPanic.normal ?_
    have HXR : Hid (rowC (w10'.setRow wd.heap.size X) wd.heap.size X 39) := Lib.hid (rowC_setRow (rowC_below (rowC_new _ _ _) hb10 (by rw [size_alloc]; omega)) _)
    have HG := Lib.hid hHeld
    have HGE := Lib.hid (show W0.heap.size ≤ wd.heap.size from hno.size)
    clear hHeld hb10 hno LL1 LL2 LL3 OS SO
    generalize w10'.setRow wd.heap.size X = W2 at *
    generalize wd.heap.size = xb at *
  rotate_left 1
  all_goals
    have cK : W2.cell? ⟨w.heap.size, 4, none⟩ = some (.int .u8 (h.kind.toNat : Int)) := rowC_cell (HG.out.row HZ0.out id) 4
    have cS : W2.cell? ⟨w.heap.size, 3, none⟩ = some (.int .i64 (h.size : Int)) := rowC_cell (HG.out.row HZ0.out id) 3
    have KC : Hid (∀ W, rowC W w.heap.size #[.string (str h.name), .string (str h.link), .int .i64 (h.mode : Int), .int .i64 (h.size : Int), .int .u8 (h.kind.toNat : Int)] 56 → W.cell? ⟨w.heap.size, 4, none⟩ = some (.int .u8 (h.kind.toNat : Int))) := Lib.hid fun W hz => rowC_cell hz 4
    have HIE := Lib.hid info_ent5
    have BW : Hid (∀ W, Gn W0 no W → Below B w W) := Lib.hid fun W hg => HBB.out.trans (hg.below (by have := HS0.out; have := HBL.out; omega) (fun _ _ hf => hf))
    have YW : Hid (∀ W, Gn W0 no W → rowC W B (rdrV rest wt v) 50) := Lib.hid fun W hg => hg.row HY0.out id
    have ZW : Hid (∀ W, Gn W0 no W → rowC W w.heap.size #[.string (str h.name), .string (str h.link), .int .i64 (h.mode : Int), .int .i64 (h.size : Int), .int .u8 (h.kind.toNat : Int)] 56) := Lib.hid fun W hg => hg.row HZ0.out id
    have OW : Hid (∀ W, Gn W0 no W → OwnsE W (B + 1) v out) := Lib.hid fun W hg => Chg.owns hg HO0.out (fun _ _ hf => hf)
    have HXB : Hid (xb ≠ B ∧ w.heap.size ≠ B) := Lib.hid ⟨by have := HS0.out; have := HBL.out; have := HGE.out; omega, by have := HBL.out; omega⟩
    rw [HX.out] at HXR
    clear HX HX5 HXO HI5 hX ui ii hm4 CK CO
    have q49 := beq_byte h.kind 49
    have q50 := beq_byte h.kind 50
    have q53 := beq_byte h.kind 53
    have q0 := beq_byte h.kind 0
    have q48 := beq_byte h.kind 48
    have q120 := beq_byte h.kind 120
    rw [show (((49 : UInt8).toNat : Nat) : Int) = 49 from rfl] at q49
    rw [show (((50 : UInt8).toNat : Nat) : Int) = 50 from rfl] at q50
    rw [show (((53 : UInt8).toNat : Nat) : Int) = 53 from rfl] at q53
    rw [show (((0 : UInt8).toNat : Nat) : Int) = 0 from rfl] at q0
    rw [show (((48 : UInt8).toNat : Nat) : Int) = 48 from rfl] at q48
    rw [show (((120 : UInt8).toNat : Nat) : Int) = 120 from rfl] at q120
    obtain ⟨kn, hkn⟩ : ∃ kn : Nat, kn = h.kind.toNat := ⟨_, rfl⟩
    rw [← hkn] at q49 q50 q53 q0 q48 q120 cK KC ZW HZ0
    have hk8 : kn < 256 := by rw [hkn]; exact h.kind.toNat_lt
    have HKN := Lib.hid hkn
    clear hkn
    have HEN : Hid (EntB ⟨kindL h.kind, (wPath wt).getD h.name, [], (m4 : Int), []⟩) := Lib.hid ⟨getD_bound HWT.out.p HHB.out.name, Nat.zero_le _, Nat.zero_le _⟩
    by_cases h53 : h.kind = 53
    · -- a directory
      have n49 : ¬ h.kind = 49 := by rw [h53]; decide
      have n50 : ¬ h.kind = 50 := by rw [h53]; decide
      have n120 : ¬ h.kind = 120 := by rw [h53]; decide
      rw [decide_eq_true h53] at q53
      rw [decide_eq_false n49] at q49
      rw [decide_eq_false n50] at q50
      rw [decide_eq_false n120] at q120
      by_cases hs : h.size = 0
      · have HR : Hid (stepR h rest wt out = addR ⟨kindL h.kind, (wPath wt).getD h.name, [], (m4 : Int), []⟩ rest out) := Lib.hid (by
          unfold stepR
          rw [if_pos (.inr (.inr h53)), if_neg (fun e => e hs), if_pos h53, ← HM4.out])
        have qs : ((h.size : Int) == 0) = true := by rw [hs]; rfl
        rw [hs] at cS
        have YW2 := Lib.hid (YW.out W2 HG.out)
        have ZW2 := Lib.hid (ZW.out W2 HG.out)
        have OW2 := Lib.hid (OW.out W2 HG.out)
        have AD := add_any B rest wt v out ⟨kindL h.kind, (wPath wt).getD h.name, [], (m4 : Int), []⟩ HEN.out HOUT.out W2 YW2.out OW2.out
        dsimp only at AD
        have HBW := Lib.hid (BW.out W2 HG.out)
        have e120 := KC.out _ ZW2.out
        clear h53 n49 n50 n120 q0 q48 hs
        go_wp2_with (first
          | ((with_reducible show wpList _ _ _ (⟨some 76, .load _ (.tmp 5), _, _, _, _⟩ :: _) _ _); refine wpList_load_row rfl 39 _ rfl xb rfl 39 #[.int .i64 (kindL h.kind), .string (str ((wPath wt).getD h.name)), .string (str []), .int .i64 (m4 : Int), .string (str [])] (0, 0) _ HXR.out Tryz.underlying39 rfl HIE.out ?_)
          | (go_at_call 45; go_loud ((with_reducible refine AD.mono ?_); rintro e w9 ⟨hs9, hb9⟩; obtain ⟨rfl, ht9⟩ := says_split hs9)))
        go_ret
        exact ⟨by rw [HR.out]; exact says_join ht9, HBW.out.trans (hb9)⟩
      · have HR : Hid (stepR h rest wt out = .inl 10) := Lib.hid (by
          unfold stepR
          rw [if_pos (.inr (.inr h53)), if_pos hs])
        have qs : ((h.size : Int) == 0) = false := by rw [beq_eq_false_iff_ne]; omega
        have hsn : ¬ h.size = 0 := hs
        have HBW := Lib.hid (BW.out W2 HG.out)
        clear h53 n49 n50 n120 q0 q48 hs
        go_wp2
        go_ret
        exact ⟨says_bad HR.out (by decide), HBW.out⟩
    · by_cases h49 : h.kind = 49 ∨ h.kind = 50
      · skip
        have n53 : ¬ h.kind = 53 := h53
        rw [decide_eq_false h53] at q53
        rw [decide_eq_false (show ¬ h.kind = 120 by rintro e; rcases h49 with k | k <;> (rw [e] at k; revert k; decide))] at q120
        have HBW := Lib.hid (BW.out W2 HG.out)
        have q49' : (((kn : Nat) : Int) == 49) = true ∨ ((((kn : Nat) : Int) == 49) = false ∧ (((kn : Nat) : Int) == 50) = true) := by
          by_cases k0 : h.kind = 49
          · exact .inl (by rw [q49, decide_eq_true k0])
          · exact .inr ⟨by rw [q49, decide_eq_false k0], by rw [q50, decide_eq_true (h49.resolve_left k0)]⟩
        have hl3 : h.kind = 49 ∨ h.kind = 50 ∨ h.kind = 53 := by rcases h49 with k | k; exact .inl k; exact .inr (.inl k)
        have HS : Hid (stepR h rest wt out = if h.size ≠ 0 then .inl 10 else addR ⟨kindL h.kind, (wPath wt).getD h.name, (wLink wt).getD h.link, (m4 : Int), []⟩ rest out) := Lib.hid (by
          unfold stepR
          rw [if_pos hl3, if_neg h53, ← HM4.out])
        have RNG : Hid (∀ W, Gn W0 no W → W.rangeAt B 4 [.string (str ((wLink wt).getD [])), .bool (wLink wt).isSome]) := Lib.hid fun W hg => rowC_range (YW.out W hg) 4 _ (fun j u hj => by
          match j, hj with
          | 0, hj => exact hj
          | 1, hj => exact hj)
        have HENl : Hid (EntB ⟨kindL h.kind, (wPath wt).getD h.name, (wLink wt).getD h.link, (m4 : Int), []⟩) := Lib.hid ⟨HEN.out.name, getD_bound HWT.out.l HHB.out.link, Nat.zero_le _⟩
        clear q0 q48 q49 q50 h53 h49 hl3 n53
        rcases q49' with q49 | ⟨q49, q50⟩
        all_goals
          go_upto_region 10 with (fail)
          have CQ : ∀ y : After W2, CallsIn Fence.wide 3 Tryz.prog 42 #[.agg #[.string (str ((wLink wt).getD [])), .bool (wLink wt).isSome], .string (str h.link)] y.v fun e w'' => e = .returned (.string (str ((wLink wt).getD h.link))) ∧ ∃ z : After W2, w'' = z.v := fun y =>
            (callsIn_wide.2 (or_any (wLink wt) h.link y.v)).mono fun e w'' ⟨he, hb⟩ => ⟨he, ⟨w'', y.h.trans (hb.mono y.h.size)⟩, rfl⟩
          have RL := Lib.hid (fun y : After W2 => RNG.out y.v (HG.out.call y.h))
          have CLK : ∀ y : After W2, y.v.cell? ⟨w.heap.size, 1, none⟩ = some (.string (str h.link)) := fun y => rowC_cell (ZW.out y.v (HG.out.call y.h)) 1
          have HIV2 := Lib.hid info_val
          refine (wpIn_wide (n := 4)).1 ?_
          refine region_quiet_tail (C := fun w' => ∃ z : After W2, w' = z.v) 9 (by kernel_rfl) (by kernel_rfl) (by kernel_rfl) ⟨⟨W2.drew, (Below.refl _ _).drew⟩, rfl⟩ ?_
          simp only [List.take_succ_cons, List.take_zero, List.drop_succ_cons, List.drop_zero]
          iterate 4 (gi_big_quiet_step (fail))
          refine wpQuietIn_load_midG (fun _ => trivial) rfl 46 _ rfl B 4 rfl [.string (str ((wLink wt).getD [])), .bool (wLink wt).isSome] _ (fun w' hw' => by obtain ⟨y, rfl⟩ := hw'; exact RL.out y) Tryz.underlying46 rfl HIV2.out ?_
          simp only [Act.put, List.setIfInBounds_toArray, List.set_cons_zero, List.set_cons_succ]
          repeat (gi_big_quiet_step ((gi_at_call 42; exact CQ _)))
          refine wpQuietIn_nil ?_
          rintro _ ⟨y, rfl⟩
          have HG4 := Lib.hid (HG.out.call y.h)
          have x4 := rowC_below HXR.out y.h (rowC_lt HXR.out)
          have cc4 : y.v.cell? ⟨xb, 2, none⟩ = some (.string (str [])) := rowC_cell x4 2
          have f4 := rowC_free x4 2
          clear CQ RL CLK
          generalize y.v = w4 at *
          gi_wp2
          have HG5 : Hid (Gn W0 no (w4.setCell ⟨xb, 2, none⟩ (.string (str ((wLink wt).getD h.link))))) := Lib.hid (Gn.cell HG4.out _ _ (.inr HGE.out))
          have XR2 : Hid (rowC (w4.setCell ⟨xb, 2, none⟩ (.string (str ((wLink wt).getD h.link)))) xb (entA ⟨kindL h.kind, (wPath wt).getD h.name, (wLink wt).getD h.link, (m4 : Int), []⟩) 39) := Lib.hid (rowC_set x4 2 _)
          clear x4 cc4 f4 HG4
          generalize w4.setCell ⟨xb, 2, none⟩ (.string (str ((wLink wt).getD h.link))) = w6 at *
          have YW2 := Lib.hid (YW.out w6 HG5.out)
          have ZW2 := Lib.hid (ZW.out w6 HG5.out)
          have OW2 := Lib.hid (OW.out w6 HG5.out)
          have HBW6 := Lib.hid (BW.out w6 HG5.out)
          by_cases hs : h.size = 0
          · have HR := Lib.hid (HS.out.trans (if_neg (fun e => e hs)))
            have qs : ((h.size : Int) == 0) = true := by rw [hs]; rfl
            have AD := add_any B rest wt v out ⟨kindL h.kind, (wPath wt).getD h.name, (wLink wt).getD h.link, (m4 : Int), []⟩ HENl.out HOUT.out w6 YW2.out OW2.out
            dsimp only at AD
            have HBW := HBW6
            have e120 := KC.out _ ZW2.out
            clear HS
            go_wp2_with (first
              | ((with_reducible show wpList _ _ _ (⟨some 76, .load _ (.tmp 5), _, _, _, _⟩ :: _) _ _); refine wpList_load_row rfl 39 _ rfl xb rfl 39 #[.int .i64 (kindL h.kind), .string (str ((wPath wt).getD h.name)), .string (str ((wLink wt).getD h.link)), .int .i64 (m4 : Int), .string (str [])] (0, 0) _ XR2.out Tryz.underlying39 rfl HIE.out ?_)
              | (go_at_call 45; go_loud ((with_reducible refine AD.mono ?_); rintro e w9 ⟨hs9, hb9⟩; obtain ⟨rfl, ht9⟩ := says_split hs9)))
            go_ret
            exact ⟨by rw [HR.out]; exact says_join ht9, HBW.out.trans (hb9)⟩
          · have HR := Lib.hid (HS.out.trans (if_pos hs))
            have qs : ((h.size : Int) == 0) = false := by rw [beq_eq_false_iff_ne]; omega
            have hsn : ¬ h.size = 0 := hs
            clear hs
            go_wp2
            go_ret
            exact ⟨says_bad HR.out (by decide), HBW6.out⟩
      · rw [decide_eq_false h53] at q53
        rw [decide_eq_false (fun e => h49 (.inl e))] at q49
        rw [decide_eq_false (fun e => h49 (.inr e))] at q50
        have hnl : ¬ (h.kind = 49 ∨ h.kind = 50 ∨ h.kind = 53) := by rintro (e | e | e); exact h49 (.inl e); exact h49 (.inr e); exact h53 e
        by_cases h0 : h.kind = 0 ∨ h.kind = 48
        · skip
          have hk := h0
          rw [decide_eq_false (show ¬ h.kind = 120 by rintro e; rcases h0 with k | k <;> (rw [e] at k; revert k; decide))] at q120
          have HKL : Hid (kindL h.kind = 1) := Lib.hid (by rcases h0 with k | k <;> (rw [k]; decide))
          have HS : Hid (stepR h rest wt out = match sizeOr wt h.size with
            | none => .inl 10
            | some n =>
              match takeR n rest with
              | none => .inl 10
              | some (d, r') => addR ⟨1, (wPath wt).getD h.name, [], (m4 : Int), d⟩ r' out) := Lib.hid (by
            unfold stepR
            rw [if_neg hnl, if_pos h0, ← HM4.out]
            rfl)
          have CZ := fun w => sizeOr_any wt HWT.out.s h.size w
          unfold wtV at CZ
          have RNG : Hid (W2.rangeAt B 1 [.bool wt.isSome, .string (str ((wPath wt).getD [])), .bool (wPath wt).isSome, .string (str ((wLink wt).getD [])), .bool (wLink wt).isSome, .string (str ((wSize wt).getD [])), .bool (wSize wt).isSome]) := Lib.hid (rowC_range (YW.out W2 HG.out) 1 _ (fun j u hj => by
            match j, hj with
            | 0, hj => exact hj
            | 1, hj => exact hj
            | 2, hj => exact hj
            | 3, hj => exact hj
            | 4, hj => exact hj
            | 5, hj => exact hj
            | 6, hj => exact hj))
          have HIR := Lib.hid info_rec
          have HBW := Lib.hid (BW.out W2 HG.out)
          have q08 : (((kn : Nat) : Int) == 0) = true ∨ ((((kn : Nat) : Int) == 0) = false ∧ (((kn : Nat) : Int) == 48) = true) := by
            by_cases k0 : h.kind = 0
            · exact .inl (by rw [q0, decide_eq_true k0])
            · exact .inr ⟨by rw [q0, decide_eq_false k0], by rw [q48, decide_eq_true (h0.resolve_left k0)]⟩
          clear q0 q48 h53 h49 hnl h0 hk
          cases hz : sizeOr wt h.size with
          | none =>
            have HR : Hid (stepR h rest wt out = .inl 10) := Lib.hid (by rw [HS.out, hz])
            rw [hz] at CZ
            rw [Option.getD_none, Option.isSome_none] at CZ
            clear HS hz
            rcases q08 with q0 | ⟨q0, q48⟩
            all_goals
              go_wp2_with (first
                | ((with_reducible show wpList _ _ _ (⟨some 52, .load _ (.tmp 51), _, _, _, _⟩ :: _) _ _); refine wpList_load_mid rfl 48 _ rfl B 1 rfl [.bool wt.isSome, .string (str ((wPath wt).getD [])), .bool (wPath wt).isSome, .string (str ((wLink wt).getD [])), .bool (wLink wt).isSome, .string (str ((wSize wt).getD [])), .bool (wSize wt).isSome] _ RNG.out Tryz.underlying48 rfl HIR.out ?_)
                | (go_at_call 43; (with_reducible refine (CZ _).mono ?_); rintro e w3 ⟨rfl, hb3⟩))
              go_ret
              exact ⟨says_bad HR.out (by decide), HBW.out.trans (hb3.mono (by have := HBL.out; have := HBW.out.size; omega))⟩
          | some n =>
            have hn : n ≤ 1099511627776 := by
              have h5 := hz
              unfold sizeOr at h5
              split at h5
              · cases h5; have := HHB.out.size; omega
              · have := (numP_lt h5).1; omega
            rw [hz] at CZ
            rw [Option.getD_some, Option.isSome_some] at CZ
            have TK := fun W hr => take_any B rest wt v n hn W hr
            cases ht : takeR n rest with
            | none =>
              have HR : Hid (stepR h rest wt out = .inl 10) := Lib.hid (by rw [HS.out, hz]; simp only [ht])
              simp only [ht, Option.map_none, Option.getD_none, Option.isSome_none] at TK
              have HTK := Lib.hid TK
              clear HS hz ht TK hn
              rcases q08 with q0 | ⟨q0, q48⟩
              all_goals
                go_wp2_with (first
                  | ((with_reducible show wpList _ _ _ (⟨some 52, .load _ (.tmp 51), _, _, _, _⟩ :: _) _ _); refine wpList_load_mid rfl 48 _ rfl B 1 rfl [.bool wt.isSome, .string (str ((wPath wt).getD [])), .bool (wPath wt).isSome, .string (str ((wLink wt).getD [])), .bool (wLink wt).isSome, .string (str ((wSize wt).getD [])), .bool (wSize wt).isSome] _ RNG.out Tryz.underlying48 rfl HIR.out ?_)
                  | (go_at_call 43; (with_reducible refine (CZ _).mono ?_); rintro e w3 ⟨rfl, hb3⟩; have HB3 := Lib.hid hb3)
                  | (go_at_call 17; (with_reducible refine (HTK.out _ (YW.out w3 (HG.out.call HB3.out))).mono ?_); rintro e w5 ⟨rfl, y5, c5⟩; have x5 := Chg.rowC c5 (rowC_below HXR.out HB3.out (rowC_lt HXR.out)) HXB.out.1; have cc5 : w5.cell? ⟨xb, 4, none⟩ = some (.string (str [])) := rowC_cell x5 4; have f5 := rowC_free x5 4; have HC5 := Lib.hid c5))
                go_ret
                refine ⟨says_bad HR.out (by decide), ((HBW.out.trans (HB3.out.mono (by have := HBL.out; have := HBW.out.size; omega))).trans (HC5.out.below (by have := HBL.out; have := HBW.out.size; have := HB3.out.size; omega) (fun k hk e => by have : k = B := e; omega))).setCell (p := ⟨xb, 4, none⟩) (by have := HBL.out; have := HGE.out; have := HS0.out; show B ≤ xb; omega) _⟩
            | some p =>
              obtain ⟨d, r'⟩ := p
              have HR : Hid (stepR h rest wt out = addR ⟨kindL h.kind, (wPath wt).getD h.name, [], (m4 : Int), d⟩ r' out) := Lib.hid (by rw [HS.out, hz, HKL.out]; simp only [ht])
              have hdl : d.length ≤ 1000000000 := by
                unfold takeR at ht
                split at ht
                · cases ht
                · cases ht
                  rw [List.length_take]; have := HRL.out; omega
              have HENd : Hid (EntB ⟨kindL h.kind, (wPath wt).getD h.name, [], (m4 : Int), d⟩) := Lib.hid ⟨HEN.out.name, Nat.zero_le _, hdl⟩
              simp only [ht, Option.map_some, Option.getD_some, Option.isSome_some] at TK
              have HTK := Lib.hid TK
              clear HS hz ht TK hn hdl
              rcases q08 with q0 | ⟨q0, q48⟩
              all_goals
                go_upto_region 17 with (first
                  | ((with_reducible show wpList _ _ _ (⟨some 52, .load _ (.tmp 51), _, _, _, _⟩ :: _) _ _); refine wpList_load_mid rfl 48 _ rfl B 1 rfl [.bool wt.isSome, .string (str ((wPath wt).getD [])), .bool (wPath wt).isSome, .string (str ((wLink wt).getD [])), .bool (wLink wt).isSome, .string (str ((wSize wt).getD [])), .bool (wSize wt).isSome] _ RNG.out Tryz.underlying48 rfl HIR.out ?_)
                  | (go_at_call 43; (with_reducible refine (CZ _).mono ?_); rintro e w3 ⟨rfl, hb3⟩; have HB3 := Lib.hid hb3)
                  | (go_at_call 17; (with_reducible refine (HTK.out _ (YW.out w3 (HG.out.call HB3.out))).mono ?_); rintro e w5 ⟨rfl, y5, c5⟩; have x5 := Chg.rowC c5 (rowC_below HXR.out HB3.out (rowC_lt HXR.out)) HXB.out.1; have cc5 : w5.cell? ⟨xb, 4, none⟩ = some (.string (str [])) := rowC_cell x5 4; have f5 := rowC_free x5 4; have HC5 := Lib.hid c5))
                have HG3 := Lib.hid (HG.out.call HB3.out)
                have YW2 : Hid (rowC (w5.setCell ⟨xb, 4, none⟩ (.string (str d))) B (rdrV r' wt v) 50) := Lib.hid (rowC_other y5 _ _ (fun e => HXB.out.1 e.symm))
                have XR2 : Hid (rowC (w5.setCell ⟨xb, 4, none⟩ (.string (str d))) xb (entA ⟨kindL h.kind, (wPath wt).getD h.name, [], (m4 : Int), d⟩) 39) := Lib.hid (rowC_set x5 4 (.string (str d)))
                have HNX : w.heap.size ≠ xb := by have := HGE.out; have := HS0.out; omega
                have ZW2 : Hid (rowC (w5.setCell ⟨xb, 4, none⟩ (.string (str d))) w.heap.size #[.string (str h.name), .string (str h.link), .int .i64 (h.mode : Int), .int .i64 (h.size : Int), .int .u8 ((kn : Nat) : Int)] 56) := Lib.hid (rowC_other (Chg.rowC HC5.out (ZW.out w3 HG3.out) HXB.out.2) _ _ HNX)
                have OW2 : Hid (OwnsE (w5.setCell ⟨xb, 4, none⟩ (.string (str d))) (B + 1) v out) := Lib.hid ((Chg.setCell (s := fun k => k = B ∨ k = xb) (HC5.out.mono (fun k _ e => .inl e)) ⟨xb, 4, none⟩ _ (.inl (.inr rfl))).owns (OW.out w3 HG3.out) (fun g hg e => by
                  rcases e with e | e
                  · exact HFAR.out (e ▸ hg)
                  · have := HOLT.out g hg; have := HGE.out; have := HS0.out; omega))
                have HBW6 : Hid (Below B w (w5.setCell ⟨xb, 4, none⟩ (.string (str d)))) := Lib.hid (((HBW.out.trans (HB3.out.mono (by have := HBL.out; have := HBW.out.size; omega))).trans (HC5.out.below (by have := HBL.out; have := HBW.out.size; have := HB3.out.size; omega) (fun k hk e => by have : k = B := e; omega))).setCell (p := ⟨xb, 4, none⟩) (by have := HBL.out; have := HGE.out; have := HS0.out; show B ≤ xb; omega) _)
                clear y5 c5 x5 cc5 f5 HNX HC5 HB3 hb3 CZ RNG HBW HTK HG3
                generalize w5.setCell ⟨xb, 4, none⟩ (.string (str d)) = w6 at *
                have AD := add_any B r' wt v out ⟨kindL h.kind, (wPath wt).getD h.name, [], (m4 : Int), d⟩ HENd.out HOUT.out w6 YW2.out OW2.out
                dsimp only at AD
                have HBW := HBW6
                have e120 := KC.out _ ZW2.out
                clear HKL
                go_wp2_with (first
                  | ((with_reducible show wpList _ _ _ (⟨some 76, .load _ (.tmp 5), _, _, _, _⟩ :: _) _ _); refine wpList_load_row rfl 39 _ rfl xb rfl 39 #[.int .i64 (kindL h.kind), .string (str ((wPath wt).getD h.name)), .string (str []), .int .i64 (m4 : Int), .string (str d)] (0, 0) _ XR2.out Tryz.underlying39 rfl HIE.out ?_)
                  | (go_at_call 45; go_loud ((with_reducible refine AD.mono ?_); rintro e w9 ⟨hs9, hb9⟩; obtain ⟨rfl, ht9⟩ := says_split hs9)))
                go_ret
                exact ⟨by rw [HR.out]; exact says_join ht9, HBW.out.trans (hb9)⟩
        · rw [decide_eq_false (fun e => h0 (.inl e))] at q0
          rw [decide_eq_false (fun e => h0 (.inr e))] at q48
          by_cases h120 : h.kind = 120
          · skip
            rw [decide_eq_true h120] at q120
            have hn : h.size ≤ 1099511627776 := by have := HHB.out.size; omega
            have TK := fun W hr => take_any B rest wt v h.size hn W hr
            have HBW := Lib.hid (BW.out W2 HG.out)
            cases ht : takeR h.size rest with
            | none =>
              have HR : Hid (stepR h rest wt out = .inl 10) := Lib.hid (by
                unfold stepR
                rw [if_neg hnl, if_neg h0, if_pos h120, ht])
              simp only [ht, Option.map_none, Option.getD_none, Option.isSome_none] at TK
              have HTK := Lib.hid TK
              clear ht TK hn h53 h49 hnl h0 h120
              go_wp2_with (go_at_call 17; (with_reducible refine (HTK.out _ (YW.out W2 HG.out)).mono ?_); rintro e w5 ⟨rfl, y5, c5⟩; have x5 := Chg.rowC c5 HXR.out HXB.out.1; have cc5 : w5.cell? ⟨xb, 4, none⟩ = some (.string (str [])) := rowC_cell x5 4; have f5 := rowC_free x5 4; have HC5 := Lib.hid c5)
              go_ret
              refine ⟨says_bad HR.out (by decide), (HBW.out.trans (HC5.out.below (by have := HBL.out; have := HBW.out.size; omega) (fun k hk e => by have : k = B := e; omega))).setCell (p := ⟨xb, 4, none⟩) (by have := HBL.out; have := HGE.out; have := HS0.out; show B ≤ xb; omega) _⟩
            | some p =>
              obtain ⟨d, r'⟩ := p
              have hdl : d.length ≤ 1000000000 := by
                unfold takeR at ht
                split at ht
                · cases ht
                · cases ht
                  rw [List.length_take]; have := HRL.out; omega
              have HSW := Lib.hid (step_120 (out := out) (wt := wt) hnl h0 h120 ht)
              simp only [ht, Option.map_some, Option.getD_some, Option.isSome_some] at TK
              have HTK := Lib.hid TK
              have HDL := Lib.hid hdl
              clear ht TK hn hdl h53 h49 hnl h0 h120
              go_upto_region 17 with (go_at_call 17; (with_reducible refine (HTK.out _ (YW.out W2 HG.out)).mono ?_); rintro e w5 ⟨rfl, y5, c5⟩; have x5 := Chg.rowC c5 HXR.out HXB.out.1; have cc5 : w5.cell? ⟨xb, 4, none⟩ = some (.string (str [])) := rowC_cell x5 4; have f5 := rowC_free x5 4; have HC5 := Lib.hid c5)
              have YW2 : Hid (rowC (w5.setCell ⟨xb, 4, none⟩ (.string (str d))) B (rdrV r' wt v) 50) := Lib.hid (rowC_other y5 _ _ (fun e => HXB.out.1 e.symm))
              have XR2 : Hid (rowC (w5.setCell ⟨xb, 4, none⟩ (.string (str d))) xb (entA ⟨kindL h.kind, (wPath wt).getD h.name, [], (m4 : Int), d⟩) 39) := Lib.hid (rowC_set x5 4 (.string (str d)))
              have HNX : w.heap.size ≠ xb := by have := HGE.out; have := HS0.out; omega
              have ZW2 : Hid (rowC (w5.setCell ⟨xb, 4, none⟩ (.string (str d))) w.heap.size #[.string (str h.name), .string (str h.link), .int .i64 (h.mode : Int), .int .i64 (h.size : Int), .int .u8 ((kn : Nat) : Int)] 56) := Lib.hid (rowC_other (Chg.rowC HC5.out (ZW.out W2 HG.out) HXB.out.2) _ _ HNX)
              have OW2 : Hid (OwnsE (w5.setCell ⟨xb, 4, none⟩ (.string (str d))) (B + 1) v out) := Lib.hid ((Chg.setCell (s := fun k => k = B ∨ k = xb) (HC5.out.mono (fun k _ e => .inl e)) ⟨xb, 4, none⟩ _ (.inl (.inr rfl))).owns (OW.out W2 HG.out) (fun g hg e => by
                rcases e with e | e
                · exact HFAR.out (e ▸ hg)
                · have := HOLT.out g hg; have := HGE.out; have := HS0.out; omega))
              have HBW6 : Hid (Below B w (w5.setCell ⟨xb, 4, none⟩ (.string (str d)))) := Lib.hid ((HBW.out.trans (HC5.out.below (by have := HBL.out; have := HBW.out.size; omega) (fun k hk e => by have : k = B := e; omega))).setCell (p := ⟨xb, 4, none⟩) (by have := HBL.out; have := HGE.out; have := HS0.out; show B ≤ xb; omega) _)
              clear y5 c5 x5 cc5 f5 HNX HC5 HBW HTK
              generalize w5.setCell ⟨xb, 4, none⟩ (.string (str d)) = w6 at *
              have e120 := KC.out _ ZW2.out
              have ed : w6.cell? ⟨xb, 4, none⟩ = some (.string (str d)) := rowC_cell XR2.out 4
              have WA := wait_any B r' wt v d HDL.out w6 YW2.out
              have HSZ6 := Lib.hid (rowC_lt YW2.out)
              go_wp2_with (go_at_call 44; (with_reducible refine WA.mono ?_); rintro e w9 ⟨rfl, y9, c9⟩)
              go_ret
              refine ⟨?_, HBW6.out.trans (c9.below (by have := HSZ6.out; omega) (fun k hk e => by have : k = B := e; omega))⟩
              rw [HSW.out]
              cases hw : waitR d wt with
              | none =>
                refine ⟨?_, by decide⟩
                exact retInt (wait_no hw).1
              | some rs =>
                refine ⟨retInt (wait_yes hw).1, v, ?_, ?_⟩
                · rw [(wait_yes hw).2] at y9; exact y9
                · exact c9.owns OW2.out (fun g hg e => HFAR.out (by have : g = B := e; exact this ▸ hg))
          · have HR : Hid (stepR h rest wt out = .inl 72) := Lib.hid (by
              unfold stepR
              rw [if_neg hnl, if_neg h0, if_neg h120])
            rw [decide_eq_false h120] at q120
            have HBW := Lib.hid (BW.out W2 HG.out)
            clear h53 h49 hnl h0 h120
            go_wp2
            go_ret
            exact ⟨says_bad HR.out (by decide), HBW.out⟩
end Go.Proofs.YtmgpofdmoaafoaaGreatDoor
