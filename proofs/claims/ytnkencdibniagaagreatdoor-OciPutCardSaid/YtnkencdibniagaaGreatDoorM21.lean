/- Merged: Gn, OdD, OdE. -/
import Derived.Test.YtnkencdibniagaaGreatDoorM05
import Derived.Test.YtnkencdibniagaaGreatDoorM20
import Derived.Deep.MidRow
import Derived.Test.YtnkencdibniagaaGreatDoorM16
import Derived.Deep.RegionHeld3
import Derived.Deep.DeepCutAuto
/- Generic: a world that has grown from another, but for some blocks that may have been written. -/
namespace Go.Proofs.YtnkencdibniagaaGreatDoor
open Go.RowKit

/-- No block. -/
abbrev no : Nat → Prop := fun _ => False
def Gn (W : World) (s : Nat → Prop) (w : World) : Prop := Chg s W w
theorem Gn.start (W : World) (s : Nat → Prop) : Gn W s W.drew := (Chg.refl _ _).drew
theorem Gn.refl (W : World) (s : Nat → Prop) : Gn W s W := Chg.refl _ _
theorem Gn.alloc {W w : World} {s : Nat → Prop} (h : Gn W s w) (o : Obj) : Gn W s (w.alloc o) := Chg.alloc h o
theorem Gn.drew {W w : World} {s : Nat → Prop} (h : Gn W s w) : Gn W s w.drew := Chg.drew h
theorem Gn.call {W w w' : World} {s : Nat → Prop} (h : Gn W s w) (hb : Below w.heap.size w w') : Gn W s w' := Chg.then_below h hb
theorem Gn.grown {W w w' : World} {s : Nat → Prop} (h : Gn W s w) {row : Option Nat} (g : w.grownBy w' row) (hr : ∀ k, row = some k → s k ∨ W.heap.size ≤ k) : Gn W s w' := Chg.grown h g hr
theorem Gn.set {W w : World} {s : Nat → Prop} (h : Gn W s w) (g : Nat) (cs : Array Value) (hg : s g ∨ W.heap.size ≤ g) : Gn W s (w.setRow g cs) := Chg.setRow h g cs hg
theorem Gn.cell {W w : World} {s : Nat → Prop} (h : Gn W s w) (p : Addr) (v : Value) (hg : s p.block ∨ W.heap.size ≤ p.block) : Gn W s (w.setCell p v) := Chg.setCell h p v hg
theorem Gn.row {W w : World} {s : Nat → Prop} {b : Nat} {cs : Array Value} {t : TypeId} (h : Gn W s w) (hr : rowC W b cs t) (hne : ¬ s b) : rowC w b cs t := Chg.rowC h hr hne
theorem Gn.size {W w : World} {s : Nat → Prop} (h : Gn W s w) : W.heap.size ≤ w.heap.size := Chg.size h
theorem Gn.below {W w : World} {s : Nat → Prop} (h : Gn W s w) {B : Nat} (hB : B ≤ W.heap.size) (hr : ∀ k, k < B → ¬ s k) : Below B W w := Chg.below h hB hr
theorem rowC_range {w : World} {b : Nat} {cs : Array Value} {t : TypeId} (h : rowC w b cs t) (o : Nat) (l : List Value) (hl : ∀ j v, l[j]? = some v → cs[o + j]? = some v) : w.rangeAt b o l := fun j v hj => by
  rw [rowC_cell h]
  exact hl j v hj
end Go.Proofs.YtnkencdibniagaaGreatDoor

/- Layer 13: a value, cloned. -/
namespace Go.Proofs.YtnkencdibniagaaGreatDoor
open Go.RowKit

mutual
/-- How many values stand around one, at the most. -/
def hgJ : JV → Nat
  | .mk _ _ items _ => hgL items
def hgL : List JV → Nat
  | [] => 0
  | x :: l => max (hgJ x + 1) (hgL l)
end
theorem hgL_mem : ∀ {l : List JV} {x : JV}, x ∈ l → hgJ x + 1 ≤ hgL l
  | y :: l, x, h => by
    rw [hgL]
    rcases List.mem_cons.1 h with rfl | h
    · omega
    · have := hgL_mem h
      omega
def CloneOk (v : JV) : Prop := ∀ (left : Nat) (x : Int) (w : World) (a b c d : Value), hgJ v ≤ left → left ≤ 65536 → x = (left : Int) → HoldsC w (fun k => k < w.heap.size) v a b c d →
  Calls Tryz.prog 113 #[.agg #[a, b, c, d], .int .i64 x] w fun e w' => ∃ V, e = .returned V ∧ HoldsJ w' (fun k => w.heap.size ≤ k ∧ k < w'.heap.size) v V ∧ Below w.heap.size w w'
/-- What the first statement leaves. -/
def ClM (w : World) (k : Int) (t : Bs) (keys : List Bs) (row : Array Value) (bc : Nat) (wx : World) : Prop :=
  ∃ y m d, Below w.heap.size w wx ∧ rowC wx w.heap.size row 63 ∧ rowC wx (w.heap.size + 1) zeroV4 63 ∧ rowC wx bc #[.int .i64 k, .string (str t), .slice none 0 0, .slice y m d] 63 ∧
    HoldsK wx (fun q => w.heap.size + 2 ≤ q ∧ q < wx.heap.size ∧ q ≠ bc) keys (.slice y m d) ∧ w.heap.size + 2 ≤ bc
theorem clm_a {w W0 w6 : World} {k : Int} {t : Bs} {keys : List Bs} {row : Array Value} {y : Option Addr} {m d : Nat} {w' : World} (hR : rowC W0 w.heap.size row 63) (hZ : rowC W0 (w.heap.size + 1) zeroV4 63) (hB : Below w.heap.size w W0) (hS : W0.heap.size = w.heap.size + 2)
    (hG : Gn W0 no ((w6.alloc (.cells #[.int .i64 0, .string ⟨#[]⟩, .slice none 0 0, .slice none 0 0] 63)).setRow w6.heap.size #[.int .i64 k, .string (str t), .slice none 0 0, .slice y m d])) (h6 : Gn W0 no w6) (hk : HoldsK w6 (fun q => w'.heap.size ≤ q ∧ q < w6.heap.size) keys (.slice y m d)) (hw : W0.heap.size ≤ w'.heap.size) :
    ClM w k t keys row w6.heap.size ((w6.alloc (.cells #[.int .i64 0, .string ⟨#[]⟩, .slice none 0 0, .slice none 0 0] 63)).setRow w6.heap.size #[.int .i64 k, .string (str t), .slice none 0 0, .slice y m d]) := by
  have s6 := h6.size
  refine ⟨y, m, d, hB.trans (hG.below hB.size (fun _ _ h => h)), hG.row hR id, hG.row hZ id, rowC_setRow (rowC_new _ _ _) _, ?_, by omega⟩
  have hc : Chg (fun k => k = w6.heap.size) w6 ((w6.alloc (.cells #[.int .i64 0, .string ⟨#[]⟩, .slice none 0 0, .slice none 0 0] 63)).setRow w6.heap.size #[.int .i64 k, .string (str t), .slice none 0 0, .slice y m d]) := ((Chg.refl _ _).alloc _).setRow _ _ (.inl rfl)
  refine (hk.chg hc (fun q hq e => by omega)).mono fun q hq hlt => ⟨by omega, hlt, by omega⟩
theorem clm_b {w W0 wd w6 : World} {k : Int} {t : Bs} {keys : List Bs} {row : Array Value} {y : Option Addr} {m d : Nat} (hR : rowC W0 w.heap.size row 63) (hZ : rowC W0 (w.heap.size + 1) zeroV4 63) (hB : Below w.heap.size w W0) (hS : W0.heap.size = w.heap.size + 2)
    (hG : Gn W0 no (w6.setRow wd.heap.size #[.int .i64 k, .string (str t), .slice none 0 0, .slice y m d])) (hd : Gn W0 no wd) (hb : Below (wd.alloc (.cells #[.int .i64 0, .string ⟨#[]⟩, .slice none 0 0, .slice none 0 0] 63)).heap.size (wd.alloc (.cells #[.int .i64 0, .string ⟨#[]⟩, .slice none 0 0, .slice none 0 0] 63)) w6)
    (hk : HoldsK w6 (fun q => (wd.alloc (.cells #[.int .i64 0, .string ⟨#[]⟩, .slice none 0 0, .slice none 0 0] 63)).heap.size ≤ q ∧ q < w6.heap.size) keys (.slice y m d)) :
    ClM w k t keys row wd.heap.size (w6.setRow wd.heap.size #[.int .i64 k, .string (str t), .slice none 0 0, .slice y m d]) := by
  have sd := hd.size
  have sa := size_alloc wd (.cells #[.int .i64 0, .string ⟨#[]⟩, .slice none 0 0, .slice none 0 0] 63)
  refine ⟨y, m, d, hB.trans (hG.below hB.size (fun _ _ h => h)), hG.row hR id, hG.row hZ id, rowC_setRow (rowC_below (rowC_new wd _ _) hb (by omega)) _, ?_, by omega⟩
  have hc : Chg (fun k => k = wd.heap.size) w6 (w6.setRow wd.heap.size #[.int .i64 k, .string (str t), .slice none 0 0, .slice y m d]) := (Chg.refl _ _).setRow _ _ (.inl rfl)
  refine (hk.chg hc (fun q hq e => by omega)).mono fun q hq hlt => ⟨by omega, hlt, by omega⟩
theorem hgL_nil {l : List JV} (h : hgL l ≤ 0) : l = [] := by
  cases l with
  | nil => rfl
  | cons x l =>
    rw [hgL] at h
    omega
/-- What is answered. -/
theorem cl_fin {w w1 : World} {kk : Int} {t : Bs} {items : List JV} {keys : List Bs} {y : Option Addr} {d : Nat} {C : Value} (hB : Below w.heap.size w w1) (htl : t.length ≤ 281474976710656) (hK : HoldsK w1 (fun q => w.heap.size + 2 ≤ q ∧ q < w1.heap.size) keys (.slice y keys.length d))
    (hI : (C = .slice none 0 0 ∧ items = []) ∨ ∃ (ad : Addr) (cap : Nat), C = .slice (some ad) items.length cap ∧ HoldsR w1 (fun k => w.heap.size + 2 ≤ k) items ad 0) (row : Array Value) :
    HoldsJ (w1.setRow (w.heap.size + 1) row) (fun k => w.heap.size ≤ k ∧ k < (w1.setRow (w.heap.size + 1) row).heap.size) (.mk kk t items keys) (.agg #[.int .i64 kk, .string (str t), C, .slice y keys.length d]) ∧ Below w.heap.size w (w1.setRow (w.heap.size + 1) row) := by
  have hc : Chg (fun q => q = w.heap.size + 1) w1 (w1.setRow (w.heap.size + 1) row) := (Chg.refl _ _).setRow _ _ (.inl rfl)
  refine ⟨⟨_, _, _, _, rfl, ?_⟩, below_setRow hB (by omega) _⟩
  rw [HoldsC]
  refine ⟨rfl, rfl, htl, (hK.chg hc (fun q hq e => by omega)).mono fun q hq hlt => ⟨by omega, hlt⟩, ?_⟩
  rcases hI with hI | ⟨ad, cap, h1, h2⟩
  · exact .inl hI
  · exact .inr ⟨ad, cap, h1, HoldsR.mono (fun k hk hlt => ⟨by omega, hlt⟩) _ _ _ (HoldsR.chg hc (fun q hq e => by omega) _ _ _ h2)⟩
theorem all_one4 {k : Int} {t : ByteArray} {x1 : Option Addr} {n1 c1 : Nat} {x2 : Option Addr} {n2 c2 : Nat} : ∀ u ∈ ([.int .i64 k, .string t, .slice x1 n1 c1, .slice x2 n2 c2] : List Value), u.oneCell' = true := by
  intro u hu
  simp only [List.mem_cons, List.not_mem_nil, or_false] at hu
  rcases hu with rfl | rfl | rfl | rfl <;> rfl
theorem take_one {α : Type} {l : List α} {j : Nat} {x : α} (h : l[j]? = some x) : l.take (j + 1) = l.take j ++ [x] := by
  rw [List.take_add_one, h]
  rfl
theorem grown_bc {w5 w7 W1 : World} {s : Nat → Prop} {xi : Option Addr} {j cap : Nat} {o : Obj} (hG : Gn W1 s w5) (hs : ∀ k, (Value.slice xi j cap).ownBlock = some k → s k) (hg : (w5.alloc o).grownBy w7 (Value.slice xi j cap).ownBlock) : Gn W1 s w7 :=
  (hG.alloc o).grown hg (fun k hk => .inl (hs k hk))
theorem grown_at {wr w6 w7 : World} {bc bL n cap j : Nat} {xi : Option Addr} {xs : List Value} {k : Int} {T : ByteArray} {D : Value} (ho : wr.ownsRow bL 63 4 (.slice xi j cap) n xs) (hb : bc < bL) (hr : rowC w6 bc #[.int .i64 k, .string T, .slice xi j cap, D] 63)
    (hg : w6.grownBy w7 (Value.slice xi j cap).ownBlock) : w7.cell? ⟨bc, 2, none⟩ = some (.slice xi j cap) ∧ w7.frozen? ⟨bc, 2, none⟩ = false := by
  have c7 : Chg (fun q => (Value.slice xi j cap).ownBlock = some q) w6 w7 := (Chg.refl _ _).grown hg (fun q hq => .inl hq)
  have r7 := c7.rowC hr (fun e => by have := (ho.lt _ e).1; omega)
  exact ⟨rowC_cell r7 2, rowC_free r7 2⟩
set_option maxRecDepth 100000 in
set_option maxHeartbeats 8000000 in
theorem jclone_any : ∀ (n : Nat) (v : JV), SizeOf.sizeOf v ≤ n → okJ v → CloneOk v
  | 0, .mk _ _ _ _, h, _ => by simp at h
  | n + 1, .mk kk t items keys, hsz, ho => by
    intro left x w a b c d hg hl hx hH
    rw [okJ] at ho
    obtain ⟨_, ⟨ho1, ho2, ho3⟩, ho4⟩ := ho
    have hH0 := hH
    rw [HoldsC] at hH0
    have hK := hH0.2.2.2.1
    clear hH0
    obtain ⟨rfl, rfl, htl, ⟨x1, c1, rfl, hit⟩, x2, c2, rfl, hk⟩ := hH.opens
    obtain ⟨W0, hW0⟩ : ∃ W0, W0 = (w.alloc (.cells #[.int .i64 kk, .string (str t), .slice x1 items.length c1, .slice x2 keys.length c2] 63)).alloc (.cells #[.int .i64 0, .string ⟨#[]⟩, .slice none 0 0, .slice none 0 0] 63) := ⟨_, rfl⟩
    have s1 := size_alloc w (.cells #[.int .i64 kk, .string (str t), .slice x1 items.length c1, .slice x2 keys.length c2] 63)
    have R0 : rowC W0 w.heap.size #[.int .i64 kk, .string (str t), .slice x1 items.length c1, .slice x2 keys.length c2] 63 := by rw [hW0]; exact rowC_alloc (rowC_new w _ _) _
    have Z0 : rowC W0 (w.heap.size + 1) zeroV4 63 := by rw [hW0, ← s1]; exact rowC_new _ _ _
    have B0 : Below w.heap.size w W0 := by rw [hW0]; exact ((Below.refl _ _).alloc (Nat.le_refl _) _).alloc (by omega) _
    have S0 : W0.heap.size = w.heap.size + 2 := by rw [hW0, size_alloc, s1]
    have C0 : Chg (fun _ => False) w W0 := Chg.of_below B0
    have CK : ∀ w', Gn W0 no w' → Calls Tryz.prog 147 #[.slice x2 keys.length c2] w' fun e w2 => ∃ y m d, e = .returned (.slice y m d) ∧ HoldsK w2 (fun k => w'.heap.size ≤ k ∧ k < w2.heap.size) keys (.slice y m d) ∧ Below w'.heap.size w' w2 ∧ Gn W0 no w2 := fun w' hc => (clonek_any (hK.chg (C0.trans (t := no) hc (fun k hk h => h)) (fun _ _ h => h)) ho2).mono fun e w2 ⟨y, m, d, h1, h2, h3⟩ => ⟨y, m, d, h1, h2, h3, Gn.call hc h3⟩
    have q0 : W0.cell? ⟨w.heap.size, 0, none⟩ = some (.int .i64 kk) := rowC_cell R0 0
    have q1 : W0.cell? ⟨w.heap.size, 1, none⟩ = some (.string (str t)) := rowC_cell R0 1
    have q3 : W0.cell? ⟨w.heap.size, 3, none⟩ = some (.slice x2 keys.length c2) := rowC_cell R0 3
    have HW0 := Lib.hid hW0
    have HR0 := Lib.hid R0
    have HZ0 := Lib.hid Z0
    have HB0 := Lib.hid B0
    have HIT := Lib.hid hit
    have HHg := Lib.hid hg
    have HO4 := Lib.hid ho4
    have HSZ := Lib.hid hsz
    clear hW0 R0 Z0 B0 hit hg ho4 hsz C0 hK hk hH
    subst hx
    go_enter Tryz.func113, Tryz.ntmps113
    go_upto_region 1 with (fail)
    rw [← HW0.out]
    go_cut [5] from 8 to 15 (fun s5 wx => ∃ bc, s5 = .pointer (some ⟨bc, 0, none⟩) ∧ Hid (ClM w kk t keys #[.int .i64 kk, .string (str t), .slice x1 items.length c1, .slice x2 keys.length c2] bc wx))
    case first =>
      have OS : ∀ w', Gn W0 no w' → w'.cell? ⟨w.heap.size, 0, none⟩ = some (.int .i64 kk) ∧ w'.cell? ⟨w.heap.size, 1, none⟩ = some (.string (str t)) ∧ w'.cell? ⟨w.heap.size, 3, none⟩ = some (.slice x2 keys.length c2) := fun w' h => by
        have r := h.row HR0.out id
        exact ⟨rowC_cell r 0, rowC_cell r 1, rowC_cell r 3⟩
      have SO : ∀ w', Gn W0 no w' → Gn W0 no w' := fun _ h => h
      clear q0 q1 q3
      refine wp_region_noPanic ?_
      refine wp_region_held_drew (S := Gn W0 no) (by kernel_rfl) (Gn.start _ _) (fun hHeld => ?_)
      have hG := hHeld
      generalize W0.drew = wd at *
      refine wpAnyH_take (i := 0) (oi := { dst := some 8, op := Op.fieldAddr 63 (Operand.tmp 2) 0, type := 0, pos := "json.go:524", after := #[], guard := none }) (v := ?_) rfl (by kernel_rfl) (by kernel_rfl) (by kernel_rfl) (fun _ _ _ h => h) (Or.inl ⟨by rfl, ?_⟩) (by assumption) ?_
      rotate_left
      · intro w hSw
        skip
        clear hSw
        go_simp
        try with_reducible rfl
      try simp only [Act.put, List.setIfInBounds_toArray, List.set_cons_zero, List.set_cons_succ]
      refine wpAnyH_take (i := 2) (oi := { dst := some 10, op := Op.fieldAddr 63 (Operand.tmp 2) 1, type := 0, pos := "json.go:524", after := #[], guard := none }) (v := ?_) rfl (by kernel_rfl) (by kernel_rfl) (by kernel_rfl) (fun _ _ _ h => h) (Or.inl ⟨by rfl, ?_⟩) (by assumption) ?_
      rotate_left
      · intro w hSw
        skip
        clear hSw
        go_simp
        try with_reducible rfl
      try simp only [Act.put, List.setIfInBounds_toArray, List.set_cons_zero, List.set_cons_succ]
      refine wpAnyH_take (i := 4) (oi := { dst := some 12, op := Op.fieldAddr 63 (Operand.tmp 2) 3, type := 0, pos := "json.go:524", after := #[], guard := none }) (v := ?_) rfl (by kernel_rfl) (by kernel_rfl) (by kernel_rfl) (fun _ _ _ h => h) (Or.inl ⟨by rfl, ?_⟩) (by assumption) ?_
      rotate_left
      · intro w hSw
        skip
        clear hSw
        go_simp
        try with_reducible rfl
      try simp only [Act.put, List.setIfInBounds_toArray, List.set_cons_zero, List.set_cons_succ]
      refine wpAnyH_take (i := 1) (oi := { dst := some 9, op := Op.load 3 (Operand.tmp 8), type := 3, pos := "json.go:524", after := #[{ on := 0, ground := Ground.data }], guard := none }) (v := ?_) rfl (by kernel_rfl) (by kernel_rfl) (by kernel_rfl) (fun _ _ _ h => h) (Or.inl ⟨by rfl, ?_⟩) (by assumption) ?_
      rotate_left
      · intro w hSw
        have hSw := OS _ hSw
        go_simp
        try with_reducible rfl
      try simp only [Act.put, List.setIfInBounds_toArray, List.set_cons_zero, List.set_cons_succ]
      refine wpAnyH_take (i := 3) (oi := { dst := some 11, op := Op.load 9 (Operand.tmp 10), type := 9, pos := "json.go:524", after := #[{ on := 2, ground := Ground.data }], guard := none }) (v := ?_) rfl (by kernel_rfl) (by kernel_rfl) (by kernel_rfl) (fun _ _ _ h => h) (Or.inl ⟨by rfl, ?_⟩) (by assumption) ?_
      rotate_left
      · intro w hSw
        have hSw := OS _ hSw
        go_simp
        try with_reducible rfl
      try simp only [Act.put, List.setIfInBounds_toArray, List.set_cons_zero, List.set_cons_succ]
      refine wpAnyH_take (i := 5) (oi := { dst := some 13, op := Op.load 61 (Operand.tmp 12), type := 61, pos := "json.go:524", after := #[{ on := 4, ground := Ground.data }], guard := none }) (v := ?_) rfl (by kernel_rfl) (by kernel_rfl) (by kernel_rfl) (fun _ _ _ h => h) (Or.inl ⟨by rfl, ?_⟩) (by assumption) ?_
      rotate_left
      · intro w hSw
        have hSw := OS _ hSw
        go_simp
        try with_reducible rfl
      try simp only [Act.put, List.setIfInBounds_toArray, List.set_cons_zero, List.set_cons_succ]
      refine wpAnyH_ready (rs := [6, 8]) (by kernel_rfl) (by simp) ?_
      refine (AllReadyH.cons (o := { dst := some 14, op := Op.call { callee := Callee.value (Operand.func 147), args := #[Operand.tmp 13], argTypes := #[61] }, type := 61, pos := "json.go:524", after := #[{ on := 5, ground := Ground.data }], guard := none }) rfl (fun K hK => ?_) (AllReadyH.cons (o := { dst := some 5, op := Op.alloc 63, type := 0, pos := "json.go:524", after := #[], guard := none }) rfl (fun K hK => ?_) AllReadyH.nil))
      · go_simp
        refine (CK _ (by assumption)).mono ?_
        rintro e w6' ⟨y, m, d, rfl, k6', b6', m6'⟩
        refine hK.out _ _ (SO _ (by assumption)) (fun hHeld => ?_)
        clear hK K
        try simp only [Act.put, List.setIfInBounds_toArray, List.set_cons_zero, List.set_cons_succ]
        refine wpAnyH_take (i := 7) (oi := { dst := some 15, op := Op.build 63 #[(0, Operand.tmp 9), (1, Operand.tmp 11), (3, Operand.tmp 14)], type := 63, pos := "json.go:524", after := #[{ on := 1, ground := Ground.data }, { on := 3, ground := Ground.data }, { on := 6, ground := Ground.data }], guard := none }) (v := ?_) rfl (by kernel_rfl) (by kernel_rfl) (by kernel_rfl) (fun _ _ _ h => h) (Or.inl ⟨by rfl, ?_⟩) (by assumption) ?_
        rotate_left
        · intro w hSw
          skip
          clear hSw
          go_simp
          try with_reducible rfl
        try simp only [Act.put, List.setIfInBounds_toArray, List.set_cons_zero, List.set_cons_succ]
        refine wpAnyH_ready (rs := [8]) (by kernel_rfl) (by simp) ?_
        refine (AllReadyH.cons (o := { dst := some 5, op := Op.alloc 63, type := 0, pos := "json.go:524", after := #[], guard := none }) rfl (fun K hK => ?_) AllReadyH.nil)
        skip
        go_simp
        refine hK.out _ _ (SO _ (by first | assumption | exact Gn.alloc (by assumption) _ | exact Gn.set (by assumption) _ _ (.inr (Gn.size (by assumption))))) (fun hHeld => ?_)
        clear hK K
        try simp only [Act.put, List.setIfInBounds_toArray, List.set_cons_zero, List.set_cons_succ]
        refine wpAnyH_ready (rs := [9]) (by kernel_rfl) (by simp) ?_
        refine (AllReadyH.cons (o := { dst := none, op := Op.store 63 (Operand.tmp 5) (Operand.tmp 15), type := 0, pos := "json.go:524", after := #[{ on := 8, ground := Ground.data }, { on := 7, ground := Ground.data }, { on := 6, ground := Ground.chain }, { on := 0, ground := Ground.phase }, { on := 1, ground := Ground.phase }, { on := 2, ground := Ground.phase }, { on := 3, ground := Ground.phase }, { on := 4, ground := Ground.phase }, { on := 5, ground := Ground.phase }, { on := 6, ground := Ground.phase }, { on := 7, ground := Ground.phase }, { on := 8, ground := Ground.phase }], guard := none }) rfl (fun K hK => ?_) AllReadyH.nil)
        refine step_store_row (by rfl) 63 _ _ (by rfl) w6'.heap.size #[.int .i64 kk, .string (str t), .slice none 0 0, .slice y m d] (by rfl) (by rfl) 63 #[.int .i64 0, .string ⟨#[]⟩, .slice none 0 0, .slice none 0 0] (rowC_new _ _ _) info_V rfl (row4_all _ _ _ _ _ _ _ _) ?_
        refine hK.out _ _ (SO _ (by first | assumption | exact Gn.alloc (by assumption) _ | exact Gn.set (by assumption) _ _ (.inr (Gn.size (by assumption))))) (fun hHeld => ?_)
        clear hK K
        try simp only [Act.put]
        refine wpAnyH_done (by kernel_rfl) ?_ _
        refine NoPanic.normal ?_
        go_wp2_with (fail)
        go_meet
        case rel => exact ⟨_, rfl, Lib.hid (clm_a HR0.out HZ0.out HB0.out S0 hHeld m6' k6' hG.size)⟩
      · skip
        go_simp
        refine hK.out _ _ (SO _ (by first | assumption | exact Gn.alloc (by assumption) _ | exact Gn.set (by assumption) _ _ (.inr (Gn.size (by assumption))))) (fun hHeld => ?_)
        clear hK K
        try simp only [Act.put, List.setIfInBounds_toArray, List.set_cons_zero, List.set_cons_succ]
        refine wpAnyH_ready (rs := [6]) (by kernel_rfl) (by simp) ?_
        refine (AllReadyH.cons (o := { dst := some 14, op := Op.call { callee := Callee.value (Operand.func 147), args := #[Operand.tmp 13], argTypes := #[61] }, type := 61, pos := "json.go:524", after := #[{ on := 5, ground := Ground.data }], guard := none }) rfl (fun K hK => ?_) AllReadyH.nil)
        go_simp
        refine (CK _ (by assumption)).mono ?_
        rintro e w6' ⟨y, m, d, rfl, k6', b6', m6'⟩
        refine hK.out _ _ (SO _ (by assumption)) (fun hHeld => ?_)
        clear hK K
        try simp only [Act.put, List.setIfInBounds_toArray, List.set_cons_zero, List.set_cons_succ]
        refine wpAnyH_take (i := 7) (oi := { dst := some 15, op := Op.build 63 #[(0, Operand.tmp 9), (1, Operand.tmp 11), (3, Operand.tmp 14)], type := 63, pos := "json.go:524", after := #[{ on := 1, ground := Ground.data }, { on := 3, ground := Ground.data }, { on := 6, ground := Ground.data }], guard := none }) (v := ?_) rfl (by kernel_rfl) (by kernel_rfl) (by kernel_rfl) (fun _ _ _ h => h) (Or.inl ⟨by rfl, ?_⟩) (by assumption) ?_
        rotate_left
        · intro w hSw
          skip
          clear hSw
          go_simp
          try with_reducible rfl
        try simp only [Act.put, List.setIfInBounds_toArray, List.set_cons_zero, List.set_cons_succ]
        refine wpAnyH_ready (rs := [9]) (by kernel_rfl) (by simp) ?_
        refine (AllReadyH.cons (o := { dst := none, op := Op.store 63 (Operand.tmp 5) (Operand.tmp 15), type := 0, pos := "json.go:524", after := #[{ on := 8, ground := Ground.data }, { on := 7, ground := Ground.data }, { on := 6, ground := Ground.chain }, { on := 0, ground := Ground.phase }, { on := 1, ground := Ground.phase }, { on := 2, ground := Ground.phase }, { on := 3, ground := Ground.phase }, { on := 4, ground := Ground.phase }, { on := 5, ground := Ground.phase }, { on := 6, ground := Ground.phase }, { on := 7, ground := Ground.phase }, { on := 8, ground := Ground.phase }], guard := none }) rfl (fun K hK => ?_) AllReadyH.nil)
        refine step_store_row (by rfl) 63 _ _ (by rfl) wd.heap.size #[.int .i64 kk, .string (str t), .slice none 0 0, .slice y m d] (by rfl) (by rfl) 63 #[.int .i64 0, .string ⟨#[]⟩, .slice none 0 0, .slice none 0 0] (rowC_below (rowC_new wd _ _) b6' (by rw [size_alloc]; exact Nat.lt_succ_self _)) info_V rfl (row4_all _ _ _ _ _ _ _ _) ?_
        refine hK.out _ _ (SO _ (by first | assumption | exact Gn.alloc (by assumption) _ | exact Gn.set (by assumption) _ _ (.inr (Gn.size (by assumption))))) (fun hHeld => ?_)
        clear hK K
        try simp only [Act.put]
        refine wpAnyH_done (by kernel_rfl) ?_ _
        refine NoPanic.normal ?_
        go_wp2_with (fail)
        go_meet
        case rel => exact ⟨_, rfl, Lib.hid (clm_b HR0.out HZ0.out HB0.out S0 hHeld hG b6' k6')⟩
    case rest =>
      obtain ⟨bc, rfl, HC⟩ := hcut
      obtain ⟨y, m, d, hB, hRx, hZx, hCx, hKx, hbc⟩ := HC.out
      have hm : m = keys.length := by
        rcases hKx with ⟨e, e2⟩ | ⟨ad, cap, e, _⟩
        · cases e; rw [e2]; rfl
        · cases e; rfl
      subst hm
      have HBX := Lib.hid hB
      have HRX := Lib.hid hRx
      have HZX := Lib.hid hZx
      have HCX := Lib.hid hCx
      have HKX := Lib.hid hKx
      have HI := Lib.hid info_V
      clear HC hB hRx hZx hCx hKx
      by_cases h0 : left = 0
      · subst h0
        go_wp2_with (first
          | ((with_reducible show wpList _ _ _ (⟨some 18, .load _ _, _, _, _, _⟩ :: _) _ _); refine wpList_load_row rfl 63 _ rfl bc rfl 63 (row4 kk (str t) none 0 0 y keys.length d) (0, 0) _ HCX.out Tryz.underlying63 rfl HI.out ?_)
          | ((with_reducible show wpList _ _ _ (⟨none, .store _ (.tmp 4) _, _, _, _, _⟩ :: _) _ _); refine wpList_store_row rfl 63 _ _ rfl (w.heap.size + 1) (row4 kk (str t) none 0 0 y keys.length d) rfl rfl 63 zeroV4 HZX.out HI.out rfl (row4_all _ _ _ _ _ _ _ _) ?_))
        refine bodyPost_ret (results_cell_row rfl _ _ (w.heap.size + 1) 63 (row4 kk (str t) none 0 0 y keys.length d) (0, 0) _ rfl (rowC_setRow HZX.out _) Tryz.underlying63 rfl HI.out) rfl ?_
        have hni := hgL_nil (show hgL items ≤ 0 from HHg.out)
        obtain ⟨f1, f2⟩ := cl_fin (kk := kk) (items := items) (C := .slice none 0 0) HBX.out htl (HKX.out.mono fun q hq hlt => ⟨hq.1, hlt⟩) (.inl ⟨rfl, hni⟩) (row4 kk (str t) none 0 0 y keys.length d)
        exact ⟨_, rfl, f1, f2⟩
      have hl0 : ¬ (left : Int) = 0 := by omega
      obtain ⟨left', hl'⟩ : ∃ l', left = l' + 1 := ⟨left - 1, by omega⟩
      have e1 : (left : Int) - 1 = (left' : Int) := by omega
      have e4 : ((left : Int) == 0) = false := by rw [beq_eq_false_iff_ne]; exact hl0
      have HL' := Lib.hid hl'
      have hl1 : left' ≤ 65536 := by omega
      clear hl'
      have r2 : wc.cell? ⟨w.heap.size, 2, none⟩ = some (.slice x1 items.length c1) := rowC_cell HRX.out 2
      have HBC := Lib.hid (rowC_lt HCX.out)
      obtain ⟨i0, hi0, hz0, hz1, hz2⟩ := info_parts info_V3
      go_wp2
      go_loopg [22] items.length (fun gk s22 wr => ∃ j : Nat, s22 = .int .i64 (j : Int) ∧ Hid (gk = items.length - j) ∧ Hid (j ≤ items.length) ∧ Hid (GrB wc bc wc.heap.size kk (str t) (.slice y keys.length d) (items.take j) wr))
      case atStart => exact ⟨0, rfl, Lib.hid rfl, Lib.hid (Nat.zero_le _), Lib.hid ⟨.slice none 0 0, Chg.refl _ _, HCX.out, RowJ.nil _ _ _⟩⟩
      case round =>
        obtain ⟨j, rfl, HN, HNL, HM⟩ := hrel
        by_cases hj : j < items.length
        · have hj1 : (j : Int) < (items.length : Int) := by omega
          obtain ⟨xv, hxv⟩ : ∃ xv, items[j]? = some xv := ⟨_, List.getElem?_eq_getElem hj⟩
          obtain ⟨ad, a', b', c', d', rfl, hab, h4, hHx⟩ := HIT.out j xv hxv
          obtain ⟨I, hGr, hRb, hRJ⟩ := HM.out
          obtain ⟨⟨xs, F, ho, hIt, hF⟩, _⟩ := hRJ
          obtain ⟨xi, ci, rfl⟩ := owns_form ho
          have hln : (items.take j).length = j := by rw [List.length_take]; omega
          rw [hln] at ho hF hRb
          have sB := HBX.out.size
          have sG := hGr.size
          have hbcl := HBC.out
          have hwb : Below w.heap.size w wr := HBX.out.trans (hGr.below (by omega) (fun q hq e => by omega))
          have h4r : at4 wr (ad.add (j * 4)) a' b' c' d' := fun q u hq => by
            have hc := h4 q u hq
            rw [World.cell?_of_block (w := w) (w' := wr) (hwb.block _ (by rw [add_block, add_block]; exact hab))]
            exact hc
          have hHr := HoldsC.far hHx hwb
          obtain ⟨rfl, rfl, ⟨p1, q1, rfl⟩, p2, q2, rfl⟩ := hHx.form
          obtain ⟨W1, hW1⟩ : ∃ W1, W1 = wr.alloc (.cells (row4 xv.kind (str xv.text) p1 xv.items.length q1 p2 xv.keys.length q2) 63) := ⟨_, rfl⟩
          have s1 : W1.heap.size = wr.heap.size + 1 := by rw [hW1]; exact size_alloc _ _
          have R1 : rowC W1 wr.heap.size (row4 xv.kind (str xv.text) p1 xv.items.length q1 p2 xv.keys.length q2) 63 := by rw [hW1]; exact rowC_new _ _ _
          have c1 : Chg (fun _ => False) wr W1 := by rw [hW1]; exact (Chg.refl _ _).alloc _
          have RB1 := c1.rowC hRb id
          have hH1 : HoldsC W1 (fun k => k < W1.heap.size) xv (.int .i64 xv.kind) (.string (str xv.text)) (.slice p1 xv.items.length q1) (.slice p2 xv.keys.length q2) := HoldsC.mono (fun k hk _ => by show k < W1.heap.size; have hk : k < w.heap.size := hk; omega) _ _ _ _ _ (HoldsC.chg c1 (fun _ _ h => h) _ _ _ _ _ hHr)
          have hxm : xv ∈ items := List.mem_of_getElem? hxv
          have hsx : SizeOf.sizeOf xv ≤ n := by
            have h1 := List.sizeOf_lt_of_mem hxm
            have h2 := HSZ.out
            simp only [JV.mk.sizeOf_spec] at h2
            omega
          have hgx : hgJ xv ≤ left' := by
            have h1 := hgL_mem hxm
            have h2 : hgL items ≤ left := HHg.out
            have h3 := HL'.out
            omega
          have IH := jclone_any n xv hsx (okJL_mem HO4.out xv hxm)
          obtain ⟨SB, hSB⟩ : ∃ SB : Nat → Prop, SB = fun q => q = bc ∨ (Value.slice xi j ci).ownBlock = some q := ⟨_, rfl⟩
          have hb1 : ¬ SB wr.heap.size := by
            rw [hSB]
            rintro (e | e)
            · omega
            · have := (ho.lt _ e).2; omega
          have hsb0 : SB bc := by rw [hSB]; exact .inl rfl
          have hsb1 : ∀ k, (Value.slice xi j ci).ownBlock = some k → SB k := fun k hk => by rw [hSB]; exact .inr hk
          clear hSB
          have C5 : ∀ w', Gn W1 SB w' → Chg (fun _ => False) W1 w' → Calls Tryz.prog 113 #[.agg #[.int .i64 xv.kind, .string (str xv.text), .slice p1 xv.items.length q1, .slice p2 xv.keys.length q2], .int .i64 (left' : Int)] w' fun e w2 => ∃ y2 m2 y3 m3, e = .returned (.agg #[.int .i64 xv.kind, .string (str xv.text), .slice y2 xv.items.length m2, .slice y3 xv.keys.length m3]) ∧ HoldsC w2 (fun k => W1.heap.size ≤ k ∧ k < w2.heap.size) xv (.int .i64 xv.kind) (.string (str xv.text)) (.slice y2 xv.items.length m2) (.slice y3 xv.keys.length m3) ∧ Chg (fun _ => False) W1 w2 ∧ Gn W1 SB w2 := fun w' hg hc => by
            refine (IH left' _ w' _ _ _ _ hgx (by omega) rfl (HoldsC.mono (fun k hk _ => Nat.lt_of_lt_of_le hk hc.size) _ _ _ _ _ (HoldsC.chg hc (fun _ _ h => h) _ _ _ _ _ hH1))).mono ?_
            rintro e w2 ⟨V, rfl, ⟨a2, b2, c2, d2, rfl, hV⟩, hb⟩
            obtain ⟨rfl, rfl, ⟨y2, m2, rfl⟩, y3, m3, rfl⟩ := hV.form
            exact ⟨y2, m2, y3, m3, rfl, HoldsC.mono (fun k hk hlt => ⟨Nat.le_trans hc.size hk.1, hlt⟩) _ _ _ _ _ hV, hc.trans (Chg.of_below hb) (fun _ _ h => h), Gn.call hg hb⟩
          have HHx := Lib.hid hHr
          have HGR := Lib.hid hGr
          have HRB := Lib.hid hRb
          have HO := Lib.hid ho
          have HIT1 := Lib.hid hIt
          have HF1 := Lib.hid hF
          have HLN := Lib.hid hln
          have HXV := Lib.hid hxv
          have HR1 := Lib.hid R1
          have HRB1 := Lib.hid RB1
          have HC1 := Lib.hid c1
          have HW1 := Lib.hid hW1
          have H4R := Lib.hid h4r
          have hjm : j ≤ 65536 := by omega
          clear h4r h4 hHx hHr hGr hRb ho hIt hF hln hxv R1 RB1 hW1 hH1 hxm hsx hgx IH hwb HM hj
          go_upto_region 7 with (first
            | ((with_reducible show wpList _ _ _ (⟨some 25, .load _ _, _, _, _, _⟩ :: _) _ _); refine wpList_load_at rfl 63 _ rfl (ad.add (j * 4)) rfl [.int .i64 xv.kind, .string (str xv.text), .slice p1 xv.items.length q1, .slice p2 xv.keys.length q2] _ H4R.out Tryz.underlying63 rfl HI.out ?_)
            | ((with_reducible show wpList _ _ _ (⟨none, .store _ (.tmp 7) _, _, _, _, _⟩ :: _) _ _); refine wpList_store_last rfl 63 _ _ rfl wr.heap.size (row4 xv.kind (str xv.text) p1 xv.items.length q1 p2 xv.keys.length q2) rfl rfl 63 zeroV4 rfl HI.out rfl (row4_all _ _ _ _ _ _ _ _) ?_))
          rw [← HW1.out]
          have e3 : IntKind.i64.wrap (left' : Int) = (left' : Int) := by rw [IntWalk.i64_in _ (by omega)]
          have OS : ∀ w', Gn W1 SB w' → w'.rangeAt wr.heap.size 0 [.int .i64 xv.kind, .string (str xv.text), .slice p1 xv.items.length q1, .slice p2 xv.keys.length q2] ∧ True := fun w' h => ⟨rowC_range (h.row HR1.out hb1) 0 _ (fun q u hq => by rw [Nat.zero_add]; simpa [row4] using hq), trivial⟩
          have SO : ∀ w', Gn W1 SB w' → Gn W1 SB w' := fun _ h => h
          have ui := Tryz.underlying63
          have ii := HI.out
          refine wp_region_noPanic ?_
          refine wp_region_held_drew (S := Gn W1 SB) (by kernel_rfl) (Gn.start _ _) (fun hHeld => ?_)
          have HCD : Hid (Chg (fun _ => False) W1 W1.drew) := Lib.hid (Chg.refl _ _).drew
          have L1 : W1.drew.cell? ⟨bc, 2, none⟩ = some (.slice xi j ci) := rowC_cell (rowC_drew HRB1.out) 2
          generalize W1.drew = wd at *
          refine wpAnyH_take (i := 0) (oi := { dst := some 26, op := Op.fieldAddr 63 (Operand.tmp 5) 2, type := 0, pos := "json.go:529", after := #[], guard := none }) (v := ?_) rfl (by kernel_rfl) (by kernel_rfl) (by kernel_rfl) (fun _ _ _ h => h) (Or.inl ⟨by rfl, ?_⟩) (by assumption) ?_
          rotate_left
          · intro w hSw
            skip
            clear hSw
            go_simp
            try with_reducible rfl
          try simp only [Act.put, List.setIfInBounds_toArray, List.set_cons_zero, List.set_cons_succ]
          refine wpAnyH_take (i := 3) (oi := { dst := some 29, op := Op.move (Operand.tmp 1), type := 3, pos := "json.go:529", after := #[], guard := none }) (v := ?_) rfl (by kernel_rfl) (by kernel_rfl) (by kernel_rfl) (fun _ _ _ h => h) (Or.inl ⟨by rfl, ?_⟩) (by assumption) ?_
          rotate_left
          · intro w hSw
            skip
            clear hSw
            go_simp
            try with_reducible rfl
          try simp only [Act.put, List.setIfInBounds_toArray, List.set_cons_zero, List.set_cons_succ]
          refine wpAnyH_take (i := 4) (oi := { dst := some 30, op := Op.binOp BinOp.sub 3 (Operand.tmp 29) (Operand.const (Value.int IntKind.i64 1)) 3, type := 3, pos := "json.go:529", after := #[{ on := 3, ground := Ground.data }], guard := none }) (v := ?_) rfl (by kernel_rfl) (by kernel_rfl) (by kernel_rfl) (fun _ _ _ h => h) (Or.inl ⟨by rfl, ?_⟩) (by assumption) ?_
          rotate_left
          · intro w hSw
            skip
            clear hSw
            go_simp
            try with_reducible rfl
          try simp only [Act.put, List.setIfInBounds_toArray, List.set_cons_zero, List.set_cons_succ]
          refine wpAnyH_take (i := 2) (oi := { dst := some 28, op := Op.load 63 (Operand.tmp 7), type := 63, pos := "json.go:529", after := #[], guard := none }) (v := _) rfl (by kernel_rfl) (by kernel_rfl) (by kernel_rfl) (fun _ _ _ h => h) (yieldsIf_load_mid (by rfl) _ _ rfl _ _ rfl _ _ (by intro w hSw; have hSw := OS _ hSw; go_split_ands; assumption) (by assumption) rfl (by assumption)) (by assumption) ?_
          try simp only [Act.put, List.setIfInBounds_toArray, List.set_cons_zero, List.set_cons_succ]
          refine wpAnyH_ready (rs := [1, 5]) (by kernel_rfl) (by simp) ?_
          refine (AllReadyH.cons (o := { dst := some 27, op := Op.load 60 (Operand.tmp 26), type := 60, pos := "json.go:529", after := #[{ on := 0, ground := Ground.data }], guard := none }) rfl (fun K hK => ?_) (AllReadyH.cons (o := { dst := some 31, op := Op.call { callee := Callee.value (Operand.func 113), args := #[Operand.tmp 28, Operand.tmp 30], argTypes := #[63, 3] }, type := 63, pos := "json.go:529", after := #[{ on := 2, ground := Ground.data }, { on := 4, ground := Ground.data }], guard := none }) rfl (fun K hK => ?_) AllReadyH.nil))
          · skip
            go_simp
            refine hK.out _ _ (SO _ (by first | assumption | exact Gn.alloc (by assumption) _ | exact Gn.cell (by assumption) _ _ (.inl hsb0) | exact Gn.call (by assumption) (by assumption))) (fun hHeld => ?_)
            clear hK K
            try simp only [Act.put, List.setIfInBounds_toArray, List.set_cons_zero, List.set_cons_succ]
            refine wpAnyH_ready (rs := [5]) (by kernel_rfl) (by simp) ?_
            refine (AllReadyH.cons (o := { dst := some 31, op := Op.call { callee := Callee.value (Operand.func 113), args := #[Operand.tmp 28, Operand.tmp 30], argTypes := #[63, 3] }, type := 63, pos := "json.go:529", after := #[{ on := 2, ground := Ground.data }, { on := 4, ground := Ground.data }], guard := none }) rfl (fun K hK => ?_) AllReadyH.nil)
            go_simp
            with_reducible refine (C5 _ hHeld HCD.out).mono ?_
            rintro e w5' ⟨y2, m2, y3, m3, rfl, hx5, hc5, m5'⟩
            have s5 := hc5.size
            have L2 : w5'.cell? ⟨bc, 2, none⟩ = some (.slice xi j ci) := rowC_cell (hc5.rowC HRB1.out id) 2
            have L3 : ∀ o, (w5'.alloc o).cell? ⟨bc, 2, none⟩ = some (.slice xi j ci) := fun o => rowC_cell ((hc5.alloc o).rowC HRB1.out id) 2
            have OW : ∀ o, (w5'.alloc o).ownsRow wc.heap.size 63 4 (.slice xi j ci) j xs := fun o => ((HC1.out.trans hc5 (fun _ _ h => h)).alloc o).owns HO.out (fun _ _ h => h)
            have SG : ∀ o w7, (w5'.alloc o).grownBy w7 (Value.slice xi j ci).ownBlock → Gn W1 SB w7 := fun o w7 hg => grown_bc m5' hsb1 hg
            have SZ : ∀ o w7, (w5'.alloc o).grownBy w7 (Value.slice xi j ci).ownBlock → w7.cell? ⟨bc, 2, none⟩ = some (.slice xi j ci) ∧ w7.frozen? ⟨bc, 2, none⟩ = false := fun o w7 hg => grown_at HO.out (by omega) ((hc5.alloc o).rowC HRB1.out id) hg
            refine hK.out _ _ (SO _ (by assumption)) (fun hHeld => ?_)
            clear hK K
            try simp only [Act.put, List.setIfInBounds_toArray, List.set_cons_zero, List.set_cons_succ]
            refine wpAnyH_ready (rs := [6]) (by kernel_rfl) (by simp) ?_
            refine (AllReadyH.cons (o := { dst := some 32, op := Op.buildSlice 60 1 #[(0, Operand.tmp 31)], type := 60, pos := "json.go:529", after := #[{ on := 5, ground := Ground.data }], guard := none }) rfl (fun K hK => ?_) AllReadyH.nil)
            skip
            go_simp
            refine hK.out _ _ (SO _ (by first | assumption | exact Gn.alloc (by assumption) _ | exact Gn.cell (by assumption) _ _ (.inl hsb0) | exact Gn.call (by assumption) (by assumption))) (fun hHeld => ?_)
            clear hK K
            try simp only [Act.put, List.setIfInBounds_toArray, List.set_cons_zero, List.set_cons_succ]
            refine wpAnyH_ready (rs := [7]) (by kernel_rfl) (by simp) ?_
            refine (AllReadyH.cons (o := { dst := some 33, op := Op.call { callee := Callee.builtin Builtin.append, args := #[Operand.tmp 27, Operand.tmp 32], argTypes := #[60, 60] }, type := 60, pos := "json.go:529", after := #[{ on := 1, ground := Ground.data }, { on := 6, ground := Ground.data }, { on := 5, ground := Ground.chain }], guard := none }) rfl (fun K hK => ?_) AllReadyH.nil)
            refine step_append_lies _ (by rfl) _ _ 60 (by rfl) wc.heap.size 63 i0 (.agg #[.int .i64 0, .string ⟨#[]⟩, .slice none 0 0, .slice none 0 0]) 4 72 Tryz.underlying60 hi0 hz0 hz1 hz2 (by rfl) (by decide) (.slice xi j ci) j xs (by rfl) (OW _) ⟨w5'.heap.size, 0, none⟩ 1 1 [.int .i64 xv.kind, .string (str xv.text), .slice y2 xv.items.length m2, .slice y3 xv.keys.length m3] (by rfl) (by rfl) (World.news_of_block (heap_alloc_new w5' _)) (fun u hu => all_one4 u hu) (by decide) (by unfold maxLen; omega) (by omega) (by rw [size_alloc]; omega) _ rfl ?_
            intro g cap w7 hown7 hgrow7 hat7 hlt7
            have S7 := SG _ _ hgrow7
            obtain ⟨z2, y2f⟩ := SZ _ _ hgrow7
            refine hK.out _ _ (SO _ (by first | assumption | exact Gn.alloc (by assumption) _ | exact Gn.cell (by assumption) _ _ (.inl hsb0) | exact Gn.call (by assumption) (by assumption))) (fun hHeld => ?_)
            clear hK K
            try simp only [Act.put, List.setIfInBounds_toArray, List.set_cons_zero, List.set_cons_succ]
            refine wpAnyH_take (i := 8) (oi := { dst := some 34, op := Op.fieldAddr 63 (Operand.tmp 5) 2, type := 0, pos := "json.go:529", after := #[{ on := 0, ground := Ground.phase }, { on := 1, ground := Ground.phase }, { on := 2, ground := Ground.phase }, { on := 3, ground := Ground.phase }, { on := 4, ground := Ground.phase }, { on := 5, ground := Ground.phase }, { on := 6, ground := Ground.phase }, { on := 7, ground := Ground.phase }], guard := none }) (v := ?_) rfl (by kernel_rfl) (by kernel_rfl) (by kernel_rfl) (fun _ _ _ h => h) (Or.inl ⟨by rfl, ?_⟩) (by assumption) ?_
            rotate_left
            · intro w hSw
              skip
              clear hSw
              go_simp
              try with_reducible rfl
            try simp only [Act.put, List.setIfInBounds_toArray, List.set_cons_zero, List.set_cons_succ]
            refine wpAnyH_ready (rs := [9]) (by kernel_rfl) (by simp) ?_
            refine (AllReadyH.cons (o := { dst := none, op := Op.store 60 (Operand.tmp 34) (Operand.tmp 33), type := 0, pos := "json.go:529", after := #[{ on := 8, ground := Ground.data }, { on := 7, ground := Ground.data }, { on := 7, ground := Ground.chain }, { on := 0, ground := Ground.phase }, { on := 1, ground := Ground.phase }, { on := 2, ground := Ground.phase }, { on := 3, ground := Ground.phase }, { on := 4, ground := Ground.phase }, { on := 5, ground := Ground.phase }, { on := 6, ground := Ground.phase }, { on := 7, ground := Ground.phase }], guard := none }) rfl (fun K hK => ?_) AllReadyH.nil)
            skip
            go_simp
            refine hK.out _ _ (SO _ (by first | assumption | exact Gn.alloc (by assumption) _ | exact Gn.cell (by assumption) _ _ (.inl hsb0) | exact Gn.call (by assumption) (by assumption))) (fun hHeld => ?_)
            clear hK K
            try simp only [Act.put, List.setIfInBounds_toArray, List.set_cons_zero, List.set_cons_succ]
            refine wpAnyH_done (by kernel_rfl) ?_ _
            refine NoPanic.normal ?_
            go_wp2_with (fail)
            go_roundg (items.length - (j + 1))
            case measure => rw [HN.out]; omega
            case rel =>
              refine ⟨j + 1, rfl, Lib.hid rfl, Lib.hid (by omega), Lib.hid ?_⟩
              rw [take_one HXV.out]
              exact row_round rfl hbcl HGR.out HRB.out HO.out HIT1.out (fun q hq => ⟨(HF1.out q hq).1, id, (HF1.out q hq).2.2⟩) HLN.out HC1.out hc5 hx5 hown7 hgrow7 (by rw [size_alloc] at hat7; exact hat7)
          · go_simp
            with_reducible refine (C5 _ hHeld HCD.out).mono ?_
            rintro e w5' ⟨y2, m2, y3, m3, rfl, hx5, hc5, m5'⟩
            have s5 := hc5.size
            have L2 : w5'.cell? ⟨bc, 2, none⟩ = some (.slice xi j ci) := rowC_cell (hc5.rowC HRB1.out id) 2
            have L3 : ∀ o, (w5'.alloc o).cell? ⟨bc, 2, none⟩ = some (.slice xi j ci) := fun o => rowC_cell ((hc5.alloc o).rowC HRB1.out id) 2
            have OW : ∀ o, (w5'.alloc o).ownsRow wc.heap.size 63 4 (.slice xi j ci) j xs := fun o => ((HC1.out.trans hc5 (fun _ _ h => h)).alloc o).owns HO.out (fun _ _ h => h)
            have SG : ∀ o w7, (w5'.alloc o).grownBy w7 (Value.slice xi j ci).ownBlock → Gn W1 SB w7 := fun o w7 hg => grown_bc m5' hsb1 hg
            have SZ : ∀ o w7, (w5'.alloc o).grownBy w7 (Value.slice xi j ci).ownBlock → w7.cell? ⟨bc, 2, none⟩ = some (.slice xi j ci) ∧ w7.frozen? ⟨bc, 2, none⟩ = false := fun o w7 hg => grown_at HO.out (by omega) ((hc5.alloc o).rowC HRB1.out id) hg
            refine hK.out _ _ (SO _ (by assumption)) (fun hHeld => ?_)
            clear hK K
            try simp only [Act.put, List.setIfInBounds_toArray, List.set_cons_zero, List.set_cons_succ]
            refine wpAnyH_ready (rs := [1, 6]) (by kernel_rfl) (by simp) ?_
            refine (AllReadyH.cons (o := { dst := some 27, op := Op.load 60 (Operand.tmp 26), type := 60, pos := "json.go:529", after := #[{ on := 0, ground := Ground.data }], guard := none }) rfl (fun K hK => ?_) (AllReadyH.cons (o := { dst := some 32, op := Op.buildSlice 60 1 #[(0, Operand.tmp 31)], type := 60, pos := "json.go:529", after := #[{ on := 5, ground := Ground.data }], guard := none }) rfl (fun K hK => ?_) AllReadyH.nil))
            · skip
              go_simp
              refine hK.out _ _ (SO _ (by first | assumption | exact Gn.alloc (by assumption) _ | exact Gn.cell (by assumption) _ _ (.inl hsb0) | exact Gn.call (by assumption) (by assumption))) (fun hHeld => ?_)
              clear hK K
              try simp only [Act.put, List.setIfInBounds_toArray, List.set_cons_zero, List.set_cons_succ]
              refine wpAnyH_ready (rs := [6]) (by kernel_rfl) (by simp) ?_
              refine (AllReadyH.cons (o := { dst := some 32, op := Op.buildSlice 60 1 #[(0, Operand.tmp 31)], type := 60, pos := "json.go:529", after := #[{ on := 5, ground := Ground.data }], guard := none }) rfl (fun K hK => ?_) AllReadyH.nil)
              skip
              go_simp
              refine hK.out _ _ (SO _ (by first | assumption | exact Gn.alloc (by assumption) _ | exact Gn.cell (by assumption) _ _ (.inl hsb0) | exact Gn.call (by assumption) (by assumption))) (fun hHeld => ?_)
              clear hK K
              try simp only [Act.put, List.setIfInBounds_toArray, List.set_cons_zero, List.set_cons_succ]
              refine wpAnyH_ready (rs := [7]) (by kernel_rfl) (by simp) ?_
              refine (AllReadyH.cons (o := { dst := some 33, op := Op.call { callee := Callee.builtin Builtin.append, args := #[Operand.tmp 27, Operand.tmp 32], argTypes := #[60, 60] }, type := 60, pos := "json.go:529", after := #[{ on := 1, ground := Ground.data }, { on := 6, ground := Ground.data }, { on := 5, ground := Ground.chain }], guard := none }) rfl (fun K hK => ?_) AllReadyH.nil)
              refine step_append_lies _ (by rfl) _ _ 60 (by rfl) wc.heap.size 63 i0 (.agg #[.int .i64 0, .string ⟨#[]⟩, .slice none 0 0, .slice none 0 0]) 4 72 Tryz.underlying60 hi0 hz0 hz1 hz2 (by rfl) (by decide) (.slice xi j ci) j xs (by rfl) (OW _) ⟨w5'.heap.size, 0, none⟩ 1 1 [.int .i64 xv.kind, .string (str xv.text), .slice y2 xv.items.length m2, .slice y3 xv.keys.length m3] (by rfl) (by rfl) (World.news_of_block (heap_alloc_new w5' _)) (fun u hu => all_one4 u hu) (by decide) (by unfold maxLen; omega) (by omega) (by rw [size_alloc]; omega) _ rfl ?_
              intro g cap w7 hown7 hgrow7 hat7 hlt7
              have S7 := SG _ _ hgrow7
              obtain ⟨z2, y2f⟩ := SZ _ _ hgrow7
              refine hK.out _ _ (SO _ (by first | assumption | exact Gn.alloc (by assumption) _ | exact Gn.cell (by assumption) _ _ (.inl hsb0) | exact Gn.call (by assumption) (by assumption))) (fun hHeld => ?_)
              clear hK K
              try simp only [Act.put, List.setIfInBounds_toArray, List.set_cons_zero, List.set_cons_succ]
              refine wpAnyH_take (i := 8) (oi := { dst := some 34, op := Op.fieldAddr 63 (Operand.tmp 5) 2, type := 0, pos := "json.go:529", after := #[{ on := 0, ground := Ground.phase }, { on := 1, ground := Ground.phase }, { on := 2, ground := Ground.phase }, { on := 3, ground := Ground.phase }, { on := 4, ground := Ground.phase }, { on := 5, ground := Ground.phase }, { on := 6, ground := Ground.phase }, { on := 7, ground := Ground.phase }], guard := none }) (v := ?_) rfl (by kernel_rfl) (by kernel_rfl) (by kernel_rfl) (fun _ _ _ h => h) (Or.inl ⟨by rfl, ?_⟩) (by assumption) ?_
              rotate_left
              · intro w hSw
                skip
                clear hSw
                go_simp
                try with_reducible rfl
              try simp only [Act.put, List.setIfInBounds_toArray, List.set_cons_zero, List.set_cons_succ]
              refine wpAnyH_ready (rs := [9]) (by kernel_rfl) (by simp) ?_
              refine (AllReadyH.cons (o := { dst := none, op := Op.store 60 (Operand.tmp 34) (Operand.tmp 33), type := 0, pos := "json.go:529", after := #[{ on := 8, ground := Ground.data }, { on := 7, ground := Ground.data }, { on := 7, ground := Ground.chain }, { on := 0, ground := Ground.phase }, { on := 1, ground := Ground.phase }, { on := 2, ground := Ground.phase }, { on := 3, ground := Ground.phase }, { on := 4, ground := Ground.phase }, { on := 5, ground := Ground.phase }, { on := 6, ground := Ground.phase }, { on := 7, ground := Ground.phase }], guard := none }) rfl (fun K hK => ?_) AllReadyH.nil)
              skip
              go_simp
              refine hK.out _ _ (SO _ (by first | assumption | exact Gn.alloc (by assumption) _ | exact Gn.cell (by assumption) _ _ (.inl hsb0) | exact Gn.call (by assumption) (by assumption))) (fun hHeld => ?_)
              clear hK K
              try simp only [Act.put, List.setIfInBounds_toArray, List.set_cons_zero, List.set_cons_succ]
              refine wpAnyH_done (by kernel_rfl) ?_ _
              refine NoPanic.normal ?_
              go_wp2_with (fail)
              go_roundg (items.length - (j + 1))
              case measure => rw [HN.out]; omega
              case rel =>
                refine ⟨j + 1, rfl, Lib.hid rfl, Lib.hid (by omega), Lib.hid ?_⟩
                rw [take_one HXV.out]
                exact row_round rfl hbcl HGR.out HRB.out HO.out HIT1.out (fun q hq => ⟨(HF1.out q hq).1, id, (HF1.out q hq).2.2⟩) HLN.out HC1.out hc5 hx5 hown7 hgrow7 (by rw [size_alloc] at hat7; exact hat7)
            · skip
              go_simp
              refine hK.out _ _ (SO _ (by first | assumption | exact Gn.alloc (by assumption) _ | exact Gn.cell (by assumption) _ _ (.inl hsb0) | exact Gn.call (by assumption) (by assumption))) (fun hHeld => ?_)
              clear hK K
              try simp only [Act.put, List.setIfInBounds_toArray, List.set_cons_zero, List.set_cons_succ]
              refine wpAnyH_ready (rs := [1]) (by kernel_rfl) (by simp) ?_
              refine (AllReadyH.cons (o := { dst := some 27, op := Op.load 60 (Operand.tmp 26), type := 60, pos := "json.go:529", after := #[{ on := 0, ground := Ground.data }], guard := none }) rfl (fun K hK => ?_) AllReadyH.nil)
              skip
              go_simp
              refine hK.out _ _ (SO _ (by first | assumption | exact Gn.alloc (by assumption) _ | exact Gn.cell (by assumption) _ _ (.inl hsb0) | exact Gn.call (by assumption) (by assumption))) (fun hHeld => ?_)
              clear hK K
              try simp only [Act.put, List.setIfInBounds_toArray, List.set_cons_zero, List.set_cons_succ]
              refine wpAnyH_ready (rs := [7]) (by kernel_rfl) (by simp) ?_
              refine (AllReadyH.cons (o := { dst := some 33, op := Op.call { callee := Callee.builtin Builtin.append, args := #[Operand.tmp 27, Operand.tmp 32], argTypes := #[60, 60] }, type := 60, pos := "json.go:529", after := #[{ on := 1, ground := Ground.data }, { on := 6, ground := Ground.data }, { on := 5, ground := Ground.chain }], guard := none }) rfl (fun K hK => ?_) AllReadyH.nil)
              refine step_append_lies _ (by rfl) _ _ 60 (by rfl) wc.heap.size 63 i0 (.agg #[.int .i64 0, .string ⟨#[]⟩, .slice none 0 0, .slice none 0 0]) 4 72 Tryz.underlying60 hi0 hz0 hz1 hz2 (by rfl) (by decide) (.slice xi j ci) j xs (by rfl) (OW _) ⟨w5'.heap.size, 0, none⟩ 1 1 [.int .i64 xv.kind, .string (str xv.text), .slice y2 xv.items.length m2, .slice y3 xv.keys.length m3] (by rfl) (by rfl) (World.news_of_block (heap_alloc_new w5' _)) (fun u hu => all_one4 u hu) (by decide) (by unfold maxLen; omega) (by omega) (by rw [size_alloc]; omega) _ rfl ?_
              intro g cap w7 hown7 hgrow7 hat7 hlt7
              have S7 := SG _ _ hgrow7
              obtain ⟨z2, y2f⟩ := SZ _ _ hgrow7
              refine hK.out _ _ (SO _ (by first | assumption | exact Gn.alloc (by assumption) _ | exact Gn.cell (by assumption) _ _ (.inl hsb0) | exact Gn.call (by assumption) (by assumption))) (fun hHeld => ?_)
              clear hK K
              try simp only [Act.put, List.setIfInBounds_toArray, List.set_cons_zero, List.set_cons_succ]
              refine wpAnyH_take (i := 8) (oi := { dst := some 34, op := Op.fieldAddr 63 (Operand.tmp 5) 2, type := 0, pos := "json.go:529", after := #[{ on := 0, ground := Ground.phase }, { on := 1, ground := Ground.phase }, { on := 2, ground := Ground.phase }, { on := 3, ground := Ground.phase }, { on := 4, ground := Ground.phase }, { on := 5, ground := Ground.phase }, { on := 6, ground := Ground.phase }, { on := 7, ground := Ground.phase }], guard := none }) (v := ?_) rfl (by kernel_rfl) (by kernel_rfl) (by kernel_rfl) (fun _ _ _ h => h) (Or.inl ⟨by rfl, ?_⟩) (by assumption) ?_
              rotate_left
              · intro w hSw
                skip
                clear hSw
                go_simp
                try with_reducible rfl
              try simp only [Act.put, List.setIfInBounds_toArray, List.set_cons_zero, List.set_cons_succ]
              refine wpAnyH_ready (rs := [9]) (by kernel_rfl) (by simp) ?_
              refine (AllReadyH.cons (o := { dst := none, op := Op.store 60 (Operand.tmp 34) (Operand.tmp 33), type := 0, pos := "json.go:529", after := #[{ on := 8, ground := Ground.data }, { on := 7, ground := Ground.data }, { on := 7, ground := Ground.chain }, { on := 0, ground := Ground.phase }, { on := 1, ground := Ground.phase }, { on := 2, ground := Ground.phase }, { on := 3, ground := Ground.phase }, { on := 4, ground := Ground.phase }, { on := 5, ground := Ground.phase }, { on := 6, ground := Ground.phase }, { on := 7, ground := Ground.phase }], guard := none }) rfl (fun K hK => ?_) AllReadyH.nil)
              skip
              go_simp
              refine hK.out _ _ (SO _ (by first | assumption | exact Gn.alloc (by assumption) _ | exact Gn.cell (by assumption) _ _ (.inl hsb0) | exact Gn.call (by assumption) (by assumption))) (fun hHeld => ?_)
              clear hK K
              try simp only [Act.put, List.setIfInBounds_toArray, List.set_cons_zero, List.set_cons_succ]
              refine wpAnyH_done (by kernel_rfl) ?_ _
              refine NoPanic.normal ?_
              go_wp2_with (fail)
              go_roundg (items.length - (j + 1))
              case measure => rw [HN.out]; omega
              case rel =>
                refine ⟨j + 1, rfl, Lib.hid rfl, Lib.hid (by omega), Lib.hid ?_⟩
                rw [take_one HXV.out]
                exact row_round rfl hbcl HGR.out HRB.out HO.out HIT1.out (fun q hq => ⟨(HF1.out q hq).1, id, (HF1.out q hq).2.2⟩) HLN.out HC1.out hc5 hx5 hown7 hgrow7 (by rw [size_alloc] at hat7; exact hat7)
        · have hj1 : ¬ (j : Int) < (items.length : Int) := by omega
          obtain ⟨I, hGr, hRb, hRJ⟩ := HM.out
          have hln : items.take j = items := List.take_of_length_le (by omega)
          rw [hln] at hRJ
          have hJ := hRJ.holds
          obtain ⟨⟨xs, F, ho, _, _⟩, _⟩ := hRJ
          obtain ⟨xi, ci, rfl⟩ := owns_form ho
          have sB := HBX.out.size
          have sG := hGr.size
          have hbcl := HBC.out
          have hwb : Below w.heap.size w wr := HBX.out.trans (hGr.below (by omega) (fun q hq e => by omega))
          have hzr := hGr.rowC HZX.out (by omega)
          have hkr := HKX.out.chg hGr (fun q hq e => hq.2.2 e)
          have HJ := Lib.hid hJ
          have HRB := Lib.hid hRb
          have HWB := Lib.hid hwb
          have HZR := Lib.hid hzr
          have HKR := Lib.hid hkr
          clear hGr hRb hJ ho hwb hzr hkr HM hj
          go_wp2_with (first
            | ((with_reducible show wpList _ _ _ (⟨some 36, .load _ _, _, _, _, _⟩ :: _) _ _); refine wpList_load_row rfl 63 _ rfl bc rfl 63 (row4 kk (str t) xi items.length ci y keys.length d) (0, 0) _ HRB.out Tryz.underlying63 rfl HI.out ?_)
            | ((with_reducible show wpList _ _ _ (⟨none, .store _ (.tmp 4) _, _, _, _, _⟩ :: _) _ _); refine wpList_store_row rfl 63 _ _ rfl (w.heap.size + 1) (row4 kk (str t) xi items.length ci y keys.length d) rfl rfl 63 zeroV4 HZR.out HI.out rfl (row4_all _ _ _ _ _ _ _ _) ?_))
          refine bodyPost_ret (results_cell_row rfl _ _ (w.heap.size + 1) 63 (row4 kk (str t) xi items.length ci y keys.length d) (0, 0) _ rfl (rowC_setRow HZR.out _) Tryz.underlying63 rfl HI.out) rfl ?_
          obtain ⟨f1, f2⟩ := cl_fin (kk := kk) (t := t) (items := items) (C := .slice xi items.length ci) HWB.out htl (HKR.out.mono fun q hq hlt => ⟨hq.1, hlt⟩) (by
            rcases HJ.out with h | ⟨ad, cap, h1, h2⟩
            · exact .inl h
            · exact .inr ⟨ad, cap, h1, HoldsR.mono (fun k hk _ => by show w.heap.size + 2 ≤ k; have hk : wc.heap.size ≤ k := hk; omega) _ _ _ h2⟩) (row4 kk (str t) xi items.length ci y keys.length d)
          exact ⟨_, rfl, f1, f2⟩
end Go.Proofs.YtnkencdibniagaaGreatDoor

/- Layer 13: json's Get. -/
namespace Go.Proofs.YtnkencdibniagaaGreatDoor
open Go.RowKit

/-- What Get answers. -/
def GetP (w : World) (o : Option JV) (e : Ending) (w' : World) : Prop :=
  ∃ x ok y m z n, e = .returned (.tuple #[.agg (row4 x.kind (str x.text) y x.items.length m z x.keys.length n), .bool ok]) ∧ HoldsC w' (fun k => w.heap.size ≤ k ∧ k < w'.heap.size) x (.int .i64 x.kind) (.string (str x.text)) (.slice y x.items.length m) (.slice z x.keys.length n) ∧
    (o = some x ∧ ok = true ∨ o = none ∧ ok = false ∧ x = .mk 0 [] [] []) ∧ Below w.heap.size w w'
theorem getP_none {w w' : World} (hB : Below w.heap.size w w') : GetP w none (.returned (.tuple #[.agg zeroV4, .bool false])) w' :=
  ⟨.mk 0 [] [] [], false, none, 0, none, 0, rfl, by rw [HoldsC]; exact ⟨rfl, rfl, by simp, .inl ⟨rfl, rfl⟩, .inl ⟨rfl, rfl⟩⟩, .inr ⟨rfl, rfl, rfl⟩, hB⟩
set_option maxRecDepth 100000 in
set_option maxHeartbeats 8000000 in
theorem get_any {v : JV} (ho : okJ v) (hg : hgJ v ≤ 65536) (key : Bs) {w : World} {a b c d : Value} (hH : HoldsC w (fun k => k < w.heap.size) v a b c d) :
    Calls Tryz.prog 77 #[.agg #[a, b, c, d], .string (str key)] w fun e w' => GetP w (getV v key) e w' := by
  obtain ⟨kk, t, items, keys⟩ := v
  rw [okJ] at ho
  obtain ⟨_, ⟨ho1, ho2, _⟩, ho4⟩ := ho
  obtain ⟨rfl, rfl, htl, ⟨x1, c1, rfl, hit⟩, x2, c2, rfl, hk⟩ := hH.opens
  obtain ⟨W0, hW0⟩ : ∃ W0, W0 = (w.alloc (.cells #[.int .i64 kk, .string (str t), .slice x1 items.length c1, .slice x2 keys.length c2] 63)).alloc (.cells #[.int .i64 0, .string ⟨#[]⟩, .slice none 0 0, .slice none 0 0] 63) := ⟨_, rfl⟩
  have s1 := size_alloc w (.cells #[.int .i64 kk, .string (str t), .slice x1 items.length c1, .slice x2 keys.length c2] 63)
  have R0 : rowC W0 w.heap.size #[.int .i64 kk, .string (str t), .slice x1 items.length c1, .slice x2 keys.length c2] 63 := by rw [hW0]; exact rowC_alloc (rowC_new w _ _) _
  have Z0 : rowC W0 (w.heap.size + 1) zeroV4 63 := by rw [hW0, ← s1]; exact rowC_new _ _ _
  have B0 : Below w.heap.size w W0 := by rw [hW0]; exact ((Below.refl _ _).alloc (Nat.le_refl _) _).alloc (by omega) _
  have S0 : W0.heap.size = w.heap.size + 2 := by rw [hW0, size_alloc, s1]
  have CI := sindex_any (w := W0) (F := fun k => k < w.heap.size) (keys := keys) (key := key) (x := x2) (c := c2) (fun i hi => by
    obtain ⟨ad, h1, h2, h3⟩ := hk i hi
    exact ⟨ad, h1, h2, by rw [World.cell?_of_block (w := w) (w' := W0) (B0.block _ (by rw [add_block]; exact h2))]; exact h3⟩) ho2
  have hG : getV (.mk kk t items keys) key = if kk = 6 then (if fstK keys key 0 < 0 then none else items[(fstK keys key 0).toNat]?) else none := by
    show (if kk = 6 then getL keys items key else none) = _
    rw [getL_fst keys items key 0]
    rfl
  have hfl := fstK_le keys key 0
  obtain ⟨o, ho_⟩ : ∃ o, o = getV (.mk kk t items keys) key := ⟨_, rfl⟩
  rw [← ho_]
  rw [hG] at ho_
  obtain ⟨ix, hix⟩ : ∃ ix, ix = fstK keys key 0 := ⟨_, rfl⟩
  rw [← hix] at CI hfl ho_
  have HGV := Lib.hid ho_
  have q3 : W0.cell? ⟨w.heap.size, 3, none⟩ = some (.slice x2 keys.length c2) := rowC_cell R0 3
  have HW0 := Lib.hid hW0
  have HR0 := Lib.hid R0
  have HZ0 := Lib.hid Z0
  have HB0 := Lib.hid B0
  have HIT := Lib.hid hit
  have HO4 := Lib.hid ho4
  have HHg := Lib.hid (show hgL items ≤ 65536 from hg)
  have HI := Lib.hid info_V
  clear hW0 R0 Z0 B0 hit ho4 hg hix hG hk hH ho_
  go_enter Tryz.func77, Tryz.ntmps77
  go_upto_region 1 with (fail)
  rw [← HW0.out]
  go_upto_region 2 with (go_at_call 112; ((with_reducible refine CI.mono ?_); rintro e w2 ⟨rfl, hb2⟩))
  have R2 := rowC_below HR0.out hb2 (by omega)
  have Z2 := rowC_below HZ0.out hb2 (by omega)
  have q0 : w2.cell? ⟨w.heap.size, 0, none⟩ = some (.int .i64 kk) := rowC_cell R2 0
  have q2 : w2.cell? ⟨w.heap.size, 2, none⟩ = some (.slice x1 items.length c1) := rowC_cell R2 2
  have HB2 := Lib.hid (HB0.out.trans (hb2.mono (by omega)))
  have HR2 := Lib.hid R2
  have HZ2 := Lib.hid Z2
  clear R2 Z2 CI hb2
  by_cases h6 : kk = 6
  rotate_left
  · have e0 : Hid (o = none) := Lib.hid (by rw [HGV.out, if_neg h6])
    go_wp2_with (first
      | ((with_reducible show wpList _ _ _ (⟨some 25, .build _ _, _, _, _, _⟩ :: _) _ _); refine wpList_build_as rfl 63 _ rfl zeroV4 (by kernel_rfl) ?_)
      | ((with_reducible show wpList _ _ _ (⟨none, .store _ (.tmp 4) _, _, _, _, _⟩ :: _) _ _); refine wpList_store_row rfl 63 _ _ rfl (w.heap.size + 1) zeroV4 rfl rfl 63 zeroV4 HZ2.out HI.out rfl zeroV4_all ?_))
    refine bodyPost_ret (results_row_tmp rfl _ _ (w.heap.size + 1) 63 zeroV4 _ rfl (rowC_setRow HZ2.out _) Tryz.underlying63 rfl HI.out (.bool false) rfl) rfl ?_
    rw [e0.out]
    exact getP_none (below_setRow HB2.out (by omega) _)
  subst h6
  by_cases hn : ix < 0
  · have e0 : Hid (o = none) := Lib.hid (by rw [HGV.out, if_pos rfl, if_pos hn])
    go_wp2_with (first
      | ((with_reducible show wpList _ _ _ (⟨some 25, .build _ _, _, _, _, _⟩ :: _) _ _); refine wpList_build_as rfl 63 _ rfl zeroV4 (by kernel_rfl) ?_)
      | ((with_reducible show wpList _ _ _ (⟨none, .store _ (.tmp 4) _, _, _, _, _⟩ :: _) _ _); refine wpList_store_row rfl 63 _ _ rfl (w.heap.size + 1) zeroV4 rfl rfl 63 zeroV4 HZ2.out HI.out rfl zeroV4_all ?_))
    refine bodyPost_ret (results_row_tmp rfl _ _ (w.heap.size + 1) 63 zeroV4 _ rfl (rowC_setRow HZ2.out _) Tryz.underlying63 rfl HI.out (.bool false) rfl) rfl ?_
    rw [e0.out]
    exact getP_none (below_setRow HB2.out (by omega) _)
  obtain ⟨i, rfl⟩ : ∃ i : Nat, ix = (i : Int) := ⟨ix.toNat, by omega⟩
  have hi0 : ¬ (i : Int) < 0 := by omega
  have HG2 : Hid (o = items[i]?) := Lib.hid (by rw [HGV.out, if_pos rfl, if_neg hn, Int.toNat_natCast])
  by_cases hil : i < items.length
  rotate_left
  · have e0 : Hid (o = none) := Lib.hid (by rw [HG2.out]; exact List.getElem?_eq_none (by omega))
    have hge : (items.length : Int) ≤ (i : Int) := by omega
    go_wp2_with (first
      | ((with_reducible show wpList _ _ _ (⟨some 25, .build _ _, _, _, _, _⟩ :: _) _ _); refine wpList_build_as rfl 63 _ rfl zeroV4 (by kernel_rfl) ?_)
      | ((with_reducible show wpList _ _ _ (⟨none, .store _ (.tmp 4) _, _, _, _, _⟩ :: _) _ _); refine wpList_store_row rfl 63 _ _ rfl (w.heap.size + 1) zeroV4 rfl rfl 63 zeroV4 HZ2.out HI.out rfl zeroV4_all ?_))
    refine bodyPost_ret (results_row_tmp rfl _ _ (w.heap.size + 1) 63 zeroV4 _ rfl (rowC_setRow HZ2.out _) Tryz.underlying63 rfl HI.out (.bool false) rfl) rfl ?_
    rw [e0.out]
    exact getP_none (below_setRow HB2.out (by omega) _)
  obtain ⟨xv, hxv⟩ : ∃ xv, items[i]? = some xv := ⟨_, List.getElem?_eq_getElem hil⟩
  have e0 : Hid (o = some xv) := Lib.hid (by rw [HG2.out, hxv])
  have hlt : (i : Int) < (items.length : Int) := by omega
  have hge : ¬ (items.length : Int) ≤ (i : Int) := by omega
  obtain ⟨ad, a', b', c', d', rfl, hab, h4, hHx⟩ := HIT.out i xv hxv
  have h4r : at4 w2 (ad.add (i * 4)) a' b' c' d' := fun q u hq => by
    have hc := h4 q u hq
    rw [World.cell?_of_block (w := w) (w' := w2) (HB2.out.block _ (by rw [add_block, add_block]; exact hab))]
    exact hc
  have hHr := HoldsC.far hHx HB2.out
  obtain ⟨rfl, rfl, ⟨p1, q1, rfl⟩, p2, q2, rfl⟩ := hHx.form
  have hxm : xv ∈ items := List.mem_of_getElem? hxv
  have s2 := HB2.out.size
  have CC := jclone_any (SizeOf.sizeOf xv) xv (Nat.le_refl _) (okJL_mem HO4.out xv hxm) 65536 65536 w2 _ _ _ _ (by have h1 := hgL_mem hxm; have h2 := HHg.out; omega) (Nat.le_refl _) rfl (HoldsC.mono (fun k hk _ => by show k < w2.heap.size; have hk : k < w.heap.size := hk; omega) _ _ _ _ _ hHr)
  have H4R := Lib.hid h4r
  have l2 := rowC_lt HZ2.out
  clear h4 h4r hHx hHr hxm hil hxv
  go_wp2_with (first
    | ((with_reducible show wpList _ _ _ (⟨some 30, .load _ _, _, _, _, _⟩ :: _) _ _); refine wpList_load_at rfl 63 _ rfl (ad.add (i * 4)) rfl [.int .i64 xv.kind, .string (str xv.text), .slice p1 xv.items.length q1, .slice p2 xv.keys.length q2] _ H4R.out Tryz.underlying63 rfl HI.out ?_)
    | (go_at_call 113; ((with_reducible refine CC.mono ?_); rintro e w3 ⟨V, rfl, ⟨a3, b3, c3, d3, rfl, hV⟩, hb3⟩; obtain ⟨rfl, rfl, ⟨y, m, rfl⟩, z, n, rfl⟩ := hV.form; have HV := Lib.hid hV; have HB3 := Lib.hid hb3; have HZ3 := Lib.hid (rowC_below HZ2.out hb3 (by omega)); clear hV hb3))
    | ((with_reducible show wpList _ _ _ (⟨none, .store _ (.tmp 4) _, _, _, _, _⟩ :: _) _ _); refine wpList_store_row rfl 63 _ _ rfl (w.heap.size + 1) (row4 xv.kind (str xv.text) y xv.items.length m z xv.keys.length n) rfl rfl 63 zeroV4 HZ3.out HI.out rfl (row4_all _ _ _ _ _ _ _ _) ?_))
  refine bodyPost_ret (results_row_tmp rfl _ _ (w.heap.size + 1) 63 (row4 xv.kind (str xv.text) y xv.items.length m z xv.keys.length n) _ rfl (rowC_setRow HZ3.out _) Tryz.underlying63 rfl HI.out (.bool true) rfl) rfl ?_
  have h3 := HB2.out.trans (HB3.out.mono s2)
  rw [e0.out]
  refine ⟨xv, true, y, m, z, n, rfl, HoldsC.mono (fun k hk hlt => ⟨by have := hk.1; omega, hlt⟩) _ _ _ _ _ (HoldsC.chg (s := fun k => k = w.heap.size + 1) ((Chg.refl _ _).setRow _ _ (.inl rfl)) (fun k hk e => by have := hk.1; omega) _ _ _ _ _ HV.out), .inl ⟨rfl, rfl⟩, below_setRow h3 (by omega) _⟩
end Go.Proofs.YtnkencdibniagaaGreatDoor

