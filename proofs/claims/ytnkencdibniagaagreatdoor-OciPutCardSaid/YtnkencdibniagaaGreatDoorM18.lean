/- Merged: OdA, JtR, JtS. -/
import Derived.Test.YtnkencdibniagaaGreatDoorM17
import Derived.Test.YtnkencdibniagaaGreatDoorShel2
import Derived.Test.YtnkencdibniagaaGreatDoorM05
import Derived.Test.YtnkencdibniagaaGreatDoorM15
/- Layer 13: what start-up laid, some more; json's Int and Text. -/
namespace Go.Proofs.YtnkencdibniagaaGreatDoor
open Go.RowKit

structure Env2 (w : World) : Prop where
  env : Env w
  rng : ∃ tp p, w.var? Tryz.prog "strconv.ErrRange" = some #[.iface tp p]
  tab : Lib.TabIs Tryz.prog w "internal/strconv.uint64pow10" .u64 Lib.pow10Tab
theorem rng_glob : Tryz.prog.globalNamed "strconv.ErrRange" = some 5 := by kernel_rfl
theorem tab_glob : Tryz.prog.globalNamed "internal/strconv.uint64pow10" = some 6 := by kernel_rfl
theorem var_same {w w' : World} {n : String} {g : Nat} (hg : Tryz.prog.globalNamed n = some g) (hlt : g < 10) (h : ∀ k, k < 10 → w'.heap[k]? = w.heap[k]?) : w'.var? Tryz.prog n = w.var? Tryz.prog n := by
  unfold World.var?
  rw [hg]
  have := h g hlt
  simp [this]
theorem Env2.same {w w' : World} (e : Env2 w) (h : ∀ k, k < 10 → w'.heap[k]? = w.heap[k]?) (hs : w.heap.size ≤ w'.heap.size) : Env2 w' := by
  obtain ⟨tp, p, hv⟩ := e.rng
  refine ⟨e.env.same h hs, ⟨tp, p, ?_⟩, ?_⟩
  · rw [var_same rng_glob (by decide) h, hv]
  · have := e.tab
    unfold Lib.TabIs at this ⊢
    rw [var_same tab_glob (by decide) h, this]
theorem Env2.chg {s : Nat → Prop} {w w' : World} (e : Env2 w) (h : Chg s w w') (hs : ∀ k, k < 10 → ¬ s k) : Env2 w' :=
  e.same (fun k hk => h.block k (Nat.lt_of_lt_of_le hk e.env.big) (hs k hk)) h.size
theorem Env2.below {w w' : World} (e : Env2 w) (h : Below w.heap.size w w') : Env2 w' := e.chg (s := fun _ => False) (Chg.of_below h) (fun _ _ => id)
theorem Env2.far {B : Nat} {w w' : World} (e : Env2 w) (h : Below B w w') (hB : 10 ≤ B) : Env2 w' := e.chg (chg_of_below h) (fun k hk hs => by omega)
theorem atoi_cases (t : Bs) : (∃ n, Lib.atoiAll t = .ok n) ∨ Lib.atoiAll t = .range ∨ Lib.atoiAll t = Lib.atoiAll [120] := by
  cases h : Lib.atoiAll t with
  | ok n => exact .inl ⟨n, rfl⟩
  | range => exact .inr (.inl rfl)
  | _ => exact .inr (.inr rfl)
/-- A number, and whether it is one. -/
def numA (o : Option Int) : Value × Bool := match o with | some n => (.int .i64 n, true) | none => (.int .i64 0, false)
set_option maxRecDepth 100000 in
set_option maxHeartbeats 4000000 in
theorem int_any (v : JV) (x1 : Option Addr) (n1 c1 : Nat) (x2 : Option Addr) (n2 c2 : Nat) (ht : v.kind = 3 → v.text.length ≤ 70368744177664) (w : World) (hE : Env2 w) : Calls Tryz.prog 74 #[.agg #[.int .i64 v.kind, .string (str v.text), .slice x1 n1 c1, .slice x2 n2 c2]] w fun e w' => e = .returned (.tuple #[(numA (intV v)).1, .bool (numA (intV v)).2]) ∧ Below w.heap.size w w' := by
  obtain ⟨kk, t, l, ks⟩ := v
  change (kk = 3 → t.length ≤ 70368744177664) at ht
  show Calls _ _ #[.agg #[.int .i64 kk, .string (str t), .slice x1 n1 c1, .slice x2 n2 c2]] w _
  obtain ⟨W0, hW0⟩ : ∃ W0, W0 = w.alloc (.cells #[.int .i64 kk, .string (str t), .slice x1 n1 c1, .slice x2 n2 c2] 63) := ⟨_, rfl⟩
  have R0 : rowC W0 w.heap.size #[.int .i64 kk, .string (str t), .slice x1 n1 c1, .slice x2 n2 c2] 63 := by rw [hW0]; exact rowC_new w _ _
  have B0 : Below w.heap.size w W0 := by rw [hW0]; exact (Below.refl _ _).alloc (Nat.le_refl _) _
  have g0 : W0.cell? ⟨w.heap.size, 0, none⟩ = some (.int .i64 kk) := rowC_cell R0 0
  have g1 : W0.cell? ⟨w.heap.size, 1, none⟩ = some (.string (str t)) := rowC_cell R0 1
  have HW0 := Lib.hid hW0
  have HR0 := Lib.hid R0
  have HB0 := Lib.hid B0
  have HE0 := Lib.hid (hE.below B0)
  clear hW0 R0 B0 hE
  by_cases h3 : kk = 3
  rotate_left
  · have hi : intV (.mk kk t l ks) = none := by
      unfold intV
      rw [if_neg fun h => h3 h.1]
    rw [hi]
    unfold numA
    dsimp only
    go_enter Tryz.func74, Tryz.ntmps74
    go_upto_region 1 with (fail)
    rw [← HW0.out]
    go_wp2
    go_ret2
    exact ⟨rfl, HB0.out⟩
  have hT0 := ht h3
  have hT : okT t := by unfold okT; omega
  subst h3
  have C0 := isNumber_any t hT W0
  cases hn : isNumB t with
  | false =>
    rw [hn] at C0
    have hi : intV (.mk 3 t l ks) = none := by
      unfold intV
      rw [if_neg]
      rintro ⟨_, h⟩
      have h : isNumB t = true := h
      rw [hn] at h
      cases h
    rw [hi]
    unfold numA
    dsimp only
    go_enter Tryz.func74, Tryz.ntmps74
    go_upto_region 1 with (fail)
    rw [← HW0.out]
    go_wp2_with (go_at_call 109; ((with_reducible refine C0.mono ?_); rintro e w2 ⟨rfl, hb2⟩))
    go_ret2
    exact ⟨rfl, HB0.out.trans (hb2.mono HB0.out.size)⟩
  | true =>
    rw [hn] at C0
    have hi : intV (.mk 3 t l ks) = match Lib.atoiAll t with | .ok n => if -9007199254740992 ≤ n ∧ n ≤ 9007199254740992 then some n else none | _ => none := by
      unfold intV
      rw [if_pos ⟨rfl, hn⟩]
      rfl
    have hsz : (str t).size ≤ 281474976710656 := by rw [str_size]; omega
    rcases atoi_cases t with ⟨n, h⟩ | h | h
    · have CA := fun w2 => Tryz.strconv_Atoi_ok (str t) (by omega) n (by rw [str_toList]; exact h) w2
      rw [hi, h]
      dsimp only
      clear hi h hn hT hT0 ht hsz
      by_cases hr : -9007199254740992 ≤ n ∧ n ≤ 9007199254740992
      · rw [if_pos hr]
        unfold numA
        dsimp only
        obtain ⟨r1, r2⟩ := hr
        have r1' : ¬ n < -9007199254740992 := by omega
        have r2' : ¬ 9007199254740992 < n := by omega
        go_enter Tryz.func74, Tryz.ntmps74
        go_upto_region 1 with (fail)
        rw [← HW0.out]
        go_upto_region 3 with (go_at_call 109; ((with_reducible refine C0.mono ?_); rintro e w2 ⟨rfl, hb2⟩))
        have q1 : w2.cell? ⟨w.heap.size, 1, none⟩ = some (.string (str t)) := rowC_cell (rowC_below HR0.out hb2 (rowC_lt HR0.out)) 1
        have HB2 := Lib.hid (HB0.out.trans (hb2.mono HB0.out.size))
        go_wp2_with (go_at_call 110; ((with_reducible refine (CA _).mono ?_); rintro e w3 ⟨rfl, h3⟩; have HB3 : Hid (Below w2.heap.size w2 w3) := Lib.hid (by rcases h3 with rfl | ⟨t, rfl⟩; exact Below.refl _ _; exact Lib.bytesWorld_below _ _ _); clear h3))
        go_ret2
        exact ⟨rfl, HB2.out.trans (HB3.out.mono HB2.out.size)⟩
      · rw [if_neg hr]
        unfold numA
        dsimp only
        go_enter Tryz.func74, Tryz.ntmps74
        go_upto_region 1 with (fail)
        rw [← HW0.out]
        go_upto_region 3 with (go_at_call 109; ((with_reducible refine C0.mono ?_); rintro e w2 ⟨rfl, hb2⟩))
        have q1 : w2.cell? ⟨w.heap.size, 1, none⟩ = some (.string (str t)) := rowC_cell (rowC_below HR0.out hb2 (rowC_lt HR0.out)) 1
        have HB2 := Lib.hid (HB0.out.trans (hb2.mono HB0.out.size))
        by_cases r1 : n < -9007199254740992
        · go_wp2_with (go_at_call 110; ((with_reducible refine (CA _).mono ?_); rintro e w3 ⟨rfl, h3⟩; have HB3 : Hid (Below w2.heap.size w2 w3) := Lib.hid (by rcases h3 with rfl | ⟨t, rfl⟩; exact Below.refl _ _; exact Lib.bytesWorld_below _ _ _); clear h3))
          go_ret2
          exact ⟨rfl, HB2.out.trans (HB3.out.mono HB2.out.size)⟩
        · have r2 : 9007199254740992 < n := by omega
          go_wp2_with (go_at_call 110; ((with_reducible refine (CA _).mono ?_); rintro e w3 ⟨rfl, h3⟩; have HB3 : Hid (Below w2.heap.size w2 w3) := Lib.hid (by rcases h3 with rfl | ⟨t, rfl⟩; exact Below.refl _ _; exact Lib.bytesWorld_below _ _ _); clear h3))
          go_ret2
          exact ⟨rfl, HB2.out.trans (HB3.out.mono HB2.out.size)⟩
    · rw [hi, h]
      unfold numA
      dsimp only
      go_enter Tryz.func74, Tryz.ntmps74
      go_upto_region 1 with (fail)
      rw [← HW0.out]
      go_upto_region 3 with (go_at_call 109; ((with_reducible refine C0.mono ?_); rintro e w2 ⟨rfl, hb2⟩))
      have q1 : w2.cell? ⟨w.heap.size, 1, none⟩ = some (.string (str t)) := rowC_cell (rowC_below HR0.out hb2 (rowC_lt HR0.out)) 1
      obtain ⟨tp, p, hv⟩ := (HE0.out.below hb2).rng
      have CA := Tryz.strconv_Atoi_range_var (str t) hsz (by rw [str_toList]; exact h) tp p w2 hv
      clear hv
      go_wp2_with (go_at_call 110; ((with_reducible refine CA.mono ?_); rintro e w3 ⟨N, rfl, _, _, hb3⟩))
      go_ret2
      exact ⟨rfl, (HB0.out.trans (hb2.mono HB0.out.size)).trans (hb3.mono (HB0.out.trans (hb2.mono HB0.out.size)).size)⟩
    · rw [hi, h]
      unfold numA
      rw [show (match Lib.atoiAll [120] with | .ok n => if -9007199254740992 ≤ n ∧ n ≤ 9007199254740992 then some n else none | _ => none : Option Int) = none from rfl]
      dsimp only
      go_enter Tryz.func74, Tryz.ntmps74
      go_upto_region 1 with (fail)
      rw [← HW0.out]
      go_upto_region 3 with (go_at_call 109; ((with_reducible refine C0.mono ?_); rintro e w2 ⟨rfl, hb2⟩))
      have q1 : w2.cell? ⟨w.heap.size, 1, none⟩ = some (.string (str t)) := rowC_cell (rowC_below HR0.out hb2 (rowC_lt HR0.out)) 1
      obtain ⟨tp, p, hv⟩ := (HE0.out.below hb2).env.syn
      have CA := Tryz.strconv_Atoi_syntax_var (str t) hsz (by rw [str_toList]; exact h) tp p w2 hv
      clear hv
      go_wp2_with (go_at_call 110; ((with_reducible refine CA.mono ?_); rintro e w3 ⟨N, rfl, _, _, hb3⟩))
      go_ret2
      exact ⟨rfl, (HB0.out.trans (hb2.mono HB0.out.size)).trans (hb3.mono (HB0.out.trans (hb2.mono HB0.out.size)).size)⟩
/-- A text, and whether it is one. -/
def txtA (o : Option Bs) : Value × Bool := match o with | some s => (.string (str s), true) | none => (.string ⟨#[]⟩, false)
set_option maxHeartbeats 4000000 in
theorem jtext_any (v : JV) (x1 : Option Addr) (n1 c1 : Nat) (x2 : Option Addr) (n2 c2 : Nat) (w : World) : Calls Tryz.prog 81 #[.agg #[.int .i64 v.kind, .string (str v.text), .slice x1 n1 c1, .slice x2 n2 c2]] w fun e w' => e = .returned (.tuple #[(txtA (textV v)).1, .bool (txtA (textV v)).2]) ∧ Below w.heap.size w w' := by
  obtain ⟨kk, t, l, ks⟩ := v
  show Calls _ _ #[.agg #[.int .i64 kk, .string (str t), .slice x1 n1 c1, .slice x2 n2 c2]] w _
  obtain ⟨W0, hW0⟩ : ∃ W0, W0 = w.alloc (.cells #[.int .i64 kk, .string (str t), .slice x1 n1 c1, .slice x2 n2 c2] 63) := ⟨_, rfl⟩
  have R0 : rowC W0 w.heap.size #[.int .i64 kk, .string (str t), .slice x1 n1 c1, .slice x2 n2 c2] 63 := by rw [hW0]; exact rowC_new w _ _
  have B0 : Below w.heap.size w W0 := by rw [hW0]; exact (Below.refl _ _).alloc (Nat.le_refl _) _
  have g0 : W0.cell? ⟨w.heap.size, 0, none⟩ = some (.int .i64 kk) := rowC_cell R0 0
  have g1 : W0.cell? ⟨w.heap.size, 1, none⟩ = some (.string (str t)) := rowC_cell R0 1
  have HW0 := Lib.hid hW0
  have HB0 := Lib.hid B0
  clear hW0 R0 B0
  have hi : textV (.mk kk t l ks) = if kk = 4 then some t else none := rfl
  rw [hi]
  by_cases h4 : kk = 4
  · rw [if_pos h4]
    subst h4
    unfold txtA
    dsimp only
    go_enter Tryz.func81, Tryz.ntmps81
    go_upto_region 1 with (fail)
    rw [← HW0.out]
    go_wp2
    go_ret2
    exact ⟨rfl, HB0.out⟩
  · rw [if_neg h4]
    unfold txtA
    dsimp only
    go_enter Tryz.func81, Tryz.ntmps81
    go_upto_region 1 with (fail)
    rw [← HW0.out]
    go_wp2
    go_ret2
    exact ⟨rfl, HB0.out⟩
end Go.Proofs.YtnkencdibniagaaGreatDoor

/- Layer 11: an item of a list is read. -/
namespace Go.Proofs.YtnkencdibniagaaGreatDoor
open Go.RowKit
attribute [local go_sem ↓] Go.wp_at_zero Go.wp_at_succ

theorem row_cells4 {w : World} {bL g m cap : Nat} {xs : List Value} {a b c d : Value} {t : TypeId} (h : w.ownsRow bL t 4 (.slice (some ⟨g, 0, none⟩) (m + 1) cap) (m + 1) (xs ++ [a, b, c, d])) (hl : xs.length = m * 4) :
    w.cell? ⟨g, m * 4, none⟩ = some a ∧ w.cell? ⟨g, m * 4 + 1, none⟩ = some b ∧ w.cell? ⟨g, m * 4 + 2, none⟩ = some c ∧ w.cell? ⟨g, m * 4 + 3, none⟩ = some d := by
  refine ⟨?_, ?_, ?_, ?_⟩
  · rw [h.cellAt _ (by omega), List.getElem?_append_right (by omega), show m * 4 - xs.length = 0 by omega]; rfl
  · rw [h.cellAt _ (by omega), List.getElem?_append_right (by omega), show m * 4 + 1 - xs.length = 1 by omega]; rfl
  · rw [h.cellAt _ (by omega), List.getElem?_append_right (by omega), show m * 4 + 2 - xs.length = 2 by omega]; rfl
  · rw [h.cellAt _ (by omega), List.getElem?_append_right (by omega), show m * 4 + 3 - xs.length = 3 by omega]; rfl
theorem apart_g {I : Value} {g bv bx H : Nat} (hat : I.ownBlock = some g ∨ g = H + 1) (h1 : I.ownBlock ≠ some bv) (h2 : I.ownBlock ≠ some bx) (hb : bv < H) (hx : bx < H) : ¬ g = bv ∧ ¬ bv = g ∧ ¬ g = bx ∧ ¬ bx = g := by
  have k1 : ¬ g = bv := by
    intro e
    subst e
    rcases hat with h | h
    · exact h1 h
    · omega
  have k2 : ¬ g = bx := by
    intro e
    subst e
    rcases hat with h | h
    · exact h2 h
    · omega
  exact ⟨k1, fun e => k1 e.symm, k2, fun e => k2 e.symm⟩
/-- A value lies there. -/
def WkV (bv : Nat) (w : World) : Prop := ∃ (k : Int) (t : ByteArray) (x1 : Option Addr) (n1 c1 : Nat) (x2 : Option Addr) (n2 c2 : Nat), rowC w bv #[.int .i64 k, .string t, .slice x1 n1 c1, .slice x2 n2 c2] 63
/-- An item is put to a list's value: what holds behind the two stores, in either order. -/
def putJ (w2 w' : World) (bL br bv q lo : Nat) (acc : List JV) (I I' a b c d : Value) : Prop :=
  Chg (fun k => I.ownBlock = some k ∨ k = bv) w2 w' ∧ rowC w' br #[.pointer (some ⟨q, 0, none⟩)] 118 ∧ rowC w' bv #[.int .i64 5, .string ⟨#[]⟩, I', .slice none 0 0] 63 ∧
    ∀ v, HoldsC w2 (fun k => lo ≤ k ∧ k < w2.heap.size) v a b c d → RowJ w' bL I' (acc ++ [v]) (fun k => k = br ∨ k = bv)
theorem list1_put {w2 w4 : World} {bL br bv q lo m g cap : Nat} {acc : List JV} {I a b c d : Value} {xs : List Value} {F : Nat → Prop} (hne : br ≠ bv) (hlo : bL ≤ lo) (hbr : br < lo) (hbv : bv < lo)
    (hI : ItemsC w2 F acc xs) (hF : ∀ k, F k → bL ≤ k ∧ ¬ (k = br ∨ k = bv) ∧ I.ownBlock ≠ some k) (hm : m = acc.length) (hIo : ∀ k, I.ownBlock = some k → k < lo) (hIn : ∀ k, k = br ∨ k = bv → I.ownBlock ≠ some k)
    (hB : rowC w2 br #[.pointer (some ⟨q, 0, none⟩)] 118) (hR : rowC w2 bv #[.int .i64 5, .string ⟨#[]⟩, I, .slice none 0 0] 63)
    (hN : w4.ownsRow bL 63 4 (.slice (some ⟨g, 0, none⟩) (m + 1) cap) (m + 1) (xs ++ [.int .i64 0, .string ⟨#[]⟩, .slice none 0 0, .slice none 0 0]))
    (hc : Chg (fun k => I.ownBlock = some k) w2 w4) (hat : I.ownBlock = some g ∨ w2.heap.size ≤ g) :
    putJ w2 (((((w4.setCell ⟨g, m * 4, none⟩ a).setCell ⟨g, m * 4 + 1, none⟩ b).setCell ⟨g, m * 4 + 2, none⟩ c).setCell ⟨g, m * 4 + 3, none⟩ d).setCell ⟨bv, 2, none⟩ (.slice (some ⟨g, 0, none⟩) (m + 1) cap)) bL br bv q lo acc I (.slice (some ⟨g, 0, none⟩) (m + 1) cap) a b c d ∧
    putJ w2 (((((w4.setCell ⟨bv, 2, none⟩ (.slice (some ⟨g, 0, none⟩) (m + 1) cap)).setCell ⟨g, m * 4, none⟩ a).setCell ⟨g, m * 4 + 1, none⟩ b).setCell ⟨g, m * 4 + 2, none⟩ c).setCell ⟨g, m * 4 + 3, none⟩ d) bL br bv q lo acc I (.slice (some ⟨g, 0, none⟩) (m + 1) cap) a b c d := by
  have lbr := rowC_lt hB
  have lbv := rowC_lt hR
  have gn : ∀ k, k = br ∨ k = bv → ¬ k = g := by
    intro k hk e
    subst e
    rcases hat with hat | hat
    · exact hIn _ hk hat
    · rcases hk with rfl | rfl <;> omega
  have gbr : ¬ br = g := gn br (.inl rfl)
  have gbv : ¬ bv = g := gn bv (.inr rfl)
  have hg4 : I.ownBlock = some g ∨ w2.heap.size ≤ g := hat
  have b4 := hc.rowC hB (hIn br (.inl rfl))
  have r4 := hc.rowC hR (hIn bv (.inr rfl))
  have set4c : ∀ x : World, Chg (fun k => k = g) x ((((x.setCell ⟨g, m * 4, none⟩ a).setCell ⟨g, m * 4 + 1, none⟩ b).setCell ⟨g, m * 4 + 2, none⟩ c).setCell ⟨g, m * 4 + 3, none⟩ d) := fun x => ((((Chg.refl _ x).cellq _ _).cellq _ _).cellq _ _).cellq _ _
  have setb : ∀ (x : World) (v : Value), Chg (fun k => k = bv) x (x.setCell ⟨bv, 2, none⟩ v) := fun x v => (Chg.refl _ x).cellq _ _
  have own_lt : ∀ k, k = br ∨ k = bv → k < lo ∨ w2.heap.size ≤ k := by rintro k (rfl | rfl) <;> exact .inl (by assumption)
  refine ⟨⟨?_, ?_, ?_, fun v hv => ?_⟩, ⟨?_, ?_, ?_, fun v hv => ?_⟩⟩
  · exact ((hc.mono (t := fun k => I.ownBlock = some k ∨ k = bv) (fun k _ hk => .inl hk)).trans (set4c w4) (fun k hk e => by subst e; rcases hat with hat | hat; exact .inl hat; omega)).trans (setb _ _) (fun k _ hk => .inr hk)
  · exact (setb _ _).rowC ((set4c w4).rowC b4 gbr) hne
  · exact rowC_set ((set4c w4).rowC r4 gbv) 2 _
  · refine RowJ.chg (RowJ.put hI hF hm.symm hv hlo (Nat.le_refl _) own_lt hIo hN (hc.mono (fun k _ hk => .inl hk)) hat (fun hk => gn g hk rfl)) (setb _ _) (fun k hk => .inr (.inr hk))
  · exact ((hc.mono (t := fun k => I.ownBlock = some k ∨ k = bv) (fun k _ hk => .inl hk)).trans (setb w4 _) (fun k _ hk => .inr hk)).trans (set4c _) (fun k hk e => by subst e; rcases hat with hat | hat; exact .inl hat; omega)
  · exact (set4c _).rowC ((setb _ _).rowC b4 hne) gbr
  · exact (set4c _).rowC (rowC_set r4 2 _) gbv
  · refine RowJ.put hI hF hm.symm hv hlo (Nat.le_refl _) own_lt hIo ((setb w4 _).owns hN (fun k hk e => ?_)) ((hc.mono (t := fun k => I.ownBlock = some k ∨ (k = br ∨ k = bv) ∨ k < bL) (fun k _ hk => .inl hk)).trans (setb w4 _) (fun k _ hk => .inr (.inl (.inr hk)))) hat (fun hk => gn g hk rfl)
    simp only [Value.ownBlock, Option.some.injEq] at hk
    exact gbv (by rw [← e, hk])
/-- What the walk's end asks, once for all its ways. -/
theorem list1_fin {n lev bL br bv q : Nat} {S : Bs} (hlev : lev ≤ 16) (hqb : q < bL) (hbv : bv ≠ q) {acc : List JV} {r : Bs} {R : Res (List JV)} {w1 w2 w' : World} (hle1 : bL ≤ w1.heap.size) (h : RdAt w1 q S r lev) {Q : Res JV} (hv : valP n lev r = some Q)
    (hR : stepL (valP n lev) acc r = some R) {a b c d ev I I' : Value} (hG : gotV w1 q S r lev Q a b c d ev w2) (hC : Chg (· = q) w1 w2)
    (hI0 : ∀ k, I.ownBlock = some k → bL ≤ k) (hP : putJ w2 w' bL br bv q w1.heap.size acc I I' a b c d) (hf : ∃ x n c, I' = .slice x n c) :
    saysA w1 q S r lev (fun k => k = q ∨ k = bv ∨ bL ≤ k) (StL bL br bv q) (WkV bv) R (.returned ev) w' := by
  obtain ⟨hc, hbox, hrow, hj⟩ := hP
  have hq2 : ¬ (I.ownBlock = some q ∨ q = bv) := by
    rintro (e | e)
    · have := hI0 q e; omega
    · exact hbv e.symm
  have hcc : Chg (fun k => k = q ∨ k = bv ∨ bL ≤ k) w1 w' := (hC.mono (fun k _ hk => .inl hk)).trans hc (fun k _ hk => by
    rcases hk with e | e
    · exact .inr (.inr (hI0 k e))
    · exact .inr (.inl e))
  have hle := Nat.le_trans hle1 (Nat.le_trans hC.size hc.size)
  unfold stepL at hR
  rw [hv] at hR
  cases Q with
  | ok v x =>
    obtain ⟨rfl, hH, h2, _⟩ := hG
    have hlt := (val_ok n lev r v x hlev hv).2.2
    exact saysA_ok (Option.some.inj hR).symm (h2.chg hc hq2) ⟨hle, hbox, _, hrow, hj v hH⟩ hcc (suf_of h2.suf h.suf (by omega))
  | bad code x =>
    obtain ⟨rfl, ⟨y, l2, h2, hs⟩, _⟩ := hG
    exact saysA_bad (Option.some.inj hR).symm ⟨y, l2, h2.chg hc hq2, hs⟩ hcc (by obtain ⟨x, n, c, rfl⟩ := hf; exact ⟨_, _, _, _, _, _, _, _, hrow⟩)
set_option maxRecDepth 100000 in
set_option maxHeartbeats 8000000 in
theorem list1_any {n lev bL br bv q : Nat} (V : ValOk n) (hlev : lev ≤ 16) (S : Bs) (hS : okS S) (hq : 10 ≤ q) (hqb : q < bL) (hbr : br ≠ q) (hbv : bv ≠ q) (hne : br ≠ bv)
    (acc : List JV) (r : Bs) (R : Res (List JV)) (w1 : World) (hE : Env w1) (h : RdAt w1 q S r lev) (hst : StL bL br bv q acc w1) (hBd : acc.length + r.length ≤ 65536) (hR : stepL (valP n lev) acc r = some R) :
    Calls Tryz.prog 158 #[.pointer (some ⟨br, 0, none⟩), .pointer (some ⟨bv, 0, none⟩)] w1 fun e w2 => saysA w1 q S r lev (fun k => k = q ∨ k = bv ∨ bL ≤ k) (StL bL br bv q) (WkV bv) R e w2 := by
  cases hv : valP n lev r with
  | none => unfold stepL at hR; rw [hv] at hR; cases hR
  | some Q =>
    have C := V w1 q S r lev Q hS hE hq h hlev hv
    have b0 : w1.cell? ⟨br, 0, none⟩ = some (.pointer (some ⟨q, 0, none⟩)) := rowC_cell hst.box 0
    have FIN := Lib.hid (fun (w2 w' : World) (a b c d ev I I' : Value) => list1_fin (br := br) (w2 := w2) (w' := w') (a := a) (b := b) (c := c) (d := d) (ev := ev) (I := I) (I' := I') hlev hqb hbv hst.le h hv hR)
    have HLO := Lib.hid (rowC_lt hst.box)
    have HLb := Lib.hid hst.le
    have hbLw1 := hst.le
    obtain ⟨I, hr0, ⟨⟨xs, F, ho0, hI0, hF⟩, hIn⟩⟩ := hst.row
    have HLV := Lib.hid (rowC_lt hr0)
    have HIO := Lib.hid (fun k (hk : I.ownBlock = some k) => (ho0.lt k hk).2)
    have HR0 := Lib.hid hr0
    have HO0 := Lib.hid ho0
    have HI0 := Lib.hid hI0
    have HF := Lib.hid hF
    have HIN := Lib.hid hIn
    have HB0 := Lib.hid hst.box
    have hml : acc.length ≤ 65536 := by omega
    clear hR hv V hst h hE hBd hr0 ho0 hI0 hF hIn
    go_enter Tryz.func158, Tryz.ntmps158
    go_wp2_with (go_at_call 98; ((with_reducible refine C.mono ?_); rintro e w2 V; obtain ⟨k, t, x1, n1, c1, x2, n2, c2, ev, rfl, HG⟩ := saysV_all V; clear V))
    have hr := HG.out.1.rowC HR0.out hbv
    have ho := HG.out.1.owns HO0.out (fun g hg e => by have := (HO0.out.lt g hg).1; omega)
    have hI := ItemsC.chg HG.out.1 (fun k hk e => by have := (HF.out k hk).1; omega) acc xs HI0.out
    have hb := HG.out.1.rowC HB0.out hbr
    have hIn := HIN.out
    obtain ⟨m, hm⟩ : ∃ m, m = acc.length := ⟨_, rfl⟩
    have hxl := ItemsC.len acc xs hI
    rw [← hm] at ho hml hxl
    obtain ⟨ai, capi, rfl⟩ := owns_form ho
    have hbvl := rowC_lt hr
    have HXL := Lib.hid hxl
    have HI := Lib.hid hI
    have HM := Lib.hid hm
    have HB := Lib.hid hb
    have HR2 := Lib.hid hr
    have HOW := Lib.hid ho
    have Hs1 := Lib.hid (HG.out.1.size)
    have hbLw : bL ≤ w2.heap.size := Nat.le_trans hbLw1 Hs1.out
    obtain ⟨i0, hi0, hz0, hz1, hz2⟩ := info_parts info_V3
    obtain ⟨W, hW⟩ : ∃ W, W = w2.alloc (Obj.cells #[.int .i64 k, .string t, .slice x1 n1 c1, .slice x2 n2 c2] 63) := ⟨_, rfl⟩
    have hcv : W.cell? ⟨bv, 2, none⟩ = some (.slice ai m capi) := by rw [hW]; exact rowC_cell (rowC_alloc hr _) 2
    have hx0 : W.cell? ⟨w2.heap.size, 0, none⟩ = some (.int .i64 k) := by rw [hW]; exact rowC_cell (rowC_new w2 _ _) 0
    have hx1 : W.cell? ⟨w2.heap.size, 1, none⟩ = some (.string t) := by rw [hW]; exact rowC_cell (rowC_new w2 _ _) 1
    have hx2 : W.cell? ⟨w2.heap.size, 2, none⟩ = some (.slice x1 n1 c1) := by rw [hW]; exact rowC_cell (rowC_new w2 _ _) 2
    have hx3 : W.cell? ⟨w2.heap.size, 3, none⟩ = some (.slice x2 n2 c2) := by rw [hW]; exact rowC_cell (rowC_new w2 _ _) 3
    have hsz : W.heap.size = w2.heap.size + 1 := by rw [hW]; exact size_alloc _ _
    have hoW : W.ownsRow bL 63 4 (.slice ai m capi) m xs := by rw [hW]; exact ho.alloc _
    have hfv : W.frozen? ⟨bv, 2, none⟩ = false := by rw [hW]; exact rowC_free (rowC_alloc hr _) 2
    have HCW : Hid (Chg (fun _ => False) w2 W) := by rw [hW]; exact Lib.hid ((Chg.refl _ _).alloc _)
    rw [← hW]
    have hIbv := hIn bv (.inr rfl)
    have hIbx : (Value.slice ai m capi).ownBlock ≠ some w2.heap.size := fun e => by have := (ho.lt _ e).2; omega
    have hWs : w2.heap.size < W.heap.size := by omega
    have hbvW : bv < W.heap.size := by omega
    have hxbv : ¬ w2.heap.size = bv := by omega
    have hbvx : ¬ bv = w2.heap.size := by omega
    have m0 : (0 : Int) ≤ (m : Int) := by omega
    have m1 : (m : Int) < ((m + 1 : Nat) : Int) := by omega
    have m2 : (m : Int) < (m : Int) + 1 := by omega
    clear hW hm hI hIn hr hb ho b0 C hxl hsz
    go_region_law? (refine step_append_lies _ (by rfl) _ _ _ (by rfl) bL 63 i0 _ 4 72 Tryz.underlying60 hi0 hz0 hz1 hz2 rfl (by omega) (.slice ai m capi) m xs (by rfl) ((hoW.alloc _).drew) ⟨W.heap.size, 0, none⟩ 1 1 [.int .i64 0, .string ⟨#[]⟩, .slice none 0 0, .slice none 0 0] (by rfl) (by rfl) (World.news_of_block (cs := #[.int .i64 0, .string ⟨#[]⟩, .slice none 0 0, .slice none 0 0]) (t := 63) (fr := (0, 0)) (heap_alloc_new W _)) (by simp [Value.oneCell']) (by omega) (by unfold maxLen; omega) (by omega) (by simp; omega) (W.heap.size + 1) (by simp) ?_; intro g cap w4 hown hgrow hat hltg; obtain ⟨q0, q1, q2, q3⟩ := row_cells4 hown HXL.out; obtain ⟨z1, z2, z3, z4⟩ := apart_g hat hIbv hIbx hbvW hWs; have y0 := ((hgrow.cell_far ⟨w2.heap.size, 0, none⟩ (by simp; omega) (Ne.symm hIbx)).trans (World.cell?_alloc_old W _ ⟨w2.heap.size, 0, none⟩ (by show w2.heap.size ≠ _; omega))).trans hx0; have y1 := ((hgrow.cell_far ⟨w2.heap.size, 1, none⟩ (by simp; omega) (Ne.symm hIbx)).trans (World.cell?_alloc_old W _ ⟨w2.heap.size, 1, none⟩ (by show w2.heap.size ≠ _; omega))).trans hx1; have y2 := ((hgrow.cell_far ⟨w2.heap.size, 2, none⟩ (by simp; omega) (Ne.symm hIbx)).trans (World.cell?_alloc_old W _ ⟨w2.heap.size, 2, none⟩ (by show w2.heap.size ≠ _; omega))).trans hx2; have y3 := ((hgrow.cell_far ⟨w2.heap.size, 3, none⟩ (by simp; omega) (Ne.symm hIbx)).trans (World.cell?_alloc_old W _ ⟨w2.heap.size, 3, none⟩ (by show w2.heap.size ≠ _; omega))).trans hx3; have cbv := ((hgrow.cell_far ⟨bv, 2, none⟩ (by simp; omega) (Ne.symm hIbv)).trans (World.cell?_alloc_old W _ ⟨bv, 2, none⟩ (by show bv ≠ _; omega))).trans hcv; have pbv := ((hgrow.frozen_far ⟨bv, 2, none⟩ (by simp; omega) (Ne.symm hIbv)).trans (World.frozen?_alloc_old W _ ⟨bv, 2, none⟩ (by show bv ≠ _; omega))).trans hfv; have p0 := hown.frozenAt (m * 4); have p1 := hown.frozenAt (m * 4 + 1); have p2 := hown.frozenAt (m * 4 + 2); have p3 := hown.frozenAt (m * 4 + 3); have HN := Lib.hid hown; have HGR := Lib.hid hgrow; have HAT := Lib.hid hat; have HLT := Lib.hid hltg; clear hown hgrow hat hltg)
    all_goals (go_wp2; go_ret)
    all_goals (
      have hc4 : Chg (fun k => (Value.slice ai m capi).ownBlock = some k) w2 w4 := (((HCW.out.mono (fun k _ hk => hk.elim)).alloc _).drew).grown HGR.out (fun k hk => .inl hk)
      obtain ⟨PA, PB⟩ := list1_put (a := .int .i64 k) (b := .string t) (c := .slice x1 n1 c1) (d := .slice x2 n2 c2) (q := q) (lo := w1.heap.size) hne HLb.out HLO.out HLV.out HI.out HF.out HM.out HIO.out HIN.out HB.out HR2.out HN.out hc4 (by rcases HAT.out with e | e; exact .inl e; exact .inr (by omega))
      show saysA w1 q S r lev (fun k => k = q ∨ k = bv ∨ bL ≤ k) (StL bL br bv q) (WkV bv) R (.returned ev) _
      first
      | (with_reducible exact FIN.out w2 _ (.int .i64 k) (.string t) (.slice x1 n1 c1) (.slice x2 n2 c2) ev (.slice ai m capi) (.slice (some ⟨g, 0, none⟩) (m + 1) cap) HG.out.2 HG.out.1 (fun k hk => (HOW.out.lt k hk).1) PA ⟨_, _, _, rfl⟩)
      | (with_reducible exact FIN.out w2 _ (.int .i64 k) (.string t) (.slice x1 n1 c1) (.slice x2 n2 c2) ev (.slice ai m capi) (.slice (some ⟨g, 0, none⟩) (m + 1) cap) HG.out.2 HG.out.1 (fun k hk => (HOW.out.lt k hk).1) PB ⟨_, _, _, rfl⟩))
end Go.Proofs.YtnkencdibniagaaGreatDoor

/- Layer 11: a list. -/
namespace Go.Proofs.YtnkencdibniagaaGreatDoor
open Go.RowKit

theorem enter_list1 (args : Array Value) (w : World) : (callFunc 158 args).run Tryz.prog w = .ok (.enter 158 args) w := by kernel_rfl
theorem part_list {n lev bL br bv q : Nat} (V : ValOk n) (hlev : lev + 1 ≤ 16) (S : Bs) (hS : okS S) (hq : 10 ≤ q) (hqb : q < bL) (hbr : br ≠ q) (hbv : bv ≠ q) (hb10 : 10 ≤ bv) (hne : br ≠ bv) :
    Part q S (lev + 1) (fun k => k = q ∨ k = bv ∨ bL ≤ k) (StL bL br bv q) (WkV bv) (fun acc r => acc.length + r.length ≤ 65536) 158 #[.pointer (some ⟨br, 0, none⟩), .pointer (some ⟨bv, 0, none⟩)] (stepL (valP n (lev + 1))) where
  enter := enter_list1
  weak := fun a w h => by
    obtain ⟨I, hr, ⟨⟨xs, F, ho, _, _⟩, _⟩⟩ := h.row
    obtain ⟨x, c, rfl⟩ := owns_form ho
    exact ⟨_, _, _, _, _, _, _, _, hr⟩
  kept := fun a w1 w2 h hc => h.kept hc hqb hbr hbv
  own := .inl rfl
  env := fun k hk => by omega
  sub := fun a r x hs hB => by have := hs.length_le; omega
  go := fun a r a' x hB hs => by
    unfold stepL at hs
    cases hv : valP n (lev + 1) r with
    | none => rw [hv] at hs; cases hs
    | some Q =>
      rw [hv] at hs
      cases Q with
      | bad code y => cases hs
      | ok v y =>
        have hlt := (val_ok n (lev + 1) r v y hlev hv).2.2
        cases hs
        rw [List.length_append, List.length_singleton]
        omega
  call := fun a r R w1 hE h hst hB hs => list1_any V hlev S hS hq hqb hbr hbv hne a r R w1 hE h hst hB hs
/-- What a bracket's reading says, ready for the end of the walk: bv: the value gathered; res: the result's cell. -/
def boxed (w : World) (bv res q : Nat) (S l : Bs) (lev : Nat) (R : Res JV) (e : Ending) (w3 : World) : Prop :=
  ∃ (k : Int) (t : ByteArray) (x1 : Option Addr) (n1 c1 : Nat) (x2 : Option Addr) (n2 c2 : Nat) (ev : Value), e = .returned ev ∧ Hid (rowC w3 bv (row4 k t x1 n1 c1 x2 n2 c2) 63 ∧ rowC w3 res zeroV4 63 ∧
    ∀ w', Chg (· = res) w3 w' → saysV w q S l lev R (.returned (.tuple #[.agg (row4 k t x1 n1 c1 x2 n2 c2), ev])) w')
theorem list_parts {n lev q bL br bv res : Nat} {w w1 : World} {S l : Bs} {R : Res JV} (V : ValOk n) (hS : okS S) (hE : Env w1) (hq : 10 ≤ q) (hqw : q < w.heap.size) (h : RdAt w1 q S l lev) (hlev : lev ≤ 16) (hne : l ≠ [])
    (hC : Chg (· = q) w w1) (hbr : w.heap.size ≤ br) (hbv : w.heap.size ≤ bv) (hres : w.heap.size ≤ res) (hn1 : br ≠ bv) (hn3 : res ≠ bv) (hbL : w1.heap.size = bL)
    (hB : rowC w1 br #[.pointer (some ⟨q, 0, none⟩)] 118) (hV : rowC w1 bv #[.int .i64 5, .string ⟨#[]⟩, .slice none 0 0, .slice none 0 0] 63) (hZ : rowC w1 res zeroV4 63)
    (hR : (if lev = 16 then some (.bad 11 l) else (partsP 93 (stepL (valP n (lev + 1))) n true [] l.tail).map (Res.map mkL)) = some R) :
    Calls Tryz.prog 157 #[.pointer (some ⟨q, 0, none⟩), .int .u8 93, .func (.func 158) #[] #[.pointer (some ⟨br, 0, none⟩), .pointer (some ⟨bv, 0, none⟩)]] w1 fun e w3 => boxed w bv res q S l lev R e w3 := by
  have lres := rowC_lt hZ
  have hqw1 := Nat.lt_of_lt_of_le hqw hC.size
  by_cases h16 : lev = 16
  · rw [if_pos h16, Option.some.injEq] at hR
    subst h16
    refine (parts_deep h).mono ?_
    rintro e w2 ⟨rfl, rfl⟩
    refine ⟨5, ⟨#[]⟩, none, 0, 0, none, 0, 0, _, rfl, Lib.hid ⟨hV, hZ, fun w' hc => ?_⟩⟩
    exact saysV_bad hR.symm ⟨_, _, _, _, _, _, _, _, rfl⟩ ⟨⟨l, 16, h.chg hc (by omega), List.suffix_refl _⟩, hC.trans hc (fun k hk e => by omega)⟩
  · rw [if_neg h16] at hR
    cases hp : partsP 93 (stepL (valP n (lev + 1))) n true [] l.tail with
    | none => rw [hp] at hR; cases hR
    | some Q =>
      rw [hp] at hR
      have hR' : R = Res.map mkL Q := (Option.some.inj hR).symm
      have hl := h.suf.length_le
      have hSS := hS
      unfold okS at hSS
      have P := part_list (lev := lev) (br := br) (bv := bv) (bL := bL) (q := q) V (by omega) S hS hq (by omega) (by omega) (by omega) (by omega) hn1
      refine (parts_any hS hE hq h (by omega) hne (.inl rfl) 93 rfl P ⟨by omega, hB, _, hV, RowJ.nil _ _ _⟩ (show [].length + l.tail.length ≤ 65536 by rw [List.length_tail]; simp; omega) hp).mono ?_
      intro e w3 hA
      cases Q with
      | bad code x =>
        obtain ⟨rfl, ⟨y, l2, h2, hs⟩, hc, ⟨k, t, x1, n1, c1, x2, n2, c2, hrow⟩⟩ := hA
        refine ⟨k, t, x1, n1, c1, x2, n2, c2, _, rfl, Lib.hid ⟨hrow, hc.rowC hZ (by omega), fun w' hc' => ?_⟩⟩
        exact saysV_bad hR' ⟨_, _, _, _, _, _, _, _, rfl⟩ ⟨⟨y, l2, h2.chg hc' (by omega), hs⟩, (hC.trans hc (fun k hk e => by omega)).trans hc' (fun k hk e => by omega)⟩
      | ok acc x =>
        obtain ⟨rfl, h2, hst, hc, hs⟩ := hA
        obtain ⟨I, hr, hj⟩ := hst.row
        obtain ⟨ai, ci, rfl⟩ := owns_form hj.ex.choose_spec.choose_spec.1
        refine ⟨5, ⟨#[]⟩, ai, acc.length, ci, none, 0, 0, _, rfl, Lib.hid ⟨hr, hc.rowC hZ (by omega), fun w' hc' => ?_⟩⟩
        have hj' := (hj.chg hc' (fun k hk => .inl (by omega))).holds
        refine saysV_ok hR' ⟨_, _, _, _, rfl, ?_⟩ ⟨h2.chg hc' (by omega), (hC.trans hc (fun k hk e => by omega)).trans hc' (fun k hk e => by omega)⟩
        unfold mkL
        rw [HoldsC]
        refine ⟨rfl, rfl, by simp, .inl ⟨rfl, rfl⟩, ?_⟩
        rcases hj' with ⟨h5, h6⟩ | ⟨ad, cap, h5, h6⟩
        · exact .inl ⟨h5, h6⟩
        · exact .inr ⟨ad, cap, h5, HoldsR.mono (fun k hk hlt => ⟨by have := hC.size; omega, hlt⟩) _ _ _ h6⟩
set_option maxRecDepth 100000 in
set_option maxHeartbeats 4000000 in
theorem list_any {n lev q : Nat} {w : World} {S l : Bs} {R : Res JV} (V : ValOk n) (hS : okS S) (hE : Env w) (hq : 10 ≤ q) (h : RdAt w q S l lev) (hlev : lev ≤ 16) (hne : l ≠ [])
    (hR : (if lev = 16 then some (.bad 11 l) else (partsP 93 (stepL (valP n (lev + 1))) n true [] l.tail).map (Res.map mkL)) = some R) :
    Calls Tryz.prog 135 #[.pointer (some ⟨q, 0, none⟩)] w fun e w' => saysV w q S l lev R e w' := by
  have hqw := h.lt
  obtain ⟨W0, hW0⟩ : ∃ W0, W0 = ((w.alloc (.cells #[.pointer (some ⟨q, 0, none⟩)] 118)).alloc (.cells #[.int .i64 0, .string ⟨#[]⟩, .slice none 0 0, .slice none 0 0] 63)).alloc (.cells #[.int .i64 5, .string ⟨#[]⟩, .slice none 0 0, .slice none 0 0] 63) := ⟨_, rfl⟩
  have hs0 : W0.heap.size = w.heap.size + 1 + 1 + 1 := by rw [hW0]; simp
  have A0 : Chg (· = q) w W0 := by rw [hW0]; exact (((Chg.refl _ w).alloc _).alloc _).alloc _
  have B0 : rowC W0 w.heap.size #[.pointer (some ⟨q, 0, none⟩)] 118 := by rw [hW0]; exact rowC_alloc (rowC_alloc (rowC_new w _ _) _) _
  have R0 : rowC W0 (w.heap.size + 1) zeroV4 63 := by
    rw [hW0, ← size_alloc w (.cells #[.pointer (some ⟨q, 0, none⟩)] 118)]
    exact rowC_alloc (rowC_new _ _ _) _
  have V0 : rowC W0 (w.heap.size + 1 + 1) #[.int .i64 5, .string ⟨#[]⟩, .slice none 0 0, .slice none 0 0] 63 := by
    rw [hW0, ← size_alloc w (.cells #[.pointer (some ⟨q, 0, none⟩)] 118), ← size_alloc (w.alloc _) (.cells #[.int .i64 0, .string ⟨#[]⟩, .slice none 0 0, .slice none 0 0] 63)]
    exact rowC_new _ _ _
  have E0 : Env W0 := hE.q A0 hq
  have H0 : RdAt W0 q S l lev := h.chg (s := fun _ => False) (by rw [hW0]; exact (((Chg.refl _ w).alloc _).alloc _).alloc _) (fun e => e)
  have C := list_parts (bL := W0.heap.size) V hS E0 hq hqw H0 hlev hne A0 (br := w.heap.size) (bv := w.heap.size + 1 + 1) (res := w.heap.size + 1) (Nat.le_refl _) (by omega) (by omega) (by omega) (by omega) rfl B0 V0 R0 hR
  have HW0 := Lib.hid hW0
  have HI := Lib.hid info_V
  have c0 := rowC_cell B0 0
  clear hR hW0 A0 B0 R0 V0 E0 H0 hs0 h hE
  go_enter Tryz.func135, Tryz.ntmps135
  go_upto_region 2 with (fail)
  rw [← HW0.out]
  go_wp2_with (first
    | (go_at_call 157; ((with_reducible refine C.mono ?_); rintro e w3 ⟨k, t, x1, n1, c1, x2, n2, c2, ev, rfl, HB⟩))
    | ((with_reducible show wpList _ _ _ (⟨some 10, .load _ (.tmp 4), _, _, _, _⟩ :: _) _ _); refine wpList_load_row rfl 63 _ rfl (w.heap.size + 1 + 1) rfl 63 (row4 k t x1 n1 c1 x2 n2 c2) (0, 0) _ HB.out.1 Tryz.underlying63 rfl HI.out ?_)
    | ((with_reducible show wpList _ _ _ (⟨none, .store _ (.tmp 2) _, _, _, _, _⟩ :: _) _ _); refine wpList_store_row rfl 63 _ _ rfl (w.heap.size + 1) (row4 k t x1 n1 c1 x2 n2 c2) rfl rfl 63 zeroV4 HB.out.2.1 HI.out rfl (row4_all _ _ _ _ _ _ _ _) ?_))
  refine bodyPost_ret (results_row_tmp rfl _ _ (w.heap.size + 1) 63 (row4 k t x1 n1 c1 x2 n2 c2) _ rfl (rowC_setRow HB.out.2.1 _) Tryz.underlying63 rfl HI.out ev rfl) rfl ?_
  exact HB.out.2.2 _ ((Chg.refl _ _).setRow _ _ (.inl rfl))
end Go.Proofs.YtnkencdibniagaaGreatDoor

