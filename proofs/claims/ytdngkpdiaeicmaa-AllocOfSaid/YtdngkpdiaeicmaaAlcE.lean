/- Layer 8: the document's map: Give. -/
import Derived.Test.YtdngkpdiaeicmaaAlcD
namespace Go.Proofs.Ytdngkpdiaeicmaa
open Go.RowKit

theorem addr_block (a : Addr) (i : Nat) : (a.add i).block = a.block := by unfold Addr.add; split <;> rfl
/-- A list of extents, wherever it lies. -/
def ExtAt (w : World) (v : Value) (l : List (Int × Int)) : Prop :=
  (v = .slice none 0 0 ∧ l = []) ∨ ∃ (ad : Addr) (cap : Nat), v = .slice (some ad) l.length cap ∧ l.length ≤ maxLen ∧
    ∀ j, j < l.length → w.cell? (ad.add (j * 2)) = some (.int .i64 (l.getD j (0, 0)).1) ∧ w.cell? ⟨(ad.add (j * 2)).block, (ad.add (j * 2)).off + 1, none⟩ = some (.int .i64 (l.getD j (0, 0)).2)
/-- Numbers that are ints. -/
def extOk (l : List (Int × Int)) : Prop := ∀ j, j < l.length → (-9223372036854775808 ≤ (l.getD j (0, 0)).1 ∧ (l.getD j (0, 0)).1 ≤ 9223372036854775807) ∧ (-9223372036854775808 ≤ (l.getD j (0, 0)).2 ∧ (l.getD j (0, 0)).2 ≤ 9223372036854775807)
theorem below_at {B : Nat} {w w' : World} (hb : Below B w w') {a : Addr} (h : a.block < B) : w'.cell? a = w.cell? a := World.cell?_of_block (hb.block _ h)
theorem chg_at {s : Nat → Prop} {w w' : World} (hc : Chg s w w') {a : Addr} (h : a.block < w.heap.size) (hs : ¬ s a.block) : w'.cell? a = w.cell? a := World.cell?_of_block (hc.block _ h hs)
theorem ExtAt.form {w : World} {v : Value} {l : List (Int × Int)} (h : ExtAt w v l) : ∃ a cap, v = .slice a l.length cap := by
  rcases h with ⟨rfl, rfl⟩ | ⟨ad, cap, rfl, _⟩
  · exact ⟨none, 0, rfl⟩
  · exact ⟨_, cap, rfl⟩
theorem ExtAt.le {w : World} {v : Value} {l : List (Int × Int)} (h : ExtAt w v l) : l.length ≤ maxLen := by
  rcases h with ⟨rfl, rfl⟩ | ⟨ad, cap, rfl, h, _⟩
  · exact Nat.zero_le _
  · exact h
theorem ExtAt.at {w : World} {a : Option Addr} {n cap : Nat} {l : List (Int × Int)} (h : ExtAt w (.slice a n cap) l) {k : Nat} (hk : k < l.length) :
    ∃ ad, a = some ad ∧ ad.block < w.heap.size ∧ w.cell? (ad.add (k * 2)) = some (.int .i64 (l.getD k (0, 0)).1) ∧ w.cell? ⟨(ad.add (k * 2)).block, (ad.add (k * 2)).off + 1, none⟩ = some (.int .i64 (l.getD k (0, 0)).2) := by
  rcases h with ⟨_, rfl⟩ | ⟨ad, cap', hv, _, hc⟩
  · simp at hk
  · simp only [Value.slice.injEq] at hv
    obtain ⟨h1, h2⟩ := hc k hk
    have := World.block_lt_of_cell? w _ h1
    rw [addr_block] at this
    exact ⟨ad, hv.1, this, h1, h2⟩
theorem ExtAt.chg {w w' : World} {v : Value} {l : List (Int × Int)} (h : ExtAt w v l) {s : Nat → Prop} (hc : Chg s w w') (hs : ∀ ad n cap, v = .slice (some ad) n cap → 0 < n → ¬ s ad.block) : ExtAt w' v l := by
  rcases h with h | ⟨ad, cap, hv, hm, hcell⟩
  · exact .inl h
  · refine .inr ⟨ad, cap, hv, hm, fun j hj => ?_⟩
    obtain ⟨h1, h2⟩ := hcell j hj
    have hlt := World.block_lt_of_cell? w _ h1
    have hn : ¬ s (ad.add (j * 2)).block := by rw [addr_block]; exact hs ad _ cap hv (by omega)
    exact ⟨(chg_at hc hlt hn).trans h1, (chg_at hc (a := ⟨(ad.add (j * 2)).block, (ad.add (j * 2)).off + 1, none⟩) hlt hn).trans h2⟩
theorem ExtAt.below {w w' : World} {v : Value} {l : List (Int × Int)} (h : ExtAt w v l) (hb : Below w.heap.size w w') : ExtAt w' v l := h.chg (s := fun _ => False) (Chg.of_below hb) (fun _ _ _ _ _ => id)
/-- What was taken lies so. -/
theorem OwnsE.ext {w : World} {base : Nat} {v : Value} {l : List (Nat × Nat)} (h : OwnsE w base v l) (hl : l.length ≤ maxLen) : ExtAt w v (toI l) := by
  by_cases h0 : l.length = 0
  · obtain rfl := List.eq_nil_of_length_eq_zero h0
    rcases h.2 with ⟨hv, _⟩ | ⟨g, cap, cur, hv, _⟩
    · exact .inl ⟨hv, rfl⟩
    · exact .inr ⟨⟨g, 0, none⟩, cap, hv, Nat.zero_le _, fun j hj => absurd hj (Nat.not_lt_zero _)⟩
  · obtain ⟨g, cap, rfl⟩ := owns_some h (by omega)
    refine .inr ⟨⟨g, 0, none⟩, cap, by rw [toI_length], by rw [toI_length]; exact hl, fun j hj => ?_⟩
    rw [toI_length] at hj
    obtain ⟨g', hg, _, h1, h2⟩ := h.at (k := j) hj
    simp only [Option.some.injEq, Addr.mk.injEq, and_true] at hg
    subst hg
    rw [toI_getD]
    have e : (Addr.mk g 0 none).add (j * 2) = ⟨g, j * 2, none⟩ := by
      unfold Addr.add
      split
      · rename_i hz; rw [hz]
      · rw [Nat.zero_add]
    rw [e]
    exact ⟨h1, h2⟩
theorem markN_getD (L : List Bool) (f : Nat) (b : Bool) (k j : Nat) : (markN L f b k).getD j false = if f ≤ j ∧ j < f + k ∧ j < L.length then b else L.getD j false := by
  induction k with
  | zero => rw [if_neg (by omega)]; rfl
  | succ k ih =>
    rw [markN, List.getD_eq_getElem?_getD, List.getElem?_set, markN_length]
    by_cases e : f + k = j
    · subst e
      by_cases hl : f + k < L.length
      · rw [if_pos rfl, if_pos hl, if_pos (by omega)]; rfl
      · rw [if_pos rfl, if_neg hl, if_neg (by omega), List.getD_eq_getElem?_getD, List.getElem?_eq_none (by omega)]
    · rw [if_neg e, ← List.getD_eq_getElem?_getD, ih]
      by_cases h1 : f ≤ j ∧ j < f + k ∧ j < L.length
      · rw [if_pos h1, if_pos (by omega)]
      · rw [if_neg h1, if_neg (by omega)]
theorem allB_iff {L : List Bool} {f k : Nat} : allB L f k = true ↔ ∀ j, j < k → L.getD (f + j) false = true := by
  unfold allB
  rw [List.all_eq_true]
  constructor
  · intro h j hj
    exact h j (List.mem_range.2 hj)
  · intro h j hj
    exact h j (List.mem_range.1 hj)
/-- A beginning that can't be given. -/
theorem giveL_stop {L M : List Bool} {l : List (Int × Int)} {k : Nat} (hk : k < l.length) (h : giveL L (l.take k) = some M) (h2 : giveE M (l.getD k (0, 0)) = none) : giveL L l = none := by
  have e : l = l.take k ++ l.getD k (0, 0) :: l.drop (k + 1) := by
    rw [List.getD_eq_getElem?_getD, List.getElem?_eq_getElem hk]
    show l = l.take k ++ l[k] :: l.drop (k + 1)
    rw [← List.drop_eq_getElem_cons hk, List.take_append_drop]
  have g : ∀ (a b : List (Int × Int)) (L : List Bool), giveL L (a ++ b) = (match giveL L a with | none => none | some M => giveL M b) := by
    intro a
    induction a with
    | nil => intro b L; rfl
    | cons y r ih =>
      intro b L
      rw [List.cons_append, giveL, giveL]
      cases giveE L y with
      | none => rfl
      | some M => exact ih b M
  rw [e, g, h]
  show giveL M (l.getD k (0, 0) :: l.drop (k + 1)) = none
  rw [giveL, h2]
theorem giveL_next {L M K : List Bool} {l : List (Int × Int)} {k : Nat} (hk : k < l.length) (h : giveL L (l.take k) = some M) (h2 : giveE M (l.getD k (0, 0)) = some K) : giveL L (l.take (k + 1)) = some K := by
  rw [List.take_succ_eq_append_getElem hk, giveL_snoc, h]
  rw [List.getD_eq_getElem?_getD, List.getElem?_eq_getElem hk] at h2
  exact h2
theorem own_drewN {w : World} {base : Nat} {e : TypeId} {size n : Nat} {v : Value} {xs : List Value} (h : w.ownsRow base e size v n xs) (k : Nat) : (w.drewN k).ownsRow base e size v n xs := h
/-- What Give leaves. -/
def RefGive (w : World) (p : Nat) (v : Value) (L : List Bool) (l : List (Int × Int)) (e : Ending) (w' : World) : Prop :=
  e = .returned (.bool (giveR L l).1) ∧ ∃ v', RefM w' p v' (giveR L l).2 ∧ Chg (· = p) w w' ∧ ∀ k, refOwn p v' k → refOwn p v k ∨ w.heap.size ≤ k
set_option maxRecDepth 100000 in
set_option maxHeartbeats 4000000 in
theorem rgive_any {w : World} {p : Nat} {v x : Value} {L : List Bool} {l : List (Int × Int)} (h : RefM w p v L) (h1 : 1 ≤ L.length) (h2 : L.length ≤ 4096) (hx : ExtAt w x l) (hl : extOk l) :
    Calls Try.prog 13 #[.pointer (some ⟨p, 0, none⟩), x] w (RefGive w p v L l) := by
  obtain ⟨i0, hi, hz0, hz1, hz2⟩ := info_parts info_bool
  have c0 := h.cell
  have HM := Lib.hid h
  obtain ⟨g, cap, rfl⟩ := owns_some h.s (by omega)
  obtain ⟨ax, capx, rfl⟩ := hx.form
  have hle := hx.le
  unfold maxLen at hle
  have HX := Lib.hid hx
  have HL := Lib.hid hl
  have HCL := Lib.hid (h.s.cells rfl)
  obtain ⟨N, hN⟩ : ∃ N, N = L.length := ⟨_, rfl⟩
  obtain ⟨n, hn⟩ : ∃ n, n = l.length := ⟨_, rfl⟩
  rw [← hN] at c0 h1 h2
  rw [← hn] at hle HX ⊢
  have HN := Lib.hid hN
  have Hn := Lib.hid hn
  have HL1 := Lib.hid (show ∀ u ∈ L.map Value.bool, u.oneCell' = true by intro u hu; obtain ⟨_, _, rfl⟩ := List.mem_map.1 hu; rfl)
  have HLL := Lib.hid (show (L.map Value.bool).length = N * 1 by rw [List.length_map, hN, Nat.mul_one])
  clear h hx hl hN hn
  go_enter Try.func13, Try.ntmps13
  go_wp2_with ((with_reducible show wpList _ _ _ (⟨some 12, _, _, _, _, _⟩ :: _) _ _); refine wpList_append_own _ rfl _ _ 55 rfl w.heap.size 4 i0 (.bool false) 1 1 Try.underlying55 hi hz0 hz1 hz2 rfl (by decide) _ 0 [] rfl (World.ownsRow_nil _ _ _ _) ⟨g, 0, none⟩ N cap (L.map Value.bool) rfl HLL.out HCL.out HL1.out (by unfold maxLen; omega) (by omega) (Nat.le_refl _) ?_; intro vC w1 hown1 hgrow1 _; have HB := Lib.hid (show Below w.heap.size w w1 from (Below.refl _ _).grown hgrow1 (Nat.le_refl _) (fun j hj => by cases hj)); clear hgrow1)
  simp only [Nat.zero_add, List.nil_append] at hown1
  obtain ⟨gC, capC, rfl⟩ := owns_some hown1 (by omega)
  have hown2 : w1.ownsRow w.heap.size 4 1 (.slice (some ⟨gC, 0, none⟩) N capC) N (L.map Value.bool) := hown1
  have hgC := (hown2.lt gC rfl).1
  have HO := Lib.hid hown2
  clear hown1 hown2
  go_wp2
  go_loopw [6] (fun i wr => ∃ (a : Nat) (M : List Bool), a ≤ n ∧ i = .int .i64 a ∧ giveL L (l.take a) = some M ∧ wr.ownsRow w.heap.size 4 1 (.slice (some ⟨gC, 0, none⟩) N capC) N (M.map Value.bool) ∧ Below w.heap.size w wr) (fun i _ => n - (intOf i).toNat)
  case atStart => exact ⟨0, L, Nat.zero_le _, rfl, rfl, HO.out, HB.out⟩
  case round =>
    obtain ⟨a, M, ha, rfl, hg, hown, hnx⟩ := hrel
    clear HO HB
    have hML : M.length = N := by rw [giveL_length hg, HN.out]
    have HML := Lib.hid hML
    have HG := Lib.hid hg
    have HB := Lib.hid hnx
    have hm := HM.out.below hnx
    have d0 := hm.cell
    rw [← HN.out] at d0
    have f0 := rowC_free hm.r 0
    by_cases hlt : a < n
    · obtain ⟨ad, rfl, hadb, e1, e2⟩ := (HX.out.below hnx).at (k := a) (by rw [← Hn.out]; exact hlt)
      obtain ⟨⟨b1, b2⟩, ⟨b3, b4⟩⟩ := HL.out a (by rw [← Hn.out]; exact hlt)
      have HS := Lib.hid (fun h => giveL_stop (l := l) (k := a) (by rw [← Hn.out]; exact hlt) HG.out h)
      have HT := Lib.hid (fun K h => giveL_next (l := l) (k := a) (K := K) (by rw [← Hn.out]; exact hlt) HG.out h)
      have hgE : giveE M (l.getD a (0, 0)) = if (l.getD a (0, 0)).2 < 1 ∨ (N : Int) < (l.getD a (0, 0)).2 ∨ (l.getD a (0, 0)).1 < 0 ∨ (N : Int) < (l.getD a (0, 0)).1 then none else if allB M (l.getD a (0, 0)).1.toNat (l.getD a (0, 0)).2.toNat then some (markN M (l.getD a (0, 0)).1.toNat false (l.getD a (0, 0)).2.toNat) else none := by
        unfold giveE; rw [hML]
      obtain ⟨y, hy⟩ : ∃ y, y = l.getD a (0, 0) := ⟨_, rfl⟩
      rw [← hy] at e1 e2 b1 b2 b3 b4 HS HT hgE
      obtain ⟨f, c⟩ := y
      have HY := Lib.hid hy
      replace hgE : giveE M (f, c) = if c < 1 ∨ (N : Int) < c ∨ f < 0 ∨ (N : Int) < f then none else if allB M f.toNat c.toNat then some (markN M f.toNat false c.toNat) else none := hgE
      replace e1 : wr.cell? (ad.add (a * 2)) = some (.int .i64 f) := e1
      replace e2 : wr.cell? ⟨(ad.add (a * 2)).block, (ad.add (a * 2)).off + 1, none⟩ = some (.int .i64 c) := e2
      replace b1 : -9223372036854775808 ≤ f := b1
      replace b2 : f ≤ 9223372036854775807 := b2
      replace b3 : -9223372036854775808 ≤ c := b3
      replace b4 : c ≤ 9223372036854775807 := b4
      have HE := Lib.hid hgE
      have i1 : (a : Int) < (n : Int) := by omega
      have i0 : (0 : Int) ≤ (a : Int) := by omega
      clear hgE hy hnx hm hg hML
      by_cases hbad : c < 1 ∨ (N : Int) < c ∨ f < 0 ∨ (N : Int) < f
      · have HR := Lib.hid (show giveR L l = (false, L) by unfold giveR; rw [HS.out (by rw [HE.out, if_pos hbad])])
        have hb4 : (c < 1) ∨ (1 ≤ c ∧ (N : Int) < c) ∨ (1 ≤ c ∧ c ≤ (N : Int) ∧ f < 0) ∨ (1 ≤ c ∧ c ≤ (N : Int) ∧ 0 ≤ f ∧ (N : Int) < f) := by omega
        clear hbad hown b1 b2 b3 b4
        rcases hb4 with hb | ⟨hb, hb2⟩ | ⟨hb, hb2, hb3⟩ | ⟨hb, hb2, hb3, hb4⟩
        all_goals
          go_wp2
          go_ret
          exact ⟨retBool (by rw [HR.out]), _, by rw [HR.out]; exact HM.out.below HB.out, Chg.of_below HB.out, fun k hk => .inl hk⟩
      · obtain ⟨f, rfl⟩ : ∃ f' : Nat, f = f' := ⟨f.toNat, by omega⟩
        obtain ⟨c, rfl⟩ : ∃ c' : Nat, c = c' := ⟨c.toNat, by omega⟩
        have j1 : 1 ≤ c := by omega
        have j2 : c ≤ N := by omega
        have j3 : f ≤ N := by omega
        have HE2 := Lib.hid (show giveE M ((f : Int), (c : Int)) = if allB M f c then some (markN M f false c) else none by rw [HE.out, if_neg hbad]; rfl)
        clear HE hbad b1 b2 b3 b4
        have HO := Lib.hid hown
        have z1 : decide ((c : Int) < 1) = false := by simp; omega
        have z2 : decide (N < c) = false := by simp; omega
        have z3 : decide ((f : Int) < 0) = false := by simp
        have z4 : decide (N < f) = false := by simp; omega
        clear hown
        go_wp2
        clear z1 z2 z3 z4
        go_loopw [7] (fun i wr => ∃ k : Nat, f ≤ k ∧ k ≤ f + c ∧ i = .int .i64 k ∧ Hid (∀ j, f ≤ j → j < k → M.getD j false = true) ∧ wr.ownsRow w.heap.size 4 1 (.slice (some ⟨gC, 0, none⟩) N capC) N ((markN M f false (k - f)).map Value.bool) ∧ Below w.heap.size w wr) (fun i _ => f + c - (intOf i).toNat)
        case atStart => exact ⟨f, Nat.le_refl _, by omega, rfl, Lib.hid (fun j h1 h2 => by omega), by rw [Nat.sub_self]; exact HO.out, HB.out⟩
        case round =>
          obtain ⟨k, hk1, hk2, rfl, hall, hown, hnx⟩ := hrel
          clear HO HB d0 f0 e1 e2
          obtain ⟨ad', had, _, e1, e2⟩ := (HX.out.below hnx).at (k := a) (by rw [← Hn.out]; exact hlt)
          obtain rfl := Option.some.inj had
          rw [← HY.out] at e1 e2
          replace e1 : wr.cell? (ad.add (a * 2)) = some (.int .i64 (f : Int)) := e1
          replace e2 : wr.cell? ⟨(ad.add (a * 2)).block, (ad.add (a * 2)).off + 1, none⟩ = some (.int .i64 (c : Int)) := e2
          have HB := Lib.hid hnx
          have HO := Lib.hid hown
          have q1 : IntKind.i64.wrap ((f : Int) + (c : Int)) = (f : Int) + (c : Int) := IntWalk.i64_in _ (by omega)
          clear had
          by_cases hkc : k < f + c
          · have i2 : (k : Int) < (f : Int) + (c : Int) := by omega
            by_cases hkN : k < N
            · have hkM : k < (markN M f false (k - f)).length := by rw [markN_length, HML.out]; exact hkN
              have hcell : wr.cell? ⟨gC, k, none⟩ = some (.bool ((markN M f false (k - f)).getD k false)) := by
                rw [hown.cellAt k (by omega), List.getElem?_map, List.getElem?_eq_getElem hkM, List.getD_eq_getElem?_getD, List.getElem?_eq_getElem hkM]; rfl
              rw [markN_getD, if_neg (by omega)] at hcell
              have hfz := hown.frozenAt k
              have hst := (hown.stored k (.bool false)).1
              rw [← List.map_set] at hst
              have hset : (markN M f false (k - f)).set k false = markN M f false (k + 1 - f) := by
                rw [show k + 1 - f = (k - f) + 1 by omega, markN, show f + (k - f) = k by omega]
              rw [hset] at hst
              have HO2 := Lib.hid hst
              have i3 : (k : Int) < (N : Int) := by omega
              have i4 : (0 : Int) ≤ (k : Int) := by omega
              clear hown hnx hst hset hkM
              cases hb : M.getD k false
              · rw [hb] at hcell
                have HR := Lib.hid (show giveR L l = (false, L) by
                  unfold giveR
                  rw [HS.out (by rw [HE2.out, if_neg]; intro h; have := allB_iff.1 h (k - f) (by omega); rw [show f + (k - f) = k by omega, hb] at this; cases this)])
                clear hb
                go_wp2_with fail
                go_quiet (fail)
                have HB2 := Lib.hid (below_drewN HB.out nq)
                have hcell' : (wr.drewN nq).cell? ⟨gC, k, none⟩ = some (.bool false) := hcell
                clear hcell hfz e1 e2 q1 HO HO2 HB
                generalize wr.drewN nq = wq at *
                go_wp2
                go_ret
                exact ⟨retBool (by rw [HR.out]), _, by rw [HR.out]; exact HM.out.below HB2.out, Chg.of_below HB2.out, fun k hk => .inl hk⟩
              · rw [hb] at hcell
                have hall2 := Lib.hid (show ∀ j, f ≤ j → j < k + 1 → M.getD j false = true from fun j h1 h2 => if e : j = k then (by rw [e]; exact hb) else hall.out j h1 (by omega))
                clear hb
                go_wp2_with fail
                go_quiet (fail)
                have HB2 := Lib.hid (below_drewN HB.out nq)
                have hcell' : (wr.drewN nq).cell? ⟨gC, k, none⟩ = some (.bool true) := hcell
                have hfz' : (wr.drewN nq).frozen? ⟨gC, k, none⟩ = false := hfz
                have HO3 := Lib.hid (show ((wr.drewN nq).setCell ⟨gC, k, none⟩ (.bool false)).ownsRow w.heap.size 4 1 (.slice (some ⟨gC, 0, none⟩) N capC) N ((markN M f false (k + 1 - f)).map Value.bool) from by
                  have := ((own_drewN HO.out nq).stored k (.bool false)).1
                  rw [← List.map_set, show (markN M f false (k - f)).set k false = markN M f false (k + 1 - f) by rw [show k + 1 - f = (k - f) + 1 by omega, markN, show f + (k - f) = k by omega]] at this
                  exact this)
                clear hcell hfz e1 e2 q1 HO HO2 HB hall
                generalize wr.drewN nq = wq at *
                go_wp2
                go_roundw
                case rel => exact ⟨k + 1, by omega, by omega, by go_num, hall2, HO3.out, HB2.out.setCell (p := ⟨gC, k, none⟩) hgC _⟩
                case measure => simp [intOf]; omega
            · have HR := Lib.hid (show giveR L l = (false, L) by
                unfold giveR
                rw [HS.out (by rw [HE2.out, if_neg]; intro h; have := allB_iff.1 h (k - f) (by omega); rw [show f + (k - f) = k by omega, List.getD_eq_getElem?_getD, List.getElem?_eq_none (by rw [HML.out]; omega)] at this; cases this)])
              have i3 : ¬ (k : Int) < (N : Int) := by omega
              clear hown hnx
              go_wp2_with fail
              go_quiet (fail)
              have HB2 := Lib.hid (below_drewN HB.out nq)
              clear e1 e2 q1 HO HB
              generalize wr.drewN nq = wq at *
              go_wp2
              go_ret
              exact ⟨retBool (by rw [HR.out]), _, by rw [HR.out]; exact HM.out.below HB2.out, Chg.of_below HB2.out, fun k hk => .inl hk⟩
          · obtain rfl : k = f + c := by omega
            have i2 : ¬ ((f + c : Nat) : Int) < (f : Int) + (c : Int) := by omega
            have HG2 := Lib.hid (HT.out (markN M f false c) (by rw [HE2.out, if_pos (allB_iff.2 fun j hj => hall.out (f + j) (by omega) (by omega))]))
            rw [show f + c - f = c by omega] at HO
            clear hown hnx hall
            go_wp2_with fail
            go_quiet (fail)
            have HB2 := Lib.hid (below_drewN HB.out nq)
            have HO2 := Lib.hid (own_drewN HO.out nq)
            clear e1 e2 q1 HO HB
            generalize wr.drewN nq = wq at *
            go_wp2
            go_roundw
            case rel => exact ⟨a + 1, _, by omega, by go_num, HG2.out, HO2.out, HB2.out⟩
            case measure => simp [intOf]; omega
    · obtain rfl : n = a := by omega
      have HR := Lib.hid (show giveR L l = (true, M) by
        have := HG.out
        rw [Hn.out, List.take_length] at this
        unfold giveR
        rw [this])
      have HO := Lib.hid hown
      have hset := (hnx.setCell (p := ⟨p, 0, none⟩))
      have HC := Lib.hid (show Chg (· = p) w (wr.setCell ⟨p, 0, none⟩ (.slice (some ⟨gC, 0, none⟩) N capC)) from (Chg.of_below hnx).setCell _ _ (.inl rfl))
      have HP := Lib.hid (show RefM (wr.setCell ⟨p, 0, none⟩ (.slice (some ⟨gC, 0, none⟩) N capC)) p (.slice (some ⟨gC, 0, none⟩) N capC) M from by
        refine ⟨rowC_set hm.r 0 _, ?_⟩
        rw [hML]
        have hc : Chg (· = p) wr (wr.setCell ⟨p, 0, none⟩ (.slice (some ⟨gC, 0, none⟩) N capC)) := (Chg.refl _ _).setCell _ _ (.inl rfl)
        have hpl := HM.out.lt p (.inl rfl)
        exact hc.owns (owns_base hown) (fun j hj hjp => by simp [Value.ownBlock] at hj; omega))
      clear hown hnx hm hg hML hset
      go_wp2
      go_ret
      exact ⟨retBool (by rw [HR.out]), _, by rw [HR.out]; exact HP.out, HC.out, fun k hk => by
        rcases hk with rfl | hk
        · exact .inl (.inl rfl)
        · simp only [Value.ownBlock, Option.some.injEq] at hk
          exact .inr (by omega)⟩
end Go.Proofs.Ytdngkpdiaeicmaa
