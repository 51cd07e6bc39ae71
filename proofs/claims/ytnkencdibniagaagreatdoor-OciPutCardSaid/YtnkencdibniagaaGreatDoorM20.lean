/- Merged: OdB, OdC, Stp. -/
import Derived.Test.YtnkencdibniagaaGreatDoorM19
import Derived.Test.YtnkencdibniagaaGreatDoorM16
import Derived.Test.YtnkencdibniagaaGreatDoorM05
import Derived.Deep.AppendLies
import Derived.BigQuiet
import Derived.Test.YtnkencdibniagaaGreatDoorShelf
import Derived.Test.YtnkencdibniagaaGreatDoorM01
/- Layer 13: an item is put to a row of values, copied out of a row of its own; where a key stands; keys, cloned. -/
namespace Go.Proofs.YtnkencdibniagaaGreatDoor
open Go.RowKit

/-- An item is put to the end of what was gathered: all four cells at once. -/
theorem RowJ.app {w w' : World} {bL : Nat} {I : Value} {acc : List JV} {own : Nat → Prop} {x : JV} {a b c d : Value} {lo hi g cap n : Nat} {xs : List Value} {F : Nat → Prop}
    (hI : ItemsC w F acc xs) (hF : ∀ k, F k → bL ≤ k ∧ ¬ own k ∧ I.ownBlock ≠ some k) (hn : acc.length = n)
    (hx : HoldsC w (fun k => lo ≤ k ∧ k < hi) x a b c d) (hlo : bL ≤ lo) (hhi : hi ≤ w.heap.size) (hown : ∀ k, own k → k < lo ∨ hi ≤ k) (hIo : ∀ k, I.ownBlock = some k → k < lo)
    (h1 : w'.ownsRow bL 63 4 (.slice (some ⟨g, 0, none⟩) (n + 1) cap) (n + 1) (xs ++ [a, b, c, d])) (hc1 : Chg (fun k => I.ownBlock = some k) w w') (hat : I.ownBlock = some g ∨ w.heap.size ≤ g) (hno : ¬ own g) :
    RowJ w' bL (.slice (some ⟨g, 0, none⟩) (n + 1) cap) (acc ++ [x]) own := by
  have ne1 : ∀ k, ((F k ∧ k < w.heap.size) ∨ (lo ≤ k ∧ k < hi)) → ¬ I.ownBlock = some k := by
    rintro k (⟨hk, _⟩ | ⟨hk1, _⟩) e
    · exact (hF k hk).2.2 e
    · have := hIo k e; omega
  refine ⟨⟨xs ++ [a, b, c, d], fun k => (F k ∧ k < w.heap.size) ∨ (lo ≤ k ∧ k < hi), ?_, ItemsC.snoc ?_ acc xs ?_, ?_⟩, ?_⟩
  · rw [List.length_append, List.length_singleton, hn]
    exact h1
  · exact HoldsC.chg hc1 ne1 x _ _ _ _ (HoldsC.mono (fun k hk _ => .inr hk) x _ _ _ _ hx)
  · exact ItemsC.chg hc1 ne1 acc xs (ItemsC.mono (fun k hk hlt => .inl ⟨hk, hlt⟩) acc xs hI)
  · rintro k (⟨hk, hlt⟩ | ⟨hk1, hk2⟩)
    · refine ⟨(hF k hk).1, (hF k hk).2.1, fun e => ?_⟩
      simp only [Value.ownBlock, Option.some.injEq] at e
      subst e
      rcases hat with hat | hat
      · exact (hF _ hk).2.2 hat
      · omega
    · refine ⟨by omega, fun ho => by have := hown k ho; omega, fun e => ?_⟩
      simp only [Value.ownBlock, Option.some.injEq] at e
      subst e
      rcases hat with hat | hat
      · have := hIo _ hat; omega
      · omega
  · intro k hk e
    simp only [Value.ownBlock, Option.some.injEq] at e
    subst e
    exact hno hk
/-- A value that is gathered in a box: what a round that puts an item to it leaves. bL: the blocks of the call's own, from the loop on. -/
def GrB (W : World) (bc bL : Nat) (k : Int) (T : ByteArray) (D : Value) (acc : List JV) (w : World) : Prop :=
  ∃ I, Chg (fun q => q = bc) W w ∧ rowC w bc #[.int .i64 k, .string T, I, D] 63 ∧ RowJ w bL I acc (fun _ => False)
theorem row_round {W wr W1 w5 w7 : World} {bc bL j g cap ci n2 c2 n3 c3 : Nat} {k k2 : Int} {T t2 : ByteArray} {D : Value} {xi y2 y3 : Option Addr} {acc : List JV} {x : JV} {xs : List Value} {F : Nat → Prop} {o2 : Obj}
    (hW : W.heap.size = bL) (hbc : bc < bL) (hG : Chg (fun q => q = bc) W wr) (hR : rowC wr bc #[.int .i64 k, .string T, .slice xi j ci, D] 63)
    (ho : wr.ownsRow bL 63 4 (.slice xi j ci) j xs) (hI : ItemsC wr F acc xs) (hF : ∀ q, F q → bL ≤ q ∧ ¬ False ∧ (Value.slice xi j ci).ownBlock ≠ some q) (hn : acc.length = j)
    (h1 : Chg (fun _ => False) wr W1) (h5 : Chg (fun _ => False) W1 w5) (hx : HoldsC w5 (fun q => W1.heap.size ≤ q ∧ q < w5.heap.size) x (.int .i64 k2) (.string t2) (.slice y2 n2 c2) (.slice y3 n3 c3))
    (ho7 : w7.ownsRow bL 63 4 (.slice (some ⟨g, 0, none⟩) (j + 1) cap) (j + 1) (xs ++ [.int .i64 k2, .string t2, .slice y2 n2 c2, .slice y3 n3 c3])) (hg7 : (w5.alloc o2).grownBy w7 (Value.slice xi j ci).ownBlock) (hat : (Value.slice xi j ci).ownBlock = some g ∨ g = w5.heap.size + 1) :
    GrB W bc bL k T D (acc ++ [x]) (w7.setCell ⟨bc, 2, none⟩ (.slice (some ⟨g, 0, none⟩) (j + 1) cap)) := by
  have s1 := h1.size
  have s5 := h5.size
  have sw := hG.size
  have sa : (w5.alloc o2).heap.size = w5.heap.size + 1 := size_alloc _ _
  have c15 : Chg (fun _ => False) wr (w5.alloc o2) := (h1.trans h5 (fun _ _ h => h)).alloc _
  have hIlt : ∀ q, (Value.slice xi j ci).ownBlock = some q → bL ≤ q ∧ q < wr.heap.size := fun q hq => ho.lt q hq
  have c7 : Chg (fun q => (Value.slice xi j ci).ownBlock = some q) (w5.alloc o2) w7 := (Chg.refl _ _).grown hg7 (fun q hq => .inl hq)
  have cw7 : Chg (fun q => (Value.slice xi j ci).ownBlock = some q) wr w7 := (c15.mono (fun _ _ h => h.elim)).trans c7 (fun q _ hq => hq)
  have hnbc : (Value.slice xi j ci).ownBlock ≠ some bc := fun e => by have := (hIlt bc e).1; omega
  have r7 := cw7.rowC hR hnbc
  refine ⟨_, ?_, rowC_set r7 2 _, ?_⟩
  · exact (hG.trans cw7 (fun q hq e => by have := (hIlt q e).1; omega)).cellq 2 _
  · refine RowJ.chg ?_ ((Chg.refl (fun q => q = bc) w7).cellq 2 _) (fun q hq => .inl (by omega))
    refine RowJ.app (ItemsC.chg c15 (fun _ _ h => h) acc xs (ItemsC.mono (G := fun q => F q ∧ q < wr.heap.size) (fun q hq hlt => ⟨hq, hlt⟩) acc xs hI)) (fun q hq => hF q hq.1) hn (HoldsC.chg ((Chg.refl (fun _ => False) w5).alloc o2) (fun _ _ h => h) x _ _ _ _ hx) (by omega) (by omega) (fun q hq => hq.elim) (fun q hq => by have := (hIlt q hq).2; omega) ho7 c7 ?_ id
    rcases hat with hat | hat
    · exact .inl hat
    · exact .inr (by omega)
/-- Where a key stands first. -/
def fstK : List Bs → Bs → Nat → Int
  | [], _, _ => -1
  | k :: ks, key, i => if k = key then (i : Int) else fstK ks key (i + 1)
theorem fstK_le : ∀ (ks : List Bs) (key : Bs) (i : Nat), fstK ks key i = -1 ∨ ((i : Int) ≤ fstK ks key i ∧ fstK ks key i < (i + ks.length : Nat))
  | [], _, _ => .inl rfl
  | k :: ks, key, i => by
    rw [fstK]
    by_cases h : k = key
    · rw [if_pos h]
      exact .inr ⟨by omega, by rw [List.length_cons]; omega⟩
    · rw [if_neg h]
      rcases fstK_le ks key (i + 1) with e | ⟨e1, e2⟩
      · exact .inl e
      · refine .inr ⟨by omega, ?_⟩
        rw [List.length_cons]
        omega
theorem getL_fst : ∀ (ks : List Bs) (xs : List JV) (key : Bs) (i : Nat), getL ks xs key = if fstK ks key i < 0 then none else xs[(fstK ks key i).toNat - i]?
  | [], xs, key, i => by rw [fstK, if_pos (by decide)]; simp [getL]
  | k :: ks, [], key, i => by
    rw [show getL (k :: ks) [] key = none by simp [getL]]
    split
    · rfl
    · simp
  | k :: ks, x :: xs, key, i => by
    rw [getL, fstK]
    by_cases h : k = key
    · rw [if_pos h, if_pos h, if_neg (by omega)]
      simp
    · rw [if_neg h, if_neg h, getL_fst ks xs key (i + 1)]
      rcases fstK_le ks key (i + 1) with e | ⟨e1, e2⟩
      · rw [e, if_pos (by decide), if_pos (by decide)]
      · rw [if_neg (by omega), if_neg (by omega), show (fstK ks key (i + 1)).toNat - i = ((fstK ks key (i + 1)).toNat - (i + 1)) + 1 by omega, List.getElem?_cons_succ]
theorem fstK_step {ks : List Bs} {key : Bs} {n : Nat} (hn : n < ks.length) (h : ks.getD n [] ≠ key) : fstK (ks.drop n) key n = fstK (ks.drop (n + 1)) key (n + 1) := by
  rw [List.drop_eq_getElem_cons hn, fstK, if_neg]
  rw [List.getD_eq_getElem?_getD, List.getElem?_eq_getElem hn] at h
  exact h
theorem fstK_hit {ks : List Bs} {key : Bs} {n : Nat} (hn : n < ks.length) (h : ks.getD n [] = key) : fstK (ks.drop n) key n = (n : Int) := by
  rw [List.drop_eq_getElem_cons hn, fstK, if_pos]
  rw [List.getD_eq_getElem?_getD, List.getElem?_eq_getElem hn] at h
  exact h
set_option maxRecDepth 100000 in
set_option maxHeartbeats 4000000 in
/-- slices.Index, of texts. -/
theorem sindex_any {w : World} {F : Nat → Prop} {keys : List Bs} {key : Bs} {x : Option Addr} {c : Nat} (hx : ∀ i, i < keys.length → ∃ ad, x = some ad ∧ F ad.block ∧ w.cell? (ad.add i) = some (.string (str (keys.getD i [])))) (hl : keys.length ≤ 65536) :
    Calls Tryz.prog 112 #[.slice x keys.length c, .string (str key)] w fun e w' => e = .returned (.int .i64 (fstK keys key 0)) ∧ Below w.heap.size w w' := by
  have HX := Lib.hid hx
  have HL := Lib.hid hl
  clear hx hl
  go_enter Tryz.func112, Tryz.ntmps112
  go_wp2
  go_loopg [8] keys.length (fun kk s8 wr => ∃ n : Nat, s8 = .int .i64 (n : Int) ∧ Hid (kk = keys.length - n) ∧ Hid (n ≤ keys.length) ∧ Hid (fstK keys key 0 = fstK (keys.drop n) key n) ∧ Hid (∃ m, wr = w.drewN m))
  case atStart => exact ⟨0, rfl, Lib.hid rfl, Lib.hid (Nat.zero_le _), Lib.hid (by rw [List.drop_zero]), Lib.hid ⟨0, rfl⟩⟩
  case round =>
    obtain ⟨n, rfl, HN, HNL, HK, HM⟩ := hrel
    by_cases hn : n < keys.length
    · obtain ⟨ad, rfl, _, h1⟩ := HX.out n hn
      have hn1 : (n : Int) < (keys.length : Int) := by omega
      have hn2 : (n : Int) + 1 ≤ 65536 := by have := HL.out; omega
      have e1 : wr.cell? (ad.add n) = some (.string (str (keys.getD n []))) := by obtain ⟨m, rfl⟩ := HM.out; exact h1
      have HKK := Lib.hid (show n + 1 ≤ keys.length from hn)
      by_cases hk : keys.getD n [] = key
      · have HR := Lib.hid (HK.out.trans (fstK_hit hn hk))
        rw [hk] at e1
        clear hn h1 hk
        go_wp2
        go_ret
        obtain ⟨m, rfl⟩ := HM.out
        rw [HR.out]
        exact ⟨rfl, below_drewN (Below.refl _ _) _⟩
      · have HR := Lib.hid (HK.out.trans (fstK_step hn hk))
        have hnb : ((str key).toList == (str (keys.getD n [])).toList) = false := by rw [eq_texts]; exact decide_eq_false (fun e => hk e.symm)
        generalize keys.getD n [] = kt at *
        clear hn h1 hk
        go_wp2
        go_roundg (keys.length - (n + 1))
        case measure => rw [HN.out]; have := HKK.out; omega
        case rel => exact ⟨n + 1, rfl, Lib.hid rfl, HKK, HR, HM⟩
    · have hn1 : ¬ (n : Int) < (keys.length : Int) := by omega
      have HR : Hid (fstK keys key 0 = -1) := Lib.hid (by rw [HK.out, List.drop_eq_nil_of_le (by omega)]; rfl)
      clear hn
      go_wp2
      go_ret
      obtain ⟨m, rfl⟩ := HM.out
      rw [HR.out]
      exact ⟨rfl, below_drewN (Below.refl _ _) _⟩
end Go.Proofs.YtnkencdibniagaaGreatDoor

/- Layer 13: keys, cloned. -/
namespace Go.Proofs.YtnkencdibniagaaGreatDoor
open Go.RowKit

theorem nil_none (n c : Nat) (w : World) : (binOp .eql 61 (.slice none n c) (.slice none 0 0)).run Tryz.prog w = .ok (.bool true) w := by
  rw [Lib.run_eql_slice_nil w _ _ none n c 0 0 Tryz.underlying61]
  rfl
theorem nil_some (ad : Addr) (n c : Nat) (w : World) : (binOp .eql 61 (.slice (some ad) n c) (.slice none 0 0)).run Tryz.prog w = .ok (.bool false) w := by
  rw [Lib.run_eql_slice_nil w _ _ (some ad) n c 0 0 Tryz.underlying61]
  rfl
set_option maxRecDepth 100000 in
set_option maxHeartbeats 4000000 in
/-- slices.Clone, of keys. -/
theorem clonek_any {w : World} {F : Nat → Prop} {keys : List Bs} {V : Value} (hK : HoldsK w F keys V) (hl : keys.length ≤ 65536) :
    Calls Tryz.prog 147 #[V] w fun e w' => ∃ y m d, e = .returned (.slice y m d) ∧ HoldsK w' (fun k => w.heap.size ≤ k ∧ k < w'.heap.size) keys (.slice y m d) ∧ Below w.heap.size w w' := by
  rcases hK with ⟨rfl, rfl⟩ | ⟨ad, cap, rfl, hc⟩
  · have q0 := nil_none
    go_enter Tryz.func147, Tryz.ntmps147
    go_wp2
    go_ret
    exact ⟨none, 0, 0, rfl, .inl ⟨rfl, rfl⟩, Below.refl _ _⟩
  · have q0 := nil_some
    have A := Lib.hid hc
    have hle : keys.length ≤ maxLen := by unfold maxLen; omega
    obtain ⟨i0, hi, hz0, hz1, hz2⟩ := info_parts info_S1
    clear hc
    go_enter Tryz.func147, Tryz.ntmps147
    go_wp2_with ((with_reducible show wpList _ _ _ (⟨some 7, _, _, _, _, _⟩ :: _) _ _); refine wpList_append_own _ rfl _ _ 61 rfl w.heap.size 9 i0 (.string ⟨#[]⟩) 1 16 Tryz.underlying61 hi hz0 hz1 hz2 rfl (by decide) _ _ _ rfl (World.ownsRow_made w #[] 0 (Nat.le_refl _) (Nat.zero_le _) rfl) ad keys.length cap (keysV keys) rfl ?qc1 ?qc2 ?qc3 ?qc4 ?qc5 ?qc6 ?_)
    case qc1 => unfold keysV; simp
    case qc2 =>
      intro j u hj
      unfold keysV at hj
      rw [List.getElem?_map, Option.map_eq_some_iff] at hj
      obtain ⟨t, ht, rfl⟩ := hj
      have hjl := (List.getElem?_eq_some_iff.1 ht).1
      have h1 := (A.out j hjl).2
      rw [List.getD_eq_getElem?_getD, ht] at h1
      exact Lib.cell?_alloc_some _ h1
    case qc3 => intro u hu; unfold keysV at hu; obtain ⟨x, _, rfl⟩ := List.mem_map.1 hu; rfl
    case qc4 => unfold maxLen; omega
    case qc5 => omega
    case qc6 => simp
    intro v' w1 hown hgrow hnil
    go_wp2
    go_ret
    have ho : w1.ownsRow w.heap.size 9 1 v' keys.length (keysV keys) := by simpa using hown
    obtain ⟨y, d, rfl⟩ := owns_form ho
    exact ⟨y, _, d, rfl, keys_holds ho rfl, ((Below.refl _ w).alloc (Nat.le_refl _) _).grown hgrow (by simp) (by intro k hk; simp [Value.ownBlock] at hk; omega)⟩
end Go.Proofs.YtnkencdibniagaaGreatDoor

/- Generic: a whole row is stored at a step of a region that draws its order. -/
namespace Go.Proofs.YtnkencdibniagaaGreatDoor
open Go.RowKit

theorem step_store_row {P : Program} {ops : Array Oper} {o : Oper} {a : Act} {w : World} {K : Act → World → Prop} {Q : Exit → Act → World → Prop} {E : Prop} (hgd : o.guard = none) (ty : TypeId) (x y : Operand) (ho : o.op = .store ty x y)
    (g : Nat) (cells : Array Value) (hx : a.eval x = .pointer (some ⟨g, 0, none⟩)) (hy : a.eval y = .agg cells)
    (t : TypeId) (old : Array Value) (hg : w.heap[g]? = some (.cells old t (0, 0))) (hi : (P.info? ty).map (·.size) = some cells.size)
    (hold : old.size = cells.size) (h1 : cells.all (·.oneCell') = true)
    (h : K (a.put o.dst undef) (w.setRow g cells)) : if Region.wanted o (yielded ops a.tmps) = true then Oper.wp P o a w K Q else E := by
  have hw : Region.wanted o (yielded ops a.tmps) = true := by simp [Region.wanted, hgd]
  rw [if_pos hw]
  exact wp_store_row ty x y ho g cells hx hy t old hg hi hold h1 h
end Go.Proofs.YtnkencdibniagaaGreatDoor

