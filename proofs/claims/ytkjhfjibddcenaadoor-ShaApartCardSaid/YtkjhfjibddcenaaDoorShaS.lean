/- Layer 4: the walk of ShaParts. -/
import Derived.Test.YtkjhfjibddcenaaDoorShaP
import Derived.SliceStrings
import Derived.Deep.DrawnRows
namespace Go.Proofs.YtkjhfjibddcenaaDoor
open Go.RowKit
set_option linter.unusedSimpArgs false
attribute [local go_sem ↓] Go.wp_at_zero Go.wp_at_succ

/-- A slice of strings that came in, as far as its elements go. -/
def StrRow (w : World) (a : Option Addr) (ss : List ByteArray) : Prop :=
  ss = [] ∨ ∃ b off, a = some ⟨b, off, none⟩ ∧ ∀ k, k < ss.length → w.cell? ⟨b, off + k, none⟩ = some (.string (ss.getD k ByteArray.empty))
theorem lt_of_cell {w : World} {a : Addr} {v : Value} (h : w.cell? a = some v) : a.block < w.heap.size := by
  refine Nat.lt_of_not_le fun hn => ?_
  unfold World.cell? at h
  simp [Array.getElem?_eq_none hn] at h
theorem below_cell {w w' : World} (hb : Below w.heap.size w w') {a : Addr} {v : Value} (h : w.cell? a = some v) : w'.cell? a = some v := (hb.cell (lt_of_cell h)).trans h
/-- The memory of the loop's body: the hasher, a copy. -/
structure PartM (W w : World) (p : Nat) (all : List UInt8) (q : Nat) (allc : List UInt8) : Prop where
  h : IsHash w p all
  c : IsHash w q allc
  l : Laid w
  nx : Below W.heap.size W w
  hp : W.heap.size ≤ p
  hc : W.heap.size ≤ q
  ne : p ≠ q
theorem PartM.below {W w w' : World} {p c : Nat} {all allc : List UInt8} (m : PartM W w p all c allc) (hb : Below w.heap.size w w') : PartM W w' p all c allc :=
  ⟨m.h.below hb m.h.lt, m.c.below hb m.c.lt, m.l.below hb m.l.lt, m.nx.trans (hb.mono m.nx.size), m.hp, m.hc, m.ne⟩
theorem PartM.grownH {W w w' : World} {p c : Nat} {all all' allc : List UInt8} (m : PartM W w p all c allc) (h2 : 2 ≤ W.heap.size) (hg : w.grownBy w' (some p)) (hh : IsHash w' p all') : PartM W w' p all' c allc :=
  ⟨hh, m.c.grown hg (Ne.symm m.ne), m.l.grown (Nat.le_trans h2 m.hp) hg, below_grown m.nx hg m.nx.size m.hp, m.hp, m.hc, m.ne⟩
theorem PartM.grownC {W w w' : World} {p c : Nat} {all allc allc' : List UInt8} (m : PartM W w p all c allc) (h2 : 2 ≤ W.heap.size) (hg : w.grownBy w' (some c)) (hh : IsHash w' c allc') : PartM W w' p all c allc' :=
  ⟨m.h.grown hg m.ne, hh, m.l.grown (Nat.le_trans h2 m.hc) hg, below_grown m.nx hg m.nx.size m.hc, m.hp, m.hc, m.ne⟩
theorem PartM.drew {W w : World} {p c : Nat} {all allc : List UInt8} (m : PartM W w p all c allc) : PartM W w.drew p all c allc :=
  ⟨m.h.drewN 1, m.c.drewN 1, m.l.below ((Below.refl _ _).drew) m.l.lt, m.nx.drew, m.hp, m.hc, m.ne⟩

/-- The calls of the loop's body. -/
theorem part_write {W w : World} {p c : Nat} {all allc : List UInt8} (m : PartM W w p all c allc) (h2 : 2 ≤ W.heap.size) (s : ByteArray) (hb : all.length + s.size ≤ 1000000) :
    Calls Tryd.prog 12 #[.pointer (some ⟨p, 0, none⟩), .string s] w fun e w' => e = .returned (.int .i64 (s.size : Int)) ∧ PartM W w' p (all ++ s.data.toList) c allc :=
  (write_any w p all s m.h m.l (Nat.le_trans h2 m.hp) hb).mono fun _ _ ⟨h1, hh, hg⟩ => ⟨h1, m.grownH h2 hg hh⟩
theorem part_writec {W w : World} {p c : Nat} {all allc : List UInt8} (m : PartM W w p all c allc) (h2 : 2 ≤ W.heap.size) (s : ByteArray) (hb : allc.length + s.size ≤ 1000000) :
    Calls Tryd.prog 12 #[.pointer (some ⟨c, 0, none⟩), .string s] w fun e w' => e = .returned (.int .i64 (s.size : Int)) ∧ PartM W w' p all c (allc ++ s.data.toList) :=
  (write_any w c allc s m.c m.l (Nat.le_trans h2 m.hc) hb).mono fun _ _ ⟨h1, hh, hg⟩ => ⟨h1, m.grownC h2 hg hh⟩
theorem part_sum {W w : World} {p c : Nat} {all allc : List UInt8} (m : PartM W w p all c allc) {D : Array Value} (hD : D = cells8 (hashL all)) (hb : all.length ≤ 900000) :
    Calls Tryd.prog 13 #[.pointer (some ⟨p, 0, none⟩)] w fun e w' => e = .returned (.agg D) ∧ PartM W w' p all c allc := by
  subst hD
  exact (sum_any w p all m.h m.l hb).mono fun _ _ ⟨h1, hh⟩ => ⟨h1, m.below hh⟩
theorem part_sumc {W w : World} {p c : Nat} {all allc : List UInt8} (m : PartM W w p all c allc) {D : Array Value} (hD : D = cells8 (hashL allc)) (hb : allc.length ≤ 900000) :
    Calls Tryd.prog 13 #[.pointer (some ⟨c, 0, none⟩)] w fun e w' => e = .returned (.agg D) ∧ PartM W w' p all c allc := by
  subst hD
  exact (sum_any w c allc m.c m.l hb).mono fun _ _ ⟨h1, hh⟩ => ⟨h1, m.below hh⟩
theorem part_ref {W w : World} {p c : Nat} {all allc x : List UInt8} (m : PartM W w p all c allc) {D : Array Value} (hD : D = cells8 (hashL x)) (hb : x.length ≤ 1000000) :
    Calls Tryd.prog 9 #[.string (str x)] w fun e w' => e = .returned (.agg D) ∧ PartM W w' p all c allc := by
  subst hD
  refine (rof_any (str x) w (by rw [str_size]; exact hb)).mono fun _ _ ⟨h1, hh⟩ => ⟨?_, m.below hh⟩
  rw [h1, str_toList]
theorem part_size {W w : World} {p c : Nat} {all allc : List UInt8} (m : PartM W w p all c allc) :
    Calls Tryd.prog 14 #[.pointer (some ⟨p, 0, none⟩)] w fun e w' => e = .returned (.int .i64 (all.length : Int)) ∧ w = w' := size_any w p all m.h
theorem part_sizec {W w : World} {p c : Nat} {all allc : List UInt8} (m : PartM W w p all c allc) :
    Calls Tryd.prog 14 #[.pointer (some ⟨c, 0, none⟩)] w fun e w' => e = .returned (.int .i64 (allc.length : Int)) ∧ w = w' := size_any w c allc m.c

set_option maxRecDepth 100000 in
set_option maxHeartbeats 1000000 in
theorem shaParts_walk (a : Option Addr) (len cap : Nat) (ss : List ByteArray) (w : World) (hl : ss.length = len) (hr : StrRow w a ss) (L : Laid w) :
    Calls Tryd.prog 4 #[.slice a len cap] w fun e w' => e = .returned (.bool true) ∧ Below w.heap.size w w' := by
  have hw2 := L.lt
  have HL := Lib.hid L
  have HR := Lib.hid hr
  have HLE := Lib.hid hl
  clear L hr hl
  by_cases hs : 20 < len
  · have hs' : (20 : Int) < (len : Int) := by omega
    go_enter Tryd.func4, Tryd.ntmps4
    go_wp2_with (go_at_call 7; ((with_reducible refine (hashed_any _ HL.out).mono ?_); rintro e w1 ⟨rfl, hb1⟩))
    go_ret
    exact ⟨rfl, hb1⟩
  · have hs' : ¬ (20 : Int) < (len : Int) := by omega
    go_enter Tryd.func4, Tryd.ntmps4
    go_wp2_with (go_at_call 10; ((with_reducible refine (new_any _ HL.out).mono ?_); rintro e w1 ⟨rfl, hh1, hb1⟩))
    have l1 : Laid w1 := HL.out.below hb1 hw2
    obtain ⟨p, hp⟩ : ∃ p, p = w.heap.size := ⟨_, rfl⟩
    rw [← hp] at hh1 ⊢
    have hpw : w.heap.size ≤ p := by omega
    have Hp := Lib.hid hp
    clear hp
    go_loopw [4, 5] (fun u t wr => ∃ (k : Nat) (all : List UInt8), k ≤ len ∧ all.length ≤ 300 * k ∧ u = .string (str all) ∧ t = .int .i64 (k : Int) ∧ IsHash wr p all ∧ Laid wr ∧ Below w.heap.size w wr) (fun _ t _ => 20 - (intOf t).toNat)
    case atStart => exact ⟨0, [], by omega, by simp, rfl, rfl, hh1, l1, hb1⟩
    case round =>
      clear hh1 l1 hb1 w1
      obtain ⟨k, all, hk, ha, rfl, rfl, hh, l1, hb⟩ := hrel
      by_cases hlt : k < len
      · have hk' : (k : Int) < (len : Int) := by omega
        rcases HR.out with h0 | ⟨b, off, rfl, hcs⟩
        · have := HLE.out; rw [h0] at this; simp at this; omega
        have hck := hcs k (by rw [HLE.out]; exact hlt)
        obtain ⟨s, hsd⟩ : ∃ s, s = ss.getD k ByteArray.empty := ⟨_, rfl⟩
        rw [← hsd] at hck
        clear hsd hcs
        obtain ⟨l, rfl⟩ : ∃ l, s = str l := ⟨s.data.toList, (str_list s).symm⟩
        have szl : (str l).size = l.length := str_size l
        have hcr := below_cell hb hck
        by_cases h300 : 300 < l.length
        · have h300' : (300 : Int) < (l.length : Int) := by omega
          go_wp2_with (go_at_call 7; ((with_reducible refine (hashed_any _ l1).mono ?_); rintro e w2 ⟨rfl, hb2⟩))
          go_ret
          exact ⟨rfl, hb.trans (hb2.mono hb.size)⟩
        · have h300' : ¬ (300 : Int) < (l.length : Int) := by omega
          go_wp2_with (go_at_call 11; ((with_reducible refine (copy_any _ _ _ hh).mono ?_); rintro e w2 ⟨rfl, hh2, hb2⟩))
          have hplt := hh.lt
          obtain ⟨c, hc⟩ : ∃ c, c = wr.heap.size := ⟨_, rfl⟩
          rw [← hc] at hh2 ⊢
          have m2 : PartM w w2 p all c all := ⟨hh.below hb2 hplt, hh2, l1.below hb2 l1.lt, hb.trans (hb2.mono hb.size), hpw, by rw [hc]; exact hb.size, by omega⟩
          clear hcr hh hh2 hb hb2 l1 hplt hc
          obtain ⟨D, hD⟩ : ∃ D, D = cells8 (hashL all) := ⟨_, rfl⟩
          have q1 : ∀ w, (Op.equalIn 10000 24 (.agg D) (.agg D)).run Tryd.prog w = .ok true w := fun w => by
            rw [hD, eq_digest w 9998 (hashL_length _) (hashL_length _)]; simp
          have gd := guard_digest
          go_wp2
          have md := m2.drew
          have hD' := Lib.hid hD
          have sz : (str all).size = all.length := str_size all
          clear hD
          have SO : ∀ w' x y, PartM w w' p x c y → w'.cell? ⟨b, off + k, none⟩ = some (.string (str l)) := fun w' x y m => below_cell m.nx hck
          go_region_held3 (fun w' => w'.cell? ⟨b, off + k, none⟩ = some (.string (str l))) (exact SO _ _ _ (by assumption))
            (first
              | (go_at_call 12; ((with_reducible refine (part_write (by assumption) hw2 (str l) (by omega)).mono ?_); rintro e w3 ⟨rfl, m3⟩; rw [str_toList] at m3))
              | (go_at_call 13; ((with_reducible refine (part_sumc (by assumption) hD'.out (by omega)).mono ?_); rintro e w4 ⟨rfl, m4⟩))
              | (go_at_call 9; ((with_reducible refine (part_ref (by assumption) hD'.out (by omega)).mono ?_); rintro e w5 ⟨rfl, m5⟩))
              | (go_at_call 14; ((with_reducible refine (part_sizec (by assumption)).mono ?_); rintro e w6 ⟨rfl, rfl⟩)))
          have m6 := m5
          clear m2 md m3 m4 m5
          obtain ⟨D2, hD2⟩ : ∃ D2, D2 = cells8 (hashL (all ++ l)) := ⟨_, rfl⟩
          have q2 : ∀ w, (Op.equalIn 10000 24 (.agg D2) (.agg D2)).run Tryd.prog w = .ok true w := fun w => by
            rw [hD2, eq_digest w 9998 (hashL_length _) (hashL_length _)]; simp
          have hD2' := Lib.hid hD2
          have hll : (all ++ l).length = all.length + l.length := List.length_append
          have HLL := Lib.hid hll
          have hx1 : all.length + (ByteArray.mk #[120]).size ≤ 1000000 := by show all.length + 1 ≤ 1000000; omega
          have szf : (((all.length : Int) + (l.length : Int)) != ((str (all ++ l)).size : Int)) = false := by rw [str_size, hll]; simp
          clear hD2 hll q1
          go_wp2_with (first
            | (go_at_call 12; ((with_reducible refine (part_writec m6 hw2 ⟨#[120]⟩ hx1).mono ?_); rintro e w7 ⟨rfl, m7⟩; have hcell := SO _ _ _ m7))
            | (go_at_call 13; ((with_reducible refine (part_sum m7 hD2'.out (by rw [HLL.out]; omega)).mono ?_); rintro e w8 ⟨rfl, m8⟩))
            | (go_at_call 9; rw [str_append]; ((with_reducible refine (part_ref m8 hD2'.out (by rw [HLL.out]; omega)).mono ?_); rintro e w9 ⟨rfl, m9⟩))
            | (go_at_call 14; ((with_reducible refine (part_size m9).mono ?_); rintro e w10 ⟨rfl, rfl⟩; rw [HLL.out])))
          refine ⟨⟨k + 1, all ++ l, by omega, by rw [HLL.out]; omega, rfl, rfl, m9.h, m9.l, m9.nx⟩, ?_⟩
          simp only [intOf]
          omega
      · obtain rfl : k = len := by omega
        go_wp2_with (go_at_call 7; ((with_reducible refine (hashed_any _ l1).mono ?_); rintro e w2 ⟨rfl, hb2⟩))
        go_ret
        exact ⟨rfl, hb.trans (hb2.mono hb.size)⟩
end Go.Proofs.YtkjhfjibddcenaaDoor
