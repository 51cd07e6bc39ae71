/- Merged: OdO, OdP, JuK. -/
import Derived.Test.YtnkencdibniagaaGreatDoorM26
import Derived.Deep.RegionHeld3
import Derived.Test.YtnkencdibniagaaGreatDoorM17
/- Layer 13: what reads a list. -/
namespace Go.Proofs.YtnkencdibniagaaGreatDoor
open Go.RowKit

set_option maxHeartbeats 4000000 in
theorem listOf_des (fn : FuncId) (lb : Array Value) (w : World) : Calls Tryz.prog 35 #[.func (.func fn) #[] lb] w fun e w' => e = .returned (.func (.func 78) #[] #[.pointer (some ⟨w.heap.size, 0, none⟩)]) ∧ w'.cell? ⟨w.heap.size, 0, none⟩ = some (.func (.func fn) #[] lb) ∧ Below w.heap.size w w' := by
  go_enter Tryz.func35, Tryz.ntmps35
  go_wp2
  go_ret
  exact ⟨rfl, rowC_cell (rowC_new w _ _) 0, (Below.refl _ _).alloc (Nat.le_refl _) _⟩
end Go.Proofs.YtnkencdibniagaaGreatDoor

/- Layer 13: what an image's files are made of, as it is read. -/
namespace Go.Proofs.YtnkencdibniagaaGreatDoor
open Go.RowKit

end Go.Proofs.YtnkencdibniagaaGreatDoor

/- Layer 11: may a value be, but for its items. -/
namespace Go.Proofs.YtnkencdibniagaaGreatDoor
open Go.RowKit

theorem emp_str (t : Bs) : (str t).toList.isEmpty = decide (t = []) := by
  unfold str
  rw [ByteArray.toList_mk]
  cases t <;> simp
set_option maxRecDepth 100000 in
set_option maxHeartbeats 8000000 in
theorem mayBe_any {w : World} {F : Nat → Prop} {k : Int} {t : Bs} {items : List JV} {keys : List Bs} {a b c d : Value} (hE : Env w) (hF : ∀ j, F j → j < w.heap.size) (hl : keys.length ≤ 65536) (hs : ∀ y ∈ keys, y.length ≤ 262144)
    (hH : HoldsC w F (.mk k t items keys) a b c d) :
    Calls Tryz.prog 105 #[.agg #[a, b, c, d]] w fun e w' => e = .returned (.bool (aloneK k t items.length keys)) ∧ Below w.heap.size w w' := by
  obtain ⟨rfl, rfl, ht, ⟨x1, c1, rfl, hI⟩, ⟨x2, c2, rfl, hK⟩⟩ := hH.opens
  obtain ⟨W0, hW0⟩ : ∃ W0, W0 = w.alloc (.cells #[.int .i64 k, .string (str t), .slice x1 items.length c1, .slice x2 keys.length c2] 63) := ⟨_, rfl⟩
  have R0 : rowC W0 w.heap.size #[.int .i64 k, .string (str t), .slice x1 items.length c1, .slice x2 keys.length c2] 63 := by rw [hW0]; exact rowC_new w _ _
  have B0 : Below w.heap.size w W0 := by rw [hW0]; exact (Below.refl _ _).alloc (Nat.le_refl _) _
  have E0 : Env W0 := hE.below B0
  have CK := areKeys_any (c2 := c2) E0 (F := F) (x2 := x2) (keys := keys) (fun j hj => Nat.lt_of_lt_of_le (hF j hj) B0.size) hl hs (fun i hi => by
    obtain ⟨ad, h1, h2, h3⟩ := hK i hi
    exact ⟨ad, h1, h2, cell_chg (s := fun _ => False) (Chg.of_below B0) h3 id⟩)
  have CN := isNumber_any t (show okT t by unfold okT; omega) W0
  have CV := Tryz.utf8_ValidString (str t) W0 (by rw [str_size]; omega) E0.tabs
  rw [str_toList] at CV
  have g0 : W0.cell? ⟨w.heap.size, 0, none⟩ = some (.int .i64 k) := rowC_cell R0 0
  have g1 : W0.cell? ⟨w.heap.size, 1, none⟩ = some (.string (str t)) := rowC_cell R0 1
  have g2 : W0.cell? ⟨w.heap.size, 2, none⟩ = some (.slice x1 items.length c1) := rowC_cell R0 2
  have g3 : W0.cell? ⟨w.heap.size, 3, none⟩ = some (.slice x2 keys.length c2) := rowC_cell R0 3
  have HW0 := Lib.hid hW0
  have HB0 := Lib.hid B0
  have fin : ∀ {W2 : World}, Below W0.heap.size W0 W2 → Below w.heap.size w W2 := fun hb => B0.trans (hb.mono B0.size)
  have het := emp_str t
  clear hW0 R0 B0 E0 hE hI hK hH hl hs ht
  generalize items.length = n at *
  obtain ⟨m, hm⟩ : ∃ m, keys.length = m := ⟨_, rfl⟩
  rw [hm] at g3 HW0 CK ⊢
  have HM := Lib.hid hm
  by_cases h6 : k = 6
  · subst h6
    by_cases h0 : t = []
    · by_cases hkn : m = n
      · have HA : Hid (aloneK 6 t n keys = keysOk keys) := Lib.hid (by unfold aloneK; rw [if_neg (by omega), if_neg (by decide), if_neg (by decide), if_neg (by decide), if_pos rfl]; simp [h0, hm, hkn])
        have hz : (str t).toList.isEmpty = true := by rw [het]; simpa using h0
        have hq : ((m : Int) == (n : Int)) = true := by rw [beq_iff_eq]; omega
        clear hm het h0 hkn CN CV
        go_enter Tryz.func105, Tryz.ntmps105
        go_upto_region 1 with (fail)
        rw [← HW0.out]
        go_wp2_with (go_at_call 142; ((with_reducible refine CK.mono ?_); rintro e w2 ⟨rfl, hb2⟩))
        go_ret
        rw [HA.out]
        exact ⟨rfl, fin hb2⟩
      · have HA : Hid (aloneK 6 t n keys = false) := Lib.hid (by unfold aloneK; rw [if_neg (by omega), if_neg (by decide), if_neg (by decide), if_neg (by decide), if_pos rfl]; simp [hm, hkn])
        have hz : (str t).toList.isEmpty = true := by rw [het]; simpa using h0
        have hq : ((m : Int) == (n : Int)) = false := by rw [beq_eq_false_iff_ne]; omega
        clear hm het h0 hkn CN CV CK
        go_enter Tryz.func105, Tryz.ntmps105
        go_upto_region 1 with (fail)
        rw [← HW0.out]
        go_wp2
        go_ret
        rw [HA.out]
        exact ⟨rfl, HB0.out⟩
    · have HA : Hid (aloneK 6 t n keys = false) := Lib.hid (by unfold aloneK; rw [if_neg (by omega), if_neg (by decide), if_neg (by decide), if_neg (by decide), if_pos rfl]; simp [h0])
      have hz : (str t).toList.isEmpty = false := by rw [het]; simpa using h0
      clear hm het h0 CN CV CK
      go_enter Tryz.func105, Tryz.ntmps105
      go_upto_region 1 with (fail)
      rw [← HW0.out]
      go_wp2
      go_ret
      rw [HA.out]
      exact ⟨rfl, HB0.out⟩
  by_cases h5 : k = 5
  · subst h5
    by_cases hk0 : 0 < m
    · have HA : Hid (aloneK 5 t n keys = false) := Lib.hid (by unfold aloneK; rw [if_pos (.inl ⟨by decide, by omega⟩)])
      have hk1 : (0 : Int) < (m : Int) := by omega
      clear hm het hk0 CN CV CK
      go_enter Tryz.func105, Tryz.ntmps105
      go_upto_region 1 with (fail)
      rw [← HW0.out]
      go_wp2
      go_ret
      rw [HA.out]
      exact ⟨rfl, HB0.out⟩
    · have HA : Hid (aloneK 5 t n keys = decide (t = [])) := Lib.hid (by unfold aloneK; rw [if_neg (by omega), if_pos (by decide)])
      have hk1 : ¬ (0 : Int) < (m : Int) := by omega
      have HZ := Lib.hid het
      clear hm het hk0 CN CV CK
      go_enter Tryz.func105, Tryz.ntmps105
      go_upto_region 1 with (fail)
      rw [← HW0.out]
      go_wp2
      go_ret
      rw [HA.out]
      exact ⟨retBool HZ.out, HB0.out⟩
  have n6 : (k != 6) = true := by rw [bne_iff_ne]; exact h6
  have n5 : (k != 5) = true := by rw [bne_iff_ne]; exact h5
  by_cases hk0 : 0 < m
  · have HA : Hid (aloneK k t n keys = false) := Lib.hid (by unfold aloneK; rw [if_pos (.inl ⟨h6, by omega⟩)])
    have hk1 : (0 : Int) < (m : Int) := by omega
    clear hm het hk0 CN CV CK h5 h6
    go_enter Tryz.func105, Tryz.ntmps105
    go_upto_region 1 with (fail)
    rw [← HW0.out]
    go_wp2
    go_ret
    rw [HA.out]
    exact ⟨rfl, HB0.out⟩
  have hk1 : ¬ (0 : Int) < (m : Int) := by omega
  by_cases hn0 : 0 < n
  · have HA : Hid (aloneK k t n keys = false) := Lib.hid (by unfold aloneK; rw [if_pos (.inr ⟨h6, h5, hn0⟩)])
    have hn1 : (0 : Int) < (n : Int) := by omega
    clear hm het hk0 hn0 CN CV CK h5 h6
    go_enter Tryz.func105, Tryz.ntmps105
    go_upto_region 1 with (fail)
    rw [← HW0.out]
    go_wp2
    go_ret
    rw [HA.out]
    exact ⟨rfl, HB0.out⟩
  have hn1 : ¬ (0 : Int) < (n : Int) := by omega
  have HN := Lib.hid (show ¬ ((k ≠ 6 ∧ 0 < keys.length) ∨ (k ≠ 6 ∧ k ≠ 5 ∧ 0 < n)) by omega)
  by_cases h0 : k = 0
  · subst h0
    have HA : Hid (aloneK 0 t n keys = decide (t = [])) := Lib.hid (by unfold aloneK; rw [if_neg HN.out, if_pos (by decide)])
    have HZ := Lib.hid het
    clear hm het hk0 hn0 CN CV CK h5 h6 n5 n6
    go_enter Tryz.func105, Tryz.ntmps105
    go_upto_region 1 with (fail)
    rw [← HW0.out]
    go_wp2
    go_ret
    rw [HA.out]
    exact ⟨retBool HZ.out, HB0.out⟩
  by_cases h1 : k = 1
  · subst h1
    have HA : Hid (aloneK 1 t n keys = decide (t = [])) := Lib.hid (by unfold aloneK; rw [if_neg HN.out, if_pos (by decide)])
    have HZ := Lib.hid het
    clear hm het hk0 hn0 CN CV CK h5 h6 n5 n6
    go_enter Tryz.func105, Tryz.ntmps105
    go_upto_region 1 with (fail)
    rw [← HW0.out]
    go_wp2
    go_ret
    rw [HA.out]
    exact ⟨retBool HZ.out, HB0.out⟩
  by_cases h2 : k = 2
  · subst h2
    have HA : Hid (aloneK 2 t n keys = decide (t = [])) := Lib.hid (by unfold aloneK; rw [if_neg HN.out, if_pos (by decide)])
    have HZ := Lib.hid het
    clear hm het hk0 hn0 CN CV CK h5 h6 n5 n6
    go_enter Tryz.func105, Tryz.ntmps105
    go_upto_region 1 with (fail)
    rw [← HW0.out]
    go_wp2
    go_ret
    rw [HA.out]
    exact ⟨retBool HZ.out, HB0.out⟩
  by_cases h3 : k = 3
  · subst h3
    have HA : Hid (aloneK 3 t n keys = isNumB t) := Lib.hid (by unfold aloneK; rw [if_neg HN.out, if_neg (by decide), if_pos rfl])
    clear hm het hk0 hn0 CV CK h5 h6 n5 n6
    go_enter Tryz.func105, Tryz.ntmps105
    go_upto_region 1 with (fail)
    rw [← HW0.out]
    go_wp2_with (go_at_call 109; ((with_reducible refine CN.mono ?_); rintro e w2 ⟨rfl, hb2⟩))
    go_ret
    rw [HA.out]
    exact ⟨rfl, fin hb2⟩
  by_cases h4 : k = 4
  · subst h4
    have HA : Hid (aloneK 4 t n keys = Lib.validD t) := Lib.hid (by unfold aloneK; rw [if_neg HN.out, if_neg (by decide), if_neg (by decide), if_pos rfl])
    clear hm het hk0 hn0 CN CK h5 h6 n5 n6
    go_enter Tryz.func105, Tryz.ntmps105
    go_upto_region 1 with (fail)
    rw [← HW0.out]
    go_wp2_with (go_at_call 89; ((with_reducible refine CV.mono ?_); rintro e w2 ⟨rfl, hb2⟩))
    go_ret
    rw [HA.out]
    exact ⟨rfl, fin hb2⟩
  · have HA : Hid (aloneK k t n keys = false) := Lib.hid (by unfold aloneK; rw [if_neg HN.out, if_neg (by omega), if_neg h3, if_neg h4, if_neg h6])
    have m0 : (k == 0) = false := by rw [beq_eq_false_iff_ne]; exact h0
    have m1 : (k == 1) = false := by rw [beq_eq_false_iff_ne]; exact h1
    have m2 : (k == 2) = false := by rw [beq_eq_false_iff_ne]; exact h2
    have m3 : (k == 3) = false := by rw [beq_eq_false_iff_ne]; exact h3
    have m4 : (k == 4) = false := by rw [beq_eq_false_iff_ne]; exact h4
    have m5 : (k == 5) = false := by rw [beq_eq_false_iff_ne]; exact h5
    have m6 : (k == 6) = false := by rw [beq_eq_false_iff_ne]; exact h6
    clear hm het hk0 hn0 CN CV CK h0 h1 h2 h3 h4 h5 h6
    go_enter Tryz.func105, Tryz.ntmps105
    go_upto_region 1 with (fail)
    rw [← HW0.out]
    go_wp2
    go_ret
    rw [HA.out]
    exact ⟨rfl, HB0.out⟩
end Go.Proofs.YtnkencdibniagaaGreatDoor

