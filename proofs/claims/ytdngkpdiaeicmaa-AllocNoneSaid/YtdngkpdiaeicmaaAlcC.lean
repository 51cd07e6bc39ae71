/- Layer 8: the document's map: Of. -/
import Derived.Test.YtdngkpdiaeicmaaAlcB
namespace Go.Proofs.Ytdngkpdiaeicmaa
open Go.RowKit

/-- The map of the first k bits. -/
def stepO (s : List UInt8) (m k : Nat) : List Bool := (List.range m).map (fun j => decide (j < k) && bitN s j)
theorem stepO_length (s : List UInt8) (m k : Nat) : (stepO s m k).length = m := by simp [stepO]
theorem stepO_zero (s : List UInt8) (m : Nat) : stepO s m 0 = List.replicate m false := by
  refine List.ext_getElem (by simp [stepO]) fun j h1 h2 => ?_
  simp [stepO]
theorem stepO_set (s : List UInt8) (m k : Nat) : (stepO s m k).set k (bitN s k) = stepO s m (k + 1) := by
  refine List.ext_getElem (by simp [stepO]) fun j h1 h2 => ?_
  rw [List.getElem_set]
  simp only [stepO, List.getElem_map, List.getElem_range]
  by_cases e : k = j
  · subst e; simp
  · rw [if_neg e]
    have : decide (j < k) = decide (j < k + 1) := by rw [decide_eq_decide]; omega
    rw [this]
theorem stepO_end (s : List UInt8) (m k : Nat) (h : m ≤ k ∨ s.length ≤ k / 8) : stepO s m k = bitsL s m := by
  unfold stepO bitsL
  refine List.map_congr_left fun j hj => ?_
  have hj := List.mem_range.1 hj
  by_cases e : j < k
  · simp [e]
  · rcases h with h | h
    · omega
    · rw [bitN_beyond s j (by omega)]; simp
/-- What Of leaves. -/
def RefOf (w : World) (s : List UInt8) (m : Nat) (e : Ending) (w' : World) : Prop :=
  (ofL s m = none ∧ e = .returned (.tuple #[.pointer none, .int .i64 10]) ∧ Below w.heap.size w w') ∨
  ∃ L p v, ofL s m = some L ∧ e = .returned (.tuple #[.pointer (some ⟨p, 0, none⟩), .int .i64 0]) ∧ RefM w' p v L ∧ Below w.heap.size w w' ∧ ∀ k, refOwn p v k → w.heap.size ≤ k
theorem rof_no (s : ByteArray) (n : Int) (w : World) (h : n < 1 ∨ 4096 < n) :
    Calls Try.prog 24 #[.string s, .int .i64 n] w fun e w' => e = .returned (.tuple #[.pointer none, .int .i64 2]) ∧ w = w' := by
  have hc := fun w => rnew_no n w h
  clear h
  go_enter Try.func24, Try.ntmps24
  go_wp2_with (go_at_call 11; ((with_reducible refine (hc _).mono ?_); rintro e w' ⟨rfl, rfl⟩))
  go_ret2
  exact ⟨rfl, rfl⟩
set_option maxRecDepth 100000 in
set_option maxHeartbeats 4000000 in
theorem rof_any (s : ByteArray) (m : Nat) (w : World) (h1 : 1 ≤ m) (h2 : m ≤ 4096) (hs : s.size ≤ 1000000) :
    Calls Try.prog 24 #[.string s, .int .i64 (m : Int)] w (RefOf w s.data.toList m) := by
  have hc := rnew_any m w h1 h2
  have hsl := Lib.hid (show s.data.toList.length = s.size by simp)
  go_enter Try.func24, Try.ntmps24
  go_wp2_with (go_at_call 11; ((with_reducible refine hc.mono ?_); rintro e w0 ⟨p, v, rfl, hm, hb, ho⟩))
  obtain ⟨g, cap, rfl⟩ := owns_some hm.s (by rw [List.length_replicate]; exact h1)
  rw [List.length_replicate] at hm ho
  have hg : w.heap.size ≤ g := ho g (.inr rfl)
  have hp : w.heap.size ≤ p := ho p (.inl rfl)
  rw [← stepO_zero s.data.toList] at hm
  have HM := Lib.hid hm
  have HB := Lib.hid hb
  clear hm hb ho hc
  go_loopw [8] (fun i wr => ∃ k : Nat, k ≤ m ∧ i = .int .i64 k ∧ RefM wr p (.slice (some ⟨g, 0, none⟩) m cap) (stepO s.data.toList m k) ∧ Below w.heap.size w wr) (fun i _ => m - (intOf i).toNat)
  case atStart => exact ⟨0, Nat.zero_le _, rfl, HM.out, HB.out⟩
  case round =>
    obtain ⟨k, hk, rfl, hm, hnx⟩ := hrel
    clear HM HB
    have d0 := hm.cell
    by_cases hlt : k < m ∧ k / 8 < s.size
    · obtain ⟨hlt, hl8⟩ := hlt
      have g1 : (k : Int) < (m : Int) := by omega
      have g2 : (k : Int) / 8 < (s.size : Int) := by omega
      have g3 : ((k : Int) / 8).toNat = k / 8 := by omega
      have g4 : (0 : Int) ≤ (k : Int) / 8 := by omega
      have H := Lib.hid (show bitN s.data.toList k = (s[k / 8]).toNat.testBit (k % 8) by
        have h' : k / 8 < s.data.toList.length := by rw [hsl.out]; exact hl8
        simp only [bitN, List.getD, List.getElem?_eq_getElem h', Option.getD_some]
        rfl)
      have hfr := hm.free k
      obtain ⟨ob, hob⟩ : ∃ ob, wr.cell? ⟨g, k, none⟩ = some ob := ⟨_, hm.at (k := k) (by rw [stepO_length]; exact hlt)⟩
      have hst := Lib.hid (hm.set k (bitN s.data.toList k))
      have HN := Lib.hid hnx
      have hbt := UInt8.toNat_lt s[k / 8]
      clear hm hnx
      go_wp2
      obtain ⟨b, hbe⟩ : ∃ b : Nat, b = (s[k / 8]).toNat := ⟨_, rfl⟩
      rw [← hbe] at H hbt ⊢
      clear hbe
      go_loop [9, 10] (fun c x => ∃ t : Nat, t ≤ k % 8 ∧ x = .int .i64 t ∧ c = .int .u8 ((b / 2 ^ t : Nat) : Int)) (fun _ x => k % 8 - (intOf x).toNat)
      case atStart => exact ⟨0, Nat.zero_le _, rfl, by simp⟩
      case round =>
        obtain ⟨t, ht, rfl, rfl⟩ := hrel
        have hc1 : b / 2 ^ t ≤ b := Nat.div_le_self _ _
        have hc2 := Lib.hid (show b / 2 ^ t / 2 = b / 2 ^ (t + 1) by rw [Nat.div_div_eq_div_mul, Nat.pow_succ])
        have hc3 := Lib.hid (show t = k % 8 → (((b / 2 ^ t : Nat) : Int) % 2 == 1) = b.testBit (k % 8) from fun e => by
          rw [Nat.testBit_eq_decide_div_mod_eq, e, Bool.eq_iff_iff, beq_iff_eq, decide_eq_true_eq]; omega)
        obtain ⟨c, hce⟩ : ∃ c : Nat, c = b / 2 ^ t := ⟨_, rfl⟩
        rw [← hce] at hc1 hc2 hc3 ⊢
        clear hce
        by_cases hlt2 : t < k % 8
        · go_wp2
          go_round
          case rel => exact ⟨t + 1, by omega, by go_num, by rw [← hc2.out]; simp⟩
          case measure => simp [intOf]; omega
        · have hbit := hc3.out (by omega)
          rw [← H.out] at hbit
          have hst2 := hst.out
          rw [stepO_set, ← hbit] at hst2
          have HS := Lib.hid hst2
          clear hbit hst2
          go_wp2
          go_roundw
          case rel => exact ⟨k + 1, by omega, by go_num, HS.out, HN.out.setCell (p := ⟨g, k, none⟩) hg _⟩
          case measure => simp [intOf]; omega
    · have hex : stepO s.data.toList m k = bitsL s.data.toList m := stepO_end _ _ _ (by rw [hsl.out]; omega)
      rw [hex] at hm
      have hlen := bitsL_length s.data.toList m
      have CB := rbytes_any hm (by omega) (by omega)
      have HM := Lib.hid hm
      have HX := Lib.hid hnx
      have hgd : k < m → ¬ ((k : Int) / 8 < (s.size : Int)) := fun h h' => hlt ⟨h, by omega⟩
      clear hm hnx hex hlen
      by_cases e : packL (bitsL s.data.toList m) = s.data.toList
      · have HO := Lib.hid (show ofL s.data.toList m = some (bitsL s.data.toList m) by unfold ofL; rw [if_pos e])
        rw [e, str_list] at CB
        clear e
        by_cases hkm : k < m
        · have g2 := hgd hkm
          have g1 : (k : Int) < (m : Int) := by omega
          clear hlt hgd
          go_wp2_with (go_at_call 22; ((with_reducible refine CB.mono ?_); rintro e w2 ⟨rfl, hb2⟩))
          go_ret2
          exact .inr ⟨_, p, _, HO.out, rfl, HM.out.below hb2, HX.out.trans (hb2.mono HX.out.size), fun j hj => by
            rcases hj with rfl | hj
            · exact hp
            · simp only [Value.ownBlock, Option.some.injEq] at hj; omega⟩
        · have g1 : ¬ (k : Int) < (m : Int) := by omega
          clear hlt hgd
          go_wp2_with (go_at_call 22; ((with_reducible refine CB.mono ?_); rintro e w2 ⟨rfl, hb2⟩))
          go_ret2
          exact .inr ⟨_, p, _, HO.out, rfl, HM.out.below hb2, HX.out.trans (hb2.mono HX.out.size), fun j hj => by
            rcases hj with rfl | hj
            · exact hp
            · simp only [Value.ownBlock, Option.some.injEq] at hj; omega⟩
      · have HO := Lib.hid (show ofL s.data.toList m = none by unfold ofL; rw [if_neg e])
        have hne : ((str (packL (bitsL s.data.toList m))).toList == s.toList) = false := by
          have := eq_texts (packL (bitsL s.data.toList m)) s.data.toList
          rw [str_list, decide_eq_false e] at this
          exact this
        obtain ⟨S, hS⟩ : ∃ S, S = str (packL (bitsL s.data.toList m)) := ⟨_, rfl⟩
        rw [← hS] at hne CB
        clear e hS
        by_cases hkm : k < m
        · have g2 := hgd hkm
          have g1 : (k : Int) < (m : Int) := by omega
          clear hlt hgd
          go_wp2_with (go_at_call 22; ((with_reducible refine CB.mono ?_); rintro e w2 ⟨rfl, hb2⟩))
          go_ret2
          exact .inl ⟨HO.out, rfl, HX.out.trans (hb2.mono HX.out.size)⟩
        · have g1 : ¬ (k : Int) < (m : Int) := by omega
          clear hlt hgd
          go_wp2_with (go_at_call 22; ((with_reducible refine CB.mono ?_); rintro e w2 ⟨rfl, hb2⟩))
          go_ret2
          exact .inl ⟨HO.out, rfl, HX.out.trans (hb2.mono HX.out.size)⟩
end Go.Proofs.Ytdngkpdiaeicmaa
