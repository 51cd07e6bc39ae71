/- Layer 8: the document's map: Bytes, Of. -/
import Derived.Test.YtdngkpdiaeicmaaAlcA
namespace Go.Proofs.Ytdngkpdiaeicmaa
open Go.RowKit

theorem ret2p {a b : Value} {c d : Int} (h : a = b) (h' : c = d) : Ending.returned (.tuple #[a, .int .i64 c]) = .returned (.tuple #[b, .int .i64 d]) := by rw [h, h']
/-- A block whose bit is clear leaves its bytes. -/
theorem fill_skip (L : List Bool) (k : Nat) (hb : L.getD k false = false) : fillL L (k + 1) = fillL L k := by
  rw [fillL, hb]; rfl
/-- The weight of the next bit. -/
def weiN (k : Nat) : Int := ((2 ^ (k % 8) : Nat) : Int)
theorem weiN_next (k : Nat) (h : k % 8 ≠ 7) : weiN k * 2 = weiN (k + 1) ∧ weiN k * 2 ≤ 255 := by
  unfold weiN
  have h8 : k % 8 < 7 := by omega
  rw [show (k + 1) % 8 = k % 8 + 1 by omega]
  have : ∀ m < 7, ((2 ^ m : Nat) : Int) * 2 = ((2 ^ (m + 1) : Nat) : Int) ∧ ((2 ^ m : Nat) : Int) * 2 ≤ 255 := by decide +kernel
  exact this _ h8
theorem weiN_last (k : Nat) (h : k % 8 = 7) : weiN (k + 1) = 1 := by
  unfold weiN
  rw [show (k + 1) % 8 = 0 by omega]
  decide
theorem weiN_le (k : Nat) : 0 ≤ weiN k ∧ weiN k ≤ 128 := by
  unfold weiN
  have h8 : k % 8 < 8 := by omega
  have : ∀ m < 8, 0 ≤ ((2 ^ m : Nat) : Int) ∧ ((2 ^ m : Nat) : Int) ≤ 128 := by decide +kernel
  exact this _ h8
set_option maxRecDepth 100000 in
set_option maxHeartbeats 2000000 in
theorem rbytes_any {w : World} {p : Nat} {v : Value} {L : List Bool} (h : RefM w p v L) (h1 : 1 ≤ L.length) (h2 : L.length ≤ 4096) :
    Calls Try.prog 22 #[.pointer (some ⟨p, 0, none⟩)] w fun e w' => e = .returned (.string (str (packL L))) ∧ Below w.heap.size w w' := by
  obtain ⟨i0, hi, hz0, hz1, hz2⟩ := info_parts info_u8
  have c0 := h.cell
  obtain ⟨g, cap, rfl⟩ := owns_some h.s (by omega)
  have HM := Lib.hid h
  obtain ⟨N, hN⟩ : ∃ N, N = L.length := ⟨_, rfl⟩
  obtain ⟨B, hB⟩ : ∃ B, B = (N + 7) / 8 := ⟨_, rfl⟩
  rw [← hN] at c0 h1 h2
  have HN := Lib.hid hN
  have HB := Lib.hid hB
  have hB1 : 1 ≤ B := by omega
  have hB2 : B ≤ 600 := by omega
  have eB := Lib.hid (show ((N : Int) + 7) / 8 = (B : Int) by omega)
  clear h hN hB
  go_enter Try.func22, Try.ntmps22
  go_wp2_with (at_make; rw [eB.out]; refine wpList_make_full _ rfl _ _ 53 rfl w.heap.size 5 i0 (.int .u8 0) 1 Try.underlying53 hi hz0 hz1 .i64 .i64 _ _ B rfl rfl rfl rfl (by rw [hz2]; omega) (by unfold maxLen; omega) (Nat.le_refl _) ?_; intro w0 hown0 hgrow0)
  have hb0 : Below w.heap.size w w0 := (Below.refl _ _).grown hgrow0 (Nat.le_refl _) (fun j hj => by cases hj)
  rw [show (madeCells (Value.int IntKind.u8 0).cells (B * 1)).toList = (fillL L 0).map byteV by rw [fillL, ← HN.out, ← HB.out, List.map_replicate, Nat.mul_one]; exact toList_madeCells_one _ _] at hown0
  clear hgrow0
  have HO := Lib.hid hown0
  have HBl := Lib.hid hb0
  clear hown0 hb0
  go_wp2
  go_loopw [4, 5] (fun x i wr => ∃ k : Nat, k ≤ N ∧ i = .int .i64 k ∧ x = .int .u8 (weiN k) ∧ wr.ownsRow w.heap.size 5 1 (.slice (some ⟨w.heap.size, 0, none⟩) B B) B ((fillL L k).map byteV) ∧ Below w.heap.size w wr) (fun _ i _ => N - (intOf i).toNat)
  case atStart => exact ⟨0, Nat.zero_le _, rfl, rfl, HO.out, HBl.out⟩
  case round =>
    obtain ⟨k, hk, rfl, rfl, hown, hnx⟩ := hrel
    clear HO HBl
    have hm := HM.out.below hnx
    have d0 := hm.cell
    rw [← HN.out] at d0
    by_cases hlt : k < N
    · have hc := hm.at (k := k) (by have := HN.out; omega)
      have k0 : (0 : Int) ≤ (k : Int) := by omega
      have k1 : (k : Int) < (N : Int) := by omega
      obtain ⟨w1, w2⟩ := weiN_le k
      have HX := Lib.hid (show k % 8 ≠ 7 → weiN k * 2 = weiN (k + 1) ∧ weiN k * 2 ≤ 255 from weiN_next k)
      have HW := Lib.hid (show (2 ^ (k % 8) : Nat) = (weiN k).toNat by unfold weiN; exact (Int.toNat_natCast _).symm)
      obtain ⟨x, hx⟩ : ∃ x, x = weiN k := ⟨_, rfl⟩
      rw [← hx] at HX HW w1 w2 ⊢
      clear hx
      cases hb : L.getD k false
      · have HS := Lib.hid (fill_skip L k hb)
        rw [hb] at hc
        clear hb
        by_cases h7 : k % 8 = 7
        · have b7 : ((k : Int) % 8 == 7) = true := by rw [beq_iff_eq]; omega
          have HE := Lib.hid (weiN_last k h7)
          clear HX h7
          go_wp2
          go_roundw
          case rel => exact ⟨k + 1, by omega, by go_num, by rw [HE.out], by rw [HS.out]; exact hown, hnx⟩
          case measure => simp [intOf]; omega
        · have b7 : ((k : Int) % 8 == 7) = false := by rw [beq_eq_false_iff_ne]; omega
          obtain ⟨e1, e2⟩ := HX.out h7
          have HE := Lib.hid e1
          clear HX h7 e1
          go_wp2
          go_roundw
          case rel => exact ⟨k + 1, by omega, by go_num, by rw [HE.out], by rw [HS.out]; exact hown, hnx⟩
          case measure => simp [intOf]; omega
      · obtain ⟨f1, f2⟩ := fill_step L k (by have := HN.out; omega) hb
        rw [HW.out] at f1 f2
        have hl8 : k / 8 < (fillL L k).length := by rw [fillL_length]; have := HN.out; omega
        have hl9 : k / 8 < B := by have := HB.out; omega
        have hcB := hown.cellAt (k / 8) (by omega)
        rw [List.getElem?_map, List.getElem?_eq_getElem hl8] at hcB
        have hfz := hown.frozenAt (k / 8)
        have eg : (fillL L k).getD (k / 8) 0 = (fillL L k)[k / 8] := by rw [List.getD_eq_getElem?_getD, List.getElem?_eq_getElem hl8]; rfl
        rw [eg] at f1 f2
        have hsto := (hown.stored (k / 8) (.int .u8 (((fillL L k)[k / 8].toNat : Int) + x))).1
        have hsto2 : (wr.setCell ⟨w.heap.size, k / 8, none⟩ (.int .u8 (((fillL L k)[k / 8].toNat : Int) + x))).ownsRow w.heap.size 5 1 (.slice (some ⟨w.heap.size, 0, none⟩) B B) B ((fillL L (k + 1)).map byteV) := by
          rw [f1, List.map_set]
          have : byteV (UInt8.ofNat ((fillL L k)[k / 8].toNat + x.toNat)) = .int .u8 (((fillL L k)[k / 8].toNat : Int) + x) := by
            rw [byteV_ofNat]
            congr 1
            omega
          rw [this]
          exact hsto
        have HS := Lib.hid hsto2
        replace hcB : wr.cell? ⟨w.heap.size, k / 8, none⟩ = some (.int .u8 ((fillL L k)[k / 8].toNat : Int)) := hcB
        have hbn := UInt8.toNat_lt (fillL L k)[k / 8]
        obtain ⟨b, hbb⟩ : ∃ b : Nat, b = (fillL L k)[k / 8].toNat := ⟨_, rfl⟩
        rw [← hbb] at hcB HS f2 hbn
        have k2 : ((k : Int) / 8).toNat = k / 8 := by omega
        have k3 : (0 : Int) ≤ (k : Int) / 8 := by omega
        have k4 : (k : Int) / 8 < (B : Int) := by omega
        have k5 : (b : Int) + x ≤ 255 := by omega
        rw [hb] at hc
        clear hb hsto hsto2 hbb eg f1 f2 hl8 hl9
        by_cases h7 : k % 8 = 7
        · have b7 : ((k : Int) % 8 == 7) = true := by rw [beq_iff_eq]; omega
          have HE := Lib.hid (weiN_last k h7)
          clear HX h7
          go_wp2
          go_roundw
          case rel => exact ⟨k + 1, by omega, by go_num, by rw [HE.out], HS.out, hnx.setCell (p := ⟨w.heap.size, k / 8, none⟩) (Nat.le_refl _) _⟩
          case measure => simp [intOf]; omega
        · have b7 : ((k : Int) % 8 == 7) = false := by rw [beq_eq_false_iff_ne]; omega
          obtain ⟨e1, e2⟩ := HX.out h7
          have HE := Lib.hid e1
          clear HX h7 e1
          go_wp2
          go_roundw
          case rel => exact ⟨k + 1, by omega, by go_num, by rw [HE.out], HS.out, hnx.setCell (p := ⟨w.heap.size, k / 8, none⟩) (Nat.le_refl _) _⟩
          case measure => simp [intOf]; omega
    · obtain rfl : k = N := by omega
      obtain ⟨a, cap', hv, hcv⟩ := conv_own hown (by rw [fillL_length, ← HN.out, HB.out])
      simp only [Value.slice.injEq, true_and] at hv
      obtain ⟨rfl, rfl⟩ := hv
      have HP := Lib.hid (show fillL L k = packL L by rw [packL, ← HN.out])
      clear hown
      go_wp2
      go_ret
      exact ⟨by rw [HP.out]; rfl, hnx⟩
end Go.Proofs.Ytdngkpdiaeicmaa
