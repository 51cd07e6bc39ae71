/- Layer 4: filling up, as the program does it. -/
import Derived.Test.YtemnfnmkhfgopaaDoorSbD
import Derived.Test.YtemnfnmkhfgopaaDoorShelf
import Derived.Deep.RegionWith
namespace Go.Proofs.YtemnfnmkhfgopaaDoor
open Go.RowKit

/-- The first k of a number's eight bytes, and zeros. -/
def fstL (n k : Nat) : List UInt8 := (be8 n).take k ++ List.replicate (8 - k) 0
theorem fstL_length (n : Nat) {k : Nat} (h : k ≤ 8) : (fstL n k).length = 8 := by
  simp [fstL, be8_length]; omega
theorem fstL_none (n : Nat) : fstL n 0 = List.replicate 8 0 := by simp [fstL]
theorem fstL_all (n : Nat) : fstL n 8 = be8 n := by
  unfold fstL
  rw [List.take_of_length_le (by rw [be8_length]; omega)]
  simp
theorem fstL_set (n : Nat) {k : Nat} (h : k < 8) : (fstL n k).set k (UInt8.ofNat (n / 256 ^ (7 - k))) = fstL n (k + 1) := by
  unfold fstL
  have e : ((be8 n).take k).length = k := by rw [List.length_take, be8_length]; omega
  have hk : k < (be8 n).length := by rw [be8_length]; exact h
  rw [List.set_append_right _ _ (by omega), e, Nat.sub_self, show 8 - k = (8 - (k + 1)) + 1 by omega, List.replicate_succ, List.set_cons_zero, List.take_succ_eq_append_getElem hk, List.append_assoc, List.singleton_append]
  congr 2
  simp [be8]
theorem sha_repeat_zero (c : Nat) : (⟨(Lib.repeatL ([0] : List UInt8) c).toArray⟩ : ByteArray) = str (List.replicate c 0) := by
  unfold str
  congr 2
  induction c with
  | zero => rfl
  | succ c ih => rw [List.replicate_succ, ← ih]; rfl

theorem own_below {w w' : World} {base : Nat} {e : TypeId} {size n : Nat} {v : Value} {xs : List Value} (h : w.ownsRow base e size v n xs) (hb : Below w.heap.size w w') : w'.ownsRow base e size v n xs :=
  h.kept (row := none) ⟨hb.os, hb.tape, hb.output, hb.size, fun k hk _ => hb.block k hk⟩ (by cases v.ownBlock <;> simp)
theorem byteV_shift (n : Nat) {k : Nat} (hk : k < 8) : Value.int .u8 ((n : Int) * 8 / 2 ^ (56 - 8 * k) % 256) = byteV (UInt8.ofNat (n * 8 / 256 ^ (7 - k))) := by
  rw [byteV_ofNat, show (256 : Nat) ^ (7 - k) = 2 ^ (56 - 8 * k) by rw [show (256 : Nat) = 2 ^ 8 from rfl, ← Nat.pow_mul]; congr 1; omega]
  simp
theorem conv8 {w : World} {base g n cap : Nat} {l : List UInt8} (h : w.ownsRow base 5 1 (.slice (some ⟨g, 0, none⟩) n cap) n (l.map byteV)) (hn : l.length = n) :
    (convert 45 9 (.slice (some ⟨g, 0, none⟩) n cap)).run Tryd.prog w = .ok (.string (str l)) w := by
  obtain ⟨a, c, e, hc⟩ := conv_own h hn
  simp only [Value.slice.injEq, true_and] at e
  obtain ⟨rfl, rfl⟩ := e
  exact hc

set_option maxHeartbeats 1000000 in
theorem filling_any (n : Nat) (w : World) (hn : n ≤ 1000000) :
    Calls Tryd.prog 23 #[.int .i64 (n : Int)] w fun e w' => e = .returned (.string (str (padL n))) ∧ Below w.heap.size w w' := by
  obtain ⟨i0, hi0, hz0, hz1, hz2⟩ := info_parts info_u8
  obtain ⟨z, hz⟩ : ∃ z, z = (119 - n % 64) % 64 := ⟨_, rfl⟩
  have ez : (119 - (n : Int) % 64) % 64 = (z : Int) := by omega
  have hz63 : z ≤ 63 := by omega
  have hpad : str (padL n) = str [128] ++ str (List.replicate z 0) ++ str (be8 (n * 8)) := by
    rw [str_append, str_append]
    unfold padL
    rw [← hz, Nat.mod_eq_of_lt (show 8 * n < 18446744073709551616 by omega), Nat.mul_comm 8 n]
    rfl
  have HP := Lib.hid hpad
  clear hpad hz
  go_enter Tryd.func23, Tryd.ntmps23
  go_wp2_with (at_make; refine wpList_make_full _ rfl _ _ 45 rfl w.heap.size 5 i0 (.int .u8 0) 1 Tryd.underlying45 hi0 hz0 hz1 .i64 .i64 _ _ 8 rfl rfl rfl rfl (by rw [hz2]; omega) (by unfold maxLen; omega) (Nat.le_refl _) ?_; intro w0 hown0 hgrow0)
  have hb0 : Below w.heap.size w w0 := (Below.refl _ _).grown hgrow0 (Nat.le_refl _) (fun j hj => by cases hj)
  rw [show (madeCells (Value.int IntKind.u8 0).cells (8 * 1)).toList = List.replicate 8 (.int .u8 0) from by rw [Nat.mul_one]; exact toList_madeCells_one _ _] at hown0
  clear hgrow0
  have hown1 : w0.ownsRow w.heap.size 5 1 (.slice (some ⟨w.heap.size, 0, none⟩) 8 8) 8 ((fstL (n * 8) 0).map byteV) := by rw [fstL_none]; exact hown0
  clear hown0
  go_loopw [13] (fun i wr => ∃ k : Nat, k ≤ 8 ∧ i = .int .i64 k ∧ wr.ownsRow w.heap.size 5 1 (.slice (some ⟨w.heap.size, 0, none⟩) 8 8) 8 ((fstL (n * 8) k).map byteV) ∧ Below w.heap.size w wr) (fun i _ => 8 - (intOf i).toNat)
  case atStart => exact ⟨0, Nat.zero_le _, rfl, hown1, hb0⟩
  case round =>
    obtain ⟨k, hk, rfl, hown, hnx⟩ := hrel
    clear hown1 hb0
    by_cases hlt : k < 8
    · have hset := Lib.hid (fstL_set (n * 8) hlt)
      obtain ⟨ob, hob⟩ : ∃ ob, wr.cell? ⟨w.heap.size, k, none⟩ = some ob :=
        ⟨_, (hown.cellAt k (by omega)).trans (List.getElem?_eq_getElem (by rw [List.length_map, fstL_length _ hk]; omega))⟩
      have hfz := hown.frozenAt k
      have Hown := Lib.hid hown
      clear hown
      have hsto := Lib.hid ((Hown.out.stored k (byteV (UInt8.ofNat (n * 8 / 256 ^ (7 - k))))).1)
      have hbv := Lib.hid (byteV_shift n hlt)
      go_wp2
      go_roundw
      case rel => exact ⟨k + 1, by omega, by go_num, by rw [hbv.out, ← hset.out, List.map_set]; exact hsto.out, hnx.setCell (p := ⟨w.heap.size, k, none⟩) (Nat.le_refl _) _⟩
      case measure => simp [intOf]; omega
    · obtain rfl : k = 8 := by omega
      rw [fstL_all] at hown
      have CR : ∀ w, Calls Tryd.prog 31 #[.string (⟨#[0]⟩ : ByteArray), .int .i64 (z : Int)] w fun e w' => e = .returned (.string (str (List.replicate z 0))) ∧ Below w.heap.size w w' := fun w => by
        rw [← sha_repeat_zero z]
        exact Tryd.strings_Repeat (⟨#[0]⟩ : ByteArray) z w (by omega) (by show 1 * z ≤ _; omega)
      have hcv0 := conv8 (own_below hown ((Below.refl _ wr).drew)) (be8_length _)
      have s1 : (str (List.replicate z 0)).size = z := by rw [str_size]; simp
      have s2 : (str (be8 (n * 8))).size = 8 := by rw [str_size, be8_length]
      have Hown := Lib.hid hown
      clear hown
      go_wp2
      go_region_with (first | (go_at_call 31; ((with_reducible refine (CR _).mono ?_); rintro e w2 ⟨rfl, hb2⟩; have hcv1 := conv8 (own_below Hown.out (((Below.refl _ wr).drew).trans hb2)) (be8_length _))))
      all_goals
        go_wp2
        go_ret
        exact ⟨retStr HP.out.symm, (hnx.drew).trans (hb2.mono hnx.size)⟩
end Go.Proofs.YtemnfnmkhfgopaaDoor
