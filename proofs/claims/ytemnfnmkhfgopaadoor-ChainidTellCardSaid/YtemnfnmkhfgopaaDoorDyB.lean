/- Layer 5: a digest's text, as the program has it. (Out of DpB.) -/
import Derived.Test.YtemnfnmkhfgopaaDoorDyC
namespace Go.Proofs.YtemnfnmkhfgopaaDoor
open Go.RowKit

theorem hexB_at (i : Nat) (h : i < 16) : ((⟨#[48, 49, 50, 51, 52, 53, 54, 55, 56, 57, 97, 98, 99, 100, 101, 102]⟩ : ByteArray)).data.toList.getD i 0 = hexB i := by
  have : ∀ i, i < 16 → ((⟨#[48, 49, 50, 51, 52, 53, 54, 55, 56, 57, 97, 98, 99, 100, 101, 102]⟩ : ByteArray)).data.toList.getD i 0 = hexB i := by decide
  exact this i h
theorem and15 (x : Nat) (h : x < 256) : bits BinOp.and IntKind.u8 (x : Int) 15 = ((x % 16 : Nat) : Int) := by
  have := u8_and_nat x 15 h (by decide)
  rw [show ((15 : Nat) : Int) = 15 from rfl] at this
  rw [this, show (15 : Nat) = 2 ^ 4 - 1 from rfl, Nat.and_two_pow_sub_one_eq_mod]
theorem hex_step (l : List UInt8) (k : Nat) (h : k < l.length) : (hexL (l.take k)).map byteV ++ [byteV (hexB ((l.getD k 0).toNat / 16)), byteV (hexB ((l.getD k 0).toNat % 16))] = (hexL (l.take (k + 1))).map byteV := by
  rw [take_snoc8 l k h, hexL_snoc, List.map_append]; rfl
theorem hex_length (l : List UInt8) (k : Nat) (h : k ≤ l.length) : (hexL (l.take k)).length = 2 * k := by
  rw [hexL_length, List.length_take, Nat.min_eq_left h]
set_option maxRecDepth 100000 in
set_option maxHeartbeats 1000000 in
theorem digitsOf_any (l : List UInt8) (w : World) (hl : l.length = 32) :
    Calls Tryd.prog 20 #[.agg (cells8 l)] w fun e w' => e = .returned (.string (str (hexL l))) ∧ Below w.heap.size w w' := by
  obtain ⟨i0, hi0, hz0, hz1, hz2⟩ := info_parts info_u8
  have hI : (Tryd.prog.info? 26).map (·.size) = some (cells8 l).size := by rw [cells8_size, hl]; kernel_rfl
  have HI := Lib.hid hI
  have HL := Lib.hid hl
  have IX := Lib.hid (fun k hk => idx_row l k hk hl)
  clear hl hI
  go_enter Tryd.func20, Tryd.ntmps20
  go_wp2_with (refine wpList_load_row rfl 26 _ rfl w.heap.size rfl 26 (cells8 l) (0, 0) _ (rowC_new w (cells8 l) 26) Tryd.underlying26 rfl HI.out ?_)
  go_loopw [3, 7] (fun v i wr => ∃ k : Nat, k ≤ 32 ∧ i = .int .i64 k ∧ wr.ownsRow w.heap.size 5 1 v (2 * k) ((hexL (l.take k)).map byteV) ∧ Below w.heap.size w wr) (fun _ i _ => 32 - (intOf i).toNat)
  case atStart => exact ⟨0, by omega, rfl, World.ownsRow_nil _ _ _ _, (Below.refl _ _).alloc (Nat.le_refl _) _⟩
  case round =>
    obtain ⟨k, hk, rfl, hown, hnx⟩ := hrel
    by_cases hlt : k < 32
    · have hst := Lib.hid (hex_step l k (by rw [HL.out]; exact hlt))
      have hlen := Lib.hid (hex_length l k (by rw [HL.out]; omega))
      have ix := IX.out k hlt
      have hsz := hnx.size
      obtain ⟨x, hx⟩ : ∃ x, x = (l.getD k 0).toNat := ⟨_, rfl⟩
      have hx2 : x < 256 := by rw [hx]; exact UInt8.toNat_lt _
      rw [← hx] at hst ix
      clear hx
      have a15 := and15 x hx2
      have j1 := idx_strK .u8 ⟨#[48, 49, 50, 51, 52, 53, 54, 55, 56, 57, 97, 98, 99, 100, 101, 102]⟩ (x / 16) ((x : Int) / 16) (by omega) (by show _ < 16; omega)
      have j2 := idx_strK .u8 ⟨#[48, 49, 50, 51, 52, 53, 54, 55, 56, 57, 97, 98, 99, 100, 101, 102]⟩ (x % 16) ((x : Int) % 16) (by omega) (by show _ < 16; omega)
      rw [hexB_at _ (by omega)] at j1 j2
      go_wp2
      have hns := fun (w' : World) => World.news_of_block (heap_alloc_new w' (.cells #[.int .u8 ((hexB (x / 16)).toNat : Int), .int .u8 ((hexB (x % 16)).toNat : Int)] 5))
      go_region_held3 (fun _ => True) (trivial) ((refine step_append_lies _ (by rfl) _ _ _ (by rfl) w.heap.size 5 i0 (.int .u8 0) 1 1 Tryd.underlying45 hi0 hz0 hz1 hz2 (by rfl) (by decide) _ (2 * k) _ (by rfl) (hown.drew.alloc _) _ 2 2 [.int .u8 ((hexB (x / 16)).toNat : Int), .int .u8 ((hexB (x % 16)).toNat : Int)] (by rfl) (by rfl) (hns _) (fun u hu => by simp at hu; rcases hu with rfl | rfl <;> rfl) (by decide) (by unfold maxLen; omega) (by omega) (by simp; omega) (wr.heap.size + 1) (by simp) ?_; intro g cap w1 hown1 hgrow hat hlt))
      all_goals
        have hown2 : w1.ownsRow w.heap.size 5 1 (.slice (some ⟨g, 0, none⟩) (2 * k + 2) cap) (2 * (k + 1)) ((hexL (l.take (k + 1))).map byteV) := by
          rw [← hst.out]; exact hown1
        have hnx2 : Below w.heap.size w w1 := (hnx.drew.alloc hsz _).grown hgrow (by simp; omega) (fun j hj => (hown.lt j hj).1)
        clear hown1 hgrow hown hnx hns hlt
        go_wp2
        go_roundw
        case rel => exact ⟨k + 1, by omega, by go_num, hown2, hnx2⟩
        case measure => simp [intOf]; omega
    · obtain rfl : k = 32 := by omega
      have hlen := hex_length l 32 (by rw [HL.out]; omega)
      obtain ⟨a, cap, rfl, hcv⟩ := conv_own hown hlen
      have HT := Lib.hid (show l.take 32 = l from List.take_of_length_le (by rw [HL.out]; omega))
      clear hown hlen
      go_wp2
      go_ret
      exact ⟨retStr (by rw [HT.out]), hnx⟩
theorem name_text (l : List UInt8) : (⟨#[115, 104, 97, 50, 53, 54, 58]⟩ : ByteArray) ++ str (hexL l) = str (textL l) := str_append nameL (hexL l)
set_option maxRecDepth 100000 in
set_option maxHeartbeats 1000000 in
theorem text_any (l : List UInt8) (w : World) (hl : l.length = 32) :
    Calls Tryd.prog 15 #[.agg (cells8 l)] w fun e w' => e = .returned (.string (str (textL l))) ∧ Below w.heap.size w w' := by
  have hI : (Tryd.prog.info? 26).map (·.size) = some (cells8 l).size := by rw [cells8_size, hl]; kernel_rfl
  have HI := Lib.hid hI
  have CD := fun w => digitsOf_any l w hl
  have HN := Lib.hid (name_text l)
  have sz : (str (hexL l)).size = 64 := by rw [str_size, hexL_length, hl]
  clear hl hI
  go_enter Tryd.func15, Tryd.ntmps15
  go_wp2_with (first
    | (refine wpList_load_row rfl 26 _ rfl w.heap.size rfl 26 (cells8 l) (0, 0) _ (rowC_new w (cells8 l) 26) Tryd.underlying26 rfl HI.out ?_)
    | (go_at_call 20; ((with_reducible refine (CD _).mono ?_); rintro e w1 ⟨rfl, hb⟩)))
  go_ret
  exact ⟨retStr HN.out, ((Below.refl _ _).alloc (Nat.le_refl _) _).trans (hb.mono (by simp))⟩
end Go.Proofs.YtemnfnmkhfgopaaDoor
