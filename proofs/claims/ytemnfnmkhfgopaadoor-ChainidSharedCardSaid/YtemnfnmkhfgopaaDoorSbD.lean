/- Layer 4: the document's own filling up. -/
import Derived.Test.YtemnfnmkhfgopaaDoorSbB
import Derived.Laws.BytesArg
import Derived.Laws.MakeOwn
import Derived.Laws.OwnMore
import Derived.Laws.AppendOwnNone
import Derived.OwnWalk
import Derived.Maps.AppendAt
import Derived.Deep.AppendLies
namespace Go.Proofs.YtemnfnmkhfgopaaDoor
open Go.RowKit

/-- Bytes, the 128, and so many zeros. -/
def fillT (l : List UInt8) (z : Nat) : ByteArray := str (l ++ 128 :: List.replicate z 0)
theorem fillT_size (l : List UInt8) (z : Nat) : (fillT l z).size = l.length + 1 + z := by
  unfold fillT
  rw [str_size]
  simp
  omega
theorem fillT_zero (s : ByteArray) : s ++ (⟨#[128]⟩ : ByteArray) = fillT s.data.toList 0 := by
  have h := str_append s.data.toList [128]
  rw [str_list] at h
  exact h
theorem fillT_next (l : List UInt8) (z : Nat) : fillT l z ++ (⟨#[0]⟩ : ByteArray) = fillT l (z + 1) := by
  have h := str_append (l ++ 128 :: List.replicate z 0) [0]
  unfold fillT
  rw [List.replicate_succ', ← List.cons_append, ← List.append_assoc]
  exact h
/-- A number's lowest k bytes, the highest first. -/
def low8 (n k : Nat) : List UInt8 := (be8 n).drop (8 - k)
theorem low8_length (n : Nat) {k : Nat} (h : k ≤ 8) : (low8 n k).length = k := by simp [low8, be8_length]; omega
theorem low8_next (n : Nat) {k : Nat} (h : k < 8) : low8 n (k + 1) = UInt8.ofNat (n / 256 ^ k) :: low8 n k := by
  unfold low8
  have hl : 8 - (k + 1) < (be8 n).length := by rw [be8_length]; omega
  rw [List.drop_eq_getElem_cons hl, show 8 - (k + 1) + 1 = 8 - k by omega]
  congr 1
  simp only [be8, List.getElem_map, List.getElem_range]
  rw [show 7 - (8 - (k + 1)) = k by omega]
theorem low8_all (n : Nat) : low8 n 8 = be8 n := by simp [low8]
theorem div_next (n k : Nat) : (((n / 256 ^ k : Nat) : Int) / 256) = ((n / 256 ^ (k + 1) : Nat) : Int) := by
  have e : n / 256 ^ k / 256 = n / 256 ^ (k + 1) := by rw [Nat.div_div_eq_div_mul, Nat.pow_succ]
  omega

theorem padL_eq (n : Nat) (h : n ≤ 1000000) (l : List UInt8) : fillT l ((119 - n % 64) % 64) ++ str (low8 (8 * n) 8) = str (l ++ padL n) := by
  rw [low8_all]
  unfold fillT padL
  rw [str_append, Nat.mod_eq_of_lt (show 8 * n < 18446744073709551616 by omega), List.append_assoc, List.cons_append]

set_option maxHeartbeats 1000000 in
theorem rfilled_any (s : ByteArray) (w : World) (hs : s.size ≤ 1000000) :
    Calls Tryd.prog 24 #[.string s] w fun e w' => e = .returned (.string (str (s.data.toList ++ padL s.size))) ∧ Below w.heap.size w w' := by
  obtain ⟨i0, hi0, hz0, hz1, hz2⟩ := info_parts info_u8
  obtain ⟨l, hl⟩ : ∃ l, l = s.data.toList := ⟨_, rfl⟩
  have hln := Lib.hid (show l.length = s.size by rw [hl]; simp)
  rw [← hl]
  have h0 := fillT_zero s
  rw [← hl] at h0
  clear hl
  have hfin := Lib.hid (padL_eq s.size hs l)
  obtain ⟨N, hN⟩ : ∃ N, N = 8 * s.size := ⟨_, rfl⟩
  rw [← hN] at hfin
  have HN := Lib.hid hN
  have hNb : N < 18446744073709551616 := by omega
  clear hN
  go_enter Tryd.func24, Tryd.ntmps24
  go_wp2
  go_loop [3] (fun t => ∃ z : Nat, z ≤ (119 - s.size % 64) % 64 ∧ t = .string (fillT l z)) (fun t => match t with | .string u => s.size + 1 + (119 - s.size % 64) % 64 - u.size | _ => 0)
  case atStart => exact ⟨0, by omega, rfl⟩
  case round =>
    obtain ⟨z, hz, rfl⟩ := hrel
    have hsz := fillT_size l z
    have hnx := fillT_next l z
    have HSZ := Lib.hid (fillT_size l (z + 1))
    rw [hln.out] at hsz
    by_cases hlt : z < (119 - s.size % 64) % 64
    · have ht : (((s.size : Int) + 1 + (z : Int)) % 64 == 56) = false := beq_eq_false_iff_ne.2 (by omega)
      have ht2 : (((s.size : Int) + 1 + (z : Int)) % 64 != 56) = true := by simp; omega
      go_wp2
      go_round
      case rel => exact ⟨z + 1, by omega, rfl⟩
      case measure => simp only [HSZ.out, hln.out, hsz]; omega
    · have ht : (((s.size : Int) + 1 + (z : Int)) % 64 == 56) = true := beq_iff_eq.2 (by omega)
      have ht2 : (((s.size : Int) + 1 + (z : Int)) % 64 != 56) = false := by simp; omega
      go_wp2
      have hz9 : z ≤ 63 := by omega
      obtain rfl : z = (119 - s.size % 64) % 64 := by omega
      generalize (119 - s.size % 64) % 64 = z at *
      clear hnx HSZ hz hlt ht ht2 h0
      go_loopw [4, 5, 6] (fun x v i wr => ∃ k : Nat, k ≤ 8 ∧ i = .int .i64 k ∧ x = .int .u64 ((N / 256 ^ k : Nat) : Int) ∧ wr.ownsRow w.heap.size 5 1 v k ((low8 N k).map byteV) ∧ (k = 0 → v = .slice none 0 0) ∧ Below w.heap.size w wr) (fun _ _ i _ => 8 - (intOf i).toNat)
      case atStart => exact ⟨0, by omega, rfl, by rw [HN.out, Nat.pow_zero, Nat.div_one]; simp; omega, by rw [show low8 N 0 = [] by simp [low8, be8_length]]; exact World.ownsRow_nil _ _ _ _, fun _ => rfl, Below.refl _ _⟩
      case round =>
        obtain ⟨k, hk, rfl, rfl, hown, hnil, hnx⟩ := hrel
        by_cases hlt : k < 8
        · have hst := Lib.hid (low8_next N hlt)
          have hdv := Lib.hid (div_next N k)
          have hle : N / 256 ^ k ≤ N := Nat.div_le_self _ _
          obtain ⟨x, hx⟩ : ∃ x : Nat, x = N / 256 ^ k := ⟨_, rfl⟩
          rw [← hx] at hst hdv hle ⊢
          clear hx
          have hsb := hnx.size
          have hown1 : (wr.alloc (.cells #[.int .u8 ((x : Int) % 256)] 5)).ownsRow w.heap.size 5 1 (.slice (some ⟨wr.heap.size, 0, none⟩) 1 1) 1 ([UInt8.ofNat x].map byteV) := by
            rw [List.map_singleton, byteV_ofNat]
            exact World.ownsRow_lit wr #[.int .u8 ((x : Int) % 256)] 1 hsb (by unfold maxLen; omega) rfl
          by_cases hk0 : k = 0
          · obtain rfl := hnil hk0
            subst hk0
            go_wp2_with (at_builtin; refine wpList_append_own_none rfl _ _ 45 rfl w.heap.size 5 i0 1 Tryd.underlying45 hi0 _ 1 _ rfl hown1 rfl ?_)
            go_roundw
            case rel => exact ⟨1, by omega, rfl, by rw [hdv.out], by rw [hst.out]; exact hown1, fun h => absurd h (by omega), hnx.alloc hsb _⟩
            case measure => simp [intOf]
          · clear hnil
            obtain ⟨g, cap, rfl, _, _⟩ := hown.form (by omega)
            have hcs := (hown.alloc (.cells #[.int .u8 ((x : Int) % 256)] 5)).cells rfl
            have hll := low8_length N hk
            go_wp2_with (at_builtin; refine wpList_append_own _ rfl _ _ 45 rfl w.heap.size 5 i0 (.int .u8 0) 1 1 Tryd.underlying45 hi0 hz0 hz1 hz2 rfl (by decide) _ _ _ rfl hown1 ⟨g, 0, none⟩ k cap ((low8 N k).map byteV) rfl ?c0 hcs ?c2 ?c3 ?c4 ?c5 ?_)
            case c2 => intro _ _; rfl
            case c3 => unfold maxLen; omega
            case c4 => omega
            case c5 => omega
            intro v' w1 hown' hgrow hne
            have hown2 : w1.ownsRow w.heap.size 5 1 v' (k + 1) ((low8 N (k + 1)).map byteV) := by rw [hst.out, Nat.add_comm k 1]; exact hown'
            have hnx2 : Below w.heap.size w w1 := (hnx.alloc hsb _).grown hgrow (by simp; omega) (fun j hj => by simp [Value.ownBlock] at hj; omega)
            clear hown' hgrow hown hown1 hcs
            go_wp2
            go_roundw
            case rel => exact ⟨k + 1, by omega, by go_num, by rw [hdv.out], hown2, fun h => absurd h (by omega), hnx2⟩
            case measure => simp [intOf]; omega
        · obtain rfl : k = 8 := by omega
          obtain ⟨a, cap, rfl, hcv⟩ := conv_own hown (low8_length N (Nat.le_refl _))
          have hz8 : (str (low8 N 8)).size = 8 := by rw [str_size, low8_length N (Nat.le_refl _)]
          clear hown hnil
          go_wp2
          go_ret
          exact ⟨retStr hfin.out, hnx⟩
end Go.Proofs.YtemnfnmkhfgopaaDoor
