/- Merged: UvH, UvO. -/
import Derived.Test.YtbjgmkjinnbokaaGreatDoorM20
import Derived.Test.YtbjgmkjinnbokaaGreatDoorM24
import Derived.Laws.BytesArg
import Derived.Laws.MakeOwn
import Derived.Laws.OwnMore
import Derived.OwnWalk
import Derived.Maps.AppendAt
import Derived.Laws.BitsAllLaws
import Derived.Lib.Hide
/- Layer 16: layer 2's Put, and the document's own. -/
namespace Go.Proofs.YtbjgmkjinnbokaaGreatDoor
open Go.RowKit

theorem wrap_u64_nat {n : Nat} (h : n < 18446744073709551616) : IntKind.u64.wrap (n : Int) = n := by
  rw [IntKind.wrap_u64]; omega
/-- The lowest k bytes of a number. -/
def putL (n k : Nat) : List UInt8 := (List.range k).map (fun i => UInt8.ofNat (n / 256 ^ i))
theorem putL_length (n k : Nat) : (putL n k).length = k := by simp [putL]
theorem putL_step (n k : Nat) : putL n (k + 1) = putL n k ++ [UInt8.ofNat (n / 256 ^ k)] := by simp [putL, List.range_succ]
theorem putL_zero (n m : Nat) : List.replicate m (Value.int .u8 0) = (putL n 0 ++ List.replicate (m - 0) 0).map byteV := by simp [putL, byteV]
theorem putL_set (n m k : Nat) (h : k < m) : (putL n k ++ List.replicate (m - k) 0).set k (UInt8.ofNat (n / 256 ^ k)) = putL n (k + 1) ++ List.replicate (m - (k + 1)) 0 := by
  rw [putL_step, List.set_append_right _ _ (by rw [putL_length]; omega), putL_length, show m - k = (m - (k + 1)) + 1 by omega, List.replicate_succ]
  simp
theorem byteV_pow (n k : Nat) : byteV (UInt8.ofNat (n / 256 ^ k)) = .int .u8 ((n : Int) / 2 ^ (8 * k) % 256) := by
  rw [byteV_ofNat, show (256 : Nat) ^ k = 2 ^ (8 * k) by rw [Nat.pow_mul]]
  simp
def putV (n : Nat) (size : Int) : ByteArray := str (if 1 ≤ size ∧ size ≤ 8 then putL n size.toNat else [])

set_option maxRecDepth 100000 in
set_option maxHeartbeats 4000000 in
theorem bput_any (n size : Int) (w : World) (n0 : 0 ≤ n) (n1 : n < 18446744073709551616) (hs : size ≤ 9223372036854775807) :
    Calls Tryz.prog 32 #[.int .u64 n, .int .i64 size] w fun e w' => e = .returned (.string (putV n.toNat size)) ∧ Below w.heap.size w w' := by
  obtain ⟨N, rfl⟩ : ∃ N : Nat, n = N := ⟨n.toNat, by omega⟩
  rw [Int.toNat_natCast]
  have hN := Lib.hid (show N < 18446744073709551616 by omega)
  clear n0 n1
  by_cases h : 1 ≤ size ∧ size ≤ 8
  · obtain ⟨m, rfl⟩ : ∃ m : Nat, size = m := ⟨size.toNat, by omega⟩
    have hres := Lib.hid (show putV N m = str (putL N m) by unfold putV; rw [if_pos h, Int.toNat_natCast])
    obtain ⟨h1, h2⟩ := h
    obtain ⟨i0, hi, hz0, hz1, hz2⟩ := info_parts info_u8
    go_enter Tryz.func32, Tryz.ntmps32
    go_wp2_with (at_make; refine wpList_make_full _ rfl _ _ 48 rfl w.heap.size 5 i0 (.int .u8 0) 1 Tryz.underlying48 hi hz0 hz1 .i64 .i64 _ _ m rfl rfl rfl rfl (by rw [hz2]; omega) (by unfold maxLen; omega) (Nat.le_refl _) ?_; intro w0 hown0 hgrow0)
    have hb0 : Below w.heap.size w w0 := (Below.refl _ _).grown hgrow0 (Nat.le_refl _) (fun j hj => by cases hj)
    rw [show (madeCells (Value.int IntKind.u8 0).cells (m * 1)).toList = List.replicate m (.int .u8 0) from by rw [Nat.mul_one]; exact toList_madeCells_one _ _] at hown0
    clear hgrow0
    rw [putL_zero N m] at hown0
    go_wp2
    go_loopw [17] (fun i wr => ∃ k : Nat, k ≤ m ∧ i = .int .i64 k ∧ wr.ownsRow w.heap.size 5 1 (.slice (some ⟨w.heap.size, 0, none⟩) m m) m ((putL N k ++ List.replicate (m - k) 0).map byteV) ∧ Below w.heap.size w wr) (fun i _ => m - (intOf i).toNat)
    case atStart => exact ⟨0, Nat.zero_le _, rfl, hown0, hb0⟩
    case round =>
      obtain ⟨k, hk, rfl, hown, hnx⟩ := hrel
      clear hown0 hb0
      by_cases hlt : k < m
      · have hset := Lib.hid (putL_set N m k hlt)
        obtain ⟨ob, hob⟩ : ∃ ob, wr.cell? ⟨w.heap.size, k, none⟩ = some ob := by
          refine ⟨_, (hown.cellAt k (by omega)).trans (List.getElem?_eq_getElem (by simp [putL_length]; omega))⟩
        have hfz := hown.frozenAt k
        have hsto := (hown.stored k (.int .u8 ((N : Int) / 2 ^ (8 * k) % 256))).1
        rw [← byteV_pow, ← List.map_set, hset.out] at hsto
        have hsto' := Lib.hid hsto
        clear hsto
        go_wp2
        go_roundw
        case rel => exact ⟨k + 1, by omega, by go_num, by rw [← byteV_pow]; exact hsto'.out, hnx.setCell (p := ⟨w.heap.size, k, none⟩) (Nat.le_refl _) _⟩
        case measure => simp [intOf]; omega
      · obtain rfl : k = m := by omega
        rw [show k - k = 0 by omega, List.replicate_zero, List.append_nil] at hown
        obtain ⟨a, cap, hv, hcv⟩ := conv_own hown (putL_length N k)
        simp only [Value.slice.injEq, true_and] at hv
        obtain ⟨rfl, rfl⟩ := hv
        clear hown
        go_wp2
        go_ret
        exact ⟨retStr hres.out.symm, hnx⟩
  · have hres := Lib.hid (show putV N size = str [] by unfold putV; rw [if_neg h])
    by_cases h1 : size < 1
    · clear h
      go_enter Tryz.func32, Tryz.ntmps32
      go_wp2
      go_ret
      exact ⟨retStr hres.out.symm, Below.refl _ _⟩
    · have h2 : 8 < size := by omega
      clear h
      go_enter Tryz.func32, Tryz.ntmps32
      go_wp2
      go_ret
      exact ⟨retStr hres.out.symm, Below.refl _ _⟩
end Go.Proofs.YtbjgmkjinnbokaaGreatDoor

/- Layer 16: layer 2's Get, and the document's own; what is read of bytes that were put. -/
namespace Go.Proofs.YtbjgmkjinnbokaaGreatDoor
open Go.RowKit

theorem retIntB {k : IntKind} {a b : Int} (h : a = b) : Ending.returned (.int k a) = .returned (.int k b) := by rw [h]
/-- The number of the first k bytes, the lowest first. -/
def getK (l : List UInt8) : Nat → Nat
  | 0 => 0
  | k + 1 => getK l k + 256 ^ k * (l.getD k 0).toNat
theorem getK_lt (l : List UInt8) : ∀ k, getK l k < 256 ^ k
  | 0 => by simp [getK]
  | k + 1 => by
    have h := getK_lt l k
    have hb := UInt8.toNat_lt (l.getD k 0)
    have h2 : 256 ^ k * (l.getD k 0).toNat ≤ 256 ^ k * 255 := Nat.mul_le_mul_left _ (by omega)
    rw [getK, Nat.pow_succ]
    omega
/-- The number of a text's bytes. -/
def getN (l : List UInt8) : Nat := getK l (min l.length 8)
theorem getK_step {s : ByteArray} {k : Nat} (h : k < s.size) : getK s.data.toList (k + 1) = getK s.data.toList k + 256 ^ k * (s[k]).toNat := by
  have h' : k < s.data.toList.length := by simpa using h
  rw [getK, List.getD, List.getElem?_eq_getElem h', Option.getD_some]
  rfl
theorem pow8 {k : Nat} (h : k ≤ 8) : 256 ^ k ≤ 18446744073709551616 := by
  have h2 : 256 ^ k ≤ 256 ^ 8 := Nat.pow_le_pow_right (by omega) h
  simpa using h2
theorem get_or {s : ByteArray} {k : Nat} (h : k < s.size) (h8 : k < 8) (n : Nat) (hn : n = getK s.data.toList k) :
    bits BinOp.or IntKind.u64 (n : Int) (IntKind.u64.wrap (IntKind.u64.wrap ((s[k]).toNat : Int) * 2 ^ (8 * k))) = (getK s.data.toList (k + 1) : Nat) := by
  have hlt := getK_lt s.data.toList (k + 1)
  rw [getK_step h] at hlt ⊢
  have hlt2 := getK_lt s.data.toList k
  rw [← hn] at hlt hlt2 ⊢
  have hb := UInt8.toNat_lt s[k]
  generalize (s[k]).toNat = b at *
  have h1 := pow8 (show k + 1 ≤ 8 by omega)
  have h2 : (2 : Int) ^ (8 * k) = ((256 ^ k : Nat) : Int) := by rw [Int.pow_mul]; simp
  have h3 : 256 ^ k = 2 ^ (8 * k) := by rw [Nat.pow_mul]
  rw [h2, wrap_u64_nat (by omega), ← Int.natCast_mul, Nat.mul_comm b, wrap_u64_nat (by omega), u64_or_nat _ _ (by omega) (by omega), Nat.or_comm, nat_join (8 * k), Nat.add_comm]
  · rw [← h3]; simp
  · rw [← h3]; exact hlt2
set_option maxRecDepth 100000 in
set_option maxHeartbeats 4000000 in
theorem bget_any (s : ByteArray) (w : World) (hs : s.size ≤ 1000000) :
    Calls Tryz.prog 51 #[.string s] w fun e w' => e = .returned (.int .u64 (getN s.data.toList : Nat)) ∧ w = w' := by
  obtain ⟨t, ht⟩ : ∃ t, t = min s.size 8 := ⟨_, rfl⟩
  have hend := Lib.hid (show getK s.data.toList t = getN s.data.toList by unfold getN; rw [show s.data.toList.length = s.size by simp, ht])
  have ht8 : t ≤ 8 := by omega
  have hts : t ≤ s.size := by omega
  have hte : (t = s.size ∧ s.size ≤ 8) ∨ (t = 8 ∧ 8 < s.size) := by omega
  clear ht
  by_cases h8 : (s.size : Int) ≤ 8
  · obtain rfl : t = s.size := by omega
    go_enter Tryz.func51, Tryz.ntmps51
    go_wp2
    go_loop [3, 8] (fun n i => ∃ k : Nat, k ≤ s.size ∧ i = .int .i64 k ∧ n = .int .u64 (getK s.data.toList k : Nat)) (fun _ i => s.size - (intOf i).toNat)
    case atStart => exact ⟨0, Nat.zero_le _, rfl, rfl⟩
    case round =>
      obtain ⟨k, hk, rfl, rfl⟩ := hrel
      by_cases hlt : k < s.size
      · have hks : k < s.size := by omega
        have hg := fun n => get_or hks (show k < 8 by omega) n
        obtain ⟨n, hn⟩ : ∃ n : Nat, n = getK s.data.toList k := ⟨_, rfl⟩
        rw [← hn]
        have hg' := Lib.hid (hg n hn)
        clear hg hn
        go_wp2
        go_round
        case rel => exact ⟨k + 1, by omega, by go_num, by rw [hg'.out]⟩
        case measure => simp [intOf]; omega
      · have hend' := Lib.hid (show getK s.data.toList k = getN s.data.toList by rw [← hend.out, show k = s.size by omega])
        go_wp2
        go_ret
        exact ⟨retIntB (by rw [hend'.out]), rfl⟩
  · obtain rfl : t = 8 := by omega
    go_enter Tryz.func51, Tryz.ntmps51
    go_wp2
    go_loop [3, 8] (fun n i => ∃ k : Nat, k ≤ 8 ∧ i = .int .i64 k ∧ n = .int .u64 (getK s.data.toList k : Nat)) (fun _ i => 8 - (intOf i).toNat)
    case atStart => exact ⟨0, Nat.zero_le _, rfl, rfl⟩
    case round =>
      obtain ⟨k, hk, rfl, rfl⟩ := hrel
      by_cases hlt : k < 8
      · have hks : k < s.size := by omega
        have hg := fun n => get_or hks (show k < 8 by omega) n
        obtain ⟨n, hn⟩ : ∃ n : Nat, n = getK s.data.toList k := ⟨_, rfl⟩
        rw [← hn]
        have hg' := Lib.hid (hg n hn)
        clear hg hn
        go_wp2
        go_round
        case rel => exact ⟨k + 1, by omega, by go_num, by rw [hg'.out]⟩
        case measure => simp [intOf]; omega
      · have hend' := Lib.hid (show getK s.data.toList k = getN s.data.toList by rw [← hend.out, show k = 8 by omega])
        go_wp2
        go_ret
        exact ⟨retIntB (by rw [hend'.out]), rfl⟩
end Go.Proofs.YtbjgmkjinnbokaaGreatDoor

