/- Merged: UvH, JsX. -/
import Derived.Test.YtoallfcpnbhhiaaGreatDoorM01
import Derived.Laws.BytesArg
import Derived.Laws.MakeOwn
import Derived.Laws.OwnMore
import Derived.OwnWalk
import Derived.Maps.AppendAt
import Derived.Test.YtoallfcpnbhhiaaGreatDoorShelf
/- Layer 16: layer 2's Put, and the document's own. -/
namespace Go.Proofs.YtoallfcpnbhhiaaGreatDoor
open Go.RowKit

theorem wrap_u64_nat {n : Nat} (h : n < 18446744073709551616) : IntKind.u64.wrap (n : Int) = n := by
  rw [IntKind.wrap_u64]; omega
/-- The lowest k bytes of a number. -/
def putL (n k : Nat) : List UInt8 := (List.range k).map (fun i => UInt8.ofNat (n / 256 ^ i))
theorem putL_length (n k : Nat) : (putL n k).length = k := by simp [putL]
theorem putL_step (n k : Nat) : putL n (k + 1) = putL n k ++ [UInt8.ofNat (n / 256 ^ k)] := by simp [putL, List.range_succ]
theorem put_next (n k : Nat) (h : n < 18446744073709551616) : IntKind.u64.wrap (((n / 256 ^ k : Nat) : Int) / 256) = ((n / 256 ^ (k + 1) : Nat) : Int) := by
  have hle : n / 256 ^ (k + 1) ≤ n := Nat.div_le_self _ _
  have e : n / 256 ^ k / 256 = n / 256 ^ (k + 1) := by rw [Nat.div_div_eq_div_mul, Nat.pow_succ]
  rw [show (((n / 256 ^ k : Nat) : Int) / 256) = ((n / 256 ^ k / 256 : Nat) : Int) by omega, e, wrap_u64_nat (by omega)]
theorem putL_zero (n m : Nat) : List.replicate m (Value.int .u8 0) = (putL n 0 ++ List.replicate (m - 0) 0).map byteV := by simp [putL, byteV]
theorem putL_set (n m k : Nat) (h : k < m) : (putL n k ++ List.replicate (m - k) 0).set k (UInt8.ofNat (n / 256 ^ k)) = putL n (k + 1) ++ List.replicate (m - (k + 1)) 0 := by
  rw [putL_step, List.set_append_right _ _ (by rw [putL_length]; omega), putL_length, show m - k = (m - (k + 1)) + 1 by omega, List.replicate_succ]
  simp
theorem byteV_pow (n k : Nat) : byteV (UInt8.ofNat (n / 256 ^ k)) = .int .u8 ((n : Int) / 2 ^ (8 * k) % 256) := by
  rw [byteV_ofNat, show (256 : Nat) ^ k = 2 ^ (8 * k) by rw [Nat.pow_mul]]
  simp
def putV (n : Nat) (size : Int) : ByteArray := str (if 1 ≤ size ∧ size ≤ 8 then putL n size.toNat else [])

set_option maxRecDepth 100000 in
set_option maxHeartbeats 4000000 in
theorem brput_any (n size : Int) (w : World) (n0 : 0 ≤ n) (n1 : n < 18446744073709551616) (hs : size ≤ 9223372036854775807) :
    Calls Tryz.prog 27 #[.int .u64 n, .int .i64 size] w fun e w' => e = .returned (.string (putV n.toNat size)) ∧ Below w.heap.size w w' := by
  obtain ⟨N, rfl⟩ : ∃ N : Nat, n = N := ⟨n.toNat, by omega⟩
  rw [Int.toNat_natCast]
  have hN := Lib.hid (show N < 18446744073709551616 by omega)
  clear n0 n1
  by_cases h : 1 ≤ size ∧ size ≤ 8
  · obtain ⟨m, rfl⟩ : ∃ m : Nat, size = m := ⟨size.toNat, by omega⟩
    have hres := Lib.hid (show putV N m = str (putL N m) by unfold putV; rw [if_pos h, Int.toNat_natCast])
    obtain ⟨h1, h2⟩ := h
    obtain ⟨i0, hi, hz0, hz1, hz2⟩ := info_parts info_u8
    go_enter Tryz.func27, Tryz.ntmps27
    go_wp2
    go_loopw [0, 5, 6] (fun x v i wr => ∃ k : Nat, k ≤ m ∧ i = .int .i64 k ∧ x = .int .u64 ((N / 256 ^ k : Nat) : Int) ∧ wr.ownsRow w.heap.size 5 1 v k ((putL N k).map byteV) ∧ Below w.heap.size w wr) (fun _ _ i _ => m - (intOf i).toNat)
    case atStart => exact ⟨0, Nat.zero_le _, rfl, by simp, World.ownsRow_nil _ _ _ _, Below.refl _ _⟩
    case round =>
      obtain ⟨k, hk, rfl, rfl, hown, hnx⟩ := hrel
      by_cases hlt : k < m
      · have hst := Lib.hid (putL_step N k)
        have hdv := Lib.hid (put_next N k hN.out)
        have hle : N / 256 ^ k ≤ N := Nat.div_le_self _ _
        obtain ⟨x, hx⟩ : ∃ x : Nat, x = N / 256 ^ k := ⟨_, rfl⟩
        rw [← hx] at hst hdv hle ⊢
        clear hx
        have hsz := hnx.size
        go_wp2_with (at_builtin; refine wpList_append_own _ rfl _ _ 57 rfl w.heap.size 5 i0 (.int .u8 0) 1 1 Tryz.underlying57 hi hz0 hz1 hz2 rfl (by decide) _ _ _ rfl (hown.alloc _) ⟨wr.heap.size, 0, none⟩ 1 1 [.int .u8 ((x : Int) % 256)] rfl rfl ?c1 ?c2 ?c3 ?c4 ?c5 ?_)
        case c1 => exact cell_one_new _ _ _
        case c2 => intro u hu; simp at hu; subst hu; rfl
        case c3 => unfold maxLen; omega
        case c4 => omega
        case c5 => simp; omega
        intro v' w1 hown' hgrow _
        have hown2 : w1.ownsRow w.heap.size 5 1 v' (k + 1) ((putL N (k + 1)).map byteV) := by rw [hst.out, List.map_append, List.map_singleton, byteV_ofNat]; exact hown'
        have hnx2 : Below w.heap.size w w1 := (hnx.alloc hsz _).grown hgrow (by simp; omega) (fun j hj => (hown.lt j hj).1)
        clear hown' hgrow hown hnx
        go_wp2
        go_roundw
        case rel => exact ⟨k + 1, by omega, by go_num, by rw [hdv.out], hown2, hnx2⟩
        case measure => simp [intOf]; omega
      · obtain rfl : k = m := by omega
        obtain ⟨a, cap, rfl, hcv⟩ := conv_own hown (putL_length N k)
        clear hown
        go_wp2
        go_ret
        exact ⟨retStr hres.out.symm, hnx⟩
  · have hres := Lib.hid (show putV N size = str [] by unfold putV; rw [if_neg h])
    have hcv := fun w => run_convert_bytes_nil (P := Tryz.prog) w 57 5 Tryz.underlying57 Tryz.underlying5 0 0 9 Tryz.underlying9
    by_cases h1 : size < 1
    · clear h
      go_enter Tryz.func27, Tryz.ntmps27
      go_wp2
      refine wp_loop_rounds 1 ?_
      rw [rounds_succ]
      go_wp2
      go_ret
      exact ⟨retStr hres.out.symm, Below.refl _ _⟩
    · have h2 : 8 < size := by omega
      clear h
      go_enter Tryz.func27, Tryz.ntmps27
      go_wp2
      refine wp_loop_rounds 1 ?_
      rw [rounds_succ]
      go_wp2
      go_ret
      exact ⟨retStr hres.out.symm, Below.refl _ _⟩

set_option maxRecDepth 100000 in
set_option maxHeartbeats 4000000 in
theorem bput_any (n size : Int) (w : World) (n0 : 0 ≤ n) (n1 : n < 18446744073709551616) (hs : size ≤ 9223372036854775807) :
    Calls Tryz.prog 42 #[.int .u64 n, .int .i64 size] w fun e w' => e = .returned (.string (putV n.toNat size)) ∧ Below w.heap.size w w' := by
  obtain ⟨N, rfl⟩ : ∃ N : Nat, n = N := ⟨n.toNat, by omega⟩
  rw [Int.toNat_natCast]
  have hN := Lib.hid (show N < 18446744073709551616 by omega)
  clear n0 n1
  by_cases h : 1 ≤ size ∧ size ≤ 8
  · obtain ⟨m, rfl⟩ : ∃ m : Nat, size = m := ⟨size.toNat, by omega⟩
    have hres := Lib.hid (show putV N m = str (putL N m) by unfold putV; rw [if_pos h, Int.toNat_natCast])
    obtain ⟨h1, h2⟩ := h
    obtain ⟨i0, hi, hz0, hz1, hz2⟩ := info_parts info_u8
    go_enter Tryz.func42, Tryz.ntmps42
    go_wp2_with (at_make; refine wpList_make_full _ rfl _ _ 57 rfl w.heap.size 5 i0 (.int .u8 0) 1 Tryz.underlying57 hi hz0 hz1 .i64 .i64 _ _ m rfl rfl rfl rfl (by rw [hz2]; omega) (by unfold maxLen; omega) (Nat.le_refl _) ?_; intro w0 hown0 hgrow0)
    have hb0 : Below w.heap.size w w0 := (Below.refl _ _).grown hgrow0 (Nat.le_refl _) (fun j hj => by cases hj)
    rw [show (madeCells (Value.int IntKind.u8 0).cells (m * 1)).toList = List.replicate m (.int .u8 0) from by rw [Nat.mul_one]; exact toList_madeCells_one _ _] at hown0
    clear hgrow0
    rw [putL_zero N m] at hown0
    go_wp2
    go_loopw [17] (fun i wr => ∃ k : Nat, k ≤ m ∧ i = .int .i64 k ∧ wr.ownsRow w.heap.size 5 1 (.slice (some ⟨w.heap.size, 0, none⟩) m m) m ((putL N k ++ List.replicate (m - k) 0).map byteV) ∧ Below w.heap.size w wr) (fun i _ => m - (intOf i).toNat)
    case atStart => exact ⟨0, Nat.zero_le _, rfl, hown0, hb0⟩
    case round =>
      obtain ⟨k, hk, rfl, hown, hnx⟩ := hrel
      clear hown0 hb0
      by_cases hlt : k < m
      · have hset := Lib.hid (putL_set N m k hlt)
        obtain ⟨ob, hob⟩ : ∃ ob, wr.cell? ⟨w.heap.size, k, none⟩ = some ob := by
          refine ⟨_, (hown.cellAt k (by omega)).trans (List.getElem?_eq_getElem (by simp [putL_length]; omega))⟩
        have hfz := hown.frozenAt k
        have hsto := (hown.stored k (.int .u8 ((N : Int) / 2 ^ (8 * k) % 256))).1
        rw [← byteV_pow, ← List.map_set, hset.out] at hsto
        have hsto' := Lib.hid hsto
        clear hsto
        go_wp2
        go_roundw
        case rel => exact ⟨k + 1, by omega, by go_num, by rw [← byteV_pow]; exact hsto'.out, hnx.setCell (p := ⟨w.heap.size, k, none⟩) (Nat.le_refl _) _⟩
        case measure => simp [intOf]; omega
      · obtain rfl : k = m := by omega
        rw [show k - k = 0 by omega, List.replicate_zero, List.append_nil] at hown
        obtain ⟨a, cap, hv, hcv⟩ := conv_own hown (putL_length N k)
        simp only [Value.slice.injEq, true_and] at hv
        obtain ⟨rfl, rfl⟩ := hv
        clear hown
        go_wp2
        go_ret
        exact ⟨retStr hres.out.symm, hnx⟩
  · have hres := Lib.hid (show putV N size = str [] by unfold putV; rw [if_neg h])
    by_cases h1 : size < 1
    · clear h
      go_enter Tryz.func42, Tryz.ntmps42
      go_wp2
      go_ret
      exact ⟨retStr hres.out.symm, Below.refl _ _⟩
    · have h2 : 8 < size := by omega
      clear h
      go_enter Tryz.func42, Tryz.ntmps42
      go_wp2
      go_ret
      exact ⟨retStr hres.out.symm, Below.refl _ _⟩
end Go.Proofs.YtoallfcpnbhhiaaGreatDoor

/- Layer 11: the library's (*strings.Builder).WriteString, its structure laid by hand. -/
namespace Go.Proofs
open Go.Shelf
def Tryz.lays166_ren : Go.Shelf.Ren := ⟨fun | 166 => 41 | 240 => 58 | 276 => 77 | n => n, fun | 0 => 0 | 3 => 3 | 4 => 4 | 5 => 5 | 9 => 9 | 20 => 20 | 21 => 21 | 37 => 57 | 46 => 116 | 51 => 152 | 70 => 56 | 72 => 59 | 75 => 83 | 80 => 63 | 164 => 129 | n => n, fun | n => n⟩
theorem Tryz.lays166 : Go.Proofs.Lays.n166 Tryz.prog Tryz.lays166_ren := {
  mixed := by kernel_rfl
  f166 := Tryz.func41.trans (congrArg some (by kernel_rfl))
  f240 := Tryz.func58.trans (congrArg some (by kernel_rfl))
  f276 := Tryz.func77.trans (congrArg some (by kernel_rfl))
  t0 := Tryz.underlying0
  a0 := Tryz.isAgg0
  z0 := Tryz.sizeOf0
  v0 := Tryz.zeroValue0
  t3 := Tryz.underlying3
  a3 := Tryz.isAgg3
  z3 := Tryz.sizeOf3
  v3 := Tryz.zeroValue3
  t4 := Tryz.underlying4
  a4 := Tryz.isAgg4
  z4 := Tryz.sizeOf4
  v4 := Tryz.zeroValue4
  t9 := Tryz.underlying9
  a9 := Tryz.isAgg9
  z9 := Tryz.sizeOf9
  v9 := Tryz.zeroValue9
  t20 := Tryz.underlying20
  a20 := Tryz.isAgg20
  z20 := Tryz.sizeOf20
  v20 := Tryz.zeroValue20
  t37 := Tryz.underlying57
  a37 := Tryz.isAgg57
  z37 := Tryz.sizeOf57
  v37 := Tryz.zeroValue57
  t70 := Tryz.underlying56
  a70 := Tryz.isAgg56
  z70 := Tryz.sizeOf56
  v70 := Tryz.zeroValue56
  t72 := Tryz.underlying59
  a72 := Tryz.isAgg59
  z72 := Tryz.sizeOf59
  v72 := Tryz.zeroValue59
  t75 := Tryz.underlying83
  a75 := Tryz.isAgg83
  z75 := Tryz.sizeOf83
  v75 := Tryz.zeroValue83
  t164 := Tryz.underlying129
  a164 := Tryz.isAgg129
  z164 := Tryz.sizeOf129
  v164 := Tryz.zeroValue129 }
theorem Tryz.Builder_Extra_166 : Builder.Extra Tryz.prog Tryz.lays166_ren := {
  sizeBuilder := by kernel_rfl
  liesBuilder := by kernel_rfl
  t5 := Tryz.underlying5
  a5 := Tryz.isAgg5
  z5 := Tryz.sizeOf5
  v5 := Tryz.zeroValue5
  infoByte := by kernel_rfl
  cellsByte := by kernel_rfl
  sizeByte := by kernel_rfl
  neB5 := by decide }
open Go.RowKit Go.Lib in
theorem Tryz.Builder_WriteString_k (B b : Nat) (bs : List Value) (s : ByteArray) (w : World) (h : Lib.IsBuilderF 59 5 B b bs w) (hlen : bs.length + s.size ≤ 140737488355328) (hBw : B ≤ w.heap.size) :
    Calls Tryz.prog 41 #[.pointer (some ⟨b, 0, none⟩), .string s] w fun e w' => e = .returned (.tuple #[.int .i64 s.size, .nilIface]) ∧ (Lib.BuilderAtF 59 5 B b (.pointer (some ⟨b, 0, none⟩)) (bs ++ Lib.strCells s) w' ∧ Below B w w' ∧ Lib.OthersKept 5 (some b) w w') := Any.Builder_WriteString_k Tryz.lays166 Tryz.Builder_Extra_166 B b bs s w h hlen hBw
end Go.Proofs

