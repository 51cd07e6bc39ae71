/- The contracts of layer 2's Put, and of the document's own. -/
import Derived.Test.YteannhninjdlfaaBitsC
import Derived.Laws.BytesArg
import Derived.Laws.MakeOwn
import Derived.Laws.OwnMore
import Derived.OwnWalk
import Derived.Maps.AppendAt
namespace Go.Proofs.Yteannhninjdlfaa
open Go.RowKit

/-- A list of bytes as a text, and as cells. -/
def str (l : List UInt8) : ByteArray := ⟨l.toArray⟩
def byteV (b : UInt8) : Value := .int .u8 (b.toNat : Int)
theorem info_u8 : (Try.prog.info? 5).map (fun i => (i.zero, i.size, i.bytes)) = some (some (.int .u8 0), 1, 1) := by kernel_rfl
theorem str_nums (l : List UInt8) : strOfNums (l.map fun b => (b.toNat : Int)) = str l := by
  unfold strOfNums str
  congr 2
  rw [List.map_map]
  conv => rhs; rw [← List.map_id l]
  refine List.map_congr_left fun x _ => ?_
  simp
/-- 'string(b)' of a slice of the call's own. -/
theorem conv_own {w : World} {base : Nat} {v : Value} {n : Nat} {l : List UInt8} (h : w.ownsRow base 5 1 v n (l.map byteV)) (hn : l.length = n) :
    ∃ a cap, v = .slice a n cap ∧ (convert 35 9 (.slice a n cap)).run Try.prog w = .ok (.string (str l)) w := by
  subst hn
  have hh := h
  obtain ⟨_, h⟩ := h
  rcases h with ⟨rfl, h0⟩ | ⟨g, cap, cur, rfl, _, _, _, _, _, _⟩
  · have : l = [] := List.eq_nil_of_length_eq_zero h0
    subst this
    exact ⟨none, 0, rfl, run_convert_bytes_nil w 35 5 Try.underlying35 Try.underlying5 0 0 9 Try.underlying9⟩
  · refine ⟨_, cap, rfl, ?_⟩
    rw [run_convert_bytes_arg w 35 5 Try.underlying35 Try.underlying5 g 0 l.length cap (l.map fun b => (b.toNat : Int)) (by simp) (fun i hi => ?_) 9 Try.underlying9, str_nums]
    rw [Nat.zero_add, hh.cellAt i (by omega), List.getElem?_map, List.getElem?_eq_getElem hi]
    simp [List.getD, List.getElem?_eq_getElem hi, byteV]

theorem byteV_ofNat (x : Nat) : byteV (UInt8.ofNat x) = .int .u8 ((x : Int) % 256) := by
  unfold byteV; simp
theorem retStr {a b : ByteArray} (h : a = b) : Ending.returned (.string a) = .returned (.string b) := by rw [h]
/-- The lowest k bytes of a number. -/
def putL (n k : Nat) : List UInt8 := (List.range k).map (fun i => UInt8.ofNat (n / 256 ^ i))
theorem putL_length (n k : Nat) : (putL n k).length = k := by simp [putL]
theorem putL_step (n k : Nat) : putL n (k + 1) = putL n k ++ [UInt8.ofNat (n / 256 ^ k)] := by simp [putL, List.range_succ]
theorem put_next (n k : Nat) (h : n < 18446744073709551616) : IntKind.u64.wrap (((n / 256 ^ k : Nat) : Int) / 256) = ((n / 256 ^ (k + 1) : Nat) : Int) := by
  have hle : n / 256 ^ (k + 1) ≤ n := Nat.div_le_self _ _
  have e : n / 256 ^ k / 256 = n / 256 ^ (k + 1) := by rw [Nat.div_div_eq_div_mul, Nat.pow_succ]
  rw [show (((n / 256 ^ k : Nat) : Int) / 256) = ((n / 256 ^ k / 256 : Nat) : Int) by omega, e, wrap_u64_nat (by omega)]
theorem putL_zero (n m : Nat) : List.replicate m (Value.int .u8 0) = (putL n 0 ++ List.replicate (m - 0) 0).map byteV := by simp [putL, byteV]
theorem putL_set (n m k : Nat) (h : k < m) : (putL n k ++ List.replicate (m - k) 0).set k (UInt8.ofNat (n / 256 ^ k)) = putL n (k + 1) ++ List.replicate (m - (k + 1)) 0 := by
  rw [putL_step, List.set_append_right _ _ (by rw [putL_length]; omega), putL_length, show m - k = (m - (k + 1)) + 1 by omega, List.replicate_succ]
  simp
theorem byteV_pow (n k : Nat) : byteV (UInt8.ofNat (n / 256 ^ k)) = .int .u8 ((n : Int) / 2 ^ (8 * k) % 256) := by
  rw [byteV_ofNat, show (256 : Nat) ^ k = 2 ^ (8 * k) by rw [Nat.pow_mul]]
  simp
def putV (n : Nat) (size : Int) : ByteArray := str (if 1 ≤ size ∧ size ≤ 8 then putL n size.toNat else [])

set_option maxHeartbeats 400000 in
theorem rput_any (n size : Int) (w : World) (n0 : 0 ≤ n) (n1 : n < 18446744073709551616) (hs : size ≤ 9223372036854775807) :
    Calls Try.prog 9 #[.int .u64 n, .int .i64 size] w fun e w' => e = .returned (.string (putV n.toNat size)) ∧ Below w.heap.size w w' := by
  obtain ⟨N, rfl⟩ : ∃ N : Nat, n = N := ⟨n.toNat, by omega⟩
  rw [Int.toNat_natCast]
  have hN := Lib.hid (show N < 18446744073709551616 by omega)
  clear n0 n1
  by_cases h : 1 ≤ size ∧ size ≤ 8
  · obtain ⟨m, rfl⟩ : ∃ m : Nat, size = m := ⟨size.toNat, by omega⟩
    have hres := Lib.hid (show putV N m = str (putL N m) by unfold putV; rw [if_pos h, Int.toNat_natCast])
    obtain ⟨h1, h2⟩ := h
    obtain ⟨i0, hi, hz0, hz1, hz2⟩ := info_parts info_u8
    go_enter Try.func9, Try.ntmps9
    go_wp2
    go_loopw [0, 5, 6] (fun x v i wr => ∃ k : Nat, k ≤ m ∧ i = .int .i64 k ∧ x = .int .u64 ((N / 256 ^ k : Nat) : Int) ∧ wr.ownsRow w.heap.size 5 1 v k ((putL N k).map byteV) ∧ Below w.heap.size w wr) (fun _ _ i _ => m - (intOf i).toNat)
    case atStart => exact ⟨0, Nat.zero_le _, rfl, by simp, World.ownsRow_nil _ _ _ _, Below.refl _ _⟩
    case round =>
      obtain ⟨k, hk, rfl, rfl, hown, hnx⟩ := hrel
      by_cases hlt : k < m
      · have hst := Lib.hid (putL_step N k)
        have hdv := Lib.hid (put_next N k hN.out)
        have hle : N / 256 ^ k ≤ N := Nat.div_le_self _ _
        obtain ⟨x, hx⟩ : ∃ x : Nat, x = N / 256 ^ k := ⟨_, rfl⟩
        rw [← hx] at hst hdv hle ⊢
        clear hx
        have hsz := hnx.size
        go_wp2_with (at_builtin; refine wpList_append_own _ rfl _ _ 35 rfl w.heap.size 5 i0 (.int .u8 0) 1 1 Try.underlying35 hi hz0 hz1 hz2 rfl (by decide) _ _ _ rfl (hown.alloc _) ⟨wr.heap.size, 0, none⟩ 1 1 [.int .u8 ((x : Int) % 256)] rfl rfl ?c1 ?c2 ?c3 ?c4 ?c5 ?_)
        case c1 => exact cell_one_new _ _ _
        case c2 => intro u hu; simp at hu; subst hu; rfl
        case c3 => unfold maxLen; omega
        case c4 => omega
        case c5 => simp; omega
        intro v' w1 hown' hgrow _
        have hown2 : w1.ownsRow w.heap.size 5 1 v' (k + 1) ((putL N (k + 1)).map byteV) := by rw [hst.out, List.map_append, List.map_singleton, byteV_ofNat]; exact hown'
        have hnx2 : Below w.heap.size w w1 := (hnx.alloc hsz _).grown hgrow (by simp; omega) (fun j hj => (hown.lt j hj).1)
        clear hown' hgrow hown hnx
        go_wp2
        go_roundw
        case rel => exact ⟨k + 1, by omega, by go_num, by rw [hdv.out], hown2, hnx2⟩
        case measure => simp [intOf]; omega
      · obtain rfl : k = m := by omega
        obtain ⟨a, cap, rfl, hcv⟩ := conv_own hown (putL_length N k)
        clear hown
        go_wp2
        go_ret
        exact ⟨retStr hres.out.symm, hnx⟩
  · have hres := Lib.hid (show putV N size = str [] by unfold putV; rw [if_neg h])
    have hcv := fun w => run_convert_bytes_nil (P := Try.prog) w 35 5 Try.underlying35 Try.underlying5 0 0 9 Try.underlying9
    by_cases h1 : size < 1
    · clear h
      go_enter Try.func9, Try.ntmps9
      go_wp2
      refine wp_loop_rounds 1 ?_
      rw [rounds_succ]
      go_wp2
      go_ret
      exact ⟨retStr hres.out.symm, Below.refl _ _⟩
    · have h2 : 8 < size := by omega
      clear h
      go_enter Try.func9, Try.ntmps9
      go_wp2
      refine wp_loop_rounds 1 ?_
      rw [rounds_succ]
      go_wp2
      go_ret
      exact ⟨retStr hres.out.symm, Below.refl _ _⟩

set_option maxHeartbeats 400000 in
theorem put_any (n size : Int) (w : World) (n0 : 0 ≤ n) (n1 : n < 18446744073709551616) (hs : size ≤ 9223372036854775807) :
    Calls Try.prog 8 #[.int .u64 n, .int .i64 size] w fun e w' => e = .returned (.string (putV n.toNat size)) ∧ Below w.heap.size w w' := by
  obtain ⟨N, rfl⟩ : ∃ N : Nat, n = N := ⟨n.toNat, by omega⟩
  rw [Int.toNat_natCast]
  have hN := Lib.hid (show N < 18446744073709551616 by omega)
  clear n0 n1
  by_cases h : 1 ≤ size ∧ size ≤ 8
  · obtain ⟨m, rfl⟩ : ∃ m : Nat, size = m := ⟨size.toNat, by omega⟩
    have hres := Lib.hid (show putV N m = str (putL N m) by unfold putV; rw [if_pos h, Int.toNat_natCast])
    obtain ⟨h1, h2⟩ := h
    obtain ⟨i0, hi, hz0, hz1, hz2⟩ := info_parts info_u8
    go_enter Try.func8, Try.ntmps8
    go_wp2_with (at_make; refine wpList_make_full _ rfl _ _ 35 rfl w.heap.size 5 i0 (.int .u8 0) 1 Try.underlying35 hi hz0 hz1 .i64 .i64 _ _ m rfl rfl rfl rfl (by rw [hz2]; omega) (by unfold maxLen; omega) (Nat.le_refl _) ?_; intro w0 hown0 hgrow0)
    have hb0 : Below w.heap.size w w0 := (Below.refl _ _).grown hgrow0 (Nat.le_refl _) (fun j hj => by cases hj)
    rw [show (madeCells (Value.int IntKind.u8 0).cells (m * 1)).toList = List.replicate m (.int .u8 0) from by rw [Nat.mul_one]; exact toList_madeCells_one _ _] at hown0
    clear hgrow0
    rw [putL_zero N m] at hown0
    go_wp2
    go_loopw [17] (fun i wr => ∃ k : Nat, k ≤ m ∧ i = .int .i64 k ∧ wr.ownsRow w.heap.size 5 1 (.slice (some ⟨w.heap.size, 0, none⟩) m m) m ((putL N k ++ List.replicate (m - k) 0).map byteV) ∧ Below w.heap.size w wr) (fun i _ => m - (intOf i).toNat)
    case atStart => exact ⟨0, Nat.zero_le _, rfl, hown0, hb0⟩
    case round =>
      obtain ⟨k, hk, rfl, hown, hnx⟩ := hrel
      clear hown0 hb0
      by_cases hlt : k < m
      · have hset := Lib.hid (putL_set N m k hlt)
        obtain ⟨ob, hob⟩ : ∃ ob, wr.cell? ⟨w.heap.size, k, none⟩ = some ob := by
          refine ⟨_, (hown.cellAt k (by omega)).trans (List.getElem?_eq_getElem (by simp [putL_length]; omega))⟩
        have hfz := hown.frozenAt k
        have hsto := (hown.stored k (.int .u8 ((N : Int) / 2 ^ (8 * k) % 256))).1
        rw [← byteV_pow, ← List.map_set, hset.out] at hsto
        have hsto' := Lib.hid hsto
        clear hsto
        go_wp2
        go_roundw
        case rel => exact ⟨k + 1, by omega, by go_num, by rw [← byteV_pow]; exact hsto'.out, hnx.setCell (p := ⟨w.heap.size, k, none⟩) (Nat.le_refl _) _⟩
        case measure => simp [intOf]; omega
      · obtain rfl : k = m := by omega
        rw [show k - k = 0 by omega, List.replicate_zero, List.append_nil] at hown
        obtain ⟨a, cap, hv, hcv⟩ := conv_own hown (putL_length N k)
        simp only [Value.slice.injEq, true_and] at hv
        obtain ⟨rfl, rfl⟩ := hv
        clear hown
        go_wp2
        go_ret
        exact ⟨retStr hres.out.symm, hnx⟩
  · have hres := Lib.hid (show putV N size = str [] by unfold putV; rw [if_neg h])
    by_cases h1 : size < 1
    · clear h
      go_enter Try.func8, Try.ntmps8
      go_wp2
      go_ret
      exact ⟨retStr hres.out.symm, Below.refl _ _⟩
    · have h2 : 8 < size := by omega
      clear h
      go_enter Try.func8, Try.ntmps8
      go_wp2
      go_ret
      exact ⟨retStr hres.out.symm, Below.refl _ _⟩
end Go.Proofs.Yteannhninjdlfaa
