/- Merged: UvU, JsX. -/
import Derived.Test.YtbkpbgcbpakpeaaGreatDoorM03
import Derived.Test.YtbkpbgcbpakpeaaGreatDoorShelf
/- Layer 16: the document's number, part. -/
namespace Go.Proofs.YtbkpbgcbpakpeaaGreatDoor
open Go.RowKit

/-- The place behind so many bytes; behind the end, and one more, if there are not so many. -/
def atN (s : List UInt8) (at' k : Nat) : Nat := if s.length < at' + k then s.length + 1 else at' + k
theorem str_cut (S : List UInt8) (i k : Nat) : (str S).extract i (i + k) = str ((S.drop i).take k) := by
  refine bytes_toList ?_
  rw [str_toList, ByteArray.data_extract, Array.toList_extract]
  show List.extract (str S).data.toList i (i + k) = _
  rw [str_toList, List.extract_eq_take_drop, show i + k - i = k by omega]
theorem takeV_past {s : List UInt8} {i k : Nat} (h : s.length < i + k) : takeV k (s.drop i) = [] := by
  unfold takeV
  split
  · rfl
  · rename_i h1
    rw [List.length_drop] at h1
    rw [List.drop_eq_nil_of_le (by omega), List.take_nil]
theorem takeV_in {s : List UInt8} {i k : Nat} (h : i + k ≤ s.length) : takeV k (s.drop i) = (s.drop i).take k := by
  unfold takeV
  rw [if_neg (by rw [List.length_drop]; omega)]
set_option maxRecDepth 100000 in
set_option maxHeartbeats 4000000 in
theorem rpart16_any (s : List UInt8) (i k : Nat) (hs : s.length ≤ 100000) (hi : i ≤ 1000000) (hk : k ≤ 4294967296) (w : World) :
    Calls Tryz.prog 37 #[.string (str s), .int .i64 (i : Int), .int .i64 (k : Int)] w fun e w' => e = .returned (.tuple #[.string (str (takeV k (s.drop i))), .int .i64 (atN s i k : Int)]) ∧ w = w' := by
  have zs := str_size s
  have hc := str_cut s i k
  obtain ⟨L, hL⟩ : ∃ L, L = s.length := ⟨_, rfl⟩
  have HL := Lib.hid hL
  rw [← hL] at zs hs
  by_cases h1 : L < i
  · have HR : Hid (takeV k (s.drop i) = [] ∧ atN s i k = L + 1) := Lib.hid ⟨takeV_past (by omega), by unfold atN; rw [if_pos (by omega), hL]⟩
    have g1 : (L : Int) < (i : Int) := by omega
    clear hL h1 hc
    go_enter Tryz.func37, Tryz.ntmps37
    go_wp2
    go_ret2
    exact ⟨by rw [HR.out.1, HR.out.2]; rfl, rfl⟩
  · by_cases h2 : L < i + k
    · have HR : Hid (takeV k (s.drop i) = [] ∧ atN s i k = L + 1) := Lib.hid ⟨takeV_past (by omega), by unfold atN; rw [if_pos (by omega), hL]⟩
      have g1 : ¬ (L : Int) < (i : Int) := by omega
      have g2 : (L : Int) - (i : Int) < (k : Int) := by omega
      clear hL hc
      go_enter Tryz.func37, Tryz.ntmps37
      go_wp2
      go_ret2
      exact ⟨by rw [HR.out.1, HR.out.2]; rfl, rfl⟩
    · have HR : Hid (takeV k (s.drop i) = (s.drop i).take k ∧ atN s i k = i + k) := Lib.hid ⟨takeV_in (by omega), by unfold atN; rw [if_neg (by omega)]⟩
      have g1 : ¬ (L : Int) < (i : Int) := by omega
      have g2 : ¬ (L : Int) - (i : Int) < (k : Int) := by omega
      clear hL
      go_enter Tryz.func37, Tryz.ntmps37
      go_wp2
      go_ret2
      exact ⟨by rw [HR.out.1, HR.out.2]; rfl, rfl⟩
set_option maxRecDepth 100000 in
set_option maxHeartbeats 4000000 in
theorem rnum16_any (s : List UInt8) (i k : Nat) (hs : s.length ≤ 100000) (hi : i ≤ 1000000) (hk : k ≤ 4) (w : World) :
    Calls Tryz.prog 36 #[.string (str s), .int .i64 (i : Int), .int .i64 (k : Int)] w fun e w' => e = .returned (.tuple #[.int .i64 (getN (takeV k (s.drop i)) : Nat), .int .i64 (atN s i k : Int)]) ∧ w = w' := by
  have zs := str_size s
  have hc := str_cut s i k
  have CG := fun W => brget_any (str ((s.drop i).take k)) W (by rw [str_size, List.length_take]; omega)
  rw [str_toList] at CG
  obtain ⟨L, hL⟩ : ∃ L, L = s.length := ⟨_, rfl⟩
  have HL := Lib.hid hL
  rw [← hL] at zs hs
  by_cases h1 : L < i
  · have HR : Hid (takeV k (s.drop i) = [] ∧ atN s i k = L + 1) := Lib.hid ⟨takeV_past (by omega), by unfold atN; rw [if_pos (by omega), hL]⟩
    have g1 : (L : Int) < (i : Int) := by omega
    clear hL h1 hc CG
    go_enter Tryz.func36, Tryz.ntmps36
    go_wp2
    go_ret2
    exact ⟨by rw [HR.out.1, HR.out.2]; rfl, rfl⟩
  · by_cases h2 : L < i + k
    · have HR : Hid (takeV k (s.drop i) = [] ∧ atN s i k = L + 1) := Lib.hid ⟨takeV_past (by omega), by unfold atN; rw [if_pos (by omega), hL]⟩
      have g1 : ¬ (L : Int) < (i : Int) := by omega
      have g2 : (L : Int) - (i : Int) < (k : Int) := by omega
      clear hL hc CG
      go_enter Tryz.func36, Tryz.ntmps36
      go_wp2
      go_ret2
      exact ⟨by rw [HR.out.1, HR.out.2]; rfl, rfl⟩
    · have HR : Hid (takeV k (s.drop i) = (s.drop i).take k ∧ atN s i k = i + k) := Lib.hid ⟨takeV_in (by omega), by unfold atN; rw [if_neg (by omega)]⟩
      have hG := getN_small (l := (s.drop i).take k) (k := k) (by rw [List.length_take]; omega) hk
      have g1 : ¬ (L : Int) < (i : Int) := by omega
      have g2 : ¬ (L : Int) - (i : Int) < (k : Int) := by omega
      obtain ⟨G, hGG⟩ : ∃ G, G = getN ((s.drop i).take k) := ⟨_, rfl⟩
      have HG := Lib.hid hGG
      rw [← hGG] at CG hG
      have gw : IntKind.i64.wrap (G : Int) = (G : Int) := wrap_i64_nat (by omega)
      clear hL hGG
      go_enter Tryz.func36, Tryz.ntmps36
      go_wp2_with (go_at_call 54; ((with_reducible refine (CG _).mono ?_); rintro e w2 ⟨rfl, rfl⟩))
      go_ret2
      exact ⟨by rw [HR.out.1, HR.out.2, ← HG.out]; rfl, rfl⟩
end Go.Proofs.YtbkpbgcbpakpeaaGreatDoor

/- Layer 11: the library's (*strings.Builder).WriteString, its structure laid by hand. -/
namespace Go.Proofs
open Go.Shelf
def Tryz.lays166_ren : Go.Shelf.Ren := ⟨fun | 166 => 41 | 240 => 58 | 276 => 77 | n => n, fun | 0 => 0 | 3 => 3 | 4 => 4 | 5 => 5 | 9 => 9 | 20 => 20 | 21 => 21 | 37 => 57 | 46 => 116 | 51 => 152 | 70 => 56 | 72 => 59 | 75 => 83 | 80 => 63 | 164 => 129 | n => n, fun | n => n⟩
theorem Tryz.lays166 : Go.Proofs.Lays.n166 Tryz.prog Tryz.lays166_ren := {
  mixed := by kernel_rfl
  f166 := Tryz.func41.trans (congrArg some (by kernel_rfl))
  f240 := Tryz.func58.trans (congrArg some (by kernel_rfl))
  f276 := Tryz.func77.trans (congrArg some (by kernel_rfl))
  t0 := Tryz.underlying0
  a0 := Tryz.isAgg0
  z0 := Tryz.sizeOf0
  v0 := Tryz.zeroValue0
  t3 := Tryz.underlying3
  a3 := Tryz.isAgg3
  z3 := Tryz.sizeOf3
  v3 := Tryz.zeroValue3
  t4 := Tryz.underlying4
  a4 := Tryz.isAgg4
  z4 := Tryz.sizeOf4
  v4 := Tryz.zeroValue4
  t9 := Tryz.underlying9
  a9 := Tryz.isAgg9
  z9 := Tryz.sizeOf9
  v9 := Tryz.zeroValue9
  t20 := Tryz.underlying20
  a20 := Tryz.isAgg20
  z20 := Tryz.sizeOf20
  v20 := Tryz.zeroValue20
  t37 := Tryz.underlying57
  a37 := Tryz.isAgg57
  z37 := Tryz.sizeOf57
  v37 := Tryz.zeroValue57
  t70 := Tryz.underlying56
  a70 := Tryz.isAgg56
  z70 := Tryz.sizeOf56
  v70 := Tryz.zeroValue56
  t72 := Tryz.underlying59
  a72 := Tryz.isAgg59
  z72 := Tryz.sizeOf59
  v72 := Tryz.zeroValue59
  t75 := Tryz.underlying83
  a75 := Tryz.isAgg83
  z75 := Tryz.sizeOf83
  v75 := Tryz.zeroValue83
  t164 := Tryz.underlying129
  a164 := Tryz.isAgg129
  z164 := Tryz.sizeOf129
  v164 := Tryz.zeroValue129 }
theorem Tryz.Builder_Extra_166 : Builder.Extra Tryz.prog Tryz.lays166_ren := {
  sizeBuilder := by kernel_rfl
  liesBuilder := by kernel_rfl
  t5 := Tryz.underlying5
  a5 := Tryz.isAgg5
  z5 := Tryz.sizeOf5
  v5 := Tryz.zeroValue5
  infoByte := by kernel_rfl
  cellsByte := by kernel_rfl
  sizeByte := by kernel_rfl
  neB5 := by decide }
open Go.RowKit Go.Lib in
theorem Tryz.Builder_WriteString_k (B b : Nat) (bs : List Value) (s : ByteArray) (w : World) (h : Lib.IsBuilderF 59 5 B b bs w) (hlen : bs.length + s.size ≤ 140737488355328) (hBw : B ≤ w.heap.size) :
    Calls Tryz.prog 41 #[.pointer (some ⟨b, 0, none⟩), .string s] w fun e w' => e = .returned (.tuple #[.int .i64 s.size, .nilIface]) ∧ (Lib.BuilderAtF 59 5 B b (.pointer (some ⟨b, 0, none⟩)) (bs ++ Lib.strCells s) w' ∧ Below B w w' ∧ Lib.OthersKept 5 (some b) w w') := Any.Builder_WriteString_k Tryz.lays166 Tryz.Builder_Extra_166 B b bs s w h hlen hBw
end Go.Proofs

