/- Merged: UvP, JsX. -/
import Derived.Test.YtbjgmkjinnbokaaGreatDoorM25
import Derived.Test.YtbjgmkjinnbokaaGreatDoorM01
import Derived.Test.YtbjgmkjinnbokaaGreatDoorM20
import Derived.Test.YtbjgmkjinnbokaaGreatDoorShelf
/- Layer 16: the program's reader of a tree's bytes: take, number. -/
namespace Go.Proofs.YtbjgmkjinnbokaaGreatDoor
open Go.RowKit

theorem str_take (S : List UInt8) (k : Nat) : (str S).extract 0 k = str (S.take k) := by
  refine bytes_toList ?_
  rw [str_toList]
  simp [str]
theorem str_drop (S : List UInt8) (k : Nat) : (str S).extract k S.length = str (S.drop k) := by
  refine bytes_toList ?_
  rw [str_toList]
  simp only [str, ByteArray.data_extract, Array.toList_extract, List.extract_eq_take_drop]
  exact List.take_of_length_le (by rw [List.length_drop]; exact Nat.le_refl _)
/-- The reader: what is left, and whether they were cut off. -/
def RdrAt (w : World) (B : Nat) (R : List UInt8) (o : Bool) : Prop := rowC w B #[.string (str R), .bool o] 78
def takeV (n : Nat) (R : List UInt8) : List UInt8 := if R.length < n then [] else R.take n
def takeR (n : Nat) (R : List UInt8) : List UInt8 := if R.length < n then R else R.drop n
def takeO (n : Nat) (R : List UInt8) (o : Bool) : Bool := decide (R.length < n) || o
theorem takeV_len (n : Nat) (R : List UInt8) : (takeV n R).length ≤ R.length := by
  unfold takeV
  split
  · exact Nat.zero_le _
  · rw [List.length_take]; omega
theorem takeR_len (n : Nat) (R : List UInt8) : (takeR n R).length ≤ R.length := by
  unfold takeR
  split
  · exact Nat.le_refl _
  · rw [List.length_drop]; omega
set_option maxRecDepth 100000 in
set_option maxHeartbeats 4000000 in
theorem rdtake_any (B : Nat) (R : List UInt8) (o : Bool) (n : Nat) (hn : n < 9223372036854775808) (w : World) (h : RdrAt w B R o) :
    Calls Tryz.prog 52 #[.pointer (some ⟨B, 0, none⟩), .int .i64 (n : Int)] w fun e w' => e = .returned (.string (str (takeV n R))) ∧ RdrAt w' B (takeR n R) (takeO n R o) ∧ Chg (fun j => j = B) w w' := by
  have HH := Lib.hid h
  have hc := Lib.hid (Chg.refl (fun j => j = B) w)
  have e0 : w.cell? ⟨B, 0, none⟩ = some (.string (str R)) := rowC_cell h 0
  have f0 : w.frozen? ⟨B, 0, none⟩ = false := rowC_free h 0
  have f1 : w.frozen? ⟨B, 1, none⟩ = false := rowC_free h 1
  have e1 : w.cell? ⟨B, 1, none⟩ = some (.bool o) := rowC_cell h 1
  have zr := str_size R
  by_cases hlt : R.length < n
  · have HV : Hid (takeV n R = [] ∧ takeR n R = R ∧ takeO n R o = true) := Lib.hid ⟨if_pos hlt, if_pos hlt, by unfold takeO; rw [decide_eq_true hlt]; rfl⟩
    have g : ((str R).size : Int) < (n : Int) := by omega
    have HE : Hid (RdrAt (w.setCell ⟨B, 1, none⟩ (.bool true)) B R true) := Lib.hid (rowC_set h 1 (.bool true))
    clear h hlt hn
    go_enter Tryz.func52, Tryz.ntmps52
    go_wp2
    go_ret
    obtain ⟨h1, h2, h3⟩ := HV.out
    rw [h1, h2, h3]
    exact ⟨rfl, HE.out, hc.out.setCell _ _ (.inl rfl)⟩
  · have HV : Hid (takeV n R = R.take n ∧ takeR n R = R.drop n ∧ takeO n R o = o) := Lib.hid ⟨if_neg hlt, if_neg hlt, by unfold takeO; rw [decide_eq_false hlt]; rfl⟩
    have g : ¬ ((str R).size : Int) < (n : Int) := by omega
    have HE : Hid (RdrAt (w.setCell ⟨B, 0, none⟩ (.string (str (R.drop n)))) B (R.drop n) o) := Lib.hid (rowC_set h 0 _)
    have s1 := str_take R n
    have s2 := str_drop R n
    clear h hlt
    go_enter Tryz.func52, Tryz.ntmps52
    go_wp2
    go_ret
    obtain ⟨h1, h2, h3⟩ := HV.out
    rw [h1, h2, h3]
    exact ⟨rfl, HE.out, hc.out.setCell _ _ (.inl rfl)⟩
theorem wrap_i64_nat {n : Nat} (h : n < 9223372036854775808) : IntKind.i64.wrap (n : Int) = n := by
  rw [IntKind.wrap_i64]; omega
theorem getN_small {l : List UInt8} {k : Nat} (h : l.length ≤ k) (h4 : k ≤ 4) : getN l < 4294967296 := by
  have h1 := getK_lt l (min l.length 8)
  have h2 : 256 ^ (min l.length 8) ≤ 256 ^ 4 := Nat.pow_le_pow_right (by omega) (by omega)
  unfold getN
  exact Nat.lt_of_lt_of_le h1 (by simpa using h2)
theorem takeV_le (n : Nat) (R : List UInt8) : (takeV n R).length ≤ n := by
  unfold takeV
  split
  · exact Nat.zero_le _
  · rw [List.length_take]; omega
set_option maxRecDepth 100000 in
set_option maxHeartbeats 4000000 in
theorem rdnum_any (B : Nat) (R : List UInt8) (o : Bool) (k : Nat) (hk : k ≤ 4) (w : World) (h : RdrAt w B R o) :
    Calls Tryz.prog 33 #[.pointer (some ⟨B, 0, none⟩), .int .i64 (k : Int)] w fun e w' => e = .returned (.int .i64 (getN (takeV k R) : Nat)) ∧ RdrAt w' B (takeR k R) (takeO k R o) ∧ Chg (fun j => j = B) w w' := by
  have CT := rdtake_any B R o k (by omega) w h
  have CG := fun W => bget_any (str (takeV k R)) W (by rw [str_size]; have := takeV_le k R; omega)
  have hs := getN_small (takeV_le k R) hk
  rw [str_toList] at CG
  generalize getN (takeV k R) = G at *
  have gw : IntKind.i64.wrap (G : Int) = (G : Int) := wrap_i64_nat (by omega)
  clear h
  go_enter Tryz.func33, Tryz.ntmps33
  go_wp2_with (first
    | (go_at_call 52; ((with_reducible refine CT.mono ?_); rintro e w1 ⟨rfl, hr1, hc1⟩))
    | (go_at_call 51; ((with_reducible refine (CG _).mono ?_); rintro e w2 ⟨rfl, rfl⟩)))
  go_ret
  exact ⟨rfl, hr1, hc1⟩
end Go.Proofs.YtbjgmkjinnbokaaGreatDoor

/- Layer 11: the library's (*strings.Builder).WriteString, its structure laid by hand. -/
namespace Go.Proofs
open Go.Shelf
def Tryz.lays166_ren : Go.Shelf.Ren := ⟨fun | 166 => 31 | 240 => 50 | 276 => 78 | n => n, fun | 0 => 0 | 3 => 3 | 4 => 4 | 5 => 5 | 9 => 9 | 20 => 20 | 21 => 21 | 37 => 48 | 46 => 96 | 51 => 126 | 70 => 47 | 72 => 50 | 75 => 71 | 80 => 54 | 164 => 128 | n => n, fun | n => n⟩
theorem Tryz.lays166 : Go.Proofs.Lays.n166 Tryz.prog Tryz.lays166_ren := {
  mixed := by kernel_rfl
  f166 := Tryz.func31.trans (congrArg some (by kernel_rfl))
  f240 := Tryz.func50.trans (congrArg some (by kernel_rfl))
  f276 := Tryz.func78.trans (congrArg some (by kernel_rfl))
  t0 := Tryz.underlying0
  a0 := Tryz.isAgg0
  z0 := Tryz.sizeOf0
  v0 := Tryz.zeroValue0
  t3 := Tryz.underlying3
  a3 := Tryz.isAgg3
  z3 := Tryz.sizeOf3
  v3 := Tryz.zeroValue3
  t4 := Tryz.underlying4
  a4 := Tryz.isAgg4
  z4 := Tryz.sizeOf4
  v4 := Tryz.zeroValue4
  t9 := Tryz.underlying9
  a9 := Tryz.isAgg9
  z9 := Tryz.sizeOf9
  v9 := Tryz.zeroValue9
  t20 := Tryz.underlying20
  a20 := Tryz.isAgg20
  z20 := Tryz.sizeOf20
  v20 := Tryz.zeroValue20
  t37 := Tryz.underlying48
  a37 := Tryz.isAgg48
  z37 := Tryz.sizeOf48
  v37 := Tryz.zeroValue48
  t70 := Tryz.underlying47
  a70 := Tryz.isAgg47
  z70 := Tryz.sizeOf47
  v70 := Tryz.zeroValue47
  t72 := Tryz.underlying50
  a72 := Tryz.isAgg50
  z72 := Tryz.sizeOf50
  v72 := Tryz.zeroValue50
  t75 := Tryz.underlying71
  a75 := Tryz.isAgg71
  z75 := Tryz.sizeOf71
  v75 := Tryz.zeroValue71
  t164 := Tryz.underlying128
  a164 := Tryz.isAgg128
  z164 := Tryz.sizeOf128
  v164 := Tryz.zeroValue128 }
theorem Tryz.Builder_Extra_166 : Builder.Extra Tryz.prog Tryz.lays166_ren := {
  sizeBuilder := by kernel_rfl
  liesBuilder := by kernel_rfl
  t5 := Tryz.underlying5
  a5 := Tryz.isAgg5
  z5 := Tryz.sizeOf5
  v5 := Tryz.zeroValue5
  infoByte := by kernel_rfl
  cellsByte := by kernel_rfl
  sizeByte := by kernel_rfl
  neB5 := by decide }
open Go.RowKit Go.Lib in
theorem Tryz.Builder_WriteString_k (B b : Nat) (bs : List Value) (s : ByteArray) (w : World) (h : Lib.IsBuilderF 50 5 B b bs w) (hlen : bs.length + s.size ≤ 140737488355328) (hBw : B ≤ w.heap.size) :
    Calls Tryz.prog 31 #[.pointer (some ⟨b, 0, none⟩), .string s] w fun e w' => e = .returned (.tuple #[.int .i64 s.size, .nilIface]) ∧ (Lib.BuilderAtF 50 5 B b (.pointer (some ⟨b, 0, none⟩)) (bs ++ Lib.strCells s) w' ∧ Below B w w' ∧ Lib.OthersKept 5 (some b) w w') := Any.Builder_WriteString_k Tryz.lays166 Tryz.Builder_Extra_166 B b bs s w h hlen hBw
end Go.Proofs

