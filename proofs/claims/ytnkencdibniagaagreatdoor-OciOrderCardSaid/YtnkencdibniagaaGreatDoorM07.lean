/- Merged: JsW, JsX, JsH. -/
import Derived.Test.YtnkencdibniagaaGreatDoorShelf
import Derived.Test.YtnkencdibniagaaGreatDoorM03
/- Layer 11: the library's contracts that the shelf's command does not lay here: (*strings.Builder).WriteRune (its structure laid by hand), utf8.ValidString. -/
namespace Go.Proofs
open Go.Shelf
def Tryz.lays168_ren : Go.Shelf.Ren := ⟨fun | 168 => 156 | 240 => 162 | 242 => 180 | 276 => 182 | 278 => 198 | n => n, fun | 0 => 0 | 3 => 3 | 4 => 4 | 5 => 5 | 9 => 9 | 20 => 20 | 21 => 21 | 37 => 132 | 46 => 195 | 51 => 270 | 70 => 131 | 72 => 134 | 75 => 122 | 80 => 139 | 164 => 163 | n => n, fun | n => n⟩
theorem Tryz.lays168 : Go.Proofs.Lays.n168 Tryz.prog Tryz.lays168_ren := {
  mixed := by kernel_rfl
  f168 := Tryz.func156.trans (congrArg some (by kernel_rfl))
  f240 := Tryz.func162.trans (congrArg some (by kernel_rfl))
  f242 := Tryz.func180.trans (congrArg some (by kernel_rfl))
  f276 := Tryz.func182.trans (congrArg some (by kernel_rfl))
  f278 := Tryz.func198.trans (congrArg some (by kernel_rfl))
  t0 := Tryz.underlying0
  a0 := Tryz.isAgg0
  z0 := Tryz.sizeOf0
  v0 := Tryz.zeroValue0
  t3 := Tryz.underlying3
  a3 := Tryz.isAgg3
  z3 := Tryz.sizeOf3
  v3 := Tryz.zeroValue3
  t4 := Tryz.underlying4
  a4 := Tryz.isAgg4
  z4 := Tryz.sizeOf4
  v4 := Tryz.zeroValue4
  t5 := Tryz.underlying5
  a5 := Tryz.isAgg5
  z5 := Tryz.sizeOf5
  v5 := Tryz.zeroValue5
  t9 := Tryz.underlying9
  a9 := Tryz.isAgg9
  z9 := Tryz.sizeOf9
  v9 := Tryz.zeroValue9
  t20 := Tryz.underlying20
  a20 := Tryz.isAgg20
  z20 := Tryz.sizeOf20
  v20 := Tryz.zeroValue20
  t21 := Tryz.underlying21
  a21 := Tryz.isAgg21
  z21 := Tryz.sizeOf21
  v21 := Tryz.zeroValue21
  t37 := Tryz.underlying132
  a37 := Tryz.isAgg132
  z37 := Tryz.sizeOf132
  v37 := Tryz.zeroValue132
  t46 := Tryz.underlying195
  a46 := Tryz.isAgg195
  z46 := Tryz.sizeOf195
  v46 := Tryz.zeroValue195
  t51 := Tryz.underlying270
  a51 := Tryz.isAgg270
  z51 := Tryz.sizeOf270
  v51 := Tryz.zeroValue270
  t70 := Tryz.underlying131
  a70 := Tryz.isAgg131
  z70 := Tryz.sizeOf131
  v70 := Tryz.zeroValue131
  t72 := Tryz.underlying134
  a72 := Tryz.isAgg134
  z72 := Tryz.sizeOf134
  v72 := Tryz.zeroValue134
  t75 := Tryz.underlying122
  a75 := Tryz.isAgg122
  z75 := Tryz.sizeOf122
  v75 := Tryz.zeroValue122
  t164 := Tryz.underlying163
  a164 := Tryz.isAgg163
  z164 := Tryz.sizeOf163
  v164 := Tryz.zeroValue163 }
theorem Tryz.Builder_Extra_168 : Builder.Extra Tryz.prog Tryz.lays168_ren := {
  sizeBuilder := by kernel_rfl
  liesBuilder := by kernel_rfl
  t5 := Tryz.underlying5
  a5 := Tryz.isAgg5
  z5 := Tryz.sizeOf5
  v5 := Tryz.zeroValue5
  infoByte := by kernel_rfl
  cellsByte := by kernel_rfl
  sizeByte := by kernel_rfl
  neB5 := by decide }
open Go.RowKit Go.Lib in
theorem Tryz.Builder_WriteRune_k (B b : Nat) (bs : List Value) (r : Int) (hr0 : -2147483648 ≤ r) (hr1 : r ≤ 2147483647) (w : World) (h : Lib.IsBuilderF 134 5 B b bs w) (hlen : bs.length + 4 ≤ 140737488355328) (hBw : B ≤ w.heap.size) :
    Calls Tryz.prog 156 #[.pointer (some ⟨b, 0, none⟩), .int .i32 r] w fun e w' => e = .returned (.tuple #[.int .i64 (Lib.runeCells r).length, .nilIface]) ∧ (Lib.BuilderAtF 134 5 B b (.pointer (some ⟨b, 0, none⟩)) (bs ++ Lib.runeCells r) w' ∧ Below B w w' ∧ Lib.OthersKept 5 (some b) w w') := Any.Builder_WriteRune_k Tryz.lays168 Tryz.Builder_Extra_168 B b bs r hr0 hr1 w h hlen hBw
end Go.Proofs

/- Layer 11: the library's (*strings.Builder).WriteString, its structure laid by hand. -/
namespace Go.Proofs
open Go.Shelf
end Go.Proofs

/- Layer 11, plain: a printed text with blanks put in around what stands between its parts. -/
namespace Go.Proofs.YtnkencdibniagaaGreatDoor
open Go.Lib

def isPt (c : UInt8) : Bool := c == 44 || c == 58 || c == 91 || c == 93 || c == 123 || c == 125
/-- Blanks are put in, outside of strings. -/
def insF (g : Bs) : Nat → Bool → Bs → Bs
  | 0, _, _ => []
  | _ + 1, _, [] => []
  | n + 1, s, c :: l =>
    if s = true ∧ c = 92 then (c :: l).take 2 ++ insF g n s l.tail
    else if c = 34 then c :: insF g n (!s) l
    else if s = false ∧ isPt c = true then g ++ [c] ++ g ++ insF g n s l
    else c :: insF g n s l
def plainB (c : UInt8) : Prop := c ≠ 34 ∧ isPt c = false
theorem ins_plain {g : Bs} : ∀ (t : Bs) (n : Nat) (r : Bs), (∀ c ∈ t, plainB c) → t.length ≤ n → insF g n false (t ++ r) = t ++ insF g (n - t.length) false r
  | [], n, r, _, _ => by simp
  | c :: t, n, r, h, hn => by
    obtain ⟨m, rfl⟩ : ∃ m, n = m + 1 := ⟨n - 1, by simp at hn; omega⟩
    obtain ⟨h1, h2⟩ := h c (by simp)
    rw [List.cons_append, insF, if_neg (by simp), if_neg h1, if_neg (by rw [h2]; simp), ins_plain t m r (fun d hd => h d (by simp [hd])) (by simpa using hn)]
    simp
/-! ### Strings -/
set_option maxHeartbeats 1000000 in
theorem enc_big {c : Nat} (hc : scal c) (h : 128 ≤ c) : ∀ b ∈ encodeRune (c : Int), 128 ≤ b.toNat := by
  unfold scal at hc
  unfold encodeRune
  by_cases h2 : c < 2048
  · rw [encodeRuneZ_two (by omega) (by omega)]
    have e0 : ((192 + (c : Int) / 64).toNat.toUInt8).toNat = 192 + c / 64 := by simp; omega
    have e1 : ((128 + (c : Int) % 64).toNat.toUInt8).toNat = 128 + c % 64 := by simp; omega
    intro b hb
    simp only [List.map_cons, List.map_nil, List.mem_cons, List.not_mem_nil, or_false] at hb
    rcases hb with rfl | rfl <;> omega
  by_cases h3 : c < 65536
  · rw [encodeRuneZ_three (by omega)]
    have e0 : ((224 + (c : Int) / 4096).toNat.toUInt8).toNat = 224 + c / 4096 := by simp; omega
    have e1 : ((128 + (c : Int) / 64 % 64).toNat.toUInt8).toNat = 128 + c / 64 % 64 := by simp; omega
    have e2 : ((128 + (c : Int) % 64).toNat.toUInt8).toNat = 128 + c % 64 := by simp; omega
    intro b hb
    simp only [List.map_cons, List.map_nil, List.mem_cons, List.not_mem_nil, or_false] at hb
    rcases hb with rfl | rfl | rfl <;> omega
  · rw [encodeRuneZ_four (by omega) (by omega)]
    have e0 : ((240 + (c : Int) / 262144).toNat.toUInt8).toNat = 240 + c / 262144 := by simp; omega
    have e1 : ((128 + (c : Int) / 4096 % 64).toNat.toUInt8).toNat = 128 + c / 4096 % 64 := by simp; omega
    have e2 : ((128 + (c : Int) / 64 % 64).toNat.toUInt8).toNat = 128 + c / 64 % 64 := by simp; omega
    have e3 : ((128 + (c : Int) % 64).toNat.toUInt8).toNat = 128 + c % 64 := by simp; omega
    intro b hb
    simp only [List.map_cons, List.map_nil, List.mem_cons, List.not_mem_nil, or_false] at hb
    rcases hb with rfl | rfl | rfl | rfl <;> omega
/-- What ends of the putting in says of a text that is put in whole. -/
def insOk (g s t : Bs) : Prop := ∀ (n : Nat) (r : Bs), s.length + r.length ≤ n → ∃ m, r.length ≤ m ∧ insF g n false (s ++ r) = t ++ insF g m false r
theorem insOk.nil (g : Bs) : insOk g [] [] := fun n r h => ⟨n, by simpa using h, rfl⟩
theorem insOk.app {g a b c d : Bs} (h : insOk g a b) (k : insOk g c d) : insOk g (a ++ c) (b ++ d) := by
  intro n r hn
  rw [List.length_append] at hn
  obtain ⟨m1, h1, e1⟩ := h n (c ++ r) (by rw [List.length_append]; omega)
  rw [List.length_append] at h1
  obtain ⟨m2, h2, e2⟩ := k m1 r (by omega)
  exact ⟨m2, h2, by rw [List.append_assoc, e1, e2, List.append_assoc]⟩
theorem insOk.plain {g t : Bs} (h : ∀ c ∈ t, plainB c) : insOk g t t := by
  intro n r hn
  exact ⟨n - t.length, by omega, ins_plain t n r h (by omega)⟩
/-! ### Numbers -/
/-! ### Values -/
end Go.Proofs.YtnkencdibniagaaGreatDoor

