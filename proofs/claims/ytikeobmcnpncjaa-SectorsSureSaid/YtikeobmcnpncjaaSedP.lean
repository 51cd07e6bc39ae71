/- Layer 6: SectorsSure: what its walk wants beside the memory. -/
import Derived.Great.Walk
import Derived.Test.YtikeobmcnpncjaaSedO
namespace Go.Proofs.Ytikeobmcnpncjaa
open Go.RowKit

theorem byteV_num {k : Nat} (h : k < 256) : byteV (UInt8.ofNat k) = .int .u8 (k : Int) := by
  unfold byteV
  rw [UInt8.toNat_ofNat_of_lt' (show _ < 256 by omega)]
/-- A list of pairs of bytes, wherever it lies. -/
def PairsAt (w : World) (v : Value) (l : List (UInt8 × UInt8)) : Prop :=
  (v = .slice none 0 0 ∧ l = []) ∨ ∃ (ad : Addr) (cap : Nat), v = .slice (some ad) l.length cap ∧ ∀ j, j < l.length → w.cell? (ad.add (j * 2)) = some (byteV (l.getD j (0, 0)).1) ∧ w.cell? ⟨(ad.add (j * 2)).block, (ad.add (j * 2)).off + 1, none⟩ = some (byteV (l.getD j (0, 0)).2)
theorem pairs_form {w : World} {v : Value} {l : List (UInt8 × UInt8)} (h : PairsAt w v l) : ∃ a cap, v = .slice a l.length cap := by
  rcases h with ⟨rfl, rfl⟩ | ⟨ad, cap, rfl, _⟩
  · exact ⟨none, 0, rfl⟩
  · exact ⟨_, cap, rfl⟩
theorem pairs_at {W : World} {a : Option Addr} {n cap : Nat} {l : List (UInt8 × UInt8)} (h : PairsAt W (.slice a n cap) l) {k : Nat} (hk : k < l.length) : ∃ (ad : Addr) (x y : Nat), a = some ad ∧ x < 256 ∧ y < 256 ∧ ∀ w, Below W.heap.size W w → w.cell? (ad.add (k * 2)) = some (.int .u8 (x : Int)) ∧ w.cell? ⟨(ad.add (k * 2)).block, (ad.add (k * 2)).off + 1, none⟩ = some (.int .u8 (y : Int)) := by
  rcases h with ⟨_, rfl⟩ | ⟨ad, cap', hv, hc⟩
  · simp at hk
  · simp only [Value.slice.injEq] at hv
    obtain ⟨h1, h2⟩ := hc k hk
    have hl1 := World.block_lt_of_cell? W _ h1
    have hl2 := World.block_lt_of_cell? W _ h2
    exact ⟨ad, _, _, hv.1, UInt8.toNat_lt _, UInt8.toNat_lt _, fun w hb => ⟨(hb.cell hl1).trans h1, (hb.cell hl2).trans h2⟩⟩
theorem info_8 {l : List UInt8} (h : l.length = 8) : (Try.prog.info? 49).map (·.size) = some (cells8 l).size := by
  rw [cells8_size, h]; kernel_rfl
theorem info_B {l : List Bool} (h : l.length = 488) : (Try.prog.info? 51).map (·.size) = some (cellsB l).size := by
  rw [cellsB_size, h]; kernel_rfl
theorem run_allocB (w : World) (ρ : Operand → Value) (o : Oper) (ho : o.op = .alloc 51) : (execOp ρ o).run Try.prog w = .ok (.value (.pointer (some ⟨w.heap.size, 0, none⟩))) (w.alloc (.cells (cellsB none488) 51)) := by
  unfold execOp
  rw [ho]
  kernel_rfl
theorem wpList_allocB {ops : Array Oper} {rest : List Oper} {o : Oper} {a : Act} {w : World} {Q : Exit → Act → World → Prop} (hg : o.guard = none) (ho : o.op = .alloc 51) (n : Nat) (hn : n = w.heap.size)
    (h : wpList Try.prog ops Q rest (a.put o.dst (.pointer (some ⟨n, 0, none⟩))) (w.alloc (.cells (cellsB none488) 51))) : wpList Try.prog ops Q (o :: rest) a w := by
  subst hn
  exact Great.wpList_allocTo hg _ rfl _ _ (run_allocB w _ o ho) h
theorem built_B : Try.prog.built 51 [] = some (cellsB none488) := by kernel_rfl
section
variable {I : Impl} {W w : World} {q b7 b8 b9 : Nat} {d : RD} {S L : List UInt8} {X : List Bool}
theorem SureM.cell7 (h : SureM I W w q b7 b8 b9 d S L X) (hl : S.length = 8) {j : Nat} (hj : j < 8) : w.cell? ⟨b7, j, none⟩ = some (.int .u8 ((S.getD j 0).toNat : Int)) := by
  rw [rowC_cell h.r7, cells8_get _ _ (by omega)]; rfl
theorem SureM.cell8 (h : SureM I W w q b7 b8 b9 d S L X) (hl : L.length = 8) {j : Nat} (hj : j < 8) : w.cell? ⟨b8, j, none⟩ = some (.int .u8 ((L.getD j 0).toNat : Int)) := by
  rw [rowC_cell h.r8, cells8_get _ _ (by omega)]; rfl
theorem SureM.cell9 (h : SureM I W w q b7 b8 b9 d S L X) (hl : X.length = 488) {j : Nat} (hj : j < 488) : w.cell? ⟨b9, j, none⟩ = some (.bool (X.getD j false)) := by
  rw [rowC_cell h.r9, cellsB_get _ _ (by omega)]
end
/-- The first j of C, then those of S. -/
def mix (C S : List UInt8) (j : Nat) : List UInt8 := C.take j ++ S.drop j
theorem mix_zero (C S : List UInt8) : mix C S 0 = S := by simp [mix]
theorem mix_all (C S : List UInt8) (hc : C.length = 8) (hs : S.length = 8) : mix C S 8 = C := by
  unfold mix
  rw [List.take_of_length_le (by omega), List.drop_eq_nil_of_le (by omega), List.append_nil]
theorem mix_length {C S : List UInt8} (hc : C.length = 8) (hs : S.length = 8) {j : Nat} (hj : j ≤ 8) : (mix C S j).length = 8 := by
  simp [mix]; omega
theorem mix_get {C S : List UInt8} (hc : C.length = 8) {j : Nat} (hj : j < 8) : (mix C S j).getD j 0 = S.getD j 0 := by
  unfold mix
  rw [List.getD_eq_getElem?_getD, List.getElem?_append_right (by simp; omega), List.length_take, Nat.min_eq_left (by omega), Nat.sub_self, List.getElem?_drop, Nat.add_zero, ← List.getD_eq_getElem?_getD]
theorem mix_set {C S : List UInt8} (hc : C.length = 8) (hs : S.length = 8) {j : Nat} (hj : j < 8) : (mix C S j).set j (C.getD j 0) = mix C S (j + 1) := by
  unfold mix
  rw [List.set_append_right (h := by simp; omega), List.length_take, Nat.min_eq_left (by omega), Nat.sub_self, List.drop_eq_getElem_cons (show j < S.length by omega), List.set_cons_zero, ← List.take_append_getElem (show j < C.length by omega), List.append_assoc]
  rw [List.getD_eq_getElem?_getD, List.getElem?_eq_getElem (by omega)]
  rfl
/-- What the loop over the writes keeps. -/
def SureAt (I : Impl) (W w : World) (q b7 b8 b9 k : Nat) : Prop := ∃ d S L X K, K ≤ 2 * k ∧ SureD d S L X K ∧ SureM I W w q b7 b8 b9 d S L X
/-- The first byte of a sector of one byte. -/
theorem secB_idx (c : UInt8) : ∀ w, (Instr.index 9 (.string (secB c)) (.int .i64 0)).run Try.prog w = .ok (.int .u8 (c.toNat : Int)) w := by
  intro w
  rw [idx_strK .i64 (secB c) 0 0 rfl (by rw [secB_size]; decide) w]
  congr 3
/-- The check at the end of a round: the sector is read, and held against its last byte. -/
theorem s_tail {I : Impl} {W : World} {q b7 b8 b9 : Nat} {d : RD} {S L : List UInt8} {X : List Bool} {k : Nat} (D : SureD d S L X k) (hk : k ≤ 900) {n : Nat} (hn : n < 8) :
    ∃ (Z : ByteArray) (z : Nat), (∀ w', SureM I W w' q b7 b8 b9 d S L X → Calls Try.prog 13 #[.pointer (some ⟨q, 0, none⟩), .int .i64 (n : Int)] w' fun e w'' => e = .returned (.tuple #[.string Z, .int .i64 0]) ∧ SureM I W w'' q b7 b8 b9 d S L X)
      ∧ (∀ w', SureM I W w' q b7 b8 b9 d S L X → Calls Try.prog 23 #[.int .u8 (z : Int)] w' fun e w'' => e = .returned (.string Z) ∧ SureM I W w'' q b7 b8 b9 d S L X)
      ∧ (∀ w', SureM I W w' q b7 b8 b9 d S L X → w'.cell? ⟨b8, n, none⟩ = some (.int .u8 (z : Int))) :=
  ⟨secB (L.getD n 0), (L.getD n 0).toNat, fun _ t => s_read t D hk hn, fun _ t => s_sector t _, fun _ t => t.cell8 D.lL hn⟩
/-- A sector behind a crash. -/
theorem s_inner {I : Impl} {W : World} {q b7 b8 b9 : Nat} {d : RD} {C : List UInt8} {k : Nat} (D : SureD d C C none488 k) (hk : k ≤ 900) {j : Nat} (hj : j < 8) (S L : List UInt8) (X : List Bool) :
    ∃ (Z : ByteArray) (z : Nat), z < 256 ∧ C.getD j 0 = UInt8.ofNat z ∧ z = (C.getD j 0).toNat ∧ Z.size = 512 ∧ (∀ w, (Instr.index 9 (.string Z) (.int .i64 0)).run Try.prog w = .ok (.int .u8 (z : Int)) w)
      ∧ (∀ w', SureM I W w' q b7 b8 b9 d S L X → Calls Try.prog 13 #[.pointer (some ⟨q, 0, none⟩), .int .i64 (j : Int)] w' fun e w'' => e = .returned (.tuple #[.string Z, .int .i64 0]) ∧ SureM I W w'' q b7 b8 b9 d S L X)
      ∧ (∀ w', SureM I W w' q b7 b8 b9 d S L X → Calls Try.prog 23 #[.int .u8 (z : Int)] w' fun e w'' => e = .returned (.string Z) ∧ SureM I W w'' q b7 b8 b9 d S L X) :=
  ⟨secB (C.getD j 0), (C.getD j 0).toNat, UInt8.toNat_lt _, (UInt8.ofNat_toNat).symm, rfl, secB_size _, secB_idx _, fun _ t => s_read t D hk hj, fun _ t => s_sector t _⟩
end Go.Proofs.Ytikeobmcnpncjaa
