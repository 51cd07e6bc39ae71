/- Layer 11: lists and objects in one another, as deep as may be, and deeper. -/
import Derived.Test.YtafmokpplnmbgaaGreatDoorM10
import Derived.Great.BuildSlice
namespace Go.Proofs.YtafmokpplnmbgaaGreatDoor
open Go.RowKit

theorem openT_snoc (bs : List Bool) (b : Bool) : openT (bs ++ [b]) = openT bs ++ (if b = true then [123, 34, 107, 34, 58] else [91]) := by
  unfold openT
  rw [List.flatMap_append]
  simp
theorem closeT_snoc : ∀ (bs : List Bool) (b : Bool), closeT (bs ++ [b]) = (if b = true then 125 else 93) :: closeT bs
  | [], b => by simp [closeT]
  | c :: bs, b => by
    show closeT (bs ++ [b]) ++ _ = _
    rw [closeT_snoc bs b]
    rfl
/-- The kinds of the brackets: the bits of a number. -/
def bitB (o k : Nat) : Bool := o / 2 ^ k % 2 == 1
def bitsB (o : Nat) : Nat → List Bool
  | 0 => []
  | k + 1 => bitsB o k ++ [bitB o k]
theorem bitsB_len (o : Nat) : ∀ k, (bitsB o k).length = k
  | 0 => rfl
  | k + 1 => by rw [bitsB, List.length_append, bitsB_len o k]; rfl
def bitsFrom (o n : Nat) : Nat → List Bool
  | 0 => []
  | m + 1 => bitB o (n - (m + 1)) :: bitsFrom o n m
theorem bits_all (o n : Nat) : ∀ m, m ≤ n → bitsB o (n - m) ++ bitsFrom o n m = bitsB o n
  | 0, _ => by rw [bitsFrom, List.append_nil]; rfl
  | m + 1, h => by
    have e := bits_all o n m (by omega)
    rw [show n - m = (n - (m + 1)) + 1 by omega, bitsB, List.append_assoc] at e
    exact e
theorem bitsFrom_all (o n : Nat) : bitsFrom o n n = bitsB o n := by
  have := bits_all o n n (Nat.le_refl _)
  rwa [Nat.sub_self] at this
theorem openT_len : ∀ (bs : List Bool), (openT bs).length ≤ 5 * bs.length
  | [] => Nat.le_refl _
  | b :: bs => by
    have := openT_len bs
    show ((if b = true then [123, 34, 107, 34, 58] else [91]) ++ openT bs : Bs).length ≤ _
    cases b <;> simp <;> omega
theorem closeT_len : ∀ (bs : List Bool), (closeT bs).length = bs.length
  | [] => rfl
  | b :: bs => by
    show (closeT bs ++ _ : Bs).length = _
    rw [List.length_append, closeT_len bs]
    rfl
theorem nest_ok : ∀ bs, okJ (nest bs)
  | [] => okJ_text 2 [] (fun e => absurd e (by decide))
  | true :: bs => by
    show okJ (.mk 6 [] [nest bs] [[107]])
    rw [okJ, okJL, okJL]
    exact ⟨fun e => absurd e (by decide), ⟨by simp, by simp, fun y hy => by rw [List.mem_singleton.1 hy]; decide⟩, nest_ok bs, trivial⟩
  | false :: bs => by
    show okJ (.mk 5 [] [nest bs] [])
    rw [okJ, okJL, okJL]
    exact ⟨fun e => absurd e (by decide), ⟨by simp, by simp, fun y hy => by cases hy⟩, nest_ok bs, trivial⟩
theorem nest_print {bs : List Bool} (h : bs.length ≤ 24) : printA (nest bs) = if 16 < bs.length then ([], 11) else (openT bs ++ trueT ++ closeT bs, 0) := by
  obtain ⟨h1, h2⟩ := nest_may bs
  unfold printA
  rw [may_depth 65536 _ h1 (by omega), h2, nest_pr]
  dsimp only
  have e : (openT bs ++ trueT ++ closeT bs).length ≤ 1000 := by
    have := openT_len bs
    rw [List.length_append, List.length_append, closeT_len]
    have : trueT.length = 4 := rfl
    omega
  by_cases hb : 16 < bs.length
  · rw [if_pos hb, if_pos hb]
  · rw [if_neg hb, if_neg hb, if_neg (by omega)]
theorem fill_S (s : ByteArray) : Instr.fill (fun i => some (i * 1, 1)) ((Array.range (1 * 1)).map ((Value.string ⟨#[]⟩).cells[· % (Value.string ⟨#[]⟩).cells.size]!)) [((0 : Nat), Value.string s)] = some #[.string s] := by kernel_rfl
theorem fill_V (k t c d : Value) : Instr.fill (fun i => some (i * 4, 4)) ((Array.range (1 * 4)).map ((Value.agg zeroV4).cells[· % (Value.agg zeroV4).cells.size]!)) [((0 : Nat), Value.agg #[k, t, c, d])] = some #[k, t, c, d] := by kernel_rfl
section
variable {ops : Array Oper} {rest : List Oper} {o : Oper} {a : Act} {w : World} {Q : Exit → Act → World → Prop}
theorem wpList_oneS (hg : o.guard = none) (x : Operand) (ho : o.op = .buildSlice 25 1 #[(0, x)]) (s : ByteArray) (hx : a.eval x = .string s)
    (h : wpList Tryz.prog ops Q rest (a.put o.dst (.slice (some ⟨w.heap.size, 0, none⟩) 1 1)) (w.alloc (.cells #[.string s] 9))) : wpList Tryz.prog ops Q (o :: rest) a w := by
  obtain ⟨j0, ji0, jz0, jz1, jz2⟩ := info_parts info_S1
  refine wpList_buildSlice hg 25 9 1 _ ho #[.string s] j0 _ Tryz.underlying25 ji0 jz0 (by rw [jz1]; decide) (by rw [jz1]; decide) ?_ h
  rw [jz1]
  have e : (Array.map (fun (i, x) => (i, a.eval x)) #[(0, x)]).toList = [((0 : Nat), Value.string s)] := by simp [hx]
  rw [e]
  exact fill_S s
theorem wpList_oneV (hg : o.guard = none) (x : Operand) (ho : o.op = .buildSlice 24 1 #[(0, x)]) (k t c d : Value) (hx : a.eval x = .agg #[k, t, c, d])
    (h : wpList Tryz.prog ops Q rest (a.put o.dst (.slice (some ⟨w.heap.size, 0, none⟩) 1 1)) (w.alloc (.cells #[k, t, c, d] 27))) : wpList Tryz.prog ops Q (o :: rest) a w := by
  obtain ⟨j0, ji0, jz0, jz1, jz2⟩ := info_parts info_V3
  refine wpList_buildSlice hg 24 27 1 _ ho #[k, t, c, d] j0 _ Tryz.underlying24 ji0 jz0 (by rw [jz1]; decide) (by rw [jz1]; decide) ?_ h
  rw [jz1]
  have e : (Array.map (fun (i, x) => (i, a.eval x)) #[(0, x)]).toList = [((0 : Nat), Value.agg #[k, t, c, d])] := by simp [hx]
  rw [e]
  exact fill_V k t c d
end
theorem bounds_u8 {n : Int} (h : (Lit.int .u8 n).wf = true) : 0 ≤ n ∧ n ≤ 255 := by
  simp [Lit.wf, IntKind.min, IntKind.max, IntKind.signed, IntKind.bits] at h
  omega
theorem bounds_u32 {n : Int} (h : (Lit.int .u32 n).wf = true) : 0 ≤ n ∧ n ≤ 4294967295 := by
  simp [Lit.wf, IntKind.min, IntKind.max, IntKind.signed, IntKind.bits] at h
  omega
end Go.Proofs.YtafmokpplnmbgaaGreatDoor
