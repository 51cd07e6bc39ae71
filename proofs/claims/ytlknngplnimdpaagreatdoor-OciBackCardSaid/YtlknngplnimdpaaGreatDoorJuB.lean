/- Layer 11: a number below 32, to the base 16. -/
import Derived.Test.YtlknngplnimdpaaGreatDoorJsG
import Derived.Test.YtlknngplnimdpaaGreatDoorChg
import Derived.Great.Walk
namespace Go.Proofs.YtlknngplnimdpaaGreatDoor
open Go.RowKit

def dig36 : Bs := [48, 49, 50, 51, 52, 53, 54, 55, 56, 57, 97, 98, 99, 100, 101, 102, 103, 104, 105, 106, 107, 108, 109, 110, 111, 112, 113, 114, 115, 116, 117, 118, 119, 120, 121, 122]
theorem dig36_at : ∀ k : Fin 16, dig36.getD k.val 0 = hexd k.val := by decide
def hexS (c : Nat) : Bs := if c < 16 then [hexd c] else [49, hexd (c - 16)]
theorem idx_dig (k : Nat) (hk : k < 16) (w : World) : (Instr.index 9 (.string ⟨#[48, 49, 50, 51, 52, 53, 54, 55, 56, 57, 97, 98, 99, 100, 101, 102, 103, 104, 105, 106, 107, 108, 109, 110, 111, 112, 113, 114, 115, 116, 117, 118, 119, 120, 121, 122]⟩) (.int .u64 (k : Int))).run Tryz.prog w = .ok (.int .u8 ((hexd k).toNat : Int)) w := by
  have := idx_strK .u64 (str dig36) k (k : Int) rfl (by rw [str_size]; show k < 36; omega) w
  rw [str_toList, dig36_at ⟨k, hk⟩] at this
  exact this
theorem pow16 (w : World) : Calls Tryz.prog 194 #[.int .i64 16] w fun e w' => e = .returned (.bool true) ∧ w' = w := by
  go_enter Tryz.func194, Tryz.ntmps194
  go_wp2
  go_ret
  exact ⟨rfl, rfl⟩
theorem tz16 (w : World) (h : w.cell? ⟨9, 15, none⟩ = some (.int .u8 4)) : Calls Tryz.prog 203 #[.int .u64 16] w fun e w' => e = .returned (.int .i64 4) ∧ w' = w := by
  have hb : bits BinOp.and .u64 16 (IntKind.u64.wrap (-16)) = 16 := by decide
  have hw : IntKind.u64.wrap (16 * 285870213051353865) / 288230376151711744 = 15 := by decide
  go_enter Tryz.func203, Tryz.ntmps203
  go_wp2
  go_ret
  exact ⟨rfl, rfl⟩
theorem tzs16 (w : World) (h : w.cell? ⟨9, 15, none⟩ = some (.int .u8 4)) : Calls Tryz.prog 195 #[.int .u64 16] w fun e w' => e = .returned (.int .i64 4) ∧ w' = w := by
  go_enter Tryz.func195, Tryz.ntmps195
  go_wp2_with (go_at_call 203; ((with_reducible refine (tz16 w h).mono ?_); rintro e w2 ⟨rfl, rfl⟩))
  go_ret
  exact ⟨rfl, rfl⟩
theorem run_alloc65 (w : World) (ρ : Operand → Value) (o : Oper) (ho : o.op = .alloc 271) : (execOp ρ o).run Tryz.prog w = .ok (.value (.pointer (some ⟨w.heap.size, 0, none⟩))) (w.alloc (.cells (cells8 (List.replicate 65 0)) 271)) := by
  unfold execOp
  rw [ho]
  kernel_rfl
theorem wpList_alloc65 {ops : Array Oper} {rest : List Oper} {o : Oper} {a : Act} {w : World} {Q : Exit → Act → World → Prop} (hg : o.guard = none) (ho : o.op = .alloc 271) (n : Nat) (hn : n = w.heap.size)
    (h : wpList Tryz.prog ops Q rest (a.put o.dst (.pointer (some ⟨n, 0, none⟩))) (w.alloc (.cells (cells8 (List.replicate 65 0)) 271))) : wpList Tryz.prog ops Q (o :: rest) a w := by
  subst hn
  exact Great.wpList_allocTo hg _ rfl _ _ (run_alloc65 w _ o ho) h
theorem conv_at (w : World) (b : Nat) (l : Bs) (t : TypeId) (h : rowC w b (cells8 l) t) (off n cap : Nat) (hn : off + n = l.length) :
    (convert 132 9 (.slice (some ⟨b, off, none⟩) n cap)).run Tryz.prog w = .ok (.string (str (l.drop off))) w := by
  rw [run_convert_bytes_arg w 132 5 Tryz.underlying132 Tryz.underlying5 b off n cap ((l.drop off).map fun b => (b.toNat : Int)) (by simp; omega) (fun i hi => ?_) 9 Tryz.underlying9, str_nums]
  rw [rowC_cell h, cells8_get _ _ (by omega)]
  have h1 : i < (l.drop off).length := by rw [List.length_drop]; omega
  simp [List.getD_eq_getElem?_getD, byteV, List.getElem?_eq_getElem (show off + i < l.length by omega)]
set_option maxRecDepth 100000 in
set_option maxHeartbeats 4000000 in
theorem fmtBits_small (c : Nat) (hc : c < 16) (w : World) (h : w.cell? ⟨9, 15, none⟩ = some (.int .u8 4)) :
    Calls Tryz.prog 177 #[.slice none 0 0, .int .u64 (c : Int), .int .i64 16, .bool false, .bool false] w fun e w' => e = .returned (.tuple #[.slice none 0 0, .string (str (hexS c))]) ∧ Below w.heap.size w w' := by
  have hidx := idx_dig c hc
  obtain ⟨W0, hW0⟩ : ∃ W0, W0 = w.alloc (.cells (cells8 (List.replicate 65 0)) 271) := ⟨_, rfl⟩
  have R0 : rowC W0 w.heap.size (cells8 (List.replicate 65 0)) 271 := by rw [hW0]; exact rowC_new w _ _
  have B0 : Below w.heap.size w W0 := by rw [hW0]; exact (Below.refl _ _).alloc (Nat.le_refl _) _
  have h0 : W0.cell? ⟨9, 15, none⟩ = some (.int .u8 4) := (B0.cell (World.block_lt_of_cell? w _ h)).trans h
  have P := pow16 W0
  have T := tzs16 W0 h0
  have c0 := rowC_cell R0 64
  have f0 := rowC_free R0 64
  have R1 := rowC_set R0 64 (byteV (hexd c))
  rw [cells8_set] at R1
  have cv : (convert 132 9 (.slice (some ⟨w.heap.size, 64, none⟩) 1 1)).run Tryz.prog (W0.setCell ⟨w.heap.size, 64, none⟩ (.int .u8 ((hexd c).toNat : Int))) = .ok (.string (str [hexd c])) (W0.setCell ⟨w.heap.size, 64, none⟩ (.int .u8 ((hexd c).toNat : Int))) := conv_at _ _ _ _ R1 64 1 1 (by simp)
  have HF : Hid (Below w.heap.size w (W0.setCell ⟨w.heap.size, 64, none⟩ (.int .u8 ((hexd c).toNat : Int)))) := Lib.hid (B0.setCell (p := ⟨w.heap.size, 64, none⟩) (Nat.le_refl _) _)
  have HX : Hid (hexS c = [hexd c]) := Lib.hid (if_pos hc)
  have HW0 := Lib.hid hW0
  have HB0 := Lib.hid B0
  have hlt : ¬ ((16 : Int) ≤ (c : Int)) := by omega
  clear hW0 B0 R0 R1 h h0
  go_enter Tryz.func177, Tryz.ntmps177
  go_wp2_with (first
    | ((with_reducible show wpList _ _ _ (⟨some 12, .alloc _, _, _, _, _⟩ :: _) _ _); refine wpList_alloc65 rfl rfl w.heap.size rfl ?_; rw [← HW0.out])
    | (go_at_call 194; ((with_reducible refine P.mono ?_); rintro e w2 ⟨rfl, rfl⟩))
    | (go_at_call 195; ((with_reducible refine T.mono ?_); rintro e w2 ⟨rfl, rfl⟩)))
  refine wp_loop_rounds 1 ?_
  rw [rounds_succ]
  go_wp2
  go_ret2
  rw [HX.out]
  exact ⟨rfl, HF.out⟩
set_option maxRecDepth 100000 in
set_option maxHeartbeats 4000000 in
theorem fmtBits_big (c : Nat) (h16 : 16 ≤ c) (hc : c < 32) (w : World) (h : w.cell? ⟨9, 15, none⟩ = some (.int .u8 4)) :
    Calls Tryz.prog 177 #[.slice none 0 0, .int .u64 (c : Int), .int .i64 16, .bool false, .bool false] w fun e w' => e = .returned (.tuple #[.slice none 0 0, .string (str (hexS c))]) ∧ Below w.heap.size w w' := by
  obtain ⟨d, rfl⟩ : ∃ d, c = 16 + d := ⟨c - 16, by omega⟩
  have hidx := idx_dig d (by omega)
  have hidx1 : ∀ w, (Instr.index 9 (.string ⟨#[48, 49, 50, 51, 52, 53, 54, 55, 56, 57, 97, 98, 99, 100, 101, 102, 103, 104, 105, 106, 107, 108, 109, 110, 111, 112, 113, 114, 115, 116, 117, 118, 119, 120, 121, 122]⟩) (.int .u64 1)).run Tryz.prog w = .ok (.int .u8 49) w := idx_dig 1 (by decide)
  obtain ⟨W0, hW0⟩ : ∃ W0, W0 = w.alloc (.cells (cells8 (List.replicate 65 0)) 271) := ⟨_, rfl⟩
  have R0 : rowC W0 w.heap.size (cells8 (List.replicate 65 0)) 271 := by rw [hW0]; exact rowC_new w _ _
  have B0 : Below w.heap.size w W0 := by rw [hW0]; exact (Below.refl _ _).alloc (Nat.le_refl _) _
  have h0 : W0.cell? ⟨9, 15, none⟩ = some (.int .u8 4) := (B0.cell (World.block_lt_of_cell? w _ h)).trans h
  have P := pow16 W0
  have T := tzs16 W0 h0
  have c0 := rowC_cell R0 64
  have f0 := rowC_free R0 64
  have R1 := rowC_set R0 64 (byteV (hexd d))
  rw [cells8_set] at R1
  have c1 : (W0.setCell ⟨w.heap.size, 64, none⟩ (.int .u8 ((hexd d).toNat : Int))).cell? ⟨w.heap.size, 63, none⟩ = some (byteV 0) := rowC_cell R1 63
  have f1 : (W0.setCell ⟨w.heap.size, 64, none⟩ (.int .u8 ((hexd d).toNat : Int))).frozen? ⟨w.heap.size, 63, none⟩ = false := rowC_free R1 63
  have R2 := rowC_set R1 63 (byteV (hexd 1))
  rw [cells8_set] at R2
  have cv : (convert 132 9 (.slice (some ⟨w.heap.size, 63, none⟩) 2 2)).run Tryz.prog ((W0.setCell ⟨w.heap.size, 64, none⟩ (.int .u8 ((hexd d).toNat : Int))).setCell ⟨w.heap.size, 63, none⟩ (.int .u8 49)) = .ok (.string (str [49, hexd d])) ((W0.setCell ⟨w.heap.size, 64, none⟩ (.int .u8 ((hexd d).toNat : Int))).setCell ⟨w.heap.size, 63, none⟩ (.int .u8 49)) := conv_at _ _ _ _ R2 63 2 2 (by simp)
  have HF : Hid (Below w.heap.size w ((W0.setCell ⟨w.heap.size, 64, none⟩ (.int .u8 ((hexd d).toNat : Int))).setCell ⟨w.heap.size, 63, none⟩ (.int .u8 49))) := Lib.hid ((B0.setCell (p := ⟨w.heap.size, 64, none⟩) (Nat.le_refl _) _).setCell (p := ⟨w.heap.size, 63, none⟩) (Nat.le_refl _) _)
  have HX : Hid (hexS (16 + d) = [49, hexd d]) := Lib.hid (by unfold hexS; rw [if_neg (by omega), Nat.add_sub_cancel_left])
  have HW0 := Lib.hid hW0
  have HB0 := Lib.hid B0
  have hge : (16 : Int) ≤ 16 + (d : Int) := by omega
  have hand : bits BinOp.and .u64 (16 + (d : Int)) 15 = (d : Int) := by
    have : ∀ d : Fin 16, bits BinOp.and .u64 (16 + (d.val : Int)) 15 = (d.val : Int) := by decide
    exact this ⟨d, by omega⟩
  have hshr : (16 + (d : Int)) / 16 = 1 := by omega
  clear hW0 B0 R0 R1 R2 h h0
  go_enter Tryz.func177, Tryz.ntmps177
  go_wp2_with (first
    | ((with_reducible show wpList _ _ _ (⟨some 12, .alloc _, _, _, _, _⟩ :: _) _ _); refine wpList_alloc65 rfl rfl w.heap.size rfl ?_; rw [← HW0.out])
    | (go_at_call 194; ((with_reducible refine P.mono ?_); rintro e w2 ⟨rfl, rfl⟩))
    | (go_at_call 195; ((with_reducible refine T.mono ?_); rintro e w2 ⟨rfl, rfl⟩)))
  refine wp_loop_rounds 2 ?_
  rw [rounds_succ]
  go_wp2
  rw [rounds_succ]
  go_wp2
  go_ret2
  rw [HX.out]
  exact ⟨rfl, HF.out⟩
theorem fmtBits_any (c : Nat) (hc : c < 32) (w : World) (h : w.cell? ⟨9, 15, none⟩ = some (.int .u8 4)) :
    Calls Tryz.prog 177 #[.slice none 0 0, .int .u64 (c : Int), .int .i64 16, .bool false, .bool false] w fun e w' => e = .returned (.tuple #[.slice none 0 0, .string (str (hexS c))]) ∧ Below w.heap.size w w' := by
  by_cases h16 : c < 16
  · exact fmtBits_small c h16 w h
  · exact fmtBits_big c (by omega) hc w h
theorem ifmt_any (c : Nat) (hc : c < 32) (w : World) (h : w.cell? ⟨9, 15, none⟩ = some (.int .u8 4)) :
    Calls Tryz.prog 153 #[.int .i64 (c : Int), .int .i64 16] w fun e w' => e = .returned (.string (str (hexS c))) ∧ Below w.heap.size w w' := by
  have C := fmtBits_any c hc w h
  have h0 : ¬ ((c : Int) < 0) := by omega
  have hb : (c : Int) ≤ 31 := by omega
  clear h
  go_enter Tryz.func153, Tryz.ntmps153
  go_wp2_with (go_at_call 177; ((with_reducible refine C.mono ?_); rintro e w2 ⟨rfl, hb2⟩))
  go_ret
  exact ⟨rfl, hb2⟩
theorem fmt_any (c : Nat) (hc : c < 32) (w : World) (h : w.cell? ⟨9, 15, none⟩ = some (.int .u8 4)) :
    Calls Tryz.prog 164 #[.int .i64 (c : Int), .int .i64 16] w fun e w' => e = .returned (.string (str (hexS c))) ∧ Below w.heap.size w w' := by
  have C := ifmt_any c hc w h
  clear h
  go_enter Tryz.func164, Tryz.ntmps164
  go_wp2_with (go_at_call 153; ((with_reducible refine C.mono ?_); rintro e w2 ⟨rfl, hb2⟩))
  go_ret
  exact ⟨rfl, hb2⟩
end Go.Proofs.YtlknngplnimdpaaGreatDoor
