/- Layer 16: the program's linked. -/
import Derived.Test.YtokeiagcdahmaaaDoorTtP
namespace Go.Proofs.YtokeiagcdahmaaaDoor
open Go.RowKit

set_option maxRecDepth 100000 in
theorem field_pl (p : Pl) (W : World) : (Instr.field 54 (.agg (plA p)) 0).run Tryd.prog W = .ok (.agg (ndA p.nd)) W := by
  obtain ⟨⟨a, b, c, d⟩, e⟩ := p
  rfl
def nd0 : Nd := ⟨[], 0, 0, []⟩
theorem linked_get (g : List Pl) (tgt : List UInt8) : linkedG g tgt = if (cleanL tgt).2 = 0 then (if (getG g (cleanL tgt).1).nd.kind = 1 then ((getG g (cleanL tgt).1).nd, 0) else (nd0, 4)) else (nd0, (cleanL tgt).2) := by
  unfold linkedG getG
  split
  · cases lookG g (cleanL tgt).1 <;> rfl
  · rfl
set_option maxRecDepth 100000 in
set_option maxHeartbeats 16000000 in
theorem linked_any (tgt : List UInt8) (hto : tgt.length ≤ 900000) (B M : Nat) (g : List Pl) (k : Int) (w : World) (h : GrAt w B M g k) :
    Calls Tryd.prog 49 #[.pointer (some ⟨B, 0, none⟩), .string (str tgt)] w fun e w' => e = .returned (.tuple #[.agg (ndA (linkedG g tgt).1), .int .i64 (linkedG g tgt).2]) ∧ Below w.heap.size w w' := by
  have HI := Lib.hid info_nd4
  have CC := fun W => clean_any tgt hto W
  have HLK := Lib.hid (linked_get g tgt)
  have hcl := clean_len tgt
  have HG0 := Lib.hid h
  have hBw := rowC_lt h.row
  generalize (cleanL tgt).2 = CE at *
  generalize (cleanL tgt).1 = CP at *
  obtain ⟨W0, hW0⟩ : ∃ W0, W0 = w.alloc (.cells (ndA nd0) 36) := ⟨_, rfl⟩
  have HW0 := Lib.hid hW0
  have HB0 : Hid (Below w.heap.size w W0) := Lib.hid (by rw [hW0]; exact (Below.refl _ _).alloc (Nat.le_refl _) _)
  have HR0 : Hid (rowC W0 w.heap.size (ndA nd0) 36) := Lib.hid (by rw [hW0]; exact rowC_new w _ _)
  clear hW0 h
  go_enter Tryd.func49, Tryd.ntmps49
  go_upto_region 1 with (fail)
  rw [show w.alloc (Obj.cells #[Value.string ⟨#[]⟩, Value.int .i64 0, Value.int .i64 0, Value.string ⟨#[]⟩] 36) = W0 from HW0.out.symm]
  by_cases hce : CE = 0
  · subst hce
    go_upto_region 4 with (go_at_call 23; ((with_reducible refine (CC _).mono ?_); rintro e w1 ⟨rfl, hB1⟩; have HB1 := Lib.hid (HB0.out.trans (hB1.mono HB0.out.size)); have HR1 := Lib.hid (rowC_below HR0.out hB1 (rowC_lt HR0.out)); have HG1 := Lib.hid (HG0.out.below HB1.out); clear hB1))
    have c0 : w1.cell? ⟨B, 0, none⟩ = some (.map (some M)) := rowC_cell HG1.out.row 0
    have hrun := HG1.out.map.get CP (by unfold maxLen; omega)
    have hf := field_pl (getG g CP)
    have HL2 : Hid (linkedG g tgt = if (getG g CP).nd.kind = 1 then ((getG g CP).nd, 0) else (nd0, 4)) := Lib.hid (by rw [HLK.out, if_pos (by trivial)])
    clear HLK
    generalize hq : getG g CP = q at *
    clear hq
    have hone := Lib.hid (ndA_one q.nd)
    go_upto_region 5 with (first
      | ((with_reducible show wpList _ _ _ (⟨none, .store _ (.tmp 4) _, _, _, _, _⟩ :: _) _ _); refine wpList_store_row rfl 36 _ _ rfl w.heap.size (ndA q.nd) rfl rfl 36 (ndA nd0) HR1.out HI.out rfl hone.out ?_))
    obtain ⟨W2, hW2⟩ : ∃ W2, W2 = w1.setRow w.heap.size (ndA q.nd) := ⟨_, rfl⟩
    have HR2 : Hid (rowC W2 w.heap.size (ndA q.nd) 36) := Lib.hid (by rw [hW2]; exact rowC_setRow HR1.out _)
    have HB2 : Hid (Below w.heap.size w W2) := Lib.hid (by rw [hW2]; exact below_setRow HB1.out (Nat.le_refl _) _)
    rw [← hW2]
    clear hW2 HR1 HB1 HG1 c0 hrun hf
    have c1 : W2.cell? ⟨w.heap.size, 1, none⟩ = some (.int .i64 q.nd.kind) := rowC_cell HR2.out 1
    by_cases hk : q.nd.kind = 1
    · have HL3 := Lib.hid (HL2.out.trans (if_pos hk))
      rw [hk] at c1
      clear HL2 hk
      go_wp2_with (first
        | ((with_reducible show wpList _ _ _ (⟨some 27, .load _ (.tmp 4), _, _, _, _⟩ :: _) _ _); refine wpList_load_row rfl 36 _ rfl w.heap.size rfl 36 (ndA q.nd) (0, 0) _ HR2.out Tryd.underlying36 rfl HI.out ?_)
        | ((with_reducible show wpList _ _ _ (⟨none, .store _ (.tmp 4) _, _, _, _, _⟩ :: _) _ _); refine wpList_store_row rfl 36 _ _ rfl w.heap.size (ndA q.nd) rfl rfl 36 (ndA q.nd) HR2.out HI.out rfl hone.out ?_))
      exact bodyPost_ret (results_row_tmp rfl _ _ w.heap.size 36 (ndA q.nd) _ rfl (rowC_setRow HR2.out _) Tryd.underlying36 rfl HI.out (.int .i64 0) rfl) rfl ⟨by rw [HL3.out], below_setRow HB2.out (Nat.le_refl _) _⟩
    · have HL3 := Lib.hid (HL2.out.trans (if_neg hk))
      have g1 : (q.nd.kind != 1) = true := by rw [bne_iff_ne]; exact hk
      clear HL2 hk
      have hone0 := Lib.hid (ndA_one nd0)
      go_wp2_with (first
        | ((with_reducible show wpList _ _ _ (⟨none, .store _ (.tmp 4) _, _, _, _, _⟩ :: _) _ _); refine wpList_store_row rfl 36 _ _ rfl w.heap.size (ndA nd0) rfl rfl 36 (ndA q.nd) HR2.out HI.out rfl hone0.out ?_))
      exact bodyPost_ret (results_row_tmp rfl _ _ w.heap.size 36 (ndA nd0) _ rfl (rowC_setRow HR2.out _) Tryd.underlying36 rfl HI.out (.int .i64 4) rfl) rfl ⟨by rw [HL3.out], below_setRow HB2.out (Nat.le_refl _) _⟩
  · have HL3 := Lib.hid (HLK.out.trans (if_neg hce))
    have g1 : (CE != 0) = true := by rw [bne_iff_ne]; exact hce
    have hone0 := Lib.hid (ndA_one nd0)
    clear HLK hce
    go_wp2_with (first
      | (go_at_call 23; ((with_reducible refine (CC _).mono ?_); rintro e w1 ⟨rfl, hB1⟩; have HB1 := Lib.hid (HB0.out.trans (hB1.mono HB0.out.size)); have HR1 := Lib.hid (rowC_below HR0.out hB1 (rowC_lt HR0.out)); clear hB1))
      | ((with_reducible show wpList _ _ _ (⟨none, .store _ (.tmp 4) _, _, _, _, _⟩ :: _) _ _); refine wpList_store_row rfl 36 _ _ rfl w.heap.size (ndA nd0) rfl rfl 36 (ndA nd0) HR1.out HI.out rfl hone0.out ?_))
    exact bodyPost_ret (results_row_tmp rfl _ _ w.heap.size 36 (ndA nd0) _ rfl (rowC_setRow HR1.out _) Tryd.underlying36 rfl HI.out (.int .i64 CE) rfl) rfl ⟨by rw [HL3.out], below_setRow HB1.out (Nat.le_refl _) _⟩
end Go.Proofs.YtokeiagcdahmaaaDoor
#print axioms Go.Proofs.YtokeiagcdahmaaaDoor.linked_any
