/- Merged: TtQ, TtR. -/
import Derived.Test.YtbjgmkjinnbokaaGreatDoorM16
/- Layer 16: the program's linked. -/
namespace Go.Proofs.YtbjgmkjinnbokaaGreatDoor
open Go.RowKit

set_option maxRecDepth 100000 in
theorem field_pl (p : Pl) (W : World) : (Instr.field 64 (.agg (plA p)) 0).run Tryz.prog W = .ok (.agg (ndA p.nd)) W := by
  obtain ⟨⟨a, b, c, d⟩, e⟩ := p
  rfl
def nd0 : Nd := ⟨[], 0, 0, []⟩
theorem linked_get (g : List Pl) (tgt : List UInt8) : linkedG g tgt = if (cleanL tgt).2 = 0 then (if (getG g (cleanL tgt).1).nd.kind = 1 then ((getG g (cleanL tgt).1).nd, 0) else (nd0, 4)) else (nd0, (cleanL tgt).2) := by
  unfold linkedG getG
  split
  · cases lookG g (cleanL tgt).1 <;> rfl
  · rfl
set_option maxRecDepth 100000 in
set_option maxHeartbeats 16000000 in
theorem linked_any (tgt : List UInt8) (hto : tgt.length ≤ 900000) (B M : Nat) (g : List Pl) (k : Int) (w : World) (h : GrAt w B M g k) :
    Calls Tryz.prog 64 #[.pointer (some ⟨B, 0, none⟩), .string (str tgt)] w fun e w' => e = .returned (.tuple #[.agg (ndA (linkedG g tgt).1), .int .i64 (linkedG g tgt).2]) ∧ Below w.heap.size w w' := by
  have HI := Lib.hid info_nd4
  have CC := fun W => clean_any tgt hto W
  have HLK := Lib.hid (linked_get g tgt)
  have hcl := clean_len tgt
  have HG0 := Lib.hid h
  have hBw := rowC_lt h.row
  generalize (cleanL tgt).2 = CE at *
  generalize (cleanL tgt).1 = CP at *
  obtain ⟨W0, hW0⟩ : ∃ W0, W0 = w.alloc (.cells (ndA nd0) 41) := ⟨_, rfl⟩
  have HW0 := Lib.hid hW0
  have HB0 : Hid (Below w.heap.size w W0) := Lib.hid (by rw [hW0]; exact (Below.refl _ _).alloc (Nat.le_refl _) _)
  have HR0 : Hid (rowC W0 w.heap.size (ndA nd0) 41) := Lib.hid (by rw [hW0]; exact rowC_new w _ _)
  clear hW0 h
  go_enter Tryz.func64, Tryz.ntmps64
  go_upto_region 1 with (fail)
  rw [show w.alloc (Obj.cells #[Value.string ⟨#[]⟩, Value.int .i64 0, Value.int .i64 0, Value.string ⟨#[]⟩] 41) = W0 from HW0.out.symm]
  by_cases hce : CE = 0
  · subst hce
    go_upto_region 4 with (go_at_call 35; ((with_reducible refine (CC _).mono ?_); rintro e w1 ⟨rfl, hB1⟩; have HB1 := Lib.hid (HB0.out.trans (hB1.mono HB0.out.size)); have HR1 := Lib.hid (rowC_below HR0.out hB1 (rowC_lt HR0.out)); have HG1 := Lib.hid (HG0.out.below HB1.out); clear hB1))
    have c0 : w1.cell? ⟨B, 0, none⟩ = some (.map (some M)) := rowC_cell HG1.out.row 0
    have hrun := HG1.out.map.get CP (by unfold maxLen; omega)
    have hf := field_pl (getG g CP)
    have HL2 : Hid (linkedG g tgt = if (getG g CP).nd.kind = 1 then ((getG g CP).nd, 0) else (nd0, 4)) := Lib.hid (by rw [HLK.out, if_pos (by trivial)])
    clear HLK
    generalize hq : getG g CP = q at *
    clear hq
    have hone := Lib.hid (ndA_one q.nd)
    go_upto_region 5 with (first
      | ((with_reducible show wpList _ _ _ (⟨none, .store _ (.tmp 4) _, _, _, _, _⟩ :: _) _ _); refine wpList_store_row rfl 41 _ _ rfl w.heap.size (ndA q.nd) rfl rfl 41 (ndA nd0) HR1.out HI.out rfl hone.out ?_))
    obtain ⟨W2, hW2⟩ : ∃ W2, W2 = w1.setRow w.heap.size (ndA q.nd) := ⟨_, rfl⟩
    have HR2 : Hid (rowC W2 w.heap.size (ndA q.nd) 41) := Lib.hid (by rw [hW2]; exact rowC_setRow HR1.out _)
    have HB2 : Hid (Below w.heap.size w W2) := Lib.hid (by rw [hW2]; exact below_setRow HB1.out (Nat.le_refl _) _)
    rw [← hW2]
    clear hW2 HR1 HB1 HG1 c0 hrun hf
    have c1 : W2.cell? ⟨w.heap.size, 1, none⟩ = some (.int .i64 q.nd.kind) := rowC_cell HR2.out 1
    by_cases hk : q.nd.kind = 1
    · have HL3 := Lib.hid (HL2.out.trans (if_pos hk))
      rw [hk] at c1
      clear HL2 hk
      go_wp2_with (first
        | ((with_reducible show wpList _ _ _ (⟨some 27, .load _ (.tmp 4), _, _, _, _⟩ :: _) _ _); refine wpList_load_row rfl 41 _ rfl w.heap.size rfl 41 (ndA q.nd) (0, 0) _ HR2.out Tryz.underlying41 rfl HI.out ?_)
        | ((with_reducible show wpList _ _ _ (⟨none, .store _ (.tmp 4) _, _, _, _, _⟩ :: _) _ _); refine wpList_store_row rfl 41 _ _ rfl w.heap.size (ndA q.nd) rfl rfl 41 (ndA q.nd) HR2.out HI.out rfl hone.out ?_))
      exact bodyPost_ret (results_row_tmp rfl _ _ w.heap.size 41 (ndA q.nd) _ rfl (rowC_setRow HR2.out _) Tryz.underlying41 rfl HI.out (.int .i64 0) rfl) rfl ⟨by rw [HL3.out], below_setRow HB2.out (Nat.le_refl _) _⟩
    · have HL3 := Lib.hid (HL2.out.trans (if_neg hk))
      have g1 : (q.nd.kind != 1) = true := by rw [bne_iff_ne]; exact hk
      clear HL2 hk
      have hone0 := Lib.hid (ndA_one nd0)
      go_wp2_with (first
        | ((with_reducible show wpList _ _ _ (⟨none, .store _ (.tmp 4) _, _, _, _, _⟩ :: _) _ _); refine wpList_store_row rfl 41 _ _ rfl w.heap.size (ndA nd0) rfl rfl 41 (ndA q.nd) HR2.out HI.out rfl hone0.out ?_))
      exact bodyPost_ret (results_row_tmp rfl _ _ w.heap.size 41 (ndA nd0) _ rfl (rowC_setRow HR2.out _) Tryz.underlying41 rfl HI.out (.int .i64 4) rfl) rfl ⟨by rw [HL3.out], below_setRow HB2.out (Nat.le_refl _) _⟩
  · have HL3 := Lib.hid (HLK.out.trans (if_neg hce))
    have g1 : (CE != 0) = true := by rw [bne_iff_ne]; exact hce
    have hone0 := Lib.hid (ndA_one nd0)
    clear HLK hce
    go_wp2_with (first
      | (go_at_call 35; ((with_reducible refine (CC _).mono ?_); rintro e w1 ⟨rfl, hB1⟩; have HB1 := Lib.hid (HB0.out.trans (hB1.mono HB0.out.size)); have HR1 := Lib.hid (rowC_below HR0.out hB1 (rowC_lt HR0.out)); clear hB1))
      | ((with_reducible show wpList _ _ _ (⟨none, .store _ (.tmp 4) _, _, _, _, _⟩ :: _) _ _); refine wpList_store_row rfl 41 _ _ rfl w.heap.size (ndA nd0) rfl rfl 41 (ndA nd0) HR1.out HI.out rfl hone0.out ?_))
    exact bodyPost_ret (results_row_tmp rfl _ _ w.heap.size 41 (ndA nd0) _ rfl (rowC_setRow HR1.out _) Tryz.underlying41 rfl HI.out (.int .i64 CE) rfl) rfl ⟨by rw [HL3.out], below_setRow HB1.out (Nat.le_refl _) _⟩
end Go.Proofs.YtbjgmkjinnbokaaGreatDoor
#print axioms Go.Proofs.YtbjgmkjinnbokaaGreatDoor.linked_any

/- Layer 16: the program's nodeOf. -/
namespace Go.Proofs.YtbjgmkjinnbokaaGreatDoor
open Go.RowKit

theorem nodeG_link {g : List Pl} {x : En} {p : List UInt8} (h : x.kind = 3) (h0 : (linkedG g x.to).2 = 0) : nodeG g x p = if mayN ⟨p, (linkedG g x.to).1.kind, (linkedG g x.to).1.mode, (linkedG g x.to).1.data⟩ then (⟨p, (linkedG g x.to).1.kind, (linkedG g x.to).1.mode, (linkedG g x.to).1.data⟩, 0) else (nd0, 2) := by
  unfold nodeG
  rw [if_pos h, if_pos h0]
  rfl
theorem nodeG_lost {g : List Pl} {x : En} {p : List UInt8} (h : x.kind = 3) (h0 : (linkedG g x.to).2 ≠ 0) : nodeG g x p = (nd0, (linkedG g x.to).2) := by
  unfold nodeG
  rw [if_pos h, if_neg h0]
  rfl
theorem nodeG_file {g : List Pl} {x : En} {p : List UInt8} (h : x.kind = 1) : nodeG g x p = if mayN ⟨p, x.kind, x.mode, x.data⟩ then (⟨p, x.kind, x.mode, x.data⟩, 0) else (nd0, 2) := by
  unfold nodeG
  rw [if_neg (by omega), if_pos h]
  rfl
theorem nodeG_sym {g : List Pl} {x : En} {p : List UInt8} (h : x.kind = 4) : nodeG g x p = if mayN ⟨p, x.kind, x.mode, x.to⟩ then (⟨p, x.kind, x.mode, x.to⟩, 0) else (nd0, 2) := by
  unfold nodeG
  rw [h]
  rfl
theorem nodeG_other {g : List Pl} {x : En} {p : List UInt8} (h1 : x.kind ≠ 1) (h3 : x.kind ≠ 3) (h4 : x.kind ≠ 4) : nodeG g x p = if mayN ⟨p, x.kind, x.mode, []⟩ then (⟨p, x.kind, x.mode, []⟩, 0) else (nd0, 2) := by
  unfold nodeG
  rw [if_neg h3, if_neg h1, if_neg h4]
  rfl
set_option maxRecDepth 100000 in
set_option maxHeartbeats 32000000 in
theorem nodeOf_any (x : En) (p : List UInt8) (hp : p.length ≤ 900000) (ht : x.to.length ≤ 900000) (B M : Nat) (g : List Pl) (k : Int) (w : World) (h : GrAt w B M g k) :
    Calls Tryz.prog 44 #[.pointer (some ⟨B, 0, none⟩), .agg #[.int .i64 x.kind, .string (str x.name), .string (str x.to), .int .i64 x.mode, .string (str x.data)], .string (str p)] w fun e w' => e = .returned (.tuple #[.agg (ndA (nodeG g x p).1), .int .i64 (nodeG g x p).2]) ∧ Below w.heap.size w w' := by
  have HI := Lib.hid info_nd4
  have HG0 := Lib.hid h
  have hBw := rowC_lt h.row
  have hone0 := Lib.hid (ndA_one nd0)
  obtain ⟨W0, hW0⟩ : ∃ W0, W0 = (w.alloc (.cells #[.int .i64 x.kind, .string (str x.name), .string (str x.to), .int .i64 x.mode, .string (str x.data)] 38)).alloc (.cells #[.string ⟨#[]⟩, .int .i64 0, .int .i64 0, .string ⟨#[]⟩] 41) := ⟨_, rfl⟩
  have HW0 := Lib.hid hW0
  have HB0 : Hid (Below w.heap.size w W0) := Lib.hid (by rw [hW0]; exact ((Below.refl _ _).alloc (Nat.le_refl _) _).alloc (by rw [size_alloc]; omega) _)
  have HZ0 : Hid (rowC W0 w.heap.size (enA x) 38) := Lib.hid (by rw [hW0]; exact rowC_alloc (rowC_new w _ _) _)
  have HY0 : Hid (rowC W0 (w.heap.size + 1) (ndA nd0) 41) := Lib.hid (by
    rw [hW0]
    have := rowC_new (w.alloc (.cells #[.int .i64 x.kind, .string (str x.name), .string (str x.to), .int .i64 x.mode, .string (str x.data)] 38)) (ndA nd0) 41
    rwa [size_alloc] at this)
  clear hW0 h
  have e0 : W0.cell? ⟨w.heap.size, 0, none⟩ = some (.int .i64 x.kind) := rowC_cell HZ0.out 0
  have e3 : W0.cell? ⟨w.heap.size, 3, none⟩ = some (.int .i64 x.mode) := rowC_cell HZ0.out 3
  have hone1 := Lib.hid (ndA_one ⟨p, x.kind, x.mode, []⟩)
  go_enter Tryz.func44, Tryz.ntmps44
  go_upto_region 1 with (fail)
  rw [← HW0.out]
  go_upto_region 2 with (first
    | ((with_reducible show wpList _ _ _ (⟨none, .store _ (.tmp 6) _, _, _, _, _⟩ :: _) _ _); refine wpList_store_row rfl 41 _ _ rfl (w.heap.size + 1) (ndA ⟨p, x.kind, x.mode, []⟩) rfl rfl 41 (ndA nd0) HY0.out HI.out rfl hone1.out ?_))
  obtain ⟨W1, hW1⟩ : ∃ W1, W1 = W0.setRow (w.heap.size + 1) (ndA ⟨p, x.kind, x.mode, []⟩) := ⟨_, rfl⟩
  have HY1 : Hid (rowC W1 (w.heap.size + 1) (ndA ⟨p, x.kind, x.mode, []⟩) 41) := Lib.hid (by rw [hW1]; exact rowC_setRow HY0.out _)
  have HZ1 : Hid (rowC W1 w.heap.size (enA x) 38) := Lib.hid (by rw [hW1]; exact rowC_setRow_other HZ0.out _ _ (by omega))
  have HB1 : Hid (Below w.heap.size w W1) := Lib.hid (by rw [hW1]; exact below_setRow HB0.out (by omega) _)
  try simp only [Act.put]
  rw [← hW1]
  clear hW1 HY0 HZ0 HB0 HW0 hone1 e0 e3
  have d0 : W1.cell? ⟨w.heap.size, 0, none⟩ = some (.int .i64 x.kind) := rowC_cell HZ1.out 0
  have d2 : W1.cell? ⟨w.heap.size, 2, none⟩ = some (.string (str x.to)) := rowC_cell HZ1.out 2
  have d4 : W1.cell? ⟨w.heap.size, 4, none⟩ = some (.string (str x.data)) := rowC_cell HZ1.out 4
  have y3 : W1.cell? ⟨w.heap.size + 1, 3, none⟩ = some (.string ⟨#[]⟩) := rowC_cell HY1.out 3
  have y3f := rowC_free HY1.out 3
  by_cases k1 : x.kind = 1
  · have HFIN := Lib.hid (nodeG_file (g := g) (p := p) k1)
    have HR6 : Hid (rowC (W1.setCell ⟨w.heap.size + 1, 3, none⟩ (.string (str x.data))) (w.heap.size + 1) (ndA ⟨p, x.kind, x.mode, x.data⟩) 41) := Lib.hid (rowC_set HY1.out 3 (.string (str x.data)))
    have HBt : Hid (Below w.heap.size w (W1.setCell ⟨w.heap.size + 1, 3, none⟩ (.string (str x.data)))) := Lib.hid (HB1.out.setCell (p := ⟨w.heap.size + 1, 3, none⟩) (by show _ ≤ w.heap.size + 1; omega) _)
    have g3 : (x.kind == 3) = false := by rw [beq_eq_false_iff_ne]; omega
    have g1 : (x.kind == 1) = true := by rw [beq_iff_eq]; exact k1
    clear k1 HY1 HZ1 HB1
    obtain ⟨cd, hcd⟩ : ∃ cd : Nd, cd = ⟨p, x.kind, x.mode, x.data⟩ := ⟨_, rfl⟩
    rw [← hcd] at HR6 HFIN
    have hcdp : cd.path.length ≤ 900000 := by rw [hcd]; exact hp
    have CMB := fun W => mayN_any cd hcdp W
    clear hcd hcdp
    have hone := Lib.hid (ndA_one cd)
    go_upto_region 12 with (fail)
    cases hm : mayN cd with
    | false =>
      have HF2 := Lib.hid (HFIN.out.trans (if_neg (by rw [hm]; decide)))
      rw [hm] at CMB
      clear HFIN hm
      go_wp2_with (first
        | ((with_reducible show wpList _ _ _ (⟨some 50, .load _ _, _, _, _, _⟩ :: _) _ _); refine wpList_load_row rfl 41 _ rfl (w.heap.size + 1) rfl 41 (ndA cd) (0, 0) _ HR6.out Tryz.underlying41 rfl HI.out ?_)
        | (go_at_call 23; (refine (CMB _).mono ?_; rintro e w8 ⟨rfl, hB8⟩; have HB8 := Lib.hid (HBt.out.trans (hB8.mono HBt.out.size)); have HR8 := Lib.hid (rowC_below HR6.out hB8 (rowC_lt HR6.out)); clear hB8))
        | ((with_reducible show wpList _ _ _ (⟨none, .store _ (.tmp 6) _, _, _, _, _⟩ :: _) _ _); refine wpList_store_row rfl 41 _ _ rfl (w.heap.size + 1) (ndA nd0) rfl rfl 41 (ndA cd) HR8.out HI.out rfl hone0.out ?_))
      exact bodyPost_ret (results_row_tmp rfl _ _ (w.heap.size + 1) 41 (ndA nd0) _ rfl (rowC_setRow HR8.out _) Tryz.underlying41 rfl HI.out (.int .i64 2) rfl) rfl ⟨by rw [HF2.out], below_setRow HB8.out (by omega) _⟩
    | true =>
      have HF2 := Lib.hid (HFIN.out.trans (if_pos hm))
      rw [hm] at CMB
      clear HFIN hm
      go_wp2_with (first
        | ((with_reducible show wpList _ _ _ (⟨some 50, .load _ _, _, _, _, _⟩ :: _) _ _); refine wpList_load_row rfl 41 _ rfl (w.heap.size + 1) rfl 41 (ndA cd) (0, 0) _ HR6.out Tryz.underlying41 rfl HI.out ?_)
        | (go_at_call 23; (refine (CMB _).mono ?_; rintro e w8 ⟨rfl, hB8⟩; have HB8 := Lib.hid (HBt.out.trans (hB8.mono HBt.out.size)); have HR8 := Lib.hid (rowC_below HR6.out hB8 (rowC_lt HR6.out)); clear hB8))
        | ((with_reducible show wpList _ _ _ (⟨some 54, .load _ _, _, _, _, _⟩ :: _) _ _); refine wpList_load_row rfl 41 _ rfl (w.heap.size + 1) rfl 41 (ndA cd) (0, 0) _ HR8.out Tryz.underlying41 rfl HI.out ?_)
        | ((with_reducible show wpList _ _ _ (⟨none, .store _ (.tmp 6) _, _, _, _, _⟩ :: _) _ _); refine wpList_store_row rfl 41 _ _ rfl (w.heap.size + 1) (ndA cd) rfl rfl 41 (ndA cd) HR8.out HI.out rfl hone.out ?_))
      exact bodyPost_ret (results_row_tmp rfl _ _ (w.heap.size + 1) 41 (ndA cd) _ rfl (rowC_setRow HR8.out _) Tryz.underlying41 rfl HI.out (.int .i64 0) rfl) rfl ⟨by rw [HF2.out], below_setRow HB8.out (by omega) _⟩
  by_cases k4 : x.kind = 4
  · have HFIN := Lib.hid (nodeG_sym (g := g) (p := p) k4)
    have HR6 : Hid (rowC (W1.setCell ⟨w.heap.size + 1, 3, none⟩ (.string (str x.to))) (w.heap.size + 1) (ndA ⟨p, x.kind, x.mode, x.to⟩) 41) := Lib.hid (rowC_set HY1.out 3 (.string (str x.to)))
    have HBt : Hid (Below w.heap.size w (W1.setCell ⟨w.heap.size + 1, 3, none⟩ (.string (str x.to)))) := Lib.hid (HB1.out.setCell (p := ⟨w.heap.size + 1, 3, none⟩) (by show _ ≤ w.heap.size + 1; omega) _)
    have g3 : (x.kind == 3) = false := by rw [beq_eq_false_iff_ne]; omega
    have g1 : (x.kind == 1) = false := by rw [beq_eq_false_iff_ne]; exact k1
    have g4 : (x.kind == 4) = true := by rw [beq_iff_eq]; exact k4
    clear k1 k4 HY1 HZ1 HB1
    obtain ⟨cd, hcd⟩ : ∃ cd : Nd, cd = ⟨p, x.kind, x.mode, x.to⟩ := ⟨_, rfl⟩
    rw [← hcd] at HR6 HFIN
    have hcdp : cd.path.length ≤ 900000 := by rw [hcd]; exact hp
    have CMB := fun W => mayN_any cd hcdp W
    clear hcd hcdp
    have hone := Lib.hid (ndA_one cd)
    go_upto_region 12 with (fail)
    cases hm : mayN cd with
    | false =>
      have HF2 := Lib.hid (HFIN.out.trans (if_neg (by rw [hm]; decide)))
      rw [hm] at CMB
      clear HFIN hm
      go_wp2_with (first
        | ((with_reducible show wpList _ _ _ (⟨some 50, .load _ _, _, _, _, _⟩ :: _) _ _); refine wpList_load_row rfl 41 _ rfl (w.heap.size + 1) rfl 41 (ndA cd) (0, 0) _ HR6.out Tryz.underlying41 rfl HI.out ?_)
        | (go_at_call 23; (refine (CMB _).mono ?_; rintro e w8 ⟨rfl, hB8⟩; have HB8 := Lib.hid (HBt.out.trans (hB8.mono HBt.out.size)); have HR8 := Lib.hid (rowC_below HR6.out hB8 (rowC_lt HR6.out)); clear hB8))
        | ((with_reducible show wpList _ _ _ (⟨none, .store _ (.tmp 6) _, _, _, _, _⟩ :: _) _ _); refine wpList_store_row rfl 41 _ _ rfl (w.heap.size + 1) (ndA nd0) rfl rfl 41 (ndA cd) HR8.out HI.out rfl hone0.out ?_))
      exact bodyPost_ret (results_row_tmp rfl _ _ (w.heap.size + 1) 41 (ndA nd0) _ rfl (rowC_setRow HR8.out _) Tryz.underlying41 rfl HI.out (.int .i64 2) rfl) rfl ⟨by rw [HF2.out], below_setRow HB8.out (by omega) _⟩
    | true =>
      have HF2 := Lib.hid (HFIN.out.trans (if_pos hm))
      rw [hm] at CMB
      clear HFIN hm
      go_wp2_with (first
        | ((with_reducible show wpList _ _ _ (⟨some 50, .load _ _, _, _, _, _⟩ :: _) _ _); refine wpList_load_row rfl 41 _ rfl (w.heap.size + 1) rfl 41 (ndA cd) (0, 0) _ HR6.out Tryz.underlying41 rfl HI.out ?_)
        | (go_at_call 23; (refine (CMB _).mono ?_; rintro e w8 ⟨rfl, hB8⟩; have HB8 := Lib.hid (HBt.out.trans (hB8.mono HBt.out.size)); have HR8 := Lib.hid (rowC_below HR6.out hB8 (rowC_lt HR6.out)); clear hB8))
        | ((with_reducible show wpList _ _ _ (⟨some 54, .load _ _, _, _, _, _⟩ :: _) _ _); refine wpList_load_row rfl 41 _ rfl (w.heap.size + 1) rfl 41 (ndA cd) (0, 0) _ HR8.out Tryz.underlying41 rfl HI.out ?_)
        | ((with_reducible show wpList _ _ _ (⟨none, .store _ (.tmp 6) _, _, _, _, _⟩ :: _) _ _); refine wpList_store_row rfl 41 _ _ rfl (w.heap.size + 1) (ndA cd) rfl rfl 41 (ndA cd) HR8.out HI.out rfl hone.out ?_))
      exact bodyPost_ret (results_row_tmp rfl _ _ (w.heap.size + 1) 41 (ndA cd) _ rfl (rowC_setRow HR8.out _) Tryz.underlying41 rfl HI.out (.int .i64 0) rfl) rfl ⟨by rw [HF2.out], below_setRow HB8.out (by omega) _⟩
  by_cases k3 : x.kind = 3
  rotate_left
  · have HFIN := Lib.hid (nodeG_other (g := g) (p := p) k1 k3 k4)
    have HR6 := HY1
    have HBt := HB1
    have g3 : (x.kind == 3) = false := by rw [beq_eq_false_iff_ne]; exact k3
    have g1 : (x.kind == 1) = false := by rw [beq_eq_false_iff_ne]; exact k1
    have g4 : (x.kind == 4) = false := by rw [beq_eq_false_iff_ne]; exact k4
    clear k1 k4 k3 HZ1 HY1 HB1
    obtain ⟨cd, hcd⟩ : ∃ cd : Nd, cd = ⟨p, x.kind, x.mode, []⟩ := ⟨_, rfl⟩
    rw [← hcd] at HR6 HFIN
    have hcdp : cd.path.length ≤ 900000 := by rw [hcd]; exact hp
    have CMB := fun W => mayN_any cd hcdp W
    clear hcd hcdp
    have hone := Lib.hid (ndA_one cd)
    go_upto_region 12 with (fail)
    cases hm : mayN cd with
    | false =>
      have HF2 := Lib.hid (HFIN.out.trans (if_neg (by rw [hm]; decide)))
      rw [hm] at CMB
      clear HFIN hm
      go_wp2_with (first
        | ((with_reducible show wpList _ _ _ (⟨some 50, .load _ _, _, _, _, _⟩ :: _) _ _); refine wpList_load_row rfl 41 _ rfl (w.heap.size + 1) rfl 41 (ndA cd) (0, 0) _ HR6.out Tryz.underlying41 rfl HI.out ?_)
        | (go_at_call 23; (refine (CMB _).mono ?_; rintro e w8 ⟨rfl, hB8⟩; have HB8 := Lib.hid (HBt.out.trans (hB8.mono HBt.out.size)); have HR8 := Lib.hid (rowC_below HR6.out hB8 (rowC_lt HR6.out)); clear hB8))
        | ((with_reducible show wpList _ _ _ (⟨none, .store _ (.tmp 6) _, _, _, _, _⟩ :: _) _ _); refine wpList_store_row rfl 41 _ _ rfl (w.heap.size + 1) (ndA nd0) rfl rfl 41 (ndA cd) HR8.out HI.out rfl hone0.out ?_))
      exact bodyPost_ret (results_row_tmp rfl _ _ (w.heap.size + 1) 41 (ndA nd0) _ rfl (rowC_setRow HR8.out _) Tryz.underlying41 rfl HI.out (.int .i64 2) rfl) rfl ⟨by rw [HF2.out], below_setRow HB8.out (by omega) _⟩
    | true =>
      have HF2 := Lib.hid (HFIN.out.trans (if_pos hm))
      rw [hm] at CMB
      clear HFIN hm
      go_wp2_with (first
        | ((with_reducible show wpList _ _ _ (⟨some 50, .load _ _, _, _, _, _⟩ :: _) _ _); refine wpList_load_row rfl 41 _ rfl (w.heap.size + 1) rfl 41 (ndA cd) (0, 0) _ HR6.out Tryz.underlying41 rfl HI.out ?_)
        | (go_at_call 23; (refine (CMB _).mono ?_; rintro e w8 ⟨rfl, hB8⟩; have HB8 := Lib.hid (HBt.out.trans (hB8.mono HBt.out.size)); have HR8 := Lib.hid (rowC_below HR6.out hB8 (rowC_lt HR6.out)); clear hB8))
        | ((with_reducible show wpList _ _ _ (⟨some 54, .load _ _, _, _, _, _⟩ :: _) _ _); refine wpList_load_row rfl 41 _ rfl (w.heap.size + 1) rfl 41 (ndA cd) (0, 0) _ HR8.out Tryz.underlying41 rfl HI.out ?_)
        | ((with_reducible show wpList _ _ _ (⟨none, .store _ (.tmp 6) _, _, _, _, _⟩ :: _) _ _); refine wpList_store_row rfl 41 _ _ rfl (w.heap.size + 1) (ndA cd) rfl rfl 41 (ndA cd) HR8.out HI.out rfl hone.out ?_))
      exact bodyPost_ret (results_row_tmp rfl _ _ (w.heap.size + 1) 41 (ndA cd) _ rfl (rowC_setRow HR8.out _) Tryz.underlying41 rfl HI.out (.int .i64 0) rfl) rfl ⟨by rw [HF2.out], below_setRow HB8.out (by omega) _⟩
  have HLK := Lib.hid (fun (h : (linkedG g x.to).2 = 0) => nodeG_link (g := g) (p := p) k3 h)
  have HLO := Lib.hid (fun (h : (linkedG g x.to).2 ≠ 0) => nodeG_lost (g := g) (p := p) k3 h)
  have CL := fun W (hW : GrAt W B M g k) => linked_any x.to ht B M g k W hW
  have HG1 : Hid (GrAt W1 B M g k) := Lib.hid (HG0.out.below HB1.out)
  have g3 : (x.kind == 3) = true := by rw [beq_iff_eq]; exact k3
  clear k1 k4 k3 y3 y3f d4
  obtain ⟨ce, hce⟩ : ∃ ce, ce = (linkedG g x.to).2 := ⟨_, rfl⟩
  rw [← hce] at HLK HLO CL
  obtain ⟨m, hm⟩ : ∃ m, m = (linkedG g x.to).1 := ⟨_, rfl⟩
  rw [← hm] at HLK CL
  clear hce hm
  by_cases hc0 : ce = 0
  rotate_left
  · have HFIN := Lib.hid (HLO.out hc0)
    have g5 : (ce != 0) = true := by rw [bne_iff_ne]; exact hc0
    have honem := Lib.hid (ndA_one m)
    clear HLK HLO hc0
    go_wp2_with (first
      | (go_at_call 64; (refine (CL _ HG1.out).mono ?_; rintro e w5 ⟨rfl, hB5⟩; have HB5 := Lib.hid (HB1.out.trans (hB5.mono HB1.out.size)); have HY5 := Lib.hid (rowC_below HY1.out hB5 (rowC_lt HY1.out)); have HB6 : Hid (Below w.heap.size w (w5.alloc (.cells (ndA m) 41))) := Lib.hid (HB5.out.alloc HB5.out.size _); have HY6 : Hid (rowC (w5.alloc (.cells (ndA m) 41)) (w.heap.size + 1) (ndA ⟨p, x.kind, x.mode, []⟩) 41) := Lib.hid (rowC_alloc HY5.out _); clear hB5))
      | ((with_reducible show wpList _ _ _ (⟨none, .store _ (.tmp 8) _, _, _, _, _⟩ :: _) _ _); refine wpList_store_last rfl 41 _ _ rfl w5.heap.size (ndA m) rfl rfl 41 _ rfl HI.out rfl honem.out ?_)
      | ((with_reducible show wpList _ _ _ (⟨none, .store _ (.tmp 6) _, _, _, _, _⟩ :: _) _ _); refine wpList_store_row rfl 41 _ _ rfl (w.heap.size + 1) (ndA nd0) rfl rfl 41 (ndA ⟨p, x.kind, x.mode, []⟩) HY6.out HI.out rfl hone0.out ?_))
    exact bodyPost_ret (results_row_tmp rfl _ _ (w.heap.size + 1) 41 (ndA nd0) _ rfl (rowC_setRow HY6.out _) Tryz.underlying41 rfl HI.out (.int .i64 ce) rfl) rfl ⟨by rw [HFIN.out], below_setRow HB6.out (by omega) _⟩
  · have HFIN := Lib.hid (HLK.out hc0)
    subst hc0
    have honem := Lib.hid (ndA_one m)
    clear HLK HLO
    go_upto_region 9 with (first
      | (go_at_call 64; (refine (CL _ HG1.out).mono ?_; rintro e w5 ⟨rfl, hB5⟩; have HB5 := Lib.hid (HB1.out.trans (hB5.mono HB1.out.size)); have HY5 := Lib.hid (rowC_below HY1.out hB5 (rowC_lt HY1.out)); have HZ5 := Lib.hid (rowC_below HZ1.out hB5 (rowC_lt HZ1.out)); clear hB5))
      | ((with_reducible show wpList _ _ _ (⟨none, .store _ (.tmp 8) _, _, _, _, _⟩ :: _) _ _); refine wpList_store_last rfl 41 _ _ rfl w5.heap.size (ndA m) rfl rfl 41 _ rfl HI.out rfl honem.out ?_))
    obtain ⟨W6, hW6⟩ : ∃ W6, W6 = w5.alloc (.cells (ndA m) 41) := ⟨_, rfl⟩
    have HX6 : Hid (rowC W6 w5.heap.size (ndA m) 41) := Lib.hid (by rw [hW6]; exact rowC_new w5 _ _)
    have HY6 : Hid (rowC W6 (w.heap.size + 1) (ndA ⟨p, x.kind, x.mode, []⟩) 41) := Lib.hid (by rw [hW6]; exact rowC_alloc HY5.out _)
    have HZ6' : Hid (rowC W6 w.heap.size (enA x) 38) := Lib.hid (by rw [hW6]; exact rowC_alloc HZ5.out _)
    have HB6 : Hid (Below w.heap.size w W6) := Lib.hid (by rw [hW6]; exact HB5.out.alloc HB5.out.size _)
    have hlt5 := rowC_lt HY5.out
    rw [← hW6]
    clear hW6 HY1 HZ1 HB1 HY5 HZ5 d0 d2 HG1
    generalize w5.heap.size = b8 at *
    have OS : ∀ w', Gn W6 (fun j => j = w.heap.size ∨ j = w.heap.size + 1) w' → w'.cell? ⟨b8, 3, none⟩ = some (.string (str m.data)) ∧ w'.cell? ⟨b8, 1, none⟩ = some (.int .i64 m.kind) ∧ w'.cell? ⟨b8, 2, none⟩ = some (.int .i64 m.mode) := fun w' hg =>
      ⟨rowC_cell (hg.row HX6.out (by omega)) 3, rowC_cell (hg.row HX6.out (by omega)) 1, rowC_cell (hg.row HX6.out (by omega)) 2⟩
    have SO : ∀ w', Gn W6 (fun j => j = w.heap.size ∨ j = w.heap.size + 1) w' → Gn W6 (fun j => j = w.heap.size ∨ j = w.heap.size + 1) w' := fun _ h => h
    refine wp_region_noPanic ?_
    refine wp_region_held_drew (S := Gn W6 (fun j => j = w.heap.size ∨ j = w.heap.size + 1)) (by kernel_rfl) (Gn.start _ _) (fun hHeld => ?_)
    have HZ4 : Hid (rowC W6.drew w.heap.size (enA x) 38) := HZ6'
    have HZ6 : Hid (rowC W6.drew (w.heap.size + 1) (ndA ⟨p, x.kind, x.mode, []⟩) 41) := HY6
    generalize W6.drew = wd at *
    refine wpAnyH_take (i := 0) (oi := { dst := some 35, op := Op.fieldAddr 41 (Operand.tmp 8) 3, type := 0, pos := "trees.go:304", after := #[], guard := none }) (v := ?_) rfl (by kernel_rfl) (by kernel_rfl) (by kernel_rfl) (fun _ _ _ h => h) (Or.inl ⟨by rfl, ?_⟩) (by assumption) ?_
    rotate_left
    · intro w hSw
      skip
      clear hSw
      go_simp
      try with_reducible rfl
    try simp only [Act.put, List.setIfInBounds_toArray, List.set_cons_zero, List.set_cons_succ]
    refine wpAnyH_take (i := 2) (oi := { dst := some 37, op := Op.fieldAddr 41 (Operand.tmp 8) 1, type := 0, pos := "trees.go:304", after := #[{ on := 7, ground := Ground.gcOnly Departure.lateStores }], guard := none }) (v := ?_) rfl (by kernel_rfl) (by kernel_rfl) (by kernel_rfl) (fun _ _ _ h => h) (Or.inl ⟨by rfl, ?_⟩) (by assumption) ?_
    rotate_left
    · intro w hSw
      skip
      clear hSw
      go_simp
      try with_reducible rfl
    try simp only [Act.put, List.setIfInBounds_toArray, List.set_cons_zero, List.set_cons_succ]
    refine wpAnyH_take (i := 4) (oi := { dst := some 39, op := Op.fieldAddr 41 (Operand.tmp 8) 2, type := 0, pos := "trees.go:304", after := #[{ on := 9, ground := Ground.gcOnly Departure.lateStores }], guard := none }) (v := ?_) rfl (by kernel_rfl) (by kernel_rfl) (by kernel_rfl) (fun _ _ _ h => h) (Or.inl ⟨by rfl, ?_⟩) (by assumption) ?_
    rotate_left
    · intro w hSw
      skip
      clear hSw
      go_simp
      try with_reducible rfl
    try simp only [Act.put, List.setIfInBounds_toArray, List.set_cons_zero, List.set_cons_succ]
    refine wpAnyH_take (i := 1) (oi := { dst := some 36, op := Op.load 9 (Operand.tmp 35), type := 9, pos := "trees.go:304", after := #[{ on := 0, ground := Ground.data }], guard := none }) (v := ?_) rfl (by kernel_rfl) (by kernel_rfl) (by kernel_rfl) (fun _ _ _ h => h) (Or.inl ⟨by rfl, ?_⟩) (by assumption) ?_
    rotate_left
    · intro w hSw
      have hSw := OS _ hSw
      go_simp
      try with_reducible rfl
    try simp only [Act.put, List.setIfInBounds_toArray, List.set_cons_zero, List.set_cons_succ]
    refine wpAnyH_take (i := 6) (oi := { dst := some 41, op := Op.fieldAddr 38 (Operand.tmp 4) 4, type := 0, pos := "trees.go:304", after := #[{ on := 0, ground := Ground.phase }, { on := 1, ground := Ground.phase }, { on := 2, ground := Ground.textOnly Departure.lateStores }, { on := 3, ground := Ground.textOnly Departure.lateStores }, { on := 4, ground := Ground.textOnly Departure.lateStores }, { on := 5, ground := Ground.textOnly Departure.lateStores }], guard := none }) (v := ?_) rfl (by kernel_rfl) (by kernel_rfl) (by kernel_rfl) (fun _ _ _ h => h) (Or.inl ⟨by rfl, ?_⟩) (by assumption) ?_
    rotate_left
    · intro w hSw
      skip
      clear hSw
      go_simp
      try with_reducible rfl
    try simp only [Act.put, List.setIfInBounds_toArray, List.set_cons_zero, List.set_cons_succ]
    refine wpAnyH_take (i := 3) (oi := { dst := some 38, op := Op.load 3 (Operand.tmp 37), type := 3, pos := "trees.go:304", after := #[{ on := 2, ground := Ground.data }, { on := 7, ground := Ground.gcOnly Departure.lateStores }], guard := none }) (v := ?_) rfl (by kernel_rfl) (by kernel_rfl) (by kernel_rfl) (fun _ _ _ h => h) (Or.inl ⟨by rfl, ?_⟩) (by assumption) ?_
    rotate_left
    · intro w hSw
      have hSw := OS _ hSw
      go_simp
      try with_reducible rfl
    try simp only [Act.put, List.setIfInBounds_toArray, List.set_cons_zero, List.set_cons_succ]
    refine wpAnyH_take (i := 5) (oi := { dst := some 40, op := Op.load 3 (Operand.tmp 39), type := 3, pos := "trees.go:304", after := #[{ on := 4, ground := Ground.data }, { on := 9, ground := Ground.gcOnly Departure.lateStores }], guard := none }) (v := ?_) rfl (by kernel_rfl) (by kernel_rfl) (by kernel_rfl) (fun _ _ _ h => h) (Or.inl ⟨by rfl, ?_⟩) (by assumption) ?_
    rotate_left
    · intro w hSw
      have hSw := OS _ hSw
      go_simp
      try with_reducible rfl
    try simp only [Act.put, List.setIfInBounds_toArray, List.set_cons_zero, List.set_cons_succ]
    refine wpAnyH_ready (rs := [7]) (by kernel_rfl) (by simp) ?_
    refine (AllReadyH.cons (o := { dst := none, op := Op.store 9 (Operand.tmp 41) (Operand.tmp 36), type := 0, pos := "trees.go:304", after := #[{ on := 6, ground := Ground.data }, { on := 1, ground := Ground.data }, { on := 0, ground := Ground.phase }, { on := 1, ground := Ground.phase }, { on := 2, ground := Ground.textOnly Departure.lateStores }, { on := 3, ground := Ground.textOnly Departure.lateStores }, { on := 4, ground := Ground.textOnly Departure.lateStores }, { on := 5, ground := Ground.textOnly Departure.lateStores }], guard := none }) rfl (fun K hK => ?_) AllReadyH.nil)
    have c7 : _ = some (Value.string (str x.data)) := rowC_cell HZ4.out 4
    have f7 := rowC_free HZ4.out 4
    go_simp
    refine hK.out _ _ (Gn.cell hHeld _ _ (.inl (.inl rfl))) (fun hHeld => ?_)
    clear hK K
    have HZ4 := Lib.hid (rowC_set HZ4.out 4 (.string (str m.data)))
    have HZ6 := Lib.hid (rowC_other HZ6.out ⟨w.heap.size, 4, none⟩ (.string (str m.data)) (by show w.heap.size + 1 ≠ w.heap.size; omega))
    clear c7 f7
    try simp only [Act.put, List.setIfInBounds_toArray, List.set_cons_zero, List.set_cons_succ]
    refine wpAnyH_take (i := 8) (oi := { dst := some 42, op := Op.fieldAddr 41 (Operand.tmp 6) 1, type := 0, pos := "trees.go:304", after := #[{ on := 0, ground := Ground.phase }, { on := 1, ground := Ground.phase }, { on := 2, ground := Ground.phase }, { on := 3, ground := Ground.phase }, { on := 4, ground := Ground.textOnly Departure.lateStores }, { on := 5, ground := Ground.textOnly Departure.lateStores }, { on := 6, ground := Ground.phase }, { on := 7, ground := Ground.phase }], guard := none }) (v := ?_) rfl (by kernel_rfl) (by kernel_rfl) (by kernel_rfl) (fun _ _ _ h => h) (Or.inl ⟨by rfl, ?_⟩) (by assumption) ?_
    rotate_left
    · intro w hSw
      skip
      clear hSw
      go_simp
      try with_reducible rfl
    try simp only [Act.put, List.setIfInBounds_toArray, List.set_cons_zero, List.set_cons_succ]
    refine wpAnyH_ready (rs := [9]) (by kernel_rfl) (by simp) ?_
    refine (AllReadyH.cons (o := { dst := none, op := Op.store 3 (Operand.tmp 42) (Operand.tmp 38), type := 0, pos := "trees.go:304", after := #[{ on := 8, ground := Ground.data }, { on := 3, ground := Ground.data }, { on := 7, ground := Ground.chain }, { on := 0, ground := Ground.phase }, { on := 1, ground := Ground.phase }, { on := 2, ground := Ground.phase }, { on := 3, ground := Ground.phase }, { on := 4, ground := Ground.textOnly Departure.lateStores }, { on := 5, ground := Ground.textOnly Departure.lateStores }, { on := 6, ground := Ground.phase }, { on := 7, ground := Ground.phase }], guard := none }) rfl (fun K hK => ?_) AllReadyH.nil)
    have c9 : _ = some (Value.int .i64 x.kind) := rowC_cell HZ6.out 1
    have f9 := rowC_free HZ6.out 1
    go_simp
    refine hK.out _ _ (Gn.cell hHeld _ _ (.inl (.inr rfl))) (fun hHeld => ?_)
    clear hK K
    have HZ4 := Lib.hid (rowC_other HZ4.out ⟨w.heap.size + 1, 1, none⟩ (.int .i64 m.kind) (by show w.heap.size ≠ w.heap.size + 1; omega))
    have HZ6 := Lib.hid (rowC_set HZ6.out 1 (.int .i64 m.kind))
    clear c9 f9
    try simp only [Act.put, List.setIfInBounds_toArray, List.set_cons_zero, List.set_cons_succ]
    refine wpAnyH_take (i := 10) (oi := { dst := some 43, op := Op.fieldAddr 41 (Operand.tmp 6) 2, type := 0, pos := "trees.go:304", after := #[{ on := 0, ground := Ground.phase }, { on := 1, ground := Ground.phase }, { on := 2, ground := Ground.phase }, { on := 3, ground := Ground.phase }, { on := 4, ground := Ground.phase }, { on := 5, ground := Ground.phase }, { on := 6, ground := Ground.phase }, { on := 7, ground := Ground.phase }, { on := 8, ground := Ground.phase }, { on := 9, ground := Ground.phase }], guard := none }) (v := ?_) rfl (by kernel_rfl) (by kernel_rfl) (by kernel_rfl) (fun _ _ _ h => h) (Or.inl ⟨by rfl, ?_⟩) (by assumption) ?_
    rotate_left
    · intro w hSw
      skip
      clear hSw
      go_simp
      try with_reducible rfl
    try simp only [Act.put, List.setIfInBounds_toArray, List.set_cons_zero, List.set_cons_succ]
    refine wpAnyH_ready (rs := [11]) (by kernel_rfl) (by simp) ?_
    refine (AllReadyH.cons (o := { dst := none, op := Op.store 3 (Operand.tmp 43) (Operand.tmp 40), type := 0, pos := "trees.go:304", after := #[{ on := 10, ground := Ground.data }, { on := 5, ground := Ground.data }, { on := 9, ground := Ground.chain }, { on := 0, ground := Ground.phase }, { on := 1, ground := Ground.phase }, { on := 2, ground := Ground.phase }, { on := 3, ground := Ground.phase }, { on := 4, ground := Ground.phase }, { on := 5, ground := Ground.phase }, { on := 6, ground := Ground.phase }, { on := 7, ground := Ground.phase }, { on := 8, ground := Ground.phase }, { on := 9, ground := Ground.phase }], guard := none }) rfl (fun K hK => ?_) AllReadyH.nil)
    have c11 : _ = some (Value.int .i64 x.mode) := rowC_cell HZ6.out 2
    have f11 := rowC_free HZ6.out 2
    go_simp
    refine hK.out _ _ (Gn.cell hHeld _ _ (.inl (.inr rfl))) (fun hHeld => ?_)
    clear hK K
    have HZ4 := Lib.hid (rowC_other HZ4.out ⟨w.heap.size + 1, 2, none⟩ (.int .i64 m.mode) (by show w.heap.size ≠ w.heap.size + 1; omega))
    have HZ6 := Lib.hid (rowC_set HZ6.out 2 (.int .i64 m.mode))
    clear c11 f11
    try simp only [Act.put, List.setIfInBounds_toArray, List.set_cons_zero, List.set_cons_succ]
    refine wpAnyH_done (by kernel_rfl) ?_ _
    refine NoPanic.normal ?_
    have HBd : Hid (Below w.heap.size w _) := Lib.hid (HB6.out.trans (hHeld.below HB6.out.size (fun j h1 h2 => by omega)))
    generalize World.setCell (World.setCell (World.setCell wd _ _) _ _) _ _ = W7 at *
    clear hHeld OS SO HY6 HZ6' HX6 HB6
    have d4 : W7.cell? ⟨w.heap.size, 4, none⟩ = some (.string (str m.data)) := rowC_cell HZ4.out 4
    have y3 : W7.cell? ⟨w.heap.size + 1, 3, none⟩ = some (.string ⟨#[]⟩) := rowC_cell HZ6.out 3
    have y3f := rowC_free HZ6.out 3
    have HR6 : Hid (rowC (W7.setCell ⟨w.heap.size + 1, 3, none⟩ (.string (str m.data))) (w.heap.size + 1) (ndA ⟨p, m.kind, m.mode, m.data⟩) 41) := Lib.hid (rowC_set HZ6.out 3 (.string (str m.data)))
    have HBt : Hid (Below w.heap.size w (W7.setCell ⟨w.heap.size + 1, 3, none⟩ (.string (str m.data)))) := Lib.hid (HBd.out.setCell (p := ⟨w.heap.size + 1, 3, none⟩) (by show _ ≤ w.heap.size + 1; omega) _)
    clear HZ4 HZ6 HBd
    obtain ⟨cd, hcd⟩ : ∃ cd : Nd, cd = ⟨p, m.kind, m.mode, m.data⟩ := ⟨_, rfl⟩
    rw [← hcd] at HR6 HFIN
    have hcdp : cd.path.length ≤ 900000 := by rw [hcd]; exact hp
    have CMB := fun W => mayN_any cd hcdp W
    clear hcd hcdp
    have hone := Lib.hid (ndA_one cd)
    go_upto_region 12 with (fail)
    cases hm : mayN cd with
    | false =>
      have HF2 := Lib.hid (HFIN.out.trans (if_neg (by rw [hm]; decide)))
      rw [hm] at CMB
      clear HFIN hm
      go_wp2_with (first
        | ((with_reducible show wpList _ _ _ (⟨some 50, .load _ _, _, _, _, _⟩ :: _) _ _); refine wpList_load_row rfl 41 _ rfl (w.heap.size + 1) rfl 41 (ndA cd) (0, 0) _ HR6.out Tryz.underlying41 rfl HI.out ?_)
        | (go_at_call 23; (refine (CMB _).mono ?_; rintro e w8 ⟨rfl, hB8⟩; have HB8 := Lib.hid (HBt.out.trans (hB8.mono HBt.out.size)); have HR8 := Lib.hid (rowC_below HR6.out hB8 (rowC_lt HR6.out)); clear hB8))
        | ((with_reducible show wpList _ _ _ (⟨none, .store _ (.tmp 6) _, _, _, _, _⟩ :: _) _ _); refine wpList_store_row rfl 41 _ _ rfl (w.heap.size + 1) (ndA nd0) rfl rfl 41 (ndA cd) HR8.out HI.out rfl hone0.out ?_))
      exact bodyPost_ret (results_row_tmp rfl _ _ (w.heap.size + 1) 41 (ndA nd0) _ rfl (rowC_setRow HR8.out _) Tryz.underlying41 rfl HI.out (.int .i64 2) rfl) rfl ⟨by rw [HF2.out], below_setRow HB8.out (by omega) _⟩
    | true =>
      have HF2 := Lib.hid (HFIN.out.trans (if_pos hm))
      rw [hm] at CMB
      clear HFIN hm
      go_wp2_with (first
        | ((with_reducible show wpList _ _ _ (⟨some 50, .load _ _, _, _, _, _⟩ :: _) _ _); refine wpList_load_row rfl 41 _ rfl (w.heap.size + 1) rfl 41 (ndA cd) (0, 0) _ HR6.out Tryz.underlying41 rfl HI.out ?_)
        | (go_at_call 23; (refine (CMB _).mono ?_; rintro e w8 ⟨rfl, hB8⟩; have HB8 := Lib.hid (HBt.out.trans (hB8.mono HBt.out.size)); have HR8 := Lib.hid (rowC_below HR6.out hB8 (rowC_lt HR6.out)); clear hB8))
        | ((with_reducible show wpList _ _ _ (⟨some 54, .load _ _, _, _, _, _⟩ :: _) _ _); refine wpList_load_row rfl 41 _ rfl (w.heap.size + 1) rfl 41 (ndA cd) (0, 0) _ HR8.out Tryz.underlying41 rfl HI.out ?_)
        | ((with_reducible show wpList _ _ _ (⟨none, .store _ (.tmp 6) _, _, _, _, _⟩ :: _) _ _); refine wpList_store_row rfl 41 _ _ rfl (w.heap.size + 1) (ndA cd) rfl rfl 41 (ndA cd) HR8.out HI.out rfl hone.out ?_))
      exact bodyPost_ret (results_row_tmp rfl _ _ (w.heap.size + 1) 41 (ndA cd) _ rfl (rowC_setRow HR8.out _) Tryz.underlying41 rfl HI.out (.int .i64 0) rfl) rfl ⟨by rw [HF2.out], below_setRow HB8.out (by omega) _⟩
end Go.Proofs.YtbjgmkjinnbokaaGreatDoor
#print axioms Go.Proofs.YtbjgmkjinnbokaaGreatDoor.nodeOf_any

