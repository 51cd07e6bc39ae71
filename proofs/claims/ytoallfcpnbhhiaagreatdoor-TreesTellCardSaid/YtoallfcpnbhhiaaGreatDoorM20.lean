/- Merged: TtR, TtS. -/
import Derived.Test.YtoallfcpnbhhiaaGreatDoorM19
/- Layer 16: the program's nodeOf. -/
namespace Go.Proofs.YtoallfcpnbhhiaaGreatDoor
open Go.RowKit

theorem nodeG_link {g : List Pl} {x : En} {p : List UInt8} (h : x.kind = 3) (h0 : (linkedG g x.to).2 = 0) : nodeG g x p = if mayN ⟨p, (linkedG g x.to).1.kind, (linkedG g x.to).1.mode, (linkedG g x.to).1.data⟩ then (⟨p, (linkedG g x.to).1.kind, (linkedG g x.to).1.mode, (linkedG g x.to).1.data⟩, 0) else (nd0, 2) := by
  unfold nodeG
  rw [if_pos h, if_pos h0]
  rfl
theorem nodeG_lost {g : List Pl} {x : En} {p : List UInt8} (h : x.kind = 3) (h0 : (linkedG g x.to).2 ≠ 0) : nodeG g x p = (nd0, (linkedG g x.to).2) := by
  unfold nodeG
  rw [if_pos h, if_neg h0]
  rfl
theorem nodeG_file {g : List Pl} {x : En} {p : List UInt8} (h : x.kind = 1) : nodeG g x p = if mayN ⟨p, x.kind, x.mode, x.data⟩ then (⟨p, x.kind, x.mode, x.data⟩, 0) else (nd0, 2) := by
  unfold nodeG
  rw [if_neg (by omega), if_pos h]
  rfl
theorem nodeG_sym {g : List Pl} {x : En} {p : List UInt8} (h : x.kind = 4) : nodeG g x p = if mayN ⟨p, x.kind, x.mode, x.to⟩ then (⟨p, x.kind, x.mode, x.to⟩, 0) else (nd0, 2) := by
  unfold nodeG
  rw [h]
  rfl
theorem nodeG_other {g : List Pl} {x : En} {p : List UInt8} (h1 : x.kind ≠ 1) (h3 : x.kind ≠ 3) (h4 : x.kind ≠ 4) : nodeG g x p = if mayN ⟨p, x.kind, x.mode, []⟩ then (⟨p, x.kind, x.mode, []⟩, 0) else (nd0, 2) := by
  unfold nodeG
  rw [if_neg h3, if_neg h1, if_neg h4]
  rfl
set_option maxRecDepth 100000 in
set_option maxHeartbeats 32000000 in
theorem nodeOf_any (x : En) (p : List UInt8) (hp : p.length ≤ 900000) (ht : x.to.length ≤ 900000) (B M : Nat) (g : List Pl) (k : Int) (w : World) (h : GrAt w B M g k) :
    Calls Tryz.prog 73 #[.pointer (some ⟨B, 0, none⟩), .agg #[.int .i64 x.kind, .string (str x.name), .string (str x.to), .int .i64 x.mode, .string (str x.data)], .string (str p)] w fun e w' => e = .returned (.tuple #[.agg (ndA (nodeG g x p).1), .int .i64 (nodeG g x p).2]) ∧ Below w.heap.size w w' := by
  have HI := Lib.hid info_nd4
  have HG0 := Lib.hid h
  have hBw := rowC_lt h.row
  have hone0 := Lib.hid (ndA_one nd0)
  obtain ⟨W0, hW0⟩ : ∃ W0, W0 = (w.alloc (.cells #[.int .i64 x.kind, .string (str x.name), .string (str x.to), .int .i64 x.mode, .string (str x.data)] 52)).alloc (.cells #[.string ⟨#[]⟩, .int .i64 0, .int .i64 0, .string ⟨#[]⟩] 32) := ⟨_, rfl⟩
  have HW0 := Lib.hid hW0
  have HB0 : Hid (Below w.heap.size w W0) := Lib.hid (by rw [hW0]; exact ((Below.refl _ _).alloc (Nat.le_refl _) _).alloc (by rw [size_alloc]; omega) _)
  have HZ0 : Hid (rowC W0 w.heap.size (enA x) 52) := Lib.hid (by rw [hW0]; exact rowC_alloc (rowC_new w _ _) _)
  have HY0 : Hid (rowC W0 (w.heap.size + 1) (ndA nd0) 32) := Lib.hid (by
    rw [hW0]
    have := rowC_new (w.alloc (.cells #[.int .i64 x.kind, .string (str x.name), .string (str x.to), .int .i64 x.mode, .string (str x.data)] 52)) (ndA nd0) 32
    rwa [size_alloc] at this)
  clear hW0 h
  have e0 : W0.cell? ⟨w.heap.size, 0, none⟩ = some (.int .i64 x.kind) := rowC_cell HZ0.out 0
  have e3 : W0.cell? ⟨w.heap.size, 3, none⟩ = some (.int .i64 x.mode) := rowC_cell HZ0.out 3
  have hone1 := Lib.hid (ndA_one ⟨p, x.kind, x.mode, []⟩)
  go_enter Tryz.func73, Tryz.ntmps73
  go_upto_region 1 with (fail)
  rw [← HW0.out]
  go_upto_region 2 with (first
    | ((with_reducible show wpList _ _ _ (⟨none, .store _ (.tmp 6) _, _, _, _, _⟩ :: _) _ _); refine wpList_store_row rfl 32 _ _ rfl (w.heap.size + 1) (ndA ⟨p, x.kind, x.mode, []⟩) rfl rfl 32 (ndA nd0) HY0.out HI.out rfl hone1.out ?_))
  obtain ⟨W1, hW1⟩ : ∃ W1, W1 = W0.setRow (w.heap.size + 1) (ndA ⟨p, x.kind, x.mode, []⟩) := ⟨_, rfl⟩
  have HY1 : Hid (rowC W1 (w.heap.size + 1) (ndA ⟨p, x.kind, x.mode, []⟩) 32) := Lib.hid (by rw [hW1]; exact rowC_setRow HY0.out _)
  have HZ1 : Hid (rowC W1 w.heap.size (enA x) 52) := Lib.hid (by rw [hW1]; exact rowC_setRow_other HZ0.out _ _ (by omega))
  have HB1 : Hid (Below w.heap.size w W1) := Lib.hid (by rw [hW1]; exact below_setRow HB0.out (by omega) _)
  try simp only [Act.put]
  rw [← hW1]
  clear hW1 HY0 HZ0 HB0 HW0 hone1 e0 e3
  have d0 : W1.cell? ⟨w.heap.size, 0, none⟩ = some (.int .i64 x.kind) := rowC_cell HZ1.out 0
  have d2 : W1.cell? ⟨w.heap.size, 2, none⟩ = some (.string (str x.to)) := rowC_cell HZ1.out 2
  have d4 : W1.cell? ⟨w.heap.size, 4, none⟩ = some (.string (str x.data)) := rowC_cell HZ1.out 4
  have y3 : W1.cell? ⟨w.heap.size + 1, 3, none⟩ = some (.string ⟨#[]⟩) := rowC_cell HY1.out 3
  have y3f := rowC_free HY1.out 3
  by_cases k1 : x.kind = 1
  · have HFIN := Lib.hid (nodeG_file (g := g) (p := p) k1)
    have HR6 : Hid (rowC (W1.setCell ⟨w.heap.size + 1, 3, none⟩ (.string (str x.data))) (w.heap.size + 1) (ndA ⟨p, x.kind, x.mode, x.data⟩) 32) := Lib.hid (rowC_set HY1.out 3 (.string (str x.data)))
    have HBt : Hid (Below w.heap.size w (W1.setCell ⟨w.heap.size + 1, 3, none⟩ (.string (str x.data)))) := Lib.hid (HB1.out.setCell (p := ⟨w.heap.size + 1, 3, none⟩) (by show _ ≤ w.heap.size + 1; omega) _)
    have g3 : (x.kind == 3) = false := by rw [beq_eq_false_iff_ne]; omega
    have g1 : (x.kind == 1) = true := by rw [beq_iff_eq]; exact k1
    clear k1 HY1 HZ1 HB1
    obtain ⟨cd, hcd⟩ : ∃ cd : Nd, cd = ⟨p, x.kind, x.mode, x.data⟩ := ⟨_, rfl⟩
    rw [← hcd] at HR6 HFIN
    have hcdp : cd.path.length ≤ 900000 := by rw [hcd]; exact hp
    have CMB := fun W => mayN_any cd hcdp W
    clear hcd hcdp
    have hone := Lib.hid (ndA_one cd)
    go_upto_region 12 with (fail)
    cases hm : mayN cd with
    | false =>
      have HF2 := Lib.hid (HFIN.out.trans (if_neg (by rw [hm]; decide)))
      rw [hm] at CMB
      clear HFIN hm
      go_wp2_with (first
        | ((with_reducible show wpList _ _ _ (⟨some 50, .load _ _, _, _, _, _⟩ :: _) _ _); refine wpList_load_row rfl 32 _ rfl (w.heap.size + 1) rfl 32 (ndA cd) (0, 0) _ HR6.out Tryz.underlying32 rfl HI.out ?_)
        | (go_at_call 29; (refine (CMB _).mono ?_; rintro e w8 ⟨rfl, hB8⟩; have HB8 := Lib.hid (HBt.out.trans (hB8.mono HBt.out.size)); have HR8 := Lib.hid (rowC_below HR6.out hB8 (rowC_lt HR6.out)); clear hB8))
        | ((with_reducible show wpList _ _ _ (⟨none, .store _ (.tmp 6) _, _, _, _, _⟩ :: _) _ _); refine wpList_store_row rfl 32 _ _ rfl (w.heap.size + 1) (ndA nd0) rfl rfl 32 (ndA cd) HR8.out HI.out rfl hone0.out ?_))
      exact bodyPost_ret (results_row_tmp rfl _ _ (w.heap.size + 1) 32 (ndA nd0) _ rfl (rowC_setRow HR8.out _) Tryz.underlying32 rfl HI.out (.int .i64 2) rfl) rfl ⟨by rw [HF2.out], below_setRow HB8.out (by omega) _⟩
    | true =>
      have HF2 := Lib.hid (HFIN.out.trans (if_pos hm))
      rw [hm] at CMB
      clear HFIN hm
      go_wp2_with (first
        | ((with_reducible show wpList _ _ _ (⟨some 50, .load _ _, _, _, _, _⟩ :: _) _ _); refine wpList_load_row rfl 32 _ rfl (w.heap.size + 1) rfl 32 (ndA cd) (0, 0) _ HR6.out Tryz.underlying32 rfl HI.out ?_)
        | (go_at_call 29; (refine (CMB _).mono ?_; rintro e w8 ⟨rfl, hB8⟩; have HB8 := Lib.hid (HBt.out.trans (hB8.mono HBt.out.size)); have HR8 := Lib.hid (rowC_below HR6.out hB8 (rowC_lt HR6.out)); clear hB8))
        | ((with_reducible show wpList _ _ _ (⟨some 54, .load _ _, _, _, _, _⟩ :: _) _ _); refine wpList_load_row rfl 32 _ rfl (w.heap.size + 1) rfl 32 (ndA cd) (0, 0) _ HR8.out Tryz.underlying32 rfl HI.out ?_)
        | ((with_reducible show wpList _ _ _ (⟨none, .store _ (.tmp 6) _, _, _, _, _⟩ :: _) _ _); refine wpList_store_row rfl 32 _ _ rfl (w.heap.size + 1) (ndA cd) rfl rfl 32 (ndA cd) HR8.out HI.out rfl hone.out ?_))
      exact bodyPost_ret (results_row_tmp rfl _ _ (w.heap.size + 1) 32 (ndA cd) _ rfl (rowC_setRow HR8.out _) Tryz.underlying32 rfl HI.out (.int .i64 0) rfl) rfl ⟨by rw [HF2.out], below_setRow HB8.out (by omega) _⟩
  by_cases k4 : x.kind = 4
  · have HFIN := Lib.hid (nodeG_sym (g := g) (p := p) k4)
    have HR6 : Hid (rowC (W1.setCell ⟨w.heap.size + 1, 3, none⟩ (.string (str x.to))) (w.heap.size + 1) (ndA ⟨p, x.kind, x.mode, x.to⟩) 32) := Lib.hid (rowC_set HY1.out 3 (.string (str x.to)))
    have HBt : Hid (Below w.heap.size w (W1.setCell ⟨w.heap.size + 1, 3, none⟩ (.string (str x.to)))) := Lib.hid (HB1.out.setCell (p := ⟨w.heap.size + 1, 3, none⟩) (by show _ ≤ w.heap.size + 1; omega) _)
    have g3 : (x.kind == 3) = false := by rw [beq_eq_false_iff_ne]; omega
    have g1 : (x.kind == 1) = false := by rw [beq_eq_false_iff_ne]; exact k1
    have g4 : (x.kind == 4) = true := by rw [beq_iff_eq]; exact k4
    clear k1 k4 HY1 HZ1 HB1
    obtain ⟨cd, hcd⟩ : ∃ cd : Nd, cd = ⟨p, x.kind, x.mode, x.to⟩ := ⟨_, rfl⟩
    rw [← hcd] at HR6 HFIN
    have hcdp : cd.path.length ≤ 900000 := by rw [hcd]; exact hp
    have CMB := fun W => mayN_any cd hcdp W
    clear hcd hcdp
    have hone := Lib.hid (ndA_one cd)
    go_upto_region 12 with (fail)
    cases hm : mayN cd with
    | false =>
      have HF2 := Lib.hid (HFIN.out.trans (if_neg (by rw [hm]; decide)))
      rw [hm] at CMB
      clear HFIN hm
      go_wp2_with (first
        | ((with_reducible show wpList _ _ _ (⟨some 50, .load _ _, _, _, _, _⟩ :: _) _ _); refine wpList_load_row rfl 32 _ rfl (w.heap.size + 1) rfl 32 (ndA cd) (0, 0) _ HR6.out Tryz.underlying32 rfl HI.out ?_)
        | (go_at_call 29; (refine (CMB _).mono ?_; rintro e w8 ⟨rfl, hB8⟩; have HB8 := Lib.hid (HBt.out.trans (hB8.mono HBt.out.size)); have HR8 := Lib.hid (rowC_below HR6.out hB8 (rowC_lt HR6.out)); clear hB8))
        | ((with_reducible show wpList _ _ _ (⟨none, .store _ (.tmp 6) _, _, _, _, _⟩ :: _) _ _); refine wpList_store_row rfl 32 _ _ rfl (w.heap.size + 1) (ndA nd0) rfl rfl 32 (ndA cd) HR8.out HI.out rfl hone0.out ?_))
      exact bodyPost_ret (results_row_tmp rfl _ _ (w.heap.size + 1) 32 (ndA nd0) _ rfl (rowC_setRow HR8.out _) Tryz.underlying32 rfl HI.out (.int .i64 2) rfl) rfl ⟨by rw [HF2.out], below_setRow HB8.out (by omega) _⟩
    | true =>
      have HF2 := Lib.hid (HFIN.out.trans (if_pos hm))
      rw [hm] at CMB
      clear HFIN hm
      go_wp2_with (first
        | ((with_reducible show wpList _ _ _ (⟨some 50, .load _ _, _, _, _, _⟩ :: _) _ _); refine wpList_load_row rfl 32 _ rfl (w.heap.size + 1) rfl 32 (ndA cd) (0, 0) _ HR6.out Tryz.underlying32 rfl HI.out ?_)
        | (go_at_call 29; (refine (CMB _).mono ?_; rintro e w8 ⟨rfl, hB8⟩; have HB8 := Lib.hid (HBt.out.trans (hB8.mono HBt.out.size)); have HR8 := Lib.hid (rowC_below HR6.out hB8 (rowC_lt HR6.out)); clear hB8))
        | ((with_reducible show wpList _ _ _ (⟨some 54, .load _ _, _, _, _, _⟩ :: _) _ _); refine wpList_load_row rfl 32 _ rfl (w.heap.size + 1) rfl 32 (ndA cd) (0, 0) _ HR8.out Tryz.underlying32 rfl HI.out ?_)
        | ((with_reducible show wpList _ _ _ (⟨none, .store _ (.tmp 6) _, _, _, _, _⟩ :: _) _ _); refine wpList_store_row rfl 32 _ _ rfl (w.heap.size + 1) (ndA cd) rfl rfl 32 (ndA cd) HR8.out HI.out rfl hone.out ?_))
      exact bodyPost_ret (results_row_tmp rfl _ _ (w.heap.size + 1) 32 (ndA cd) _ rfl (rowC_setRow HR8.out _) Tryz.underlying32 rfl HI.out (.int .i64 0) rfl) rfl ⟨by rw [HF2.out], below_setRow HB8.out (by omega) _⟩
  by_cases k3 : x.kind = 3
  rotate_left
  · have HFIN := Lib.hid (nodeG_other (g := g) (p := p) k1 k3 k4)
    have HR6 := HY1
    have HBt := HB1
    have g3 : (x.kind == 3) = false := by rw [beq_eq_false_iff_ne]; exact k3
    have g1 : (x.kind == 1) = false := by rw [beq_eq_false_iff_ne]; exact k1
    have g4 : (x.kind == 4) = false := by rw [beq_eq_false_iff_ne]; exact k4
    clear k1 k4 k3 HZ1 HY1 HB1
    obtain ⟨cd, hcd⟩ : ∃ cd : Nd, cd = ⟨p, x.kind, x.mode, []⟩ := ⟨_, rfl⟩
    rw [← hcd] at HR6 HFIN
    have hcdp : cd.path.length ≤ 900000 := by rw [hcd]; exact hp
    have CMB := fun W => mayN_any cd hcdp W
    clear hcd hcdp
    have hone := Lib.hid (ndA_one cd)
    go_upto_region 12 with (fail)
    cases hm : mayN cd with
    | false =>
      have HF2 := Lib.hid (HFIN.out.trans (if_neg (by rw [hm]; decide)))
      rw [hm] at CMB
      clear HFIN hm
      go_wp2_with (first
        | ((with_reducible show wpList _ _ _ (⟨some 50, .load _ _, _, _, _, _⟩ :: _) _ _); refine wpList_load_row rfl 32 _ rfl (w.heap.size + 1) rfl 32 (ndA cd) (0, 0) _ HR6.out Tryz.underlying32 rfl HI.out ?_)
        | (go_at_call 29; (refine (CMB _).mono ?_; rintro e w8 ⟨rfl, hB8⟩; have HB8 := Lib.hid (HBt.out.trans (hB8.mono HBt.out.size)); have HR8 := Lib.hid (rowC_below HR6.out hB8 (rowC_lt HR6.out)); clear hB8))
        | ((with_reducible show wpList _ _ _ (⟨none, .store _ (.tmp 6) _, _, _, _, _⟩ :: _) _ _); refine wpList_store_row rfl 32 _ _ rfl (w.heap.size + 1) (ndA nd0) rfl rfl 32 (ndA cd) HR8.out HI.out rfl hone0.out ?_))
      exact bodyPost_ret (results_row_tmp rfl _ _ (w.heap.size + 1) 32 (ndA nd0) _ rfl (rowC_setRow HR8.out _) Tryz.underlying32 rfl HI.out (.int .i64 2) rfl) rfl ⟨by rw [HF2.out], below_setRow HB8.out (by omega) _⟩
    | true =>
      have HF2 := Lib.hid (HFIN.out.trans (if_pos hm))
      rw [hm] at CMB
      clear HFIN hm
      go_wp2_with (first
        | ((with_reducible show wpList _ _ _ (⟨some 50, .load _ _, _, _, _, _⟩ :: _) _ _); refine wpList_load_row rfl 32 _ rfl (w.heap.size + 1) rfl 32 (ndA cd) (0, 0) _ HR6.out Tryz.underlying32 rfl HI.out ?_)
        | (go_at_call 29; (refine (CMB _).mono ?_; rintro e w8 ⟨rfl, hB8⟩; have HB8 := Lib.hid (HBt.out.trans (hB8.mono HBt.out.size)); have HR8 := Lib.hid (rowC_below HR6.out hB8 (rowC_lt HR6.out)); clear hB8))
        | ((with_reducible show wpList _ _ _ (⟨some 54, .load _ _, _, _, _, _⟩ :: _) _ _); refine wpList_load_row rfl 32 _ rfl (w.heap.size + 1) rfl 32 (ndA cd) (0, 0) _ HR8.out Tryz.underlying32 rfl HI.out ?_)
        | ((with_reducible show wpList _ _ _ (⟨none, .store _ (.tmp 6) _, _, _, _, _⟩ :: _) _ _); refine wpList_store_row rfl 32 _ _ rfl (w.heap.size + 1) (ndA cd) rfl rfl 32 (ndA cd) HR8.out HI.out rfl hone.out ?_))
      exact bodyPost_ret (results_row_tmp rfl _ _ (w.heap.size + 1) 32 (ndA cd) _ rfl (rowC_setRow HR8.out _) Tryz.underlying32 rfl HI.out (.int .i64 0) rfl) rfl ⟨by rw [HF2.out], below_setRow HB8.out (by omega) _⟩
  have HLK := Lib.hid (fun (h : (linkedG g x.to).2 = 0) => nodeG_link (g := g) (p := p) k3 h)
  have HLO := Lib.hid (fun (h : (linkedG g x.to).2 ≠ 0) => nodeG_lost (g := g) (p := p) k3 h)
  have CL := fun W (hW : GrAt W B M g k) => linked_any x.to ht B M g k W hW
  have HG1 : Hid (GrAt W1 B M g k) := Lib.hid (HG0.out.below HB1.out)
  have g3 : (x.kind == 3) = true := by rw [beq_iff_eq]; exact k3
  clear k1 k4 k3 y3 y3f d4
  obtain ⟨ce, hce⟩ : ∃ ce, ce = (linkedG g x.to).2 := ⟨_, rfl⟩
  rw [← hce] at HLK HLO CL
  obtain ⟨m, hm⟩ : ∃ m, m = (linkedG g x.to).1 := ⟨_, rfl⟩
  rw [← hm] at HLK CL
  clear hce hm
  by_cases hc0 : ce = 0
  rotate_left
  · have HFIN := Lib.hid (HLO.out hc0)
    have g5 : (ce != 0) = true := by rw [bne_iff_ne]; exact hc0
    have honem := Lib.hid (ndA_one m)
    clear HLK HLO hc0
    go_wp2_with (first
      | (go_at_call 92; (refine (CL _ HG1.out).mono ?_; rintro e w5 ⟨rfl, hB5⟩; have HB5 := Lib.hid (HB1.out.trans (hB5.mono HB1.out.size)); have HY5 := Lib.hid (rowC_below HY1.out hB5 (rowC_lt HY1.out)); have HB6 : Hid (Below w.heap.size w (w5.alloc (.cells (ndA m) 32))) := Lib.hid (HB5.out.alloc HB5.out.size _); have HY6 : Hid (rowC (w5.alloc (.cells (ndA m) 32)) (w.heap.size + 1) (ndA ⟨p, x.kind, x.mode, []⟩) 32) := Lib.hid (rowC_alloc HY5.out _); clear hB5))
      | ((with_reducible show wpList _ _ _ (⟨none, .store _ (.tmp 8) _, _, _, _, _⟩ :: _) _ _); refine wpList_store_last rfl 32 _ _ rfl w5.heap.size (ndA m) rfl rfl 32 _ rfl HI.out rfl honem.out ?_)
      | ((with_reducible show wpList _ _ _ (⟨none, .store _ (.tmp 6) _, _, _, _, _⟩ :: _) _ _); refine wpList_store_row rfl 32 _ _ rfl (w.heap.size + 1) (ndA nd0) rfl rfl 32 (ndA ⟨p, x.kind, x.mode, []⟩) HY6.out HI.out rfl hone0.out ?_))
    exact bodyPost_ret (results_row_tmp rfl _ _ (w.heap.size + 1) 32 (ndA nd0) _ rfl (rowC_setRow HY6.out _) Tryz.underlying32 rfl HI.out (.int .i64 ce) rfl) rfl ⟨by rw [HFIN.out], below_setRow HB6.out (by omega) _⟩
  · have HFIN := Lib.hid (HLK.out hc0)
    subst hc0
    have honem := Lib.hid (ndA_one m)
    clear HLK HLO
    go_upto_region 9 with (first
      | (go_at_call 92; (refine (CL _ HG1.out).mono ?_; rintro e w5 ⟨rfl, hB5⟩; have HB5 := Lib.hid (HB1.out.trans (hB5.mono HB1.out.size)); have HY5 := Lib.hid (rowC_below HY1.out hB5 (rowC_lt HY1.out)); have HZ5 := Lib.hid (rowC_below HZ1.out hB5 (rowC_lt HZ1.out)); clear hB5))
      | ((with_reducible show wpList _ _ _ (⟨none, .store _ (.tmp 8) _, _, _, _, _⟩ :: _) _ _); refine wpList_store_last rfl 32 _ _ rfl w5.heap.size (ndA m) rfl rfl 32 _ rfl HI.out rfl honem.out ?_))
    obtain ⟨W6, hW6⟩ : ∃ W6, W6 = w5.alloc (.cells (ndA m) 32) := ⟨_, rfl⟩
    have HX6 : Hid (rowC W6 w5.heap.size (ndA m) 32) := Lib.hid (by rw [hW6]; exact rowC_new w5 _ _)
    have HY6 : Hid (rowC W6 (w.heap.size + 1) (ndA ⟨p, x.kind, x.mode, []⟩) 32) := Lib.hid (by rw [hW6]; exact rowC_alloc HY5.out _)
    have HZ6' : Hid (rowC W6 w.heap.size (enA x) 52) := Lib.hid (by rw [hW6]; exact rowC_alloc HZ5.out _)
    have HB6 : Hid (Below w.heap.size w W6) := Lib.hid (by rw [hW6]; exact HB5.out.alloc HB5.out.size _)
    have hlt5 := rowC_lt HY5.out
    rw [← hW6]
    clear hW6 HY1 HZ1 HB1 HY5 HZ5 d0 d2 HG1
    generalize w5.heap.size = b8 at *
    have OS : ∀ w', Gn W6 (fun j => j = w.heap.size ∨ j = w.heap.size + 1) w' → w'.cell? ⟨b8, 3, none⟩ = some (.string (str m.data)) ∧ w'.cell? ⟨b8, 1, none⟩ = some (.int .i64 m.kind) ∧ w'.cell? ⟨b8, 2, none⟩ = some (.int .i64 m.mode) := fun w' hg =>
      ⟨rowC_cell (hg.row HX6.out (by omega)) 3, rowC_cell (hg.row HX6.out (by omega)) 1, rowC_cell (hg.row HX6.out (by omega)) 2⟩
    have SO : ∀ w', Gn W6 (fun j => j = w.heap.size ∨ j = w.heap.size + 1) w' → Gn W6 (fun j => j = w.heap.size ∨ j = w.heap.size + 1) w' := fun _ h => h
    refine wp_region_noPanic ?_
    refine wp_region_held_drew (S := Gn W6 (fun j => j = w.heap.size ∨ j = w.heap.size + 1)) (by kernel_rfl) (Gn.start _ _) (fun hHeld => ?_)
    have HZ4 : Hid (rowC W6.drew w.heap.size (enA x) 52) := HZ6'
    have HZ6 : Hid (rowC W6.drew (w.heap.size + 1) (ndA ⟨p, x.kind, x.mode, []⟩) 32) := HY6
    generalize W6.drew = wd at *
    refine wpAnyH_take (i := 0) (oi := { dst := some 35, op := Op.fieldAddr 32 (Operand.tmp 8) 3, type := 0, pos := "trees.go:304", after := #[], guard := none }) (v := ?_) rfl (by kernel_rfl) (by kernel_rfl) (by kernel_rfl) (fun _ _ _ h => h) (Or.inl ⟨by rfl, ?_⟩) (by assumption) ?_
    rotate_left
    · intro w hSw
      skip
      clear hSw
      go_simp
      try with_reducible rfl
    try simp only [Act.put, List.setIfInBounds_toArray, List.set_cons_zero, List.set_cons_succ]
    refine wpAnyH_take (i := 2) (oi := { dst := some 37, op := Op.fieldAddr 32 (Operand.tmp 8) 1, type := 0, pos := "trees.go:304", after := #[{ on := 7, ground := Ground.gcOnly Departure.lateStores }], guard := none }) (v := ?_) rfl (by kernel_rfl) (by kernel_rfl) (by kernel_rfl) (fun _ _ _ h => h) (Or.inl ⟨by rfl, ?_⟩) (by assumption) ?_
    rotate_left
    · intro w hSw
      skip
      clear hSw
      go_simp
      try with_reducible rfl
    try simp only [Act.put, List.setIfInBounds_toArray, List.set_cons_zero, List.set_cons_succ]
    refine wpAnyH_take (i := 4) (oi := { dst := some 39, op := Op.fieldAddr 32 (Operand.tmp 8) 2, type := 0, pos := "trees.go:304", after := #[{ on := 9, ground := Ground.gcOnly Departure.lateStores }], guard := none }) (v := ?_) rfl (by kernel_rfl) (by kernel_rfl) (by kernel_rfl) (fun _ _ _ h => h) (Or.inl ⟨by rfl, ?_⟩) (by assumption) ?_
    rotate_left
    · intro w hSw
      skip
      clear hSw
      go_simp
      try with_reducible rfl
    try simp only [Act.put, List.setIfInBounds_toArray, List.set_cons_zero, List.set_cons_succ]
    refine wpAnyH_take (i := 1) (oi := { dst := some 36, op := Op.load 9 (Operand.tmp 35), type := 9, pos := "trees.go:304", after := #[{ on := 0, ground := Ground.data }], guard := none }) (v := ?_) rfl (by kernel_rfl) (by kernel_rfl) (by kernel_rfl) (fun _ _ _ h => h) (Or.inl ⟨by rfl, ?_⟩) (by assumption) ?_
    rotate_left
    · intro w hSw
      have hSw := OS _ hSw
      go_simp
      try with_reducible rfl
    try simp only [Act.put, List.setIfInBounds_toArray, List.set_cons_zero, List.set_cons_succ]
    refine wpAnyH_take (i := 6) (oi := { dst := some 41, op := Op.fieldAddr 52 (Operand.tmp 4) 4, type := 0, pos := "trees.go:304", after := #[{ on := 0, ground := Ground.phase }, { on := 1, ground := Ground.phase }, { on := 2, ground := Ground.textOnly Departure.lateStores }, { on := 3, ground := Ground.textOnly Departure.lateStores }, { on := 4, ground := Ground.textOnly Departure.lateStores }, { on := 5, ground := Ground.textOnly Departure.lateStores }], guard := none }) (v := ?_) rfl (by kernel_rfl) (by kernel_rfl) (by kernel_rfl) (fun _ _ _ h => h) (Or.inl ⟨by rfl, ?_⟩) (by assumption) ?_
    rotate_left
    · intro w hSw
      skip
      clear hSw
      go_simp
      try with_reducible rfl
    try simp only [Act.put, List.setIfInBounds_toArray, List.set_cons_zero, List.set_cons_succ]
    refine wpAnyH_take (i := 3) (oi := { dst := some 38, op := Op.load 3 (Operand.tmp 37), type := 3, pos := "trees.go:304", after := #[{ on := 2, ground := Ground.data }, { on := 7, ground := Ground.gcOnly Departure.lateStores }], guard := none }) (v := ?_) rfl (by kernel_rfl) (by kernel_rfl) (by kernel_rfl) (fun _ _ _ h => h) (Or.inl ⟨by rfl, ?_⟩) (by assumption) ?_
    rotate_left
    · intro w hSw
      have hSw := OS _ hSw
      go_simp
      try with_reducible rfl
    try simp only [Act.put, List.setIfInBounds_toArray, List.set_cons_zero, List.set_cons_succ]
    refine wpAnyH_take (i := 5) (oi := { dst := some 40, op := Op.load 3 (Operand.tmp 39), type := 3, pos := "trees.go:304", after := #[{ on := 4, ground := Ground.data }, { on := 9, ground := Ground.gcOnly Departure.lateStores }], guard := none }) (v := ?_) rfl (by kernel_rfl) (by kernel_rfl) (by kernel_rfl) (fun _ _ _ h => h) (Or.inl ⟨by rfl, ?_⟩) (by assumption) ?_
    rotate_left
    · intro w hSw
      have hSw := OS _ hSw
      go_simp
      try with_reducible rfl
    try simp only [Act.put, List.setIfInBounds_toArray, List.set_cons_zero, List.set_cons_succ]
    refine wpAnyH_ready (rs := [7]) (by kernel_rfl) (by simp) ?_
    refine (AllReadyH.cons (o := { dst := none, op := Op.store 9 (Operand.tmp 41) (Operand.tmp 36), type := 0, pos := "trees.go:304", after := #[{ on := 6, ground := Ground.data }, { on := 1, ground := Ground.data }, { on := 0, ground := Ground.phase }, { on := 1, ground := Ground.phase }, { on := 2, ground := Ground.textOnly Departure.lateStores }, { on := 3, ground := Ground.textOnly Departure.lateStores }, { on := 4, ground := Ground.textOnly Departure.lateStores }, { on := 5, ground := Ground.textOnly Departure.lateStores }], guard := none }) rfl (fun K hK => ?_) AllReadyH.nil)
    have c7 : _ = some (Value.string (str x.data)) := rowC_cell HZ4.out 4
    have f7 := rowC_free HZ4.out 4
    go_simp
    refine hK.out _ _ (Gn.cell hHeld _ _ (.inl (.inl rfl))) (fun hHeld => ?_)
    clear hK K
    have HZ4 := Lib.hid (rowC_set HZ4.out 4 (.string (str m.data)))
    have HZ6 := Lib.hid (rowC_other HZ6.out ⟨w.heap.size, 4, none⟩ (.string (str m.data)) (by show w.heap.size + 1 ≠ w.heap.size; omega))
    clear c7 f7
    try simp only [Act.put, List.setIfInBounds_toArray, List.set_cons_zero, List.set_cons_succ]
    refine wpAnyH_take (i := 8) (oi := { dst := some 42, op := Op.fieldAddr 32 (Operand.tmp 6) 1, type := 0, pos := "trees.go:304", after := #[{ on := 0, ground := Ground.phase }, { on := 1, ground := Ground.phase }, { on := 2, ground := Ground.phase }, { on := 3, ground := Ground.phase }, { on := 4, ground := Ground.textOnly Departure.lateStores }, { on := 5, ground := Ground.textOnly Departure.lateStores }, { on := 6, ground := Ground.phase }, { on := 7, ground := Ground.phase }], guard := none }) (v := ?_) rfl (by kernel_rfl) (by kernel_rfl) (by kernel_rfl) (fun _ _ _ h => h) (Or.inl ⟨by rfl, ?_⟩) (by assumption) ?_
    rotate_left
    · intro w hSw
      skip
      clear hSw
      go_simp
      try with_reducible rfl
    try simp only [Act.put, List.setIfInBounds_toArray, List.set_cons_zero, List.set_cons_succ]
    refine wpAnyH_ready (rs := [9]) (by kernel_rfl) (by simp) ?_
    refine (AllReadyH.cons (o := { dst := none, op := Op.store 3 (Operand.tmp 42) (Operand.tmp 38), type := 0, pos := "trees.go:304", after := #[{ on := 8, ground := Ground.data }, { on := 3, ground := Ground.data }, { on := 7, ground := Ground.chain }, { on := 0, ground := Ground.phase }, { on := 1, ground := Ground.phase }, { on := 2, ground := Ground.phase }, { on := 3, ground := Ground.phase }, { on := 4, ground := Ground.textOnly Departure.lateStores }, { on := 5, ground := Ground.textOnly Departure.lateStores }, { on := 6, ground := Ground.phase }, { on := 7, ground := Ground.phase }], guard := none }) rfl (fun K hK => ?_) AllReadyH.nil)
    have c9 : _ = some (Value.int .i64 x.kind) := rowC_cell HZ6.out 1
    have f9 := rowC_free HZ6.out 1
    go_simp
    refine hK.out _ _ (Gn.cell hHeld _ _ (.inl (.inr rfl))) (fun hHeld => ?_)
    clear hK K
    have HZ4 := Lib.hid (rowC_other HZ4.out ⟨w.heap.size + 1, 1, none⟩ (.int .i64 m.kind) (by show w.heap.size ≠ w.heap.size + 1; omega))
    have HZ6 := Lib.hid (rowC_set HZ6.out 1 (.int .i64 m.kind))
    clear c9 f9
    try simp only [Act.put, List.setIfInBounds_toArray, List.set_cons_zero, List.set_cons_succ]
    refine wpAnyH_take (i := 10) (oi := { dst := some 43, op := Op.fieldAddr 32 (Operand.tmp 6) 2, type := 0, pos := "trees.go:304", after := #[{ on := 0, ground := Ground.phase }, { on := 1, ground := Ground.phase }, { on := 2, ground := Ground.phase }, { on := 3, ground := Ground.phase }, { on := 4, ground := Ground.phase }, { on := 5, ground := Ground.phase }, { on := 6, ground := Ground.phase }, { on := 7, ground := Ground.phase }, { on := 8, ground := Ground.phase }, { on := 9, ground := Ground.phase }], guard := none }) (v := ?_) rfl (by kernel_rfl) (by kernel_rfl) (by kernel_rfl) (fun _ _ _ h => h) (Or.inl ⟨by rfl, ?_⟩) (by assumption) ?_
    rotate_left
    · intro w hSw
      skip
      clear hSw
      go_simp
      try with_reducible rfl
    try simp only [Act.put, List.setIfInBounds_toArray, List.set_cons_zero, List.set_cons_succ]
    refine wpAnyH_ready (rs := [11]) (by kernel_rfl) (by simp) ?_
    refine (AllReadyH.cons (o := { dst := none, op := Op.store 3 (Operand.tmp 43) (Operand.tmp 40), type := 0, pos := "trees.go:304", after := #[{ on := 10, ground := Ground.data }, { on := 5, ground := Ground.data }, { on := 9, ground := Ground.chain }, { on := 0, ground := Ground.phase }, { on := 1, ground := Ground.phase }, { on := 2, ground := Ground.phase }, { on := 3, ground := Ground.phase }, { on := 4, ground := Ground.phase }, { on := 5, ground := Ground.phase }, { on := 6, ground := Ground.phase }, { on := 7, ground := Ground.phase }, { on := 8, ground := Ground.phase }, { on := 9, ground := Ground.phase }], guard := none }) rfl (fun K hK => ?_) AllReadyH.nil)
    have c11 : _ = some (Value.int .i64 x.mode) := rowC_cell HZ6.out 2
    have f11 := rowC_free HZ6.out 2
    go_simp
    refine hK.out _ _ (Gn.cell hHeld _ _ (.inl (.inr rfl))) (fun hHeld => ?_)
    clear hK K
    have HZ4 := Lib.hid (rowC_other HZ4.out ⟨w.heap.size + 1, 2, none⟩ (.int .i64 m.mode) (by show w.heap.size ≠ w.heap.size + 1; omega))
    have HZ6 := Lib.hid (rowC_set HZ6.out 2 (.int .i64 m.mode))
    clear c11 f11
    try simp only [Act.put, List.setIfInBounds_toArray, List.set_cons_zero, List.set_cons_succ]
    refine wpAnyH_done (by kernel_rfl) ?_ _
    refine NoPanic.normal ?_
    have HBd : Hid (Below w.heap.size w _) := Lib.hid (HB6.out.trans (hHeld.below HB6.out.size (fun j h1 h2 => by omega)))
    generalize World.setCell (World.setCell (World.setCell wd _ _) _ _) _ _ = W7 at *
    clear hHeld OS SO HY6 HZ6' HX6 HB6
    have d4 : W7.cell? ⟨w.heap.size, 4, none⟩ = some (.string (str m.data)) := rowC_cell HZ4.out 4
    have y3 : W7.cell? ⟨w.heap.size + 1, 3, none⟩ = some (.string ⟨#[]⟩) := rowC_cell HZ6.out 3
    have y3f := rowC_free HZ6.out 3
    have HR6 : Hid (rowC (W7.setCell ⟨w.heap.size + 1, 3, none⟩ (.string (str m.data))) (w.heap.size + 1) (ndA ⟨p, m.kind, m.mode, m.data⟩) 32) := Lib.hid (rowC_set HZ6.out 3 (.string (str m.data)))
    have HBt : Hid (Below w.heap.size w (W7.setCell ⟨w.heap.size + 1, 3, none⟩ (.string (str m.data)))) := Lib.hid (HBd.out.setCell (p := ⟨w.heap.size + 1, 3, none⟩) (by show _ ≤ w.heap.size + 1; omega) _)
    clear HZ4 HZ6 HBd
    obtain ⟨cd, hcd⟩ : ∃ cd : Nd, cd = ⟨p, m.kind, m.mode, m.data⟩ := ⟨_, rfl⟩
    rw [← hcd] at HR6 HFIN
    have hcdp : cd.path.length ≤ 900000 := by rw [hcd]; exact hp
    have CMB := fun W => mayN_any cd hcdp W
    clear hcd hcdp
    have hone := Lib.hid (ndA_one cd)
    go_upto_region 12 with (fail)
    cases hm : mayN cd with
    | false =>
      have HF2 := Lib.hid (HFIN.out.trans (if_neg (by rw [hm]; decide)))
      rw [hm] at CMB
      clear HFIN hm
      go_wp2_with (first
        | ((with_reducible show wpList _ _ _ (⟨some 50, .load _ _, _, _, _, _⟩ :: _) _ _); refine wpList_load_row rfl 32 _ rfl (w.heap.size + 1) rfl 32 (ndA cd) (0, 0) _ HR6.out Tryz.underlying32 rfl HI.out ?_)
        | (go_at_call 29; (refine (CMB _).mono ?_; rintro e w8 ⟨rfl, hB8⟩; have HB8 := Lib.hid (HBt.out.trans (hB8.mono HBt.out.size)); have HR8 := Lib.hid (rowC_below HR6.out hB8 (rowC_lt HR6.out)); clear hB8))
        | ((with_reducible show wpList _ _ _ (⟨none, .store _ (.tmp 6) _, _, _, _, _⟩ :: _) _ _); refine wpList_store_row rfl 32 _ _ rfl (w.heap.size + 1) (ndA nd0) rfl rfl 32 (ndA cd) HR8.out HI.out rfl hone0.out ?_))
      exact bodyPost_ret (results_row_tmp rfl _ _ (w.heap.size + 1) 32 (ndA nd0) _ rfl (rowC_setRow HR8.out _) Tryz.underlying32 rfl HI.out (.int .i64 2) rfl) rfl ⟨by rw [HF2.out], below_setRow HB8.out (by omega) _⟩
    | true =>
      have HF2 := Lib.hid (HFIN.out.trans (if_pos hm))
      rw [hm] at CMB
      clear HFIN hm
      go_wp2_with (first
        | ((with_reducible show wpList _ _ _ (⟨some 50, .load _ _, _, _, _, _⟩ :: _) _ _); refine wpList_load_row rfl 32 _ rfl (w.heap.size + 1) rfl 32 (ndA cd) (0, 0) _ HR6.out Tryz.underlying32 rfl HI.out ?_)
        | (go_at_call 29; (refine (CMB _).mono ?_; rintro e w8 ⟨rfl, hB8⟩; have HB8 := Lib.hid (HBt.out.trans (hB8.mono HBt.out.size)); have HR8 := Lib.hid (rowC_below HR6.out hB8 (rowC_lt HR6.out)); clear hB8))
        | ((with_reducible show wpList _ _ _ (⟨some 54, .load _ _, _, _, _, _⟩ :: _) _ _); refine wpList_load_row rfl 32 _ rfl (w.heap.size + 1) rfl 32 (ndA cd) (0, 0) _ HR8.out Tryz.underlying32 rfl HI.out ?_)
        | ((with_reducible show wpList _ _ _ (⟨none, .store _ (.tmp 6) _, _, _, _, _⟩ :: _) _ _); refine wpList_store_row rfl 32 _ _ rfl (w.heap.size + 1) (ndA cd) rfl rfl 32 (ndA cd) HR8.out HI.out rfl hone.out ?_))
      exact bodyPost_ret (results_row_tmp rfl _ _ (w.heap.size + 1) 32 (ndA cd) _ rfl (rowC_setRow HR8.out _) Tryz.underlying32 rfl HI.out (.int .i64 0) rfl) rfl ⟨by rw [HF2.out], below_setRow HB8.out (by omega) _⟩
end Go.Proofs.YtoallfcpnbhhiaaGreatDoor
#print axioms Go.Proofs.YtoallfcpnbhhiaaGreatDoor.nodeOf_any

/- Layer 16: the program's step. -/
namespace Go.Proofs.YtoallfcpnbhhiaaGreatDoor
open Go.RowKit

theorem stepT_err {k : Int} {g : List Pl} {x : En} (h : (cleanL x.name).2 ≠ 0) : stepT k g x = (g, (cleanL x.name).2) := by
  unfold stepT
  simp only
  rw [if_neg h]
theorem stepT_root {k : Int} {g : List Pl} {x : En} (h : (cleanL x.name).2 = 0) (h2 : (cleanL x.name).1 = []) : stepT k g x = (g, if x.kind = 2 then 0 else 71) := by
  unfold stepT
  simp only
  rw [if_pos h, if_pos h2]
theorem stepT_wh {k : Int} {g : List Pl} {x : En} {P : List UInt8} (hP : P = (cleanL x.name).1) (h : (cleanL x.name).2 = 0) (h2 : P ≠ []) (h3 : (whiteL (baseL P)).2.2 = true) :
    stepT k g x = (takeG k g (parentL P) (whiteL (baseL P)).1 (whiteL (baseL P)).2.1, 0) := by
  unfold stepT
  simp only
  rw [if_pos h, ← hP, if_neg h2, if_pos h3]
theorem stepT_in {k : Int} {g : List Pl} {x : En} {P : List UInt8} (hP : P = (cleanL x.name).1) (h : (cleanL x.name).2 = 0) (h2 : P ≠ []) (h3 : (whiteL (baseL P)).2.2 = false) :
    stepT k g x = match enterG k (parentL P) g with
        | none => (g, 71)
        | some g => if (nodeG g x P).2 = 0 then (layG k g (nodeG g x P).1, 0) else (g, (nodeG g x P).2) := by
  unfold stepT
  simp only
  rw [if_pos h, ← hP, if_neg h2, if_neg (by rw [h3]; decide)]
  cases enterG k (parentL P) g <;> rfl
theorem pick_nd {b : Bool} {n : Nd} (h : (if b = true then (n, (0 : Int)) else (default, 2)).2 = 0) : (if b = true then (n, (0 : Int)) else (default, 2)).1 = n := by
  cases b
  · cases h
  · rfl
theorem white_len (s : List UInt8) : (whiteL s).1.length ≤ s.length := by
  unfold whiteL
  split
  · exact Nat.zero_le _
  · split
    · show (s.drop 4).length ≤ _
      rw [List.length_drop]
      omega
    · exact Nat.zero_le _
theorem nodeG_path (g : List Pl) (x : En) (p : List UInt8) (h : (nodeG g x p).2 = 0) : (nodeG g x p).1.path = p := by
  unfold nodeG at h ⊢
  by_cases h3 : x.kind = 3
  · rw [if_pos h3] at h ⊢
    by_cases h4 : (linkedG g x.to).2 = 0
    · rw [if_pos h4] at h ⊢
      simp only at h ⊢
      rw [pick_nd h]
    · rw [if_neg h4] at h
      exact absurd h h4
  · rw [if_neg h3] at h ⊢
    rw [pick_nd h]
set_option maxRecDepth 100000 in
set_option maxHeartbeats 32000000 in
theorem gstep_any (x : En) (hn : x.name.length ≤ 900000) (ht : x.to.length ≤ 900000) (B M : Nat) (g : List Pl) (hlen : g.length ≤ 900000) (k : Int) (w : World) (h : GrAt w B M g k) :
    Calls Tryz.prog 55 #[.pointer (some ⟨B, 0, none⟩), .agg #[.int .i64 x.kind, .string (str x.name), .string (str x.to), .int .i64 x.mode, .string (str x.data)]] w fun e w' =>
      e = .returned (.int .i64 (stepT k g x).2) ∧ ((stepT k g x).2 = 0 → GrAt w' B M (stepT k g x).1 k) ∧ GrC B M w w' := by
  have HI := Lib.hid info_nd4
  have HI5 := Lib.hid info_en5
  have CC := fun W => clean_any x.name hn W
  have CK := fun W => checkRoot_any x.kind W
  have hcl := clean_len x.name
  have HERR := Lib.hid (stepT_err (k := k) (g := g) (x := x))
  have HROOT := Lib.hid (stepT_root (k := k) (g := g) (x := x))
  obtain ⟨P, hP⟩ : ∃ P, P = (cleanL x.name).1 := ⟨_, rfl⟩
  obtain ⟨CE, hCE⟩ : ∃ CE, CE = (cleanL x.name).2 := ⟨_, rfl⟩
  have HWH := Lib.hid (stepT_wh (k := k) (g := g) hP)
  have HIN := Lib.hid (stepT_in (k := k) (g := g) hP)
  rw [← hP] at CC hcl HROOT
  rw [← hCE] at CC HERR HROOT HWH HIN
  have q0 := eq_lit P []
  have q0b := empty_lit P
  have CPA := fun W => parent_any P (by omega) W
  have CBA := fun W => base_any P (by omega) W
  have hbl := base_le P
  have hpl := parent_le P
  have CWH := fun W => white_any (baseL P) (by omega) W
  have hwl := white_len (baseL P)
  have HG0 := Lib.hid h
  have hBw := rowC_lt h.row
  have hMw := h.map.lt
  have hx : (Value.agg #[.int .i64 x.kind, .string (str x.name), .string (str x.to), .int .i64 x.mode, .string (str x.data)]) = .agg (enA x) := rfl
  obtain ⟨W0, hW0⟩ : ∃ W0, W0 = w.alloc (.cells #[.int .i64 x.kind, .string (str x.name), .string (str x.to), .int .i64 x.mode, .string (str x.data)] 52) := ⟨_, rfl⟩
  have HW0 := Lib.hid hW0
  have HB0 : Hid (Below w.heap.size w W0) := Lib.hid (by rw [hW0]; exact (Below.refl _ _).alloc (Nat.le_refl _) _)
  have HR0 : Hid (rowC W0 w.heap.size (enA x) 52) := Lib.hid (by rw [hW0]; exact rowC_new w _ _)
  have e1 : W0.cell? ⟨w.heap.size, 1, none⟩ = some (.string (str x.name)) := rowC_cell HR0.out 1
  clear hW0 h hx hCE hP
  generalize hst : stepT k g x = ST at *
  clear hst
  generalize hBL : baseL P = BL at *
  generalize whiteL BL = WL at *
  obtain ⟨wn, wo, wi⟩ := WL
  simp only at CWH HWH HIN hwl
  clear hBL
  by_cases hce : CE = 0
  rotate_left
  · have HR := Lib.hid (HERR.out hce)
    have g1 : (CE != 0) = true := by rw [bne_iff_ne]; exact hce
    have hce2 := Lib.hid hce
    clear HERR HROOT HWH HIN hce
    go_enter Tryz.func55, Tryz.ntmps55
    go_upto_region 1 with (fail)
    rw [← HW0.out]
    go_wp2_with (first
    | (go_at_call 44; ((with_reducible refine (CC _).mono ?_); rintro e w1 ⟨rfl, hB1⟩; have HB1 := Lib.hid (HB0.out.trans (hB1.mono HB0.out.size)); have HR1 := Lib.hid (rowC_below HR0.out hB1 (rowC_lt HR0.out)); clear hB1; have e10 : w1.cell? ⟨w.heap.size, 0, none⟩ = some (.int .i64 x.kind) := rowC_cell HR1.out 0))
    | (go_at_call 45; ((with_reducible refine (CPA _).mono ?_); rintro e w2 ⟨rfl, hB2⟩; have HB2 := Lib.hid (HB1.out.trans (hB2.mono HB1.out.size)); have HR2 := Lib.hid (rowC_below HR1.out hB2 (rowC_lt HR1.out)); clear hB2))
    | (go_at_call 70; ((with_reducible refine (CBA _).mono ?_); rintro e w3 ⟨rfl, hB3⟩; have HB3 := Lib.hid (HB2.out.trans (hB3.mono HB2.out.size)); have HR3 := Lib.hid (rowC_below HR2.out hB3 (rowC_lt HR2.out)); clear hB3))
    | (go_at_call 69; ((with_reducible refine (CWH _).mono ?_); rintro e w4 ⟨rfl, hB4⟩; have HB4 := Lib.hid (HB3.out.trans (hB4.mono HB3.out.size)); have HR4 := Lib.hid (rowC_below HR3.out hB4 (rowC_lt HR3.out)); have HG4 := Lib.hid (HG0.out.below HB4.out); clear hB4)))
    go_ret
    exact ⟨by rw [HR.out]; rfl, fun e => absurd (by rw [HR.out] at e; exact e) hce2.out, Chg.of_below HB1.out⟩
  subst hce
  by_cases hp0 : P = []
  · have HR := Lib.hid (HROOT.out rfl hp0)
    rw [decide_eq_true hp0] at q0 q0b
    obtain ⟨kr, hkr⟩ : ∃ kr, kr = (if x.kind = 2 then (0 : Int) else 71) := ⟨_, rfl⟩
    rw [← hkr] at CK HR
    clear HERR HROOT HWH HIN hp0 hkr
    generalize str P = PS at *
    go_enter Tryz.func55, Tryz.ntmps55
    go_upto_region 1 with (fail)
    rw [← HW0.out]
    go_wp2_with (first
    | (go_at_call 44; ((with_reducible refine (CC _).mono ?_); rintro e w1 ⟨rfl, hB1⟩; have HB1 := Lib.hid (HB0.out.trans (hB1.mono HB0.out.size)); have HR1 := Lib.hid (rowC_below HR0.out hB1 (rowC_lt HR0.out)); clear hB1; have e10 : w1.cell? ⟨w.heap.size, 0, none⟩ = some (.int .i64 x.kind) := rowC_cell HR1.out 0))
    | (go_at_call 45; ((with_reducible refine (CPA _).mono ?_); rintro e w2 ⟨rfl, hB2⟩; have HB2 := Lib.hid (HB1.out.trans (hB2.mono HB1.out.size)); have HR2 := Lib.hid (rowC_below HR1.out hB2 (rowC_lt HR1.out)); clear hB2))
    | (go_at_call 70; ((with_reducible refine (CBA _).mono ?_); rintro e w3 ⟨rfl, hB3⟩; have HB3 := Lib.hid (HB2.out.trans (hB3.mono HB2.out.size)); have HR3 := Lib.hid (rowC_below HR2.out hB3 (rowC_lt HR2.out)); clear hB3))
    | (go_at_call 69; ((with_reducible refine (CWH _).mono ?_); rintro e w4 ⟨rfl, hB4⟩; have HB4 := Lib.hid (HB3.out.trans (hB4.mono HB3.out.size)); have HR4 := Lib.hid (rowC_below HR3.out hB4 (rowC_lt HR3.out)); have HG4 := Lib.hid (HG0.out.below HB4.out); clear hB4))
    | (go_at_call 68; ((with_reducible refine (CK _).mono ?_); rintro e w5 ⟨rfl, rfl⟩)))
    go_ret
    exact ⟨by rw [HR.out]; rfl, fun _ => by rw [HR.out]; exact HG0.out.below HB1.out, Chg.of_below HB1.out⟩
  rw [decide_eq_false hp0] at q0 q0b
  cases wi with
  | true =>
    have HR := Lib.hid (HWH.out rfl hp0 rfl)
    have CT := fun W (hW : GrAt W B M g k) => takeAway_any (parentL P) wn wo (by omega) (by omega) B M g k W hW
    clear HERR HROOT HWH HIN hp0
    generalize hgt : takeG k g (parentL P) wn wo = GT at *
    clear hgt
    generalize str (parentL P) = DS at *
    generalize str P = PS at *
    generalize str BL = BS at *
    generalize str wn = NS at *
    go_enter Tryz.func55, Tryz.ntmps55
    go_upto_region 1 with (fail)
    rw [← HW0.out]
    go_wp2_with (first
    | (go_at_call 44; ((with_reducible refine (CC _).mono ?_); rintro e w1 ⟨rfl, hB1⟩; have HB1 := Lib.hid (HB0.out.trans (hB1.mono HB0.out.size)); have HR1 := Lib.hid (rowC_below HR0.out hB1 (rowC_lt HR0.out)); clear hB1; have e10 : w1.cell? ⟨w.heap.size, 0, none⟩ = some (.int .i64 x.kind) := rowC_cell HR1.out 0))
    | (go_at_call 45; ((with_reducible refine (CPA _).mono ?_); rintro e w2 ⟨rfl, hB2⟩; have HB2 := Lib.hid (HB1.out.trans (hB2.mono HB1.out.size)); have HR2 := Lib.hid (rowC_below HR1.out hB2 (rowC_lt HR1.out)); clear hB2))
    | (go_at_call 70; ((with_reducible refine (CBA _).mono ?_); rintro e w3 ⟨rfl, hB3⟩; have HB3 := Lib.hid (HB2.out.trans (hB3.mono HB2.out.size)); have HR3 := Lib.hid (rowC_below HR2.out hB3 (rowC_lt HR2.out)); clear hB3))
    | (go_at_call 69; ((with_reducible refine (CWH _).mono ?_); rintro e w4 ⟨rfl, hB4⟩; have HB4 := Lib.hid (HB3.out.trans (hB4.mono HB3.out.size)); have HR4 := Lib.hid (rowC_below HR3.out hB4 (rowC_lt HR3.out)); have HG4 := Lib.hid (HG0.out.below HB4.out); clear hB4))
    | (go_at_call 71; (refine (CT _ HG4.out).mono ?_; rintro e w5 ⟨rfl, hG5, hC5⟩)))
    go_ret
    exact ⟨by rw [HR.out]; rfl, fun _ => by rw [HR.out]; exact hG5, Chg.trans (Chg.of_below HB4.out) hC5 (fun _ _ h => h)⟩
  | false =>
    have HR := Lib.hid (HIN.out rfl hp0 rfl)
    have CE1 := fun W (hW : GrAt W B M g k) => enter_any B M k _ (parentL P) (Nat.le_refl _) g (by omega) W hW
    clear HERR HROOT HWH HIN hp0
    cases he : enterG k (parentL P) g with
    | none =>
      rw [he] at CE1
      have RS2 : Hid (ST = (g, 71)) := Lib.hid (by rw [HR.out, he])
      clear HR he
      generalize str (parentL P) = DS at *
      generalize str P = PS at *
      generalize str BL = BS at *
      generalize str wn = NS at *
      go_enter Tryz.func55, Tryz.ntmps55
      go_upto_region 1 with (fail)
      rw [← HW0.out]
      go_wp2_with (first
    | (go_at_call 44; ((with_reducible refine (CC _).mono ?_); rintro e w1 ⟨rfl, hB1⟩; have HB1 := Lib.hid (HB0.out.trans (hB1.mono HB0.out.size)); have HR1 := Lib.hid (rowC_below HR0.out hB1 (rowC_lt HR0.out)); clear hB1; have e10 : w1.cell? ⟨w.heap.size, 0, none⟩ = some (.int .i64 x.kind) := rowC_cell HR1.out 0))
    | (go_at_call 45; ((with_reducible refine (CPA _).mono ?_); rintro e w2 ⟨rfl, hB2⟩; have HB2 := Lib.hid (HB1.out.trans (hB2.mono HB1.out.size)); have HR2 := Lib.hid (rowC_below HR1.out hB2 (rowC_lt HR1.out)); clear hB2))
    | (go_at_call 70; ((with_reducible refine (CBA _).mono ?_); rintro e w3 ⟨rfl, hB3⟩; have HB3 := Lib.hid (HB2.out.trans (hB3.mono HB2.out.size)); have HR3 := Lib.hid (rowC_below HR2.out hB3 (rowC_lt HR2.out)); clear hB3))
    | (go_at_call 69; ((with_reducible refine (CWH _).mono ?_); rintro e w4 ⟨rfl, hB4⟩; have HB4 := Lib.hid (HB3.out.trans (hB4.mono HB3.out.size)); have HR4 := Lib.hid (rowC_below HR3.out hB4 (rowC_lt HR3.out)); have HG4 := Lib.hid (HG0.out.below HB4.out); clear hB4))
    | (go_at_call 72; (refine (CE1 _ HG4.out).mono ?_; rintro e w5 ⟨rfl, hC5⟩)))
      go_ret
      exact ⟨by rw [RS2.out]; rfl, fun e => (by rw [RS2.out] at e; cases e), Chg.trans (Chg.of_below HB4.out) hC5 (fun _ _ h => h)⟩
    | some g1 =>
      have hlen1 := enterG_len k _ (parentL P) g g1 (Nat.le_refl _) he
      rw [he] at CE1
      have RS2 : Hid (ST = if (nodeG g1 x P).2 = 0 then (layG k g1 (nodeG g1 x P).1, 0) else (g1, (nodeG g1 x P).2)) := Lib.hid (by rw [HR.out, he])
      have CN := fun W (hW : GrAt W B M g1 k) => nodeOf_any x P (by omega) ht B M g1 k W hW
      have HNP := Lib.hid (nodeG_path g1 x P)
      clear HR he
      generalize (nodeG g1 x P) = NG at *
      obtain ⟨nd, ne⟩ := NG
      simp only at CN RS2 HNP
      have hone := Lib.hid (ndA_one nd)
      generalize str (parentL P) = DS at *
      generalize hPS : str P = PS at *
      clear hPS
      generalize str BL = BS at *
      generalize str wn = NS at *
      by_cases hne : ne = 0
      rotate_left
      · have RS3 := Lib.hid (RS2.out.trans (if_neg hne))
        have g1' : (ne != 0) = true := by rw [bne_iff_ne]; exact hne
        have hne2 := Lib.hid hne
        clear RS2 hne HNP
        go_enter Tryz.func55, Tryz.ntmps55
        go_upto_region 1 with (fail)
        rw [← HW0.out]
        go_wp2_with (first
    | (go_at_call 44; ((with_reducible refine (CC _).mono ?_); rintro e w1 ⟨rfl, hB1⟩; have HB1 := Lib.hid (HB0.out.trans (hB1.mono HB0.out.size)); have HR1 := Lib.hid (rowC_below HR0.out hB1 (rowC_lt HR0.out)); clear hB1; have e10 : w1.cell? ⟨w.heap.size, 0, none⟩ = some (.int .i64 x.kind) := rowC_cell HR1.out 0))
    | (go_at_call 45; ((with_reducible refine (CPA _).mono ?_); rintro e w2 ⟨rfl, hB2⟩; have HB2 := Lib.hid (HB1.out.trans (hB2.mono HB1.out.size)); have HR2 := Lib.hid (rowC_below HR1.out hB2 (rowC_lt HR1.out)); clear hB2))
    | (go_at_call 70; ((with_reducible refine (CBA _).mono ?_); rintro e w3 ⟨rfl, hB3⟩; have HB3 := Lib.hid (HB2.out.trans (hB3.mono HB2.out.size)); have HR3 := Lib.hid (rowC_below HR2.out hB3 (rowC_lt HR2.out)); clear hB3))
    | (go_at_call 69; ((with_reducible refine (CWH _).mono ?_); rintro e w4 ⟨rfl, hB4⟩; have HB4 := Lib.hid (HB3.out.trans (hB4.mono HB3.out.size)); have HR4 := Lib.hid (rowC_below HR3.out hB4 (rowC_lt HR3.out)); have HG4 := Lib.hid (HG0.out.below HB4.out); clear hB4))
    | (go_at_call 72; (refine (CE1 _ HG4.out).mono ?_; rintro e w5 ⟨rfl, hG5, hC5⟩; have HG5 := Lib.hid hG5; have HC5 := Lib.hid (Chg.trans (Chg.of_below HB4.out) hC5 (fun _ _ h => h)); have HR5 := Lib.hid (hC5.rowC HR4.out (by omega)); clear hG5 hC5))
    | ((with_reducible show wpList _ _ _ (⟨some 50, .load _ _, _, _, _, _⟩ :: _) _ _); refine wpList_load_row rfl 52 _ rfl w.heap.size rfl 52 (enA x) (0, 0) _ HR5.out Tryz.underlying52 rfl HI5.out ?_)
    | (go_at_call 73; (refine (CN _ HG5.out).mono ?_; rintro e w6 ⟨rfl, hB6⟩; have HC6 := Lib.hid (Chg.then_below HC5.out hB6); clear hB6))
    | ((with_reducible show wpList _ _ _ (⟨none, .store _ (.tmp 12) _, _, _, _, _⟩ :: _) _ _); refine wpList_store_last rfl 32 _ _ rfl w6.heap.size (ndA nd) rfl rfl 32 _ rfl HI.out rfl hone.out ?_))
        go_ret
        exact ⟨by rw [RS3.out]; rfl, fun e => absurd (by rw [RS3.out] at e; exact e) hne2.out, Chg.alloc HC6.out _⟩
      · have RS3 := Lib.hid (RS2.out.trans (if_pos hne))
        have hnp := HNP.out hne
        have CPU := fun W (hW : GrAt W B M g1 k) => gput_any nd (by rw [hnp]; omega) B M g1 (by omega) k W hW
        subst hne
        clear RS2 HNP
        go_enter Tryz.func55, Tryz.ntmps55
        go_upto_region 1 with (fail)
        rw [← HW0.out]
        go_wp2_with (first
    | (go_at_call 44; ((with_reducible refine (CC _).mono ?_); rintro e w1 ⟨rfl, hB1⟩; have HB1 := Lib.hid (HB0.out.trans (hB1.mono HB0.out.size)); have HR1 := Lib.hid (rowC_below HR0.out hB1 (rowC_lt HR0.out)); clear hB1; have e10 : w1.cell? ⟨w.heap.size, 0, none⟩ = some (.int .i64 x.kind) := rowC_cell HR1.out 0))
    | (go_at_call 45; ((with_reducible refine (CPA _).mono ?_); rintro e w2 ⟨rfl, hB2⟩; have HB2 := Lib.hid (HB1.out.trans (hB2.mono HB1.out.size)); have HR2 := Lib.hid (rowC_below HR1.out hB2 (rowC_lt HR1.out)); clear hB2))
    | (go_at_call 70; ((with_reducible refine (CBA _).mono ?_); rintro e w3 ⟨rfl, hB3⟩; have HB3 := Lib.hid (HB2.out.trans (hB3.mono HB2.out.size)); have HR3 := Lib.hid (rowC_below HR2.out hB3 (rowC_lt HR2.out)); clear hB3))
    | (go_at_call 69; ((with_reducible refine (CWH _).mono ?_); rintro e w4 ⟨rfl, hB4⟩; have HB4 := Lib.hid (HB3.out.trans (hB4.mono HB3.out.size)); have HR4 := Lib.hid (rowC_below HR3.out hB4 (rowC_lt HR3.out)); have HG4 := Lib.hid (HG0.out.below HB4.out); clear hB4))
    | (go_at_call 72; (refine (CE1 _ HG4.out).mono ?_; rintro e w5 ⟨rfl, hG5, hC5⟩; have HG5 := Lib.hid hG5; have HC5 := Lib.hid (Chg.trans (Chg.of_below HB4.out) hC5 (fun _ _ h => h)); have HR5 := Lib.hid (hC5.rowC HR4.out (by omega)); clear hG5 hC5))
    | ((with_reducible show wpList _ _ _ (⟨some 50, .load _ _, _, _, _, _⟩ :: _) _ _); refine wpList_load_row rfl 52 _ rfl w.heap.size rfl 52 (enA x) (0, 0) _ HR5.out Tryz.underlying52 rfl HI5.out ?_)
    | (go_at_call 73; (refine (CN _ HG5.out).mono ?_; rintro e w6 ⟨rfl, hB6⟩; have HG6 : Hid (GrAt (w6.alloc (.cells (ndA nd) 32)) B M g1 k) := Lib.hid (HG5.out.below (hB6.alloc hB6.size _)); have HC6 : Hid (GrC B M w (w6.alloc (.cells (ndA nd) 32))) := Lib.hid (Chg.alloc (Chg.then_below HC5.out hB6) _); have HR6 := Lib.hid (rowC_new w6 (ndA nd) 32); clear hB6))
    | ((with_reducible show wpList _ _ _ (⟨none, .store _ (.tmp 12) _, _, _, _, _⟩ :: _) _ _); refine wpList_store_last rfl 32 _ _ rfl w6.heap.size (ndA nd) rfl rfl 32 _ rfl HI.out rfl hone.out ?_)
    | ((with_reducible show wpList _ _ _ (⟨some 59, .load _ _, _, _, _, _⟩ :: _) _ _); refine wpList_load_row rfl 32 _ rfl w6.heap.size rfl 32 (ndA nd) (0, 0) _ HR6.out Tryz.underlying32 rfl HI.out ?_)
    | (go_at_call 74; (refine (CPU _ HG6.out).mono ?_; rintro e w7 ⟨rfl, hG7, hC7⟩)))
        go_ret
        exact ⟨by rw [RS3.out]; rfl, fun _ => by rw [RS3.out]; exact hG7, Chg.trans HC6.out hC7 (fun _ _ h => h)⟩
end Go.Proofs.YtoallfcpnbhhiaaGreatDoor
#print axioms Go.Proofs.YtoallfcpnbhhiaaGreatDoor.gstep_any

