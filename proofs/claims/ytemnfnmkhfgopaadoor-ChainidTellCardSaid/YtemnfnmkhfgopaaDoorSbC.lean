/- Layer 4: the document's own block. -/
import Derived.Test.YtemnfnmkhfgopaaDoorSbB
namespace Go.Proofs.YtemnfnmkhfgopaaDoor
open Go.RowKit

set_option maxRecDepth 100000 in
set_option maxHeartbeats 1000000 in
theorem rblock_any (v : St) (s : ByteArray) (w : World) (hv : v.ok) (hs : s.size = 64) :
    Calls Tryd.prog 25 #[.agg (cells32 v.list), .agg (cells32 kL), .string s] w fun e w' => e = .returned (.agg (cells32 (compN v s.data.toList).list)) ∧ Below w.heap.size w w' := by
  obtain ⟨b, hb⟩ : ∃ b, b = s.data.toList := ⟨_, rfl⟩
  rw [← hb]
  obtain ⟨R, hR⟩ : ∃ R, R = compN v b := ⟨_, rfl⟩
  rw [← hR]
  have HR := Lib.hid (hR.trans (compN_def v b))
  clear hR
  have IX := Lib.hid (fun i x hx h => idx_str s i x hx h)
  rw [← hb] at IX
  clear hb
  have HS := Lib.hid hs
  clear hs
  go_enter Tryd.func25, Tryd.ntmps25
  go_wp2
  go_loopw [8] (fun i wr => ∃ k : Nat, k ≤ 64 ∧ i = .int .i64 k ∧ BlkM w wr v.list kL (List.replicate 8 0) (wz b k)) (fun i _ => 64 - (intOf i).toNat)
  case atStart => 
    exact ⟨0, by omega, rfl, BlkM.start w v.list kL (List.replicate 8 0) (wz b 0)⟩
  case round =>
    obtain ⟨k, hk, rfl, hm⟩ := hrel
    by_cases hlt : k < 64
    · have M := Lib.hid hm
      have hwz := Lib.hid (wz_set b hlt)
      by_cases h16 : k < 16
      · have i0 := IX.out (4 * k) (4 * (k : Int)) (by omega) (by rw [HS.out]; omega)
        have i1 := IX.out (4 * k + 1) (4 * (k : Int) + 1) (by omega) (by rw [HS.out]; omega)
        have i2 := IX.out (4 * k + 2) (4 * (k : Int) + 2) (by omega) (by rw [HS.out]; omega)
        have i3 := IX.out (4 * k + 3) (4 * (k : Int) + 3) (by omega) (by rw [HS.out]; omega)
        have hwd := wN_first b h16
        unfold sha_wordN at hwd
        have b0 := byte_lt (b.getD (4 * k) 0)
        have b1 := byte_lt (b.getD (4 * k + 1) 0)
        have b2 := byte_lt (b.getD (4 * k + 2) 0)
        have b3 := byte_lt (b.getD (4 * k + 3) 0)
        generalize (b.getD (4 * k) 0).toNat = x0 at i0 hwd b0
        generalize (b.getD (4 * k + 1) 0).toNat = x1 at i1 hwd b1
        generalize (b.getD (4 * k + 2) 0).toNat = x2 at i2 hwd b2
        generalize (b.getD (4 * k + 3) 0).toNat = x3 at i3 hwd b3
        have hwI := Lib.hid (show (x0 : Int) * 16777216 + (x1 : Int) * 65536 + (x2 : Int) * 256 + (x3 : Int) = (wN b k : Int) by rw [hwd]; simp)
        clear hwd
        have hc4 := row32_cell hm.r4 k (by rw [wz_length b hk]; omega)
        have hf4 := row32_free hm.r4 k
        clear hm
        go_wp2
        go_region
        go_wp2
        go_roundw
        case rel => exact ⟨k + 1, by omega, by go_num, by rw [hwI.out, ← hwz.out]; exact (M.out.set4 k (wN b k)).drew⟩
        case measure => simp [intOf]; omega
      · have c16 := row32_cell hm.r4 (k - 16) (by rw [wz_length b hk]; omega)
        have c15 := row32_cell hm.r4 (k - 15) (by rw [wz_length b hk]; omega)
        have c7 := row32_cell hm.r4 (k - 7) (by rw [wz_length b hk]; omega)
        have c2 := row32_cell hm.r4 (k - 2) (by rw [wz_length b hk]; omega)
        rw [wz_getD b (by omega)] at c16 c15 c7 c2
        have hwn := wN_next b (show 16 ≤ k by omega)
        have b0 := wN_lt b (k - 16)
        have b1 := wN_lt b (k - 15)
        have b2 := wN_lt b (k - 7)
        have b3 := wN_lt b (k - 2)
        generalize wN b (k - 16) = x0 at c16 hwn b0
        generalize wN b (k - 15) = x1 at c15 hwn b1
        generalize wN b (k - 7) = x2 at c7 hwn b2
        generalize wN b (k - 2) = x3 at c2 hwn b3
        have HW := Lib.hid hwn
        clear hwn
        have hc4 := row32_cell hm.r4 k (by rw [wz_length b hk]; omega)
        have hf4 := row32_free hm.r4 k
        clear hm
        have e16 : (k : Int) - 16 = ((k - 16 : Nat) : Int) := by omega
        have e15 : (k : Int) - 15 = ((k - 15 : Nat) : Int) := by omega
        have e7 : (k : Int) - 7 = ((k - 7 : Nat) : Int) := by omega
        have e2 : (k : Int) - 2 = ((k - 2 : Nat) : Int) := by omega
        go_wp2
        go_quiet (fail)
        go_wp2
        replace hc4 : (wr.drewN nq).cell? ⟨w.heap.size + 1 + 1 + 1, k, none⟩ = _ := hc4
        replace hf4 : (wr.drewN nq).frozen? ⟨w.heap.size + 1 + 1 + 1, k, none⟩ = _ := hf4
        replace c16 : (wr.drewN nq).cell? ⟨w.heap.size + 1 + 1 + 1, k - 16, none⟩ = _ := c16
        replace c7 : (wr.drewN nq).cell? ⟨w.heap.size + 1 + 1 + 1, k - 7, none⟩ = _ := c7
        have M2 := Lib.hid (M.out.drewN nq)
        clear M c15 c2
        generalize wr.drewN nq = wq at *
        have l16 : ((k - 16 : Nat) : Int) < 64 := by omega
        have l7 : ((k - 7 : Nat) : Int) < 64 := by omega
        have l0 : (k : Int) < 64 := by omega
        have p16 : (0 : Int) ≤ ((k - 16 : Nat) : Int) := by omega
        have p7 : (0 : Int) ≤ ((k - 7 : Nat) : Int) := by omega
        have p0 : (0 : Int) ≤ (k : Int) := by omega
        have hlow := lowI b1
        have hhigh := highI b3
        have n16 : k ≠ k - 16 := by omega
        have n7 : k ≠ k - 7 := by omega
        have w16 : IntKind.i64.wrap ((k - 16 : Nat) : Int) = ((k - 16 : Nat) : Int) := IntWalk.i64_in _ (by omega)
        have w7 : IntKind.i64.wrap ((k - 7 : Nat) : Int) = ((k - 7 : Nat) : Int) := IntWalk.i64_in _ (by omega)
        go_region_held3 (fun w' => w'.cell? ⟨w.heap.size + 1 + 1 + 1, k - 16, none⟩ = some (.int .u32 (x0 : Int)) ∧ w'.cell? ⟨w.heap.size + 1 + 1 + 1, k - 7, none⟩ = some (.int .u32 (x2 : Int)))
          (first | (exact ⟨set_far n16 (by assumption), set_far n7 (by assumption)⟩) | go_keep)
          (first | (go_at_call 32; refine (rr_z _ _ _ ?_ ?_ ?_).mono ?_; omega; omega; omega; rintro e w' ⟨rfl, rfl⟩))
        go_wp2
        go_roundw
        case rel => exact ⟨k + 1, by omega, by go_num, by rw [sum4, ← HW.out, ← hwz.out]; exact (M2.out.set4 k (wN b k)).drew⟩
        case measure => simp [intOf]; omega
    · obtain rfl : k = 64 := by omega
      have M := Lib.hid hm
      have h1 := hm.r1
      clear hm
      go_wp2_with (first | (refine wpList_load_row rfl 41 _ rfl w.heap.size rfl 41 _ (0, 0) _ h1 Tryd.underlying41 rfl (by kernel_rfl) ?_) | (refine wpList_store_row rfl 41 _ _ rfl wr.heap.size (cells32 v.list) rfl rfl 41 _ (heap_alloc_new wr _) (by kernel_rfl) rfl (cells32_one _) ?_))
      have N := BlkN.start (M.out) #[Value.int IntKind.u32 0, Value.int IntKind.u32 0, Value.int IntKind.u32 0, Value.int IntKind.u32 0, Value.int IntKind.u32 0, Value.int IntKind.u32 0, Value.int IntKind.u32 0, Value.int IntKind.u32 0]
      clear M h1
      generalize World.setRow _ _ _ = w1 at N ⊢
      generalize wr.heap.size = G at N ⊢
      go_loopw [12] (fun i wx => ∃ k : Nat, k ≤ 64 ∧ i = .int .i64 k ∧ BlkN w wx G v.list kL (List.replicate 8 0) (wz b 64) (rdsN b v k).list) (fun i _ => 64 - (intOf i).toNat)
      case atStart => exact ⟨0, by omega, rfl, N⟩
      case round =>
        clear N
        obtain ⟨k, hk, rfl, N⟩ := hrel
        by_cases hlt : k < 64
        · have hok := rdsN_ok b hv k
          have hst : rdsN b v (k + 1) = stepN (kN k) (wN b k) (rdsN b v k) := rfl
          generalize rdsN b v k = st at N hok hst
          obtain ⟨a1, a2, a3, a4, a5, a6, a7, a8⟩ := st
          obtain ⟨o1, o2, o3, o4, o5, o6, o7, o8⟩ := hok
          simp only at o1 o2 o3 o4 o5 o6 o7 o8
          have c0 : wr.cell? ⟨G, 0, none⟩ = some (.int .u32 (a1 : Nat)) := row32_cell N.r5 0 (by show 0 < 8; omega)
          have c1 : wr.cell? ⟨G, 1, none⟩ = some (.int .u32 (a2 : Nat)) := row32_cell N.r5 1 (by show 1 < 8; omega)
          have c2 : wr.cell? ⟨G, 2, none⟩ = some (.int .u32 (a3 : Nat)) := row32_cell N.r5 2 (by show 2 < 8; omega)
          have c3 : wr.cell? ⟨G, 3, none⟩ = some (.int .u32 (a4 : Nat)) := row32_cell N.r5 3 (by show 3 < 8; omega)
          have c4 : wr.cell? ⟨G, 4, none⟩ = some (.int .u32 (a5 : Nat)) := row32_cell N.r5 4 (by show 4 < 8; omega)
          have c5 : wr.cell? ⟨G, 5, none⟩ = some (.int .u32 (a6 : Nat)) := row32_cell N.r5 5 (by show 5 < 8; omega)
          have c6 : wr.cell? ⟨G, 6, none⟩ = some (.int .u32 (a7 : Nat)) := row32_cell N.r5 6 (by show 6 < 8; omega)
          have c7 : wr.cell? ⟨G, 7, none⟩ = some (.int .u32 (a8 : Nat)) := row32_cell N.r5 7 (by show 7 < 8; omega)
          have ck : wr.cell? ⟨w.heap.size + 1, k, none⟩ = some (.int .u32 (kN k : Nat)) := row32_cell N.m.r2 k hlt
          have cw := row32_cell N.m.r4 k (by rw [wz_length b (Nat.le_refl _)]; omega)
          rw [wz_getD b hlt] at cw
          have bk := kN_lt k
          have bw := wN_lt b k
          have HST := Lib.hid hst
          have M := Lib.hid N
          clear N hst
          have e1 := s1I a5
          have e0 := s0I a1
          have em := majI o1 o2 o3
          have ec := chI o5 o6 o7
          have f0 := row32_free M.out.r5 0
          have f1 := row32_free M.out.r5 1
          have f2 := row32_free M.out.r5 2
          have f3 := row32_free M.out.r5 3
          have f4 := row32_free M.out.r5 4
          have f5 := row32_free M.out.r5 5
          have f6 := row32_free M.out.r5 6
          have f7 := row32_free M.out.r5 7
          go_wp2
          go_quiet (fail)
          go_wp2
          go_quiet ((go_at_call 32; exact qs2 (rr_z _ _ _ (by omega) (by omega) (by omega))))
          go_wp2
          go_quiet ((go_at_call 32; exact qs2 (rr_z _ _ _ (by omega) (by omega) (by omega))))
          go_wp2
          clear e1 e0 em ec
          go_roundw
          case rel => exact ⟨k + 1, by omega, by go_num, by rw [stepE, stepA, HST.out]; exact ((((((((M.out.drewN _).set5 7 a7).set5 6 a6).set5 5 a5).set5 4 _).set5 3 a3).set5 2 a2).set5 1 a1).set5 0 _⟩
          case measure => simp [intOf]; omega
        · obtain rfl : k = 64 := by omega
          generalize rdsN b v 64 = D at N HR
          have M := Lib.hid N
          clear N
          go_wp2
          go_loopw [17] (fun i wx => ∃ k : Nat, k ≤ 8 ∧ i = .int .i64 k ∧ BlkN w wx G (mixN v.list R.list k) kL (List.replicate 8 0) (wz b 64) D.list) (fun i _ => 8 - (intOf i).toNat)
          case atStart => exact ⟨0, by omega, rfl, M.out⟩
          case round =>
            clear M
            obtain ⟨k, hk, rfl, N⟩ := hrel
            by_cases hlt : k < 8
            · have c1 := row32_cell N.m.r1 k (by rw [mixN_length v.list R.list k (by simp only [St.list_length]), St.list_length]; exact hlt)
              have c2 := row32_cell N.r5 k hlt
              have f1 := row32_free N.m.r1 k
              rw [mixN_getD _ _ _ (by simp only [St.list_length]) (by rw [St.list_length]; exact hlt)] at c1
              have hs := Lib.hid (mixN_set v.list R.list k (by simp only [St.list_length]) (St.list_length v) hlt)
              have ha0 := addN_getD v D hlt
              rw [← HR.out] at ha0
              have ha := Lib.hid ha0
              clear ha0
              generalize v.list.getD k 0 = x0 at c1 ha
              generalize D.list.getD k 0 = x1 at c2 ha
              have M := Lib.hid N
              have gt := N.gt
              clear N
              go_wp2
              go_region
              go_wp2
              go_roundw
              case rel => exact ⟨k + 1, by omega, by go_num, by rw [← hs.out, ha.out, show ((x0 : Int) + (x1 : Int)) % 4294967296 = ((x0 + x1) % 4294967296 : Nat) by omega]; exact (M.out.set1 k _).drew⟩
              case measure => simp [intOf]; omega
            · obtain rfl : k = 8 := by omega
              have h1 := N.m.r1
              rw [mixN_all _ _ (by simp only [St.list_length]) (St.list_length v)] at h1
              have h3 := N.m.r3
              have nx := N.m.nx
              clear N
              go_wp2_with (first | (refine wpList_load_row rfl 41 _ rfl w.heap.size rfl 41 _ (0, 0) _ h1 Tryd.underlying41 rfl (by kernel_rfl) ?_) | (refine wpList_store_row rfl 41 _ _ rfl (w.heap.size + 1 + 1) (cells32 R.list) rfl rfl 41 _ h3 (by kernel_rfl) rfl (cells32_one _) ?_))
              exact bodyPost_ret (results_cell_row rfl _ _ (w.heap.size + 1 + 1) 41 (cells32 R.list) (0, 0) _ rfl (setRow_heap _ _ _ _ _ _ h3) Tryd.underlying41 rfl (by kernel_rfl)) rfl ⟨rfl, below_setRow nx (by omega) _⟩
end Go.Proofs.YtemnfnmkhfgopaaDoor
