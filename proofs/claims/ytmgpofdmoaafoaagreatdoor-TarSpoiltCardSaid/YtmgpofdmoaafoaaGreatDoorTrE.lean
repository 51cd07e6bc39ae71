/- Layer 15: the program's rows of records, read. -/
import Derived.Test.YtmgpofdmoaafoaaGreatDoorTrD
namespace Go.Proofs.YtmgpofdmoaafoaaGreatDoor
open Go.RowKit

def recO : Option Recs → Array Value
  | none => rec0
  | some r => recV true r
theorem oneR_le {s k v t : Bs} (h : oneR s = some (k, v, t)) : t.length < s.length := by
  unfold oneR at h
  split at h
  · cases h
  · rename_i n hn
    split at h
    · cases h
    · rename_i hc
      simp only at h
      split at h
      · cases h
        have hd := numP_lt hn
        rw [List.length_drop]
        have hpos : 0 < n := by
          rcases Nat.eq_zero_or_pos n with rfl | hp
          · exfalso
            -- a length 0 ends ahead of the line
            rename_i hl
            rw [List.take_zero, List.drop_nil] at hl
            cases hl.1
          · exact hp
        omega
      · cases h
theorem recsR_step {s k v t : Bs} (hs : s ≠ []) (h : oneR s = some (k, v, t)) (r : Recs) : recsR s r = recsR t (setR r k v) := by
  conv => lhs; rw [recsR]
  rw [if_neg hs, h]
  simp only
  rw [if_pos (oneR_le h)]
theorem recsR_bad {s : Bs} (hs : s ≠ []) (h : oneR s = none) (r : Recs) : recsR s r = none := by
  rw [recsR, if_neg hs, h]
set_option maxRecDepth 100000 in
set_option maxHeartbeats 8000000 in
theorem records_any (s : Bs) (hs : s.length ≤ 1000000000) (w : World) :
    Calls Tryz.prog 64 #[.string (str s)] w fun e w' => e = .returned (.tuple #[.agg (recO (recsR s ⟨none, none, none⟩)), .bool (recsR s ⟨none, none, none⟩).isSome]) ∧ Below w.heap.size w w' := by
  have HI := Lib.hid info_rec
  obtain ⟨W0, hW0⟩ : ∃ W0, W0 = w.alloc (.cells #[.bool true, .string ⟨#[]⟩, .bool false, .string ⟨#[]⟩, .bool false, .string ⟨#[]⟩, .bool false] 48) := ⟨_, rfl⟩
  have Z0 : rowC W0 w.heap.size (recV true ⟨none, none, none⟩) 48 := by rw [hW0]; exact rowC_new w _ _
  have B0 : Below w.heap.size w W0 := by rw [hW0]; exact (Below.refl _ _).alloc (Nat.le_refl _) _
  have HW0 := Lib.hid hW0
  have HZ0 := Lib.hid Z0
  have HB0 := Lib.hid B0
  clear hW0 Z0 B0
  go_enter Tryz.func64, Tryz.ntmps64
  go_upto_region 2 with (fail)
  rw [← HW0.out]
  go_loopw [0, 4, 5, 6, 7] (fun d v4 v5 v6 v7 wr => ∃ (t : Bs) (r : Recs), d = .string (str t) ∧ t.length ≤ s.length ∧ Hid (recsR s ⟨none, none, none⟩ = recsR t r) ∧ Hid (rowC wr w.heap.size (recV true r) 48) ∧ Hid (Below w.heap.size w wr)) (fun d _ _ _ _ _ => match d with | .string b => b.size | _ => 0)
  case atStart => exact ⟨s, _, rfl, Nat.le_refl _, Lib.hid rfl, HZ0, HB0⟩
  case round =>
    clear HZ0 HB0
    obtain ⟨t, r, rfl, ht, hR, hZ, hB⟩ := hrel
    have q := empty_lit t
    have C1 := fun w => cutRec_any t (by omega) w
    have hzt := Lib.hid (str_size t)
    by_cases h0 : t = []
    · have HR := Lib.hid (show recsR s ⟨none, none, none⟩ = some r by rw [hR.out, h0, recsR_nil])
      rw [decide_eq_true h0] at q
      clear h0 hR C1 hzt ht
      generalize str t = T at *
      go_wp2_with (first
        | ((with_reducible show wpList _ _ _ (⟨some 26, .load _ (.tmp 2), _, _, _, _⟩ :: _) _ _); refine wpList_load_row rfl 48 _ rfl w.heap.size rfl 48 _ (0, 0) _ hZ.out Tryz.underlying48 rfl HI.out ?_)
        | ((with_reducible show wpList _ _ _ (⟨none, .store _ (.tmp 2) _, _, _, _, _⟩ :: _) _ _); refine wpList_store_row rfl 48 _ _ rfl w.heap.size (recV true r) rfl rfl 48 _ hZ.out HI.out rfl (recV_one _ _) ?_))
      refine bodyPost_ret (results_row_tmp rfl _ _ w.heap.size 48 (recV true r) _ rfl (rowC_setRow hZ.out _) Tryz.underlying48 rfl HI.out _ rfl) rfl ?_
      exact ⟨by rw [HR.out]; rfl, below_setRow hB.out (Nat.le_refl _) _⟩
    · rw [decide_eq_false h0] at q
      cases h1 : oneR t with
      | none =>
        have HR := Lib.hid (show recsR s ⟨none, none, none⟩ = none by rw [hR.out, recsR_bad h0 h1])
        rw [h1] at C1
        unfold recT at C1
        clear h0 h1 hR hzt ht
        generalize str t = T at *
        have z1 := hZ.out
        have b1 := hB.out
        go_wp2_with (first
          | (go_at_call 81; ((with_reducible refine (C1 _).mono ?_); rintro e w1 ⟨rfl, hB1⟩; have z1 := rowC_below z1 hB1 (rowC_lt z1); have b1 := b1.trans (hB1.mono b1.size)))
          | ((with_reducible show wpList _ _ _ (⟨some 20, .build _ _, _, _, _, _⟩ :: _) _ _); refine wpList_build_as rfl 48 _ rfl rec0 (by kernel_rfl) ?_)
          | ((with_reducible show wpList _ _ _ (⟨none, .store _ (.tmp 2) _, _, _, _, _⟩ :: _) _ _); refine wpList_store_row rfl 48 _ _ rfl w.heap.size rec0 rfl rfl 48 _ z1 HI.out rfl (recV_one false ⟨none, none, none⟩) ?_))
        refine bodyPost_ret (results_row_tmp rfl _ _ w.heap.size 48 rec0 _ rfl (rowC_setRow z1 _) Tryz.underlying48 rfl HI.out _ rfl) rfl ?_
        exact ⟨by rw [HR.out]; rfl, below_setRow b1 (Nat.le_refl _) _⟩
      | some p =>
        obtain ⟨k, v, t2⟩ := p
        have HR := Lib.hid (show recsR s ⟨none, none, none⟩ = recsR t2 (setR r k v) by rw [hR.out, recsR_step h0 h1])
        have HLT := Lib.hid (oneR_le h1)
        have HLE := Lib.hid ht
        rw [h1] at C1
        unfold recT at C1
        have C2 := fun w h => set_any w.heap.size true r k v w h
        clear h0 h1 hR ht
        generalize str t = T at *
        have z1 := hZ.out
        have b1 := hB.out
        have HBASE := Lib.hid (fun w1 hz => set_any w.heap.size true r k v w1 hz)
        clear C2
        go_wp2_with (first
          | (go_at_call 81; ((with_reducible refine (C1 _).mono ?_); rintro e w1 ⟨rfl, hB1⟩; have z1 := rowC_below z1 hB1 (rowC_lt z1); have b1 := b1.trans (hB1.mono b1.size)))
          | ((with_reducible show wpList _ _ _ (⟨some 23, .build _ _, _, _, _, _⟩ :: _) _ _); refine wpList_build_as rfl 46 _ rfl #[.string (str v), .bool true] (by kernel_rfl) ?_)
          | (go_at_call 82; ((with_reducible refine (HBASE.out _ z1).mono ?_); rintro e w2 ⟨rfl, z2, c2⟩; have b2 := b1.trans (c2.below b1.size (fun k hk e => by omega)))))
        go_roundw
        case rel => exact ⟨t2, setR r k v, rfl, by have := HLT.out; have := HLE.out; omega, HR, Lib.hid z2, Lib.hid b2⟩
        case measure =>
          show (str t2).size < T.size
          rw [str_size, hzt.out]
          exact HLT.out
end Go.Proofs.YtmgpofdmoaafoaaGreatDoor
