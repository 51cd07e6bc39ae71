/- Layer 15: the program's putEntry. -/
import Derived.Test.YtmgpofdmoaafoaaGreatDoorTrQ
namespace Go.Proofs.YtmgpofdmoaafoaaGreatDoor
open Go.RowKit
attribute [local go_sem] wide_fn round_fn

theorem longR_le {k v : Bs} (hk : k.length ≤ 100) (hv : v.length ≤ 200) : (longR k v).length ≤ 400 := by
  unfold longR recW
  have := lineL_len k v
  have d3 : ∀ n, (dec3 n).length = 3 := fun _ => rfl
  split
  · rw [List.length_append, d3]; omega
  · exact Nat.zero_le _
theorem MayP.to200 {x : Ent} (h : MayP x) : x.to.length ≤ 200 := by
  cases hl : isLinkK x.kind
  · rw [h.none hl]; exact Nat.zero_le _
  · exact (textE_ok (h.link hl)).1
set_option maxRecDepth 100000 in
set_option maxHeartbeats 8000000 in
theorem putEntry_any (B b : Nat) (l : Bs) (x : Ent) (hx : MayP x) (hd : x.data.length ≤ 1000000000) (hl : l.length ≤ 900000000000) (w : World) (hE : EnvT w) (hB : B ≤ w.heap.size) (h : BdAt w B b l) :
    Calls Tryz.prog 29 #[.pointer (some ⟨b, 0, none⟩), .agg #[.int .i64 x.kind, .string (str x.name), .string (str x.to), .int .i64 x.mode, .string (str x.data)]] w fun e w' =>
      e = .returned (.tuple #[]) ∧ BdS w B b (l ++ encE x) w' := by
  have hn200 := (textE_ok hx.name).1
  have ht200 := hx.to200
  have hm0 := hx.m0
  have hm1 := hx.m1
  obtain ⟨md, hmd⟩ : ∃ md : Nat, x.mode = (md : Int) := ⟨x.mode.toNat, by omega⟩
  obtain ⟨W0, hW0⟩ : ∃ W0, W0 = w.alloc (.cells #[.int .i64 x.kind, .string (str x.name), .string (str x.to), .int .i64 x.mode, .string (str x.data)] 39) := ⟨_, rfl⟩
  have HW0 := Lib.hid hW0
  have HZ0 : Hid (rowC W0 w.heap.size #[.int .i64 x.kind, .string (str x.name), .string (str x.to), .int .i64 x.mode, .string (str x.data)] 39) := Lib.hid (by rw [hW0]; exact rowC_new w _ _)
  have B0 : Below w.heap.size w W0 := by rw [hW0]; exact (Below.refl _ _).alloc (Nat.le_refl _) _
  have HS0 : Hid (BdS w B b l W0) := Lib.hid ((BdS.start h).below hB B0)
  have HB0 : Hid (B ≤ W0.heap.size ∧ w.heap.size ≠ b) := Lib.hid ⟨Nat.le_trans hB B0.size, by have := (BdAt.lt h).2; omega⟩
  have HE0 := Lib.hid (hE.below B0)
  have z1 := str_size (longR kPath x.name)
  have z2 := str_size (longR kLink x.to)
  have y1 := longR_le (k := kPath) (v := x.name) (by decide) hn200
  have y2 := longR_le (k := kLink) (v := x.to) (by decide) ht200
  have CQ1 : ∀ y : After W0, CallsIn Fence.wide 3 Tryz.prog 48 #[.string ⟨#[112, 97, 116, 104]⟩, .string (str x.name)] y.v fun e w'' => e = .returned (.string (str (longR kPath x.name))) ∧ ∃ z : After W0, w'' = z.v := fun y =>
    (callsIn_wide.2 (long_any kPath x.name (by decide) hn200 y.v (HE0.out.below y.h))).mono fun e w'' ⟨he, hb⟩ => ⟨he, ⟨w'', y.h.trans (hb.mono y.h.size)⟩, rfl⟩
  have CQ2 : ∀ y : After W0, CallsIn Fence.wide 3 Tryz.prog 48 #[.string ⟨#[108, 105, 110, 107, 112, 97, 116, 104]⟩, .string (str x.to)] y.v fun e w'' => e = .returned (.string (str (longR kLink x.to))) ∧ ∃ z : After W0, w'' = z.v := fun y =>
    (callsIn_wide.2 (long_any kLink x.to (by decide) ht200 y.v (HE0.out.below y.h))).mono fun e w'' ⟨he, hb⟩ => ⟨he, ⟨w'', y.h.trans (hb.mono y.h.size)⟩, rfl⟩
  have L1 : ∀ y : After W0, y.v.cell? ⟨w.heap.size, 1, none⟩ = some (.string (str x.name)) := fun y => rowC_cell (rowC_below HZ0.out y.h (rowC_lt HZ0.out)) 1
  have L2 : ∀ y : After W0, y.v.cell? ⟨w.heap.size, 2, none⟩ = some (.string (str x.to)) := fun y => rowC_cell (rowC_below HZ0.out y.h (rowC_lt HZ0.out)) 2
  have hME : str (longR kPath x.name) ++ str (longR kLink x.to) = str (moreE x) := str_append _ _
  have hML : (moreE x).length ≤ 800 := by unfold moreE; rw [List.length_append]; omega
  have HDL := Lib.hid hd
  have HLL := Lib.hid hl
  have HMM : Hid (md ≤ 4095 ∧ (moreE x).length ≤ 800) := Lib.hid ⟨by omega, hML⟩
  have HEQ : Hid (encE x = (if moreE x = [] then [] else partW kPax [] 0 120 (moreE x)) ++ partW x.name x.to md (typeL x.kind) x.data) := Lib.hid (by unfold encE; rw [hmd]; rfl)
  have qm := empty_lit (moreE x)
  have CT := fun W => type_any x.kind W
  have s1 : (str (longR kPath x.name)).size ≤ 400 := by rw [z1]; exact y1
  have s2 : (str (longR kLink x.to)).size ≤ 400 := by rw [z2]; exact y2
  have HMD := Lib.hid hmd
  clear hmd z1 z2 y1 y2 hn200 ht200 hm0 hm1 hW0 B0 h hE hl hd hML
  generalize str (longR kPath x.name) = R1 at *
  generalize str (longR kLink x.to) = R2 at *
  go_enter Tryz.func29, Tryz.ntmps29
  go_upto_region 1 with (fail)
  rw [← HW0.out]
  refine (wpIn_wide (n := 4)).1 ?_
  refine region_quiet (C := fun w' => ∃ y : After W0, w' = y.v) (by kernel_rfl) (by kernel_rfl) (by kernel_rfl) ⟨⟨W0.drew, (Below.refl _ _).drew⟩, rfl⟩ ?_
  repeat (gi_big_quiet_step ((gi_at_call 48; first | exact CQ1 _ | exact CQ2 _)))
  refine wpQuietIn_nil ?_
  rintro _ ⟨y, rfl⟩
  have HS1 := Lib.hid (HS0.out.below HB0.out.1 y.h)
  have HZ1 := Lib.hid (rowC_below HZ0.out y.h (rowC_lt HZ0.out))
  have HB1 : Hid (B ≤ y.v.heap.size ∧ w.heap.size ≠ b) := Lib.hid ⟨Nat.le_trans HB0.out.1 y.h.size, HB0.out.2⟩
  clear CQ1 CQ2 L1 L2
  generalize y.v = W1 at *
  gi_wp2
  by_cases h0 : moreE x = []
  · rw [decide_eq_true h0] at qm
    have HEE := Lib.hid (HEQ.out.trans (by rw [if_pos h0, List.nil_append]))
    clear HEQ h0
    generalize str (moreE x) = ME at *
    go_upto_region 4 with (fail)
    have hbl : (l).length ≤ 1000000000000 := (by have := HLL.out; omega)
    have CP : ∀ w2, BdS w B b (l) w2 → B ≤ w2.heap.size → Calls Tryz.prog 49 #[.pointer (some ⟨b, 0, none⟩), .agg #[.string (str x.name), .string (str x.to), .int .i64 (md : Int), .int .i64 0, .int .u8 ((typeL x.kind).toNat : Int)], .string (str x.data)] w2 fun e w' => e = .returned (.tuple #[]) ∧ BdS w2 B b (l ++ partW x.name x.to md (typeL x.kind) x.data) w' := fun w2 hs hb => by
      have := putPart_any B b (l) x.name x.to x.data md 0 (typeL x.kind) (by have := HMM.out.1; omega) hbl HDL.out w2 hb hs.pr
      rwa [show ((0 : Nat) : Int) = 0 from rfl] at this
    have HCP := Lib.hid CP
    have K0 : ∀ y : After W1, y.v.cell? ⟨w.heap.size, 0, none⟩ = some (.int .i64 x.kind) := fun y => rowC_cell (rowC_below HZ1.out y.h (rowC_lt HZ1.out)) 0
    have K1 : ∀ y : After W1, y.v.cell? ⟨w.heap.size, 1, none⟩ = some (.string (str x.name)) := fun y => rowC_cell (rowC_below HZ1.out y.h (rowC_lt HZ1.out)) 1
    have K2 : ∀ y : After W1, y.v.cell? ⟨w.heap.size, 2, none⟩ = some (.string (str x.to)) := fun y => rowC_cell (rowC_below HZ1.out y.h (rowC_lt HZ1.out)) 2
    have K3 : ∀ y : After W1, y.v.cell? ⟨w.heap.size, 3, none⟩ = some (.int .i64 (md : Int)) := fun y => by rw [← HMD.out]; exact rowC_cell (rowC_below HZ1.out y.h (rowC_lt HZ1.out)) 3
    have K4 : ∀ y : After W1, y.v.cell? ⟨w.heap.size, 4, none⟩ = some (.string (str x.data)) := fun y => rowC_cell (rowC_below HZ1.out y.h (rowC_lt HZ1.out)) 4
    have CT4 : ∀ y : After W1, CallsIn Fence.wide 3 Tryz.prog 50 #[.int .i64 x.kind] y.v fun e w'' => e = .returned (.int .u8 ((typeL x.kind).toNat : Int)) ∧ ∃ z : After W1, w'' = z.v := fun y =>
      (callsIn_wide.2 (CT y.v)).mono fun e w'' ⟨he, hb⟩ => ⟨he, y, hb.symm⟩
    clear CP hbl CT
    refine (wpIn_wide (n := 4)).1 ?_
    refine region_quiet_tail (C := fun w' => ∃ y : After W1, w' = y.v) 13 (by kernel_rfl) (by kernel_rfl) (by kernel_rfl) ⟨⟨W1.drew, (Below.refl _ _).drew⟩, rfl⟩ ?_
    simp only [List.take_succ_cons, List.take_zero, List.drop_succ_cons, List.drop_zero]
    repeat (gi_big_quiet_step ((gi_at_call 50; exact CT4 _)))
    refine wpQuietIn_nil ?_
    rintro _ ⟨y, rfl⟩
    have HS2 := Lib.hid (HS1.out.below HB1.out.1 y.h)
    have HB2 : Hid (B ≤ y.v.heap.size) := Lib.hid (Nat.le_trans HB1.out.1 y.h.size)
    clear K0 K1 K2 K3 K4 CT4
    generalize y.v = w4 at *
    gi_wp2_with ((gi_at_call 49; (with_reducible refine (callsIn_wide.2 (HCP.out _ HS2.out HB2.out)).mono ?_); rintro e w5 ⟨rfl, s5⟩))
    go_wp2
    go_end0
    refine ⟨rfl, ?_⟩
    have hfin := HS2.out.trans s5
    rw [HEE.out]
    exact hfin
  · rw [decide_eq_false h0] at qm
    have HEE := Lib.hid (HEQ.out.trans (by rw [if_neg h0]))
    have CP1 := putPart_any B b l kPax [] (moreE x) 0 0 120 (by omega) (by have := HLL.out; omega) (by have := HMM.out.2; omega) W1 HB1.out.1 HS1.out.pr
    rw [show str kPax = ⟨#[112, 97, 120]⟩ from rfl, show str [] = ⟨#[]⟩ from rfl, show (((120 : UInt8).toNat : Nat) : Int) = 120 from rfl, show ((0 : Nat) : Int) = 0 from rfl] at CP1
    clear HEQ h0
    have HPL : Hid ((partW kPax [] 0 120 (moreE x)).length ≤ 2000) := Lib.hid (by rw [partW_len]; unfold blocksN; have := HMM.out.2; omega)
    generalize partW kPax [] 0 120 (moreE x) = PX at *
    generalize str (moreE x) = ME at *
    go_upto_region 4 with (first
      | ((with_reducible show wpList _ _ _ (⟨some 15, .build _ _, _, _, _, _⟩ :: _) _ _); refine wpList_build_as rfl 56 _ rfl #[.string ⟨#[112, 97, 120]⟩, .string ⟨#[]⟩, .int .i64 0, .int .i64 0, .int .u8 120] (by kernel_rfl) ?_)
      | (go_at_call 49; ((with_reducible refine CP1.mono ?_); rintro e W3 ⟨rfl, s3⟩)))
    have HZ3 : Hid (rowC W3 w.heap.size #[.int .i64 x.kind, .string (str x.name), .string (str x.to), .int .i64 x.mode, .string (str x.data)] 39) := Lib.hid (s3.row HZ1.out HB1.out.2 (by decide))
    have HS3 := Lib.hid (HS1.out.trans s3)
    have HB3 : Hid (B ≤ W3.heap.size ∧ w.heap.size ≠ b) := Lib.hid ⟨Nat.le_trans HB1.out.1 s3.size, HB1.out.2⟩
    clear s3 CP1
    have hbl : (l ++ PX).length ≤ 1000000000000 := (by have := HLL.out; have := HPL.out; rw [List.length_append]; omega)
    have CP : ∀ w2, BdS w B b (l ++ PX) w2 → B ≤ w2.heap.size → Calls Tryz.prog 49 #[.pointer (some ⟨b, 0, none⟩), .agg #[.string (str x.name), .string (str x.to), .int .i64 (md : Int), .int .i64 0, .int .u8 ((typeL x.kind).toNat : Int)], .string (str x.data)] w2 fun e w' => e = .returned (.tuple #[]) ∧ BdS w2 B b (l ++ PX ++ partW x.name x.to md (typeL x.kind) x.data) w' := fun w2 hs hb => by
      have := putPart_any B b (l ++ PX) x.name x.to x.data md 0 (typeL x.kind) (by have := HMM.out.1; omega) hbl HDL.out w2 hb hs.pr
      rwa [show ((0 : Nat) : Int) = 0 from rfl] at this
    have HCP := Lib.hid CP
    have K0 : ∀ y : After W3, y.v.cell? ⟨w.heap.size, 0, none⟩ = some (.int .i64 x.kind) := fun y => rowC_cell (rowC_below HZ3.out y.h (rowC_lt HZ3.out)) 0
    have K1 : ∀ y : After W3, y.v.cell? ⟨w.heap.size, 1, none⟩ = some (.string (str x.name)) := fun y => rowC_cell (rowC_below HZ3.out y.h (rowC_lt HZ3.out)) 1
    have K2 : ∀ y : After W3, y.v.cell? ⟨w.heap.size, 2, none⟩ = some (.string (str x.to)) := fun y => rowC_cell (rowC_below HZ3.out y.h (rowC_lt HZ3.out)) 2
    have K3 : ∀ y : After W3, y.v.cell? ⟨w.heap.size, 3, none⟩ = some (.int .i64 (md : Int)) := fun y => by rw [← HMD.out]; exact rowC_cell (rowC_below HZ3.out y.h (rowC_lt HZ3.out)) 3
    have K4 : ∀ y : After W3, y.v.cell? ⟨w.heap.size, 4, none⟩ = some (.string (str x.data)) := fun y => rowC_cell (rowC_below HZ3.out y.h (rowC_lt HZ3.out)) 4
    have CT4 : ∀ y : After W3, CallsIn Fence.wide 3 Tryz.prog 50 #[.int .i64 x.kind] y.v fun e w'' => e = .returned (.int .u8 ((typeL x.kind).toNat : Int)) ∧ ∃ z : After W3, w'' = z.v := fun y =>
      (callsIn_wide.2 (CT y.v)).mono fun e w'' ⟨he, hb⟩ => ⟨he, y, hb.symm⟩
    clear CP hbl CT
    refine (wpIn_wide (n := 4)).1 ?_
    refine region_quiet_tail (C := fun w' => ∃ y : After W3, w' = y.v) 13 (by kernel_rfl) (by kernel_rfl) (by kernel_rfl) ⟨⟨W3.drew, (Below.refl _ _).drew⟩, rfl⟩ ?_
    simp only [List.take_succ_cons, List.take_zero, List.drop_succ_cons, List.drop_zero]
    repeat (gi_big_quiet_step ((gi_at_call 50; exact CT4 _)))
    refine wpQuietIn_nil ?_
    rintro _ ⟨y, rfl⟩
    have HS2 := Lib.hid (HS3.out.below HB3.out.1 y.h)
    have HB2 : Hid (B ≤ y.v.heap.size) := Lib.hid (Nat.le_trans HB3.out.1 y.h.size)
    clear K0 K1 K2 K3 K4 CT4
    generalize y.v = w4 at *
    gi_wp2_with ((gi_at_call 49; (with_reducible refine (callsIn_wide.2 (HCP.out _ HS2.out HB2.out)).mono ?_); rintro e w5 ⟨rfl, s5⟩))
    go_wp2
    go_end0
    refine ⟨rfl, ?_⟩
    have hfin := HS2.out.trans s5
    rw [HEE.out, ← List.append_assoc]
    exact hfin
end Go.Proofs.YtmgpofdmoaafoaaGreatDoor
