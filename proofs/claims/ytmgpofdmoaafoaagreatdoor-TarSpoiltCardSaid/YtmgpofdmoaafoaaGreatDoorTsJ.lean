/- Layer 15: the document's Write. -/
import Derived.Test.YtmgpofdmoaafoaaGreatDoorTsI
namespace Go.Proofs.YtmgpofdmoaafoaaGreatDoor
open Go.RowKit

theorem kind_text {k : Int} (h1 : 1 ≤ k) (h4 : k ≤ 4) : (⟨#[32, 48, 53, 49, 50]⟩ : ByteArray).extract k.toNat (k.toNat + 1) = str [typeL k] := by
  have : k = 1 ∨ k = 2 ∨ k = 3 ∨ k = 4 := by omega
  rcases this with rfl | rfl | rfl | rfl <;> rfl
set_option maxRecDepth 100000 in
set_option maxHeartbeats 32000000 in
theorem writesR_any (l : List Ent) (ad : Option Addr) (c : Nat) (hd : ∀ x ∈ l, x.data.length ≤ 1000000) (hlen : l.length ≤ maxLen) (w : World) (h : EntsAt w ad l) :
    Calls Tryz.prog 6 #[.slice ad l.length c] w fun e w' => e = .returned (.tuple #[.string (str (writeL l).1), .int .i64 ((writeL l).2 : Int)]) ∧ Below w.heap.size w w' := by
  have HI := Lib.hid info_ent5
  have HWR : Hid (writeL l = if 200 < l.length then ([], 63) else if l.all mayE then (encL l ++ zerosL 1024, 0) else ([], 2)) := Lib.hid rfl
  unfold maxLen at hlen
  obtain ⟨N, hN⟩ : ∃ N, N = l.length := ⟨_, rfl⟩
  rw [← hN] at hlen HWR ⊢
  by_cases h1 : 200 < N
  · have HR := Lib.hid (HWR.out.trans (if_pos h1))
    clear HWR
    go_enter Tryz.func6, Tryz.ntmps6
    go_wp2
    go_ret2
    exact ⟨by rw [HR.out]; rfl, Below.refl _ _⟩
  · have HWS := Lib.hid (HWR.out.trans (if_neg h1))
    have HN := Lib.hid hN
    have HENT := Lib.hid h
    have HD := Lib.hid hd
    have HN2 := Lib.hid (show N ≤ 200 by omega)
    clear HWR hN h hd
    go_enter Tryz.func6, Tryz.ntmps6
    go_upto_region 5 with (fail)
    go_loopw [4, 5, 6, 7] (fun s i p m wr => ∃ k : Nat, k ≤ N ∧ i = .int .i64 k ∧ s = .string (str (encL (l.take k))) ∧ Hid (Below w.heap.size w wr) ∧ Hid (∀ x ∈ l.take k, MayP x)) (fun _ i _ _ _ => N - (intOf i).toNat)
    case atStart => exact ⟨0, Nat.zero_le _, rfl, rfl, Lib.hid (Below.refl _ _), Lib.hid (fun x hx => by simp at hx)⟩
    case round =>
      obtain ⟨k, hk, rfl, rfl, hB, hM⟩ := hrel
      by_cases hlt : k < N
      · have hkl : k < l.length := by rw [← HN.out]; exact hlt
        obtain ⟨a, rfl, hab, hcell⟩ := HENT.out k l[k] (List.getElem?_eq_getElem hkl)
        have HST := Lib.hid (encL_take hkl)
        have HMEM : Hid (l[k] ∈ l) := Lib.hid (List.getElem_mem hkl)
        have HTK : Hid (l.take (k + 1) = l.take k ++ [l[k]]) := Lib.hid (List.take_succ_eq_append_getElem hkl)
        have HAT : Hid (∀ W, Below w.heap.size w W → ∀ j u, (entV l[k])[j]? = some u → W.cell? ((a.add (k * 5)).add j) = some u) := Lib.hid fun W hb j u hu => by
          rw [cell_far hb (by rw [add_blk, add_blk]; exact hab)]
          exact hcell j u hu
        have HLL : Hid ((encL (l.take k)).length ≤ 900000000000) := Lib.hid (by
          have := encL_le (l.take k) (fun x hx => ⟨hM.out x hx, HD.out x (List.mem_of_mem_take hx)⟩)
          rw [List.length_take] at this
          have := HN2.out
          omega)
        have HXD : Hid (l[k].data.length ≤ 1000000) := Lib.hid (HD.out _ HMEM.out)
        have HMF : Hid (mayE l[k] = false → writeL l = ([], 2)) := Lib.hid fun hf => by
          rw [HWS.out, if_neg]
          intro hall
          have := List.all_eq_true.1 hall _ HMEM.out
          rw [hf] at this
          cases this
        generalize l[k] = x at *
        have CM := fun W => mayR_any x W
        clear hcell
        have g1 : (k : Int) < (N : Int) := by omega
        have HONE := Lib.hid (entA_one x)
        obtain ⟨W1, hW1⟩ : ∃ W1, W1 = wr.alloc (.cells (entA x) 39) := ⟨_, rfl⟩
        have HW1 := Lib.hid hW1
        have HB1 : Hid (Below w.heap.size w W1) := Lib.hid (by rw [hW1]; exact hB.out.alloc hB.out.size _)
        have HZ1 : Hid (rowC W1 wr.heap.size (entA x) 39) := Lib.hid (by rw [hW1]; exact rowC_new wr _ _)
        have HLT : Hid (w.heap.size ≤ wr.heap.size) := Lib.hid hB.out.size
        clear hW1
        go_upto_region 8 with (first
          | ((with_reducible show wpList _ _ _ (⟨some 20, .load _ _, _, _, _, _⟩ :: _) _ _); refine wpList_load_at rfl 39 _ rfl (a.add (k * 5)) rfl (entV x) _ (HAT.out wr hB.out) Tryz.underlying39 rfl HI.out ?_)
          | ((with_reducible show wpList _ _ _ (⟨none, .store _ (.tmp 6) _, _, _, _, _⟩ :: _) _ _); refine wpList_store_last rfl 39 _ _ rfl wr.heap.size (entA x) rfl rfl 39 _ rfl HI.out rfl HONE.out ?_))
        rw [← HW1.out]
        try simp only [Act.put]
        cases hmay : mayE x with
        | false =>
          have HR := Lib.hid (HMF.out hmay)
          rw [hmay] at CM
          clear hmay HMF
          go_wp2_with (first
            | ((with_reducible show wpList _ _ _ (⟨some 21, .load _ (.tmp 6), _, _, _, _⟩ :: _) _ _); refine wpList_load_row rfl 39 _ rfl wr.heap.size rfl 39 #[.int .i64 x.kind, .string (str x.name), .string (str x.to), .int .i64 x.mode, .string (str x.data)] (0, 0) _ HZ1.out Tryz.underlying39 rfl HI.out ?_)
            | (go_at_call 12; ((with_reducible refine (CM _).mono ?_); rintro e w2 ⟨rfl, hb2⟩; have hbw := HB1.out.trans (hb2.mono HB1.out.size))))
          go_ret2
          exact ⟨by rw [HR.out]; rfl, hbw⟩
        | true =>
          have HMX := Lib.hid ((mayE_iff x).1 hmay)
          have hMk : Hid (∀ y ∈ l.take (k + 1), MayP y) := Lib.hid fun y hy => by
            rw [HTK.out, List.mem_append, List.mem_singleton] at hy
            rcases hy with hy | rfl
            · exact hM.out y hy
            · exact HMX.out
          rw [hmay] at CM
          clear hmay HMF
          go_upto_region 11 with (first
            | ((with_reducible show wpList _ _ _ (⟨some 21, .load _ (.tmp 6), _, _, _, _⟩ :: _) _ _); refine wpList_load_row rfl 39 _ rfl wr.heap.size rfl 39 #[.int .i64 x.kind, .string (str x.name), .string (str x.to), .int .i64 x.mode, .string (str x.data)] (0, 0) _ HZ1.out Tryz.underlying39 rfl HI.out ?_)
            | (go_at_call 12; ((with_reducible refine (CM _).mono ?_); rintro e w2 ⟨rfl, hb2⟩; have HB2 := Lib.hid (HB1.out.trans (hb2.mono HB1.out.size)); have HZ2 := Lib.hid (rowC_below HZ1.out hb2 (rowC_lt HZ1.out)); clear hb2)))
          have d1 : w2.cell? ⟨wr.heap.size, 1, none⟩ = some (.string (str x.name)) := rowC_cell HZ2.out 1
          have d2 : w2.cell? ⟨wr.heap.size, 2, none⟩ = some (.string (str x.to)) := rowC_cell HZ2.out 2
          have hn200 := (textE_ok HMX.out.name).1
          have ht200 := HMX.out.to200
          obtain ⟨md, hmd⟩ : ∃ md : Nat, x.mode = (md : Int) := ⟨x.mode.toNat, by have := HMX.out.m0; omega⟩
          obtain ⟨kn, hkn⟩ : ∃ kn : Nat, x.kind = (kn : Int) := ⟨x.kind.toNat, by have := HMX.out.k1; omega⟩
          have hkt : (⟨#[32, 48, 53, 49, 50]⟩ : ByteArray).extract kn (kn + 1) = str [typeL x.kind] := by
            have := kind_text HMX.out.k1 HMX.out.k4
            rw [hkn, Int.toNat_natCast] at this
            rw [hkn]; exact this
          have hkn1 : 1 ≤ kn := by have := HMX.out.k1; omega
          have hkn4 : kn ≤ 4 := by have := HMX.out.k4; omega
          have hmd1 : md ≤ 4095 := by have := HMX.out.m1; omega
          have hdl := HXD.out
          have HEN : Hid (encE x = (if moreE x = [] then [] else partW kPax [] 0 120 (moreE x)) ++ partW x.name x.to md (typeL x.kind) x.data) := Lib.hid (by unfold encE; rw [hmd]; rfl)
          have CH0 := fun W => headR_any x.name x.to md x.data.length (typeL x.kind) (by omega) (by omega) (by omega) (by omega) W
          have CF0 := fun W => fullR_any x.data (by omega) W
          have zh : (str (headW x.name x.to md x.data.length (typeL x.kind))).size = 512 := by rw [str_size, headW_len]
          have zf : (str (fullT x.data)).size ≤ 1001000 := by rw [str_size, fullT_len]; unfold blocksN; omega
          have HPW : Hid (str (partW x.name x.to md (typeL x.kind) x.data) = str (headW x.name x.to md x.data.length (typeL x.kind)) ++ str (fullT x.data)) := Lib.hid (by unfold partW; rw [str_append])
          have zs : (str (encL (l.take k))).size ≤ 900000000000 := by rw [str_size]; exact HLL.out
          have zd := str_size x.data
          have z1 := str_size x.name
          have z2 := str_size x.to
          have RW2 : rowC w2 wr.heap.size #[.int .i64 (kn : Int), .string (str x.name), .string (str x.to), .int .i64 (md : Int), .string (str x.data)] 39 := by
            have := HZ2.out
            unfold entA at this
            rw [hkn, hmd] at this
            exact this
          have HRW := Lib.hid RW2
          clear RW2 HZ2
          obtain ⟨DL, hDL⟩ : ∃ DL, DL = x.data.length := ⟨_, rfl⟩
          rw [← hDL] at CH0 zh HPW zd hdl
          clear hDL
          have HTT : Hid (str (encL (l.take (k + 1))) = str (encL (l.take k)) ++ str (encE x)) := Lib.hid (by rw [HST.out, str_append])
          rcases Nat.lt_or_ge 100 x.name.length with hn | hn <;> rcases Nat.lt_or_ge 100 x.to.length with ht | ht
          · have CR1 := fun W => recordR_any kPath x.name (by unfold lineL; simp only [List.length_append, List.length_cons, List.length_nil]; rw [show kPath.length = 4 from rfl]; omega) (by unfold lineL; simp only [List.length_append, List.length_cons, List.length_nil]; rw [show kPath.length = 4 from rfl]; omega) W
            have CR2 := fun W => recordR_any kLink x.to (by unfold lineL; simp only [List.length_append, List.length_cons, List.length_nil]; rw [show kLink.length = 8 from rfl]; omega) (by unfold lineL; simp only [List.length_append, List.length_cons, List.length_nil]; rw [show kLink.length = 8 from rfl]; omega) W
            have eMo : moreE x = recW kPath x.name ++ recW kLink x.to := by unfold moreE longR; rw [if_pos (by omega), if_pos (by omega)]
            have i1 : 100 < (str x.name).size := by omega
            have i2 : 100 < (str x.to).size := by omega
            have hk4 : kPath = [112, 97, 116, 104] := rfl
            rw [show str kPath = ⟨#[112, 97, 116, 104]⟩ from rfl] at CR1
            rw [show str kLink = ⟨#[108, 105, 110, 107, 112, 97, 116, 104]⟩ from rfl] at CR2
            clear hk4
            have hml : 100 ≤ (moreE x).length ∧ (moreE x).length ≤ 800 := by
              have y1 := longR_le (k := kPath) (v := x.name) (by decide) hn200
              have y2 := longR_le (k := kLink) (v := x.to) (by decide) ht200
              refine ⟨?_, by unfold moreE; rw [List.length_append]; omega⟩
              rw [eMo]
              simp only [recW, lineL, List.length_append, List.length_cons, List.length_nil]
              omega
            have hne : moreE x ≠ [] := fun e => by rw [e] at hml; simp at hml
            have qm := eq_lit (moreE x) []
            rw [decide_eq_false hne] at qm
            have qm2 : (str (moreE x)).toList.isEmpty = false := by rw [empty_lit, decide_eq_false hne]
            have CX := fun W => headR_any kPax [] 0 (moreE x).length 120 (by decide) (by decide) (by decide) (by omega) W
            rw [show str kPax = ⟨#[112, 97, 120]⟩ from rfl, show str [] = ⟨#[]⟩ from rfl, show str [120] = ⟨#[120]⟩ from rfl, show ((0 : Nat) : Int) = 0 from rfl] at CX
            have CY := fun W => fullR_any (moreE x) (by omega) W
            have zx : (str (headW kPax [] 0 (moreE x).length 120)).size = 512 := by rw [str_size, headW_len]
            have zy : (str (fullT (moreE x))).size ≤ 2000 := by rw [str_size, fullT_len]; unfold blocksN; omega
            have zm := str_size (moreE x)
            have HEE : Hid (str (encE x) = (str (headW kPax [] 0 (moreE x).length 120) ++ str (fullT (moreE x))) ++ str (partW x.name x.to md (typeL x.kind) x.data)) := Lib.hid (by rw [HEN.out, if_neg hne, str_append, str_append]; rfl)
            have hR : str (recW kPath x.name) ++ str (recW kLink x.to) = str (moreE x) := by rw [eMo, str_append]
            have zr1 : (str (recW kPath x.name)).size ≤ 800 := by rw [str_size]; have := hml.2; rw [eMo, List.length_append] at this; omega
            have zr2 : (str (recW kLink x.to)).size ≤ 800 := by rw [str_size]; have := hml.2; rw [eMo, List.length_append] at this; omega
            generalize str (recW kPath x.name) = R1 at *
            generalize str (recW kLink x.to) = R2 at *
            obtain ⟨ML, hML⟩ : ∃ ML, ML = (moreE x).length := ⟨_, rfl⟩
            rw [← hML] at CX zx zm HEE hml
            clear eMo hne hML
            generalize str (headW kPax [] 0 ML 120) = XH at *
            generalize str (fullT (moreE x)) = XF at *
            generalize str (moreE x) = MO at *
            clear HEN hmd hkn hn200 ht200 hn ht
            generalize str (headW x.name x.to md DL (typeL x.kind)) = DH at *
            generalize str (fullT x.data) = DF at *
            generalize str (partW x.name x.to md (typeL x.kind) x.data) = DP at *
            generalize str [typeL x.kind] = KT at *
            generalize str x.name = NM at *
            generalize str x.to = TO at *
            generalize str x.data = DT at *
            generalize str (encE x) = EN at *
            generalize str (encL (l.take k)) = S at *
            go_upto_region 15 with (first
              | (go_at_call 13; ((with_reducible refine (CR1 _).mono ?_); rintro e w3 ⟨rfl, rfl⟩))
              | (go_at_call 13; ((with_reducible refine (CR2 _).mono ?_); rintro e w3 ⟨rfl, rfl⟩)))
            go_upto_region 17 with (first
              | (go_at_call 14; ((with_reducible refine (CX _).mono ?_); rintro e w4 ⟨rfl, hb4⟩))
              | (go_at_call 15; ((with_reducible refine (CY _).mono ?_); rintro e w5 ⟨rfl, hb5⟩)))
            have HB5 := Lib.hid (HB2.out.trans ((hb4.trans (hb5.mono hb4.size)).mono HB2.out.size))
            have HR5 := Lib.hid (rowC_below HRW.out (hb4.trans (hb5.mono hb4.size)) (rowC_lt HRW.out))
            obtain ⟨SP, hSP⟩ : ∃ SP, SP = S ++ XH ++ XF := ⟨_, rfl⟩
            rw [← hSP]
            have zSP : SP.size ≤ 900000100000 := by rw [hSP, ByteArray.size_append, ByteArray.size_append]; omega
            have HSP := Lib.hid hSP
            clear hSP CX CY qm qm2 zx zy zm hml d1 d2 i1 i2 z1 z2 CM hb4 hb5
            clear CR1
            clear CR2
            clear hR zr1 zr2
            have CH : Hid (∀ w', Gn w5 no w' → Calls Tryz.prog 14 #[.string NM, .string TO, .int .i64 (md : Int), .int .i64 (DL : Int), .string KT] w' fun e w'' => e = .returned (.string DH) ∧ Gn w5 no w'') := Lib.hid fun w' hg => (CH0 w').mono fun _ _ ⟨h1, h2⟩ => ⟨h1, hg.call h2⟩
            have CF : Hid (∀ w', Gn w5 no w' → Calls Tryz.prog 15 #[.string DT] w' fun e w'' => e = .returned (.string DF) ∧ Gn w5 no w'') := Lib.hid fun w' hg => (CF0 w').mono fun _ _ ⟨h1, h2⟩ => ⟨h1, hg.call h2⟩
            have OS : ∀ w', Gn w5 no w' → w'.cell? ⟨wr.heap.size, 0, none⟩ = some (.int .i64 (kn : Int)) ∧ w'.cell? ⟨wr.heap.size, 1, none⟩ = some (.string NM) ∧ w'.cell? ⟨wr.heap.size, 2, none⟩ = some (.string TO) ∧ w'.cell? ⟨wr.heap.size, 3, none⟩ = some (.int .i64 (md : Int)) ∧ w'.cell? ⟨wr.heap.size, 4, none⟩ = some (.string DT) := fun w' hg => ⟨rowC_cell (hg.row HR5.out id) 0, rowC_cell (hg.row HR5.out id) 1, rowC_cell (hg.row HR5.out id) 2, rowC_cell (hg.row HR5.out id) 3, rowC_cell (hg.row HR5.out id) 4⟩
            have SO : ∀ w', Gn w5 no w' → Gn w5 no w' := fun _ h => h
            have hw1 : IntKind.i64.wrap (kn : Int) = (kn : Int) := IntWalk.i64_in _ (by omega)
            have hw2 : IntKind.i64.wrap ((kn : Int) + 1) = (kn : Int) + 1 := IntWalk.i64_in _ (by omega)
            have hk0 : (0 : Int) ≤ (kn : Int) := by omega
            have hk5 : (kn : Int) + 1 ≤ 5 := by omega
            have hk6 : (kn : Int) ≤ (kn : Int) + 1 := by omega
            clear CH0 CF0
            refine wp_region_noPanic ?_
            refine wp_region_held_drew (S := Gn w5 no) (by kernel_rfl) (Gn.start _ _) (fun hHeld => ?_)
            generalize w5.drew = wd at *
            refine wpAnyH_take (i := 0) (oi := { dst := some 50, op := Op.move (Operand.tmp 4), type := 9, pos := "ref.go:114", after := #[], guard := none }) (v := ?_) rfl (by kernel_rfl) (by kernel_rfl) (by kernel_rfl) (fun _ _ _ h => h) (Or.inl ⟨by rfl, ?_⟩) (by assumption) ?_
            rotate_left
            · intro w hSw
              skip
              clear hSw
              go_simp
              try with_reducible rfl
            try simp only [Act.put, List.setIfInBounds_toArray, List.set_cons_zero, List.set_cons_succ]
            refine wpAnyH_take (i := 1) (oi := { dst := some 51, op := Op.fieldAddr 39 (Operand.tmp 6) 1, type := 0, pos := "ref.go:114", after := #[], guard := none }) (v := ?_) rfl (by kernel_rfl) (by kernel_rfl) (by kernel_rfl) (fun _ _ _ h => h) (Or.inl ⟨by rfl, ?_⟩) (by assumption) ?_
            rotate_left
            · intro w hSw
              skip
              clear hSw
              go_simp
              try with_reducible rfl
            try simp only [Act.put, List.setIfInBounds_toArray, List.set_cons_zero, List.set_cons_succ]
            refine wpAnyH_take (i := 3) (oi := { dst := some 53, op := Op.fieldAddr 39 (Operand.tmp 6) 2, type := 0, pos := "ref.go:114", after := #[], guard := none }) (v := ?_) rfl (by kernel_rfl) (by kernel_rfl) (by kernel_rfl) (fun _ _ _ h => h) (Or.inl ⟨by rfl, ?_⟩) (by assumption) ?_
            rotate_left
            · intro w hSw
              skip
              clear hSw
              go_simp
              try with_reducible rfl
            try simp only [Act.put, List.setIfInBounds_toArray, List.set_cons_zero, List.set_cons_succ]
            refine wpAnyH_take (i := 5) (oi := { dst := some 55, op := Op.fieldAddr 39 (Operand.tmp 6) 3, type := 0, pos := "ref.go:114", after := #[], guard := none }) (v := ?_) rfl (by kernel_rfl) (by kernel_rfl) (by kernel_rfl) (fun _ _ _ h => h) (Or.inl ⟨by rfl, ?_⟩) (by assumption) ?_
            rotate_left
            · intro w hSw
              skip
              clear hSw
              go_simp
              try with_reducible rfl
            try simp only [Act.put, List.setIfInBounds_toArray, List.set_cons_zero, List.set_cons_succ]
            refine wpAnyH_take (i := 7) (oi := { dst := some 57, op := Op.fieldAddr 39 (Operand.tmp 6) 4, type := 0, pos := "ref.go:114", after := #[], guard := none }) (v := ?_) rfl (by kernel_rfl) (by kernel_rfl) (by kernel_rfl) (fun _ _ _ h => h) (Or.inl ⟨by rfl, ?_⟩) (by assumption) ?_
            rotate_left
            · intro w hSw
              skip
              clear hSw
              go_simp
              try with_reducible rfl
            try simp only [Act.put, List.setIfInBounds_toArray, List.set_cons_zero, List.set_cons_succ]
            refine wpAnyH_take (i := 10) (oi := { dst := some 60, op := Op.fieldAddr 39 (Operand.tmp 6) 0, type := 0, pos := "ref.go:114", after := #[], guard := none }) (v := ?_) rfl (by kernel_rfl) (by kernel_rfl) (by kernel_rfl) (fun _ _ _ h => h) (Or.inl ⟨by rfl, ?_⟩) (by assumption) ?_
            rotate_left
            · intro w hSw
              skip
              clear hSw
              go_simp
              try with_reducible rfl
            try simp only [Act.put, List.setIfInBounds_toArray, List.set_cons_zero, List.set_cons_succ]
            refine wpAnyH_take (i := 12) (oi := { dst := some 62, op := Op.fieldAddr 39 (Operand.tmp 6) 0, type := 0, pos := "ref.go:114", after := #[], guard := none }) (v := ?_) rfl (by kernel_rfl) (by kernel_rfl) (by kernel_rfl) (fun _ _ _ h => h) (Or.inl ⟨by rfl, ?_⟩) (by assumption) ?_
            rotate_left
            · intro w hSw
              skip
              clear hSw
              go_simp
              try with_reducible rfl
            try simp only [Act.put, List.setIfInBounds_toArray, List.set_cons_zero, List.set_cons_succ]
            refine wpAnyH_take (i := 18) (oi := { dst := some 68, op := Op.fieldAddr 39 (Operand.tmp 6) 4, type := 0, pos := "ref.go:114", after := #[], guard := none }) (v := ?_) rfl (by kernel_rfl) (by kernel_rfl) (by kernel_rfl) (fun _ _ _ h => h) (Or.inl ⟨by rfl, ?_⟩) (by assumption) ?_
            rotate_left
            · intro w hSw
              skip
              clear hSw
              go_simp
              try with_reducible rfl
            try simp only [Act.put, List.setIfInBounds_toArray, List.set_cons_zero, List.set_cons_succ]
            refine wpAnyH_take (i := 2) (oi := { dst := some 52, op := Op.load 9 (Operand.tmp 51), type := 9, pos := "ref.go:114", after := #[{ on := 1, ground := Ground.data }], guard := none }) (v := ?_) rfl (by kernel_rfl) (by kernel_rfl) (by kernel_rfl) (fun _ _ _ h => h) (Or.inl ⟨by rfl, ?_⟩) (by assumption) ?_
            rotate_left
            · intro w hSw
              have hSw := OS _ hSw
              go_simp
              try with_reducible rfl
            try simp only [Act.put, List.setIfInBounds_toArray, List.set_cons_zero, List.set_cons_succ]
            refine wpAnyH_take (i := 4) (oi := { dst := some 54, op := Op.load 9 (Operand.tmp 53), type := 9, pos := "ref.go:114", after := #[{ on := 3, ground := Ground.data }], guard := none }) (v := ?_) rfl (by kernel_rfl) (by kernel_rfl) (by kernel_rfl) (fun _ _ _ h => h) (Or.inl ⟨by rfl, ?_⟩) (by assumption) ?_
            rotate_left
            · intro w hSw
              have hSw := OS _ hSw
              go_simp
              try with_reducible rfl
            try simp only [Act.put, List.setIfInBounds_toArray, List.set_cons_zero, List.set_cons_succ]
            refine wpAnyH_take (i := 6) (oi := { dst := some 56, op := Op.load 3 (Operand.tmp 55), type := 3, pos := "ref.go:114", after := #[{ on := 5, ground := Ground.data }], guard := none }) (v := ?_) rfl (by kernel_rfl) (by kernel_rfl) (by kernel_rfl) (fun _ _ _ h => h) (Or.inl ⟨by rfl, ?_⟩) (by assumption) ?_
            rotate_left
            · intro w hSw
              have hSw := OS _ hSw
              go_simp
              try with_reducible rfl
            try simp only [Act.put, List.setIfInBounds_toArray, List.set_cons_zero, List.set_cons_succ]
            refine wpAnyH_take (i := 8) (oi := { dst := some 58, op := Op.load 9 (Operand.tmp 57), type := 9, pos := "ref.go:114", after := #[{ on := 7, ground := Ground.data }], guard := none }) (v := ?_) rfl (by kernel_rfl) (by kernel_rfl) (by kernel_rfl) (fun _ _ _ h => h) (Or.inl ⟨by rfl, ?_⟩) (by assumption) ?_
            rotate_left
            · intro w hSw
              have hSw := OS _ hSw
              go_simp
              try with_reducible rfl
            try simp only [Act.put, List.setIfInBounds_toArray, List.set_cons_zero, List.set_cons_succ]
            refine wpAnyH_take (i := 9) (oi := { dst := some 59, op := Op.call { callee := Callee.builtin Builtin.len, args := #[Operand.tmp 58], argTypes := #[9] }, type := 3, pos := "ref.go:114", after := #[{ on := 8, ground := Ground.data }], guard := none }) (v := ?_) rfl (by kernel_rfl) (by kernel_rfl) (by kernel_rfl) (fun _ _ _ h => h) (Or.inl ⟨by rfl, ?_⟩) (by assumption) ?_
            rotate_left
            · intro w hSw
              skip
              clear hSw
              go_simp
              try with_reducible rfl
            try simp only [Act.put, List.setIfInBounds_toArray, List.set_cons_zero, List.set_cons_succ]
            refine wpAnyH_take (i := 11) (oi := { dst := some 61, op := Op.load 3 (Operand.tmp 60), type := 3, pos := "ref.go:114", after := #[{ on := 10, ground := Ground.data }], guard := none }) (v := ?_) rfl (by kernel_rfl) (by kernel_rfl) (by kernel_rfl) (fun _ _ _ h => h) (Or.inl ⟨by rfl, ?_⟩) (by assumption) ?_
            rotate_left
            · intro w hSw
              have hSw := OS _ hSw
              go_simp
              try with_reducible rfl
            try simp only [Act.put, List.setIfInBounds_toArray, List.set_cons_zero, List.set_cons_succ]
            refine wpAnyH_take (i := 13) (oi := { dst := some 63, op := Op.load 3 (Operand.tmp 62), type := 3, pos := "ref.go:114", after := #[{ on := 12, ground := Ground.data }], guard := none }) (v := ?_) rfl (by kernel_rfl) (by kernel_rfl) (by kernel_rfl) (fun _ _ _ h => h) (Or.inl ⟨by rfl, ?_⟩) (by assumption) ?_
            rotate_left
            · intro w hSw
              have hSw := OS _ hSw
              go_simp
              try with_reducible rfl
            try simp only [Act.put, List.setIfInBounds_toArray, List.set_cons_zero, List.set_cons_succ]
            refine wpAnyH_take (i := 14) (oi := { dst := some 64, op := Op.binOp BinOp.add 3 (Operand.tmp 63) (Operand.const (Value.int IntKind.i64 1)) 3, type := 3, pos := "ref.go:114", after := #[{ on := 13, ground := Ground.data }], guard := none }) (v := ?_) rfl (by kernel_rfl) (by kernel_rfl) (by kernel_rfl) (fun _ _ _ h => h) (Or.inl ⟨by rfl, ?_⟩) (by assumption) ?_
            rotate_left
            · intro w hSw
              skip
              clear hSw
              go_simp
              try with_reducible rfl
            try simp only [Act.put, List.setIfInBounds_toArray, List.set_cons_zero, List.set_cons_succ]
            refine wpAnyH_take (i := 15) (oi := { dst := some 65, op := Op.slice 9 (Operand.const (Value.string { data := #[32, 48, 53, 49, 50] })) (some (Operand.tmp 61)) (some (Operand.tmp 64)) none, type := 9, pos := "ref.go:114", after := #[{ on := 11, ground := Ground.data }, { on := 14, ground := Ground.data }], guard := none }) (v := ?_) rfl (by kernel_rfl) (by kernel_rfl) (by kernel_rfl) (fun _ _ _ h => h) (Or.inl ⟨by rfl, ?_⟩) (by assumption) ?_
            rotate_left
            · intro w hSw
              skip
              clear hSw
              go_simp
              try with_reducible rfl
            try simp only [Act.put, List.setIfInBounds_toArray, List.set_cons_zero, List.set_cons_succ]
            refine wpAnyH_take (i := 19) (oi := { dst := some 69, op := Op.load 9 (Operand.tmp 68), type := 9, pos := "ref.go:114", after := #[{ on := 18, ground := Ground.data }], guard := none }) (v := ?_) rfl (by kernel_rfl) (by kernel_rfl) (by kernel_rfl) (fun _ _ _ h => h) (Or.inl ⟨by rfl, ?_⟩) (by assumption) ?_
            rotate_left
            · intro w hSw
              have hSw := OS _ hSw
              go_simp
              try with_reducible rfl
            try simp only [Act.put, List.setIfInBounds_toArray, List.set_cons_zero, List.set_cons_succ]
            refine wpAnyH_ready (rs := [16]) (by kernel_rfl) (by simp) ?_
            refine (AllReadyH.cons (o := { dst := some 66, op := Op.call { callee := Callee.value (Operand.func 14), args := #[Operand.tmp 52, Operand.tmp 54, Operand.tmp 56, Operand.tmp 59, Operand.tmp 65], argTypes := #[9, 9, 3, 3, 9] }, type := 9, pos := "ref.go:114", after := #[{ on := 2, ground := Ground.data }, { on := 4, ground := Ground.data }, { on := 6, ground := Ground.data }, { on := 9, ground := Ground.data }, { on := 15, ground := Ground.data }], guard := none }) rfl (fun K hK => ?_) AllReadyH.nil)
            go_simp
            refine (CH.out _ (by assumption)).mono ?_
            rintro e w16' ⟨rfl, m16'⟩
            refine hK.out _ _ (SO _ (by assumption)) (fun hHeld => ?_)
            clear hK K
            try simp only [Act.put, List.setIfInBounds_toArray, List.set_cons_zero, List.set_cons_succ]
            refine wpAnyH_take (i := 17) (oi := { dst := some 67, op := Op.binOp BinOp.add 9 (Operand.tmp 50) (Operand.tmp 66) 9, type := 9, pos := "ref.go:114", after := #[{ on := 0, ground := Ground.data }, { on := 16, ground := Ground.data }], guard := none }) (v := ?_) rfl (by kernel_rfl) (by kernel_rfl) (by kernel_rfl) (fun _ _ _ h => h) (Or.inl ⟨by rfl, ?_⟩) (by assumption) ?_
            rotate_left
            · intro w hSw
              skip
              clear hSw
              go_simp
              first | with_reducible rfl | (rw [if_neg (by omega)])
            try simp only [Act.put, List.setIfInBounds_toArray, List.set_cons_zero, List.set_cons_succ]
            refine wpAnyH_ready (rs := [20]) (by kernel_rfl) (by simp) ?_
            refine (AllReadyH.cons (o := { dst := some 70, op := Op.call { callee := Callee.value (Operand.func 15), args := #[Operand.tmp 69], argTypes := #[9] }, type := 9, pos := "ref.go:114", after := #[{ on := 19, ground := Ground.data }, { on := 16, ground := Ground.chain }], guard := none }) rfl (fun K hK => ?_) AllReadyH.nil)
            go_simp
            refine (CF.out _ (by assumption)).mono ?_
            rintro e w20' ⟨rfl, m20'⟩
            refine hK.out _ _ (SO _ (by assumption)) (fun hHeld => ?_)
            clear hK K
            try simp only [Act.put, List.setIfInBounds_toArray, List.set_cons_zero, List.set_cons_succ]
            refine wpAnyH_take (i := 21) (oi := { dst := some 71, op := Op.binOp BinOp.add 9 (Operand.tmp 67) (Operand.tmp 70) 9, type := 9, pos := "ref.go:114", after := #[{ on := 17, ground := Ground.data }, { on := 20, ground := Ground.data }], guard := none }) (v := ?_) rfl (by kernel_rfl) (by kernel_rfl) (by kernel_rfl) (fun _ _ _ h => h) (Or.inl ⟨by rfl, ?_⟩) (by assumption) ?_
            rotate_left
            · intro w hSw
              skip
              clear hSw
              go_simp
              first | with_reducible rfl | (rw [if_neg (by omega)])
            try simp only [Act.put, List.setIfInBounds_toArray, List.set_cons_zero, List.set_cons_succ]
            refine wpAnyH_take (i := 22) (oi := { dst := some 4, op := Op.assign (Operand.tmp 71), type := 9, pos := "ref.go:114", after := #[{ on := 21, ground := Ground.data }, { on := 20, ground := Ground.chain }, { on := 0, ground := Ground.phase }, { on := 1, ground := Ground.phase }, { on := 2, ground := Ground.phase }, { on := 3, ground := Ground.phase }, { on := 4, ground := Ground.phase }, { on := 5, ground := Ground.phase }, { on := 6, ground := Ground.phase }, { on := 7, ground := Ground.phase }, { on := 8, ground := Ground.phase }, { on := 9, ground := Ground.phase }, { on := 10, ground := Ground.phase }, { on := 11, ground := Ground.phase }, { on := 12, ground := Ground.phase }, { on := 13, ground := Ground.phase }, { on := 14, ground := Ground.phase }, { on := 15, ground := Ground.phase }, { on := 16, ground := Ground.phase }, { on := 17, ground := Ground.phase }, { on := 18, ground := Ground.phase }, { on := 19, ground := Ground.phase }, { on := 20, ground := Ground.phase }, { on := 21, ground := Ground.phase }], guard := none }) (v := ?_) rfl (by kernel_rfl) (by kernel_rfl) (by kernel_rfl) (fun _ _ _ h => h) (Or.inl ⟨by rfl, ?_⟩) (by assumption) ?_
            rotate_left
            · intro w hSw
              skip
              clear hSw
              go_simp
              try with_reducible rfl
            try simp only [Act.put, List.setIfInBounds_toArray, List.set_cons_zero, List.set_cons_succ]
            refine wpAnyH_done (by kernel_rfl) ?_ _
            refine NoPanic.normal ?_
            have HBF := Lib.hid (HB5.out.trans ((Chg.below m20' (Nat.le_refl _) (fun _ _ => id)).mono HB5.out.size))
            go_wp2
            go_roundw
            case rel => exact ⟨k + 1, by omega, by go_num, by rw [HTT.out, HEE.out, HPW.out, HSP.out]; simp only [ByteArray.append_assoc], HBF, hMk⟩
            case measure => simp [intOf]; omega
          · have CR1 := fun W => recordR_any kPath x.name (by unfold lineL; simp only [List.length_append, List.length_cons, List.length_nil]; rw [show kPath.length = 4 from rfl]; omega) (by unfold lineL; simp only [List.length_append, List.length_cons, List.length_nil]; rw [show kPath.length = 4 from rfl]; omega) W
            have eMo : moreE x = recW kPath x.name := by unfold moreE longR; rw [if_pos (by omega), if_neg (by omega)]; simp
            have i1 : 100 < (str x.name).size := by omega
            have i2 : ¬ 100 < (str x.to).size := by omega
            have hk4 : kPath = [112, 97, 116, 104] := rfl
            rw [show str kPath = ⟨#[112, 97, 116, 104]⟩ from rfl] at CR1
            clear hk4
            have hml : 100 ≤ (moreE x).length ∧ (moreE x).length ≤ 800 := by
              have y1 := longR_le (k := kPath) (v := x.name) (by decide) hn200
              have y2 := longR_le (k := kLink) (v := x.to) (by decide) ht200
              refine ⟨?_, by unfold moreE; rw [List.length_append]; omega⟩
              rw [eMo]
              simp only [recW, lineL, List.length_append, List.length_cons, List.length_nil]
              omega
            have hne : moreE x ≠ [] := fun e => by rw [e] at hml; simp at hml
            have qm := eq_lit (moreE x) []
            rw [decide_eq_false hne] at qm
            have qm2 : (str (moreE x)).toList.isEmpty = false := by rw [empty_lit, decide_eq_false hne]
            have CX := fun W => headR_any kPax [] 0 (moreE x).length 120 (by decide) (by decide) (by decide) (by omega) W
            rw [show str kPax = ⟨#[112, 97, 120]⟩ from rfl, show str [] = ⟨#[]⟩ from rfl, show str [120] = ⟨#[120]⟩ from rfl, show ((0 : Nat) : Int) = 0 from rfl] at CX
            have CY := fun W => fullR_any (moreE x) (by omega) W
            have zx : (str (headW kPax [] 0 (moreE x).length 120)).size = 512 := by rw [str_size, headW_len]
            have zy : (str (fullT (moreE x))).size ≤ 2000 := by rw [str_size, fullT_len]; unfold blocksN; omega
            have zm := str_size (moreE x)
            have HEE : Hid (str (encE x) = (str (headW kPax [] 0 (moreE x).length 120) ++ str (fullT (moreE x))) ++ str (partW x.name x.to md (typeL x.kind) x.data)) := Lib.hid (by rw [HEN.out, if_neg hne, str_append, str_append]; rfl)
            rw [← eMo] at CR1
            obtain ⟨ML, hML⟩ : ∃ ML, ML = (moreE x).length := ⟨_, rfl⟩
            rw [← hML] at CX zx zm HEE hml
            clear eMo hne hML
            generalize str (headW kPax [] 0 ML 120) = XH at *
            generalize str (fullT (moreE x)) = XF at *
            generalize str (moreE x) = MO at *
            clear HEN hmd hkn hn200 ht200 hn ht
            generalize str (headW x.name x.to md DL (typeL x.kind)) = DH at *
            generalize str (fullT x.data) = DF at *
            generalize str (partW x.name x.to md (typeL x.kind) x.data) = DP at *
            generalize str [typeL x.kind] = KT at *
            generalize str x.name = NM at *
            generalize str x.to = TO at *
            generalize str x.data = DT at *
            generalize str (encE x) = EN at *
            generalize str (encL (l.take k)) = S at *
            go_upto_region 15 with (first
              | (go_at_call 13; ((with_reducible refine (CR1 _).mono ?_); rintro e w3 ⟨rfl, rfl⟩)))
            go_upto_region 17 with (first
              | (go_at_call 14; ((with_reducible refine (CX _).mono ?_); rintro e w4 ⟨rfl, hb4⟩))
              | (go_at_call 15; ((with_reducible refine (CY _).mono ?_); rintro e w5 ⟨rfl, hb5⟩)))
            have HB5 := Lib.hid (HB2.out.trans ((hb4.trans (hb5.mono hb4.size)).mono HB2.out.size))
            have HR5 := Lib.hid (rowC_below HRW.out (hb4.trans (hb5.mono hb4.size)) (rowC_lt HRW.out))
            obtain ⟨SP, hSP⟩ : ∃ SP, SP = S ++ XH ++ XF := ⟨_, rfl⟩
            rw [← hSP]
            have zSP : SP.size ≤ 900000100000 := by rw [hSP, ByteArray.size_append, ByteArray.size_append]; omega
            have HSP := Lib.hid hSP
            clear hSP CX CY qm qm2 zx zy zm hml d1 d2 i1 i2 z1 z2 CM hb4 hb5
            clear CR1
            have CH : Hid (∀ w', Gn w5 no w' → Calls Tryz.prog 14 #[.string NM, .string TO, .int .i64 (md : Int), .int .i64 (DL : Int), .string KT] w' fun e w'' => e = .returned (.string DH) ∧ Gn w5 no w'') := Lib.hid fun w' hg => (CH0 w').mono fun _ _ ⟨h1, h2⟩ => ⟨h1, hg.call h2⟩
            have CF : Hid (∀ w', Gn w5 no w' → Calls Tryz.prog 15 #[.string DT] w' fun e w'' => e = .returned (.string DF) ∧ Gn w5 no w'') := Lib.hid fun w' hg => (CF0 w').mono fun _ _ ⟨h1, h2⟩ => ⟨h1, hg.call h2⟩
            have OS : ∀ w', Gn w5 no w' → w'.cell? ⟨wr.heap.size, 0, none⟩ = some (.int .i64 (kn : Int)) ∧ w'.cell? ⟨wr.heap.size, 1, none⟩ = some (.string NM) ∧ w'.cell? ⟨wr.heap.size, 2, none⟩ = some (.string TO) ∧ w'.cell? ⟨wr.heap.size, 3, none⟩ = some (.int .i64 (md : Int)) ∧ w'.cell? ⟨wr.heap.size, 4, none⟩ = some (.string DT) := fun w' hg => ⟨rowC_cell (hg.row HR5.out id) 0, rowC_cell (hg.row HR5.out id) 1, rowC_cell (hg.row HR5.out id) 2, rowC_cell (hg.row HR5.out id) 3, rowC_cell (hg.row HR5.out id) 4⟩
            have SO : ∀ w', Gn w5 no w' → Gn w5 no w' := fun _ h => h
            have hw1 : IntKind.i64.wrap (kn : Int) = (kn : Int) := IntWalk.i64_in _ (by omega)
            have hw2 : IntKind.i64.wrap ((kn : Int) + 1) = (kn : Int) + 1 := IntWalk.i64_in _ (by omega)
            have hk0 : (0 : Int) ≤ (kn : Int) := by omega
            have hk5 : (kn : Int) + 1 ≤ 5 := by omega
            have hk6 : (kn : Int) ≤ (kn : Int) + 1 := by omega
            clear CH0 CF0
            refine wp_region_noPanic ?_
            refine wp_region_held_drew (S := Gn w5 no) (by kernel_rfl) (Gn.start _ _) (fun hHeld => ?_)
            generalize w5.drew = wd at *
            refine wpAnyH_take (i := 0) (oi := { dst := some 50, op := Op.move (Operand.tmp 4), type := 9, pos := "ref.go:114", after := #[], guard := none }) (v := ?_) rfl (by kernel_rfl) (by kernel_rfl) (by kernel_rfl) (fun _ _ _ h => h) (Or.inl ⟨by rfl, ?_⟩) (by assumption) ?_
            rotate_left
            · intro w hSw
              skip
              clear hSw
              go_simp
              try with_reducible rfl
            try simp only [Act.put, List.setIfInBounds_toArray, List.set_cons_zero, List.set_cons_succ]
            refine wpAnyH_take (i := 1) (oi := { dst := some 51, op := Op.fieldAddr 39 (Operand.tmp 6) 1, type := 0, pos := "ref.go:114", after := #[], guard := none }) (v := ?_) rfl (by kernel_rfl) (by kernel_rfl) (by kernel_rfl) (fun _ _ _ h => h) (Or.inl ⟨by rfl, ?_⟩) (by assumption) ?_
            rotate_left
            · intro w hSw
              skip
              clear hSw
              go_simp
              try with_reducible rfl
            try simp only [Act.put, List.setIfInBounds_toArray, List.set_cons_zero, List.set_cons_succ]
            refine wpAnyH_take (i := 3) (oi := { dst := some 53, op := Op.fieldAddr 39 (Operand.tmp 6) 2, type := 0, pos := "ref.go:114", after := #[], guard := none }) (v := ?_) rfl (by kernel_rfl) (by kernel_rfl) (by kernel_rfl) (fun _ _ _ h => h) (Or.inl ⟨by rfl, ?_⟩) (by assumption) ?_
            rotate_left
            · intro w hSw
              skip
              clear hSw
              go_simp
              try with_reducible rfl
            try simp only [Act.put, List.setIfInBounds_toArray, List.set_cons_zero, List.set_cons_succ]
            refine wpAnyH_take (i := 5) (oi := { dst := some 55, op := Op.fieldAddr 39 (Operand.tmp 6) 3, type := 0, pos := "ref.go:114", after := #[], guard := none }) (v := ?_) rfl (by kernel_rfl) (by kernel_rfl) (by kernel_rfl) (fun _ _ _ h => h) (Or.inl ⟨by rfl, ?_⟩) (by assumption) ?_
            rotate_left
            · intro w hSw
              skip
              clear hSw
              go_simp
              try with_reducible rfl
            try simp only [Act.put, List.setIfInBounds_toArray, List.set_cons_zero, List.set_cons_succ]
            refine wpAnyH_take (i := 7) (oi := { dst := some 57, op := Op.fieldAddr 39 (Operand.tmp 6) 4, type := 0, pos := "ref.go:114", after := #[], guard := none }) (v := ?_) rfl (by kernel_rfl) (by kernel_rfl) (by kernel_rfl) (fun _ _ _ h => h) (Or.inl ⟨by rfl, ?_⟩) (by assumption) ?_
            rotate_left
            · intro w hSw
              skip
              clear hSw
              go_simp
              try with_reducible rfl
            try simp only [Act.put, List.setIfInBounds_toArray, List.set_cons_zero, List.set_cons_succ]
            refine wpAnyH_take (i := 10) (oi := { dst := some 60, op := Op.fieldAddr 39 (Operand.tmp 6) 0, type := 0, pos := "ref.go:114", after := #[], guard := none }) (v := ?_) rfl (by kernel_rfl) (by kernel_rfl) (by kernel_rfl) (fun _ _ _ h => h) (Or.inl ⟨by rfl, ?_⟩) (by assumption) ?_
            rotate_left
            · intro w hSw
              skip
              clear hSw
              go_simp
              try with_reducible rfl
            try simp only [Act.put, List.setIfInBounds_toArray, List.set_cons_zero, List.set_cons_succ]
            refine wpAnyH_take (i := 12) (oi := { dst := some 62, op := Op.fieldAddr 39 (Operand.tmp 6) 0, type := 0, pos := "ref.go:114", after := #[], guard := none }) (v := ?_) rfl (by kernel_rfl) (by kernel_rfl) (by kernel_rfl) (fun _ _ _ h => h) (Or.inl ⟨by rfl, ?_⟩) (by assumption) ?_
            rotate_left
            · intro w hSw
              skip
              clear hSw
              go_simp
              try with_reducible rfl
            try simp only [Act.put, List.setIfInBounds_toArray, List.set_cons_zero, List.set_cons_succ]
            refine wpAnyH_take (i := 18) (oi := { dst := some 68, op := Op.fieldAddr 39 (Operand.tmp 6) 4, type := 0, pos := "ref.go:114", after := #[], guard := none }) (v := ?_) rfl (by kernel_rfl) (by kernel_rfl) (by kernel_rfl) (fun _ _ _ h => h) (Or.inl ⟨by rfl, ?_⟩) (by assumption) ?_
            rotate_left
            · intro w hSw
              skip
              clear hSw
              go_simp
              try with_reducible rfl
            try simp only [Act.put, List.setIfInBounds_toArray, List.set_cons_zero, List.set_cons_succ]
            refine wpAnyH_take (i := 2) (oi := { dst := some 52, op := Op.load 9 (Operand.tmp 51), type := 9, pos := "ref.go:114", after := #[{ on := 1, ground := Ground.data }], guard := none }) (v := ?_) rfl (by kernel_rfl) (by kernel_rfl) (by kernel_rfl) (fun _ _ _ h => h) (Or.inl ⟨by rfl, ?_⟩) (by assumption) ?_
            rotate_left
            · intro w hSw
              have hSw := OS _ hSw
              go_simp
              try with_reducible rfl
            try simp only [Act.put, List.setIfInBounds_toArray, List.set_cons_zero, List.set_cons_succ]
            refine wpAnyH_take (i := 4) (oi := { dst := some 54, op := Op.load 9 (Operand.tmp 53), type := 9, pos := "ref.go:114", after := #[{ on := 3, ground := Ground.data }], guard := none }) (v := ?_) rfl (by kernel_rfl) (by kernel_rfl) (by kernel_rfl) (fun _ _ _ h => h) (Or.inl ⟨by rfl, ?_⟩) (by assumption) ?_
            rotate_left
            · intro w hSw
              have hSw := OS _ hSw
              go_simp
              try with_reducible rfl
            try simp only [Act.put, List.setIfInBounds_toArray, List.set_cons_zero, List.set_cons_succ]
            refine wpAnyH_take (i := 6) (oi := { dst := some 56, op := Op.load 3 (Operand.tmp 55), type := 3, pos := "ref.go:114", after := #[{ on := 5, ground := Ground.data }], guard := none }) (v := ?_) rfl (by kernel_rfl) (by kernel_rfl) (by kernel_rfl) (fun _ _ _ h => h) (Or.inl ⟨by rfl, ?_⟩) (by assumption) ?_
            rotate_left
            · intro w hSw
              have hSw := OS _ hSw
              go_simp
              try with_reducible rfl
            try simp only [Act.put, List.setIfInBounds_toArray, List.set_cons_zero, List.set_cons_succ]
            refine wpAnyH_take (i := 8) (oi := { dst := some 58, op := Op.load 9 (Operand.tmp 57), type := 9, pos := "ref.go:114", after := #[{ on := 7, ground := Ground.data }], guard := none }) (v := ?_) rfl (by kernel_rfl) (by kernel_rfl) (by kernel_rfl) (fun _ _ _ h => h) (Or.inl ⟨by rfl, ?_⟩) (by assumption) ?_
            rotate_left
            · intro w hSw
              have hSw := OS _ hSw
              go_simp
              try with_reducible rfl
            try simp only [Act.put, List.setIfInBounds_toArray, List.set_cons_zero, List.set_cons_succ]
            refine wpAnyH_take (i := 9) (oi := { dst := some 59, op := Op.call { callee := Callee.builtin Builtin.len, args := #[Operand.tmp 58], argTypes := #[9] }, type := 3, pos := "ref.go:114", after := #[{ on := 8, ground := Ground.data }], guard := none }) (v := ?_) rfl (by kernel_rfl) (by kernel_rfl) (by kernel_rfl) (fun _ _ _ h => h) (Or.inl ⟨by rfl, ?_⟩) (by assumption) ?_
            rotate_left
            · intro w hSw
              skip
              clear hSw
              go_simp
              try with_reducible rfl
            try simp only [Act.put, List.setIfInBounds_toArray, List.set_cons_zero, List.set_cons_succ]
            refine wpAnyH_take (i := 11) (oi := { dst := some 61, op := Op.load 3 (Operand.tmp 60), type := 3, pos := "ref.go:114", after := #[{ on := 10, ground := Ground.data }], guard := none }) (v := ?_) rfl (by kernel_rfl) (by kernel_rfl) (by kernel_rfl) (fun _ _ _ h => h) (Or.inl ⟨by rfl, ?_⟩) (by assumption) ?_
            rotate_left
            · intro w hSw
              have hSw := OS _ hSw
              go_simp
              try with_reducible rfl
            try simp only [Act.put, List.setIfInBounds_toArray, List.set_cons_zero, List.set_cons_succ]
            refine wpAnyH_take (i := 13) (oi := { dst := some 63, op := Op.load 3 (Operand.tmp 62), type := 3, pos := "ref.go:114", after := #[{ on := 12, ground := Ground.data }], guard := none }) (v := ?_) rfl (by kernel_rfl) (by kernel_rfl) (by kernel_rfl) (fun _ _ _ h => h) (Or.inl ⟨by rfl, ?_⟩) (by assumption) ?_
            rotate_left
            · intro w hSw
              have hSw := OS _ hSw
              go_simp
              try with_reducible rfl
            try simp only [Act.put, List.setIfInBounds_toArray, List.set_cons_zero, List.set_cons_succ]
            refine wpAnyH_take (i := 14) (oi := { dst := some 64, op := Op.binOp BinOp.add 3 (Operand.tmp 63) (Operand.const (Value.int IntKind.i64 1)) 3, type := 3, pos := "ref.go:114", after := #[{ on := 13, ground := Ground.data }], guard := none }) (v := ?_) rfl (by kernel_rfl) (by kernel_rfl) (by kernel_rfl) (fun _ _ _ h => h) (Or.inl ⟨by rfl, ?_⟩) (by assumption) ?_
            rotate_left
            · intro w hSw
              skip
              clear hSw
              go_simp
              try with_reducible rfl
            try simp only [Act.put, List.setIfInBounds_toArray, List.set_cons_zero, List.set_cons_succ]
            refine wpAnyH_take (i := 15) (oi := { dst := some 65, op := Op.slice 9 (Operand.const (Value.string { data := #[32, 48, 53, 49, 50] })) (some (Operand.tmp 61)) (some (Operand.tmp 64)) none, type := 9, pos := "ref.go:114", after := #[{ on := 11, ground := Ground.data }, { on := 14, ground := Ground.data }], guard := none }) (v := ?_) rfl (by kernel_rfl) (by kernel_rfl) (by kernel_rfl) (fun _ _ _ h => h) (Or.inl ⟨by rfl, ?_⟩) (by assumption) ?_
            rotate_left
            · intro w hSw
              skip
              clear hSw
              go_simp
              try with_reducible rfl
            try simp only [Act.put, List.setIfInBounds_toArray, List.set_cons_zero, List.set_cons_succ]
            refine wpAnyH_take (i := 19) (oi := { dst := some 69, op := Op.load 9 (Operand.tmp 68), type := 9, pos := "ref.go:114", after := #[{ on := 18, ground := Ground.data }], guard := none }) (v := ?_) rfl (by kernel_rfl) (by kernel_rfl) (by kernel_rfl) (fun _ _ _ h => h) (Or.inl ⟨by rfl, ?_⟩) (by assumption) ?_
            rotate_left
            · intro w hSw
              have hSw := OS _ hSw
              go_simp
              try with_reducible rfl
            try simp only [Act.put, List.setIfInBounds_toArray, List.set_cons_zero, List.set_cons_succ]
            refine wpAnyH_ready (rs := [16]) (by kernel_rfl) (by simp) ?_
            refine (AllReadyH.cons (o := { dst := some 66, op := Op.call { callee := Callee.value (Operand.func 14), args := #[Operand.tmp 52, Operand.tmp 54, Operand.tmp 56, Operand.tmp 59, Operand.tmp 65], argTypes := #[9, 9, 3, 3, 9] }, type := 9, pos := "ref.go:114", after := #[{ on := 2, ground := Ground.data }, { on := 4, ground := Ground.data }, { on := 6, ground := Ground.data }, { on := 9, ground := Ground.data }, { on := 15, ground := Ground.data }], guard := none }) rfl (fun K hK => ?_) AllReadyH.nil)
            go_simp
            refine (CH.out _ (by assumption)).mono ?_
            rintro e w16' ⟨rfl, m16'⟩
            refine hK.out _ _ (SO _ (by assumption)) (fun hHeld => ?_)
            clear hK K
            try simp only [Act.put, List.setIfInBounds_toArray, List.set_cons_zero, List.set_cons_succ]
            refine wpAnyH_take (i := 17) (oi := { dst := some 67, op := Op.binOp BinOp.add 9 (Operand.tmp 50) (Operand.tmp 66) 9, type := 9, pos := "ref.go:114", after := #[{ on := 0, ground := Ground.data }, { on := 16, ground := Ground.data }], guard := none }) (v := ?_) rfl (by kernel_rfl) (by kernel_rfl) (by kernel_rfl) (fun _ _ _ h => h) (Or.inl ⟨by rfl, ?_⟩) (by assumption) ?_
            rotate_left
            · intro w hSw
              skip
              clear hSw
              go_simp
              first | with_reducible rfl | (rw [if_neg (by omega)])
            try simp only [Act.put, List.setIfInBounds_toArray, List.set_cons_zero, List.set_cons_succ]
            refine wpAnyH_ready (rs := [20]) (by kernel_rfl) (by simp) ?_
            refine (AllReadyH.cons (o := { dst := some 70, op := Op.call { callee := Callee.value (Operand.func 15), args := #[Operand.tmp 69], argTypes := #[9] }, type := 9, pos := "ref.go:114", after := #[{ on := 19, ground := Ground.data }, { on := 16, ground := Ground.chain }], guard := none }) rfl (fun K hK => ?_) AllReadyH.nil)
            go_simp
            refine (CF.out _ (by assumption)).mono ?_
            rintro e w20' ⟨rfl, m20'⟩
            refine hK.out _ _ (SO _ (by assumption)) (fun hHeld => ?_)
            clear hK K
            try simp only [Act.put, List.setIfInBounds_toArray, List.set_cons_zero, List.set_cons_succ]
            refine wpAnyH_take (i := 21) (oi := { dst := some 71, op := Op.binOp BinOp.add 9 (Operand.tmp 67) (Operand.tmp 70) 9, type := 9, pos := "ref.go:114", after := #[{ on := 17, ground := Ground.data }, { on := 20, ground := Ground.data }], guard := none }) (v := ?_) rfl (by kernel_rfl) (by kernel_rfl) (by kernel_rfl) (fun _ _ _ h => h) (Or.inl ⟨by rfl, ?_⟩) (by assumption) ?_
            rotate_left
            · intro w hSw
              skip
              clear hSw
              go_simp
              first | with_reducible rfl | (rw [if_neg (by omega)])
            try simp only [Act.put, List.setIfInBounds_toArray, List.set_cons_zero, List.set_cons_succ]
            refine wpAnyH_take (i := 22) (oi := { dst := some 4, op := Op.assign (Operand.tmp 71), type := 9, pos := "ref.go:114", after := #[{ on := 21, ground := Ground.data }, { on := 20, ground := Ground.chain }, { on := 0, ground := Ground.phase }, { on := 1, ground := Ground.phase }, { on := 2, ground := Ground.phase }, { on := 3, ground := Ground.phase }, { on := 4, ground := Ground.phase }, { on := 5, ground := Ground.phase }, { on := 6, ground := Ground.phase }, { on := 7, ground := Ground.phase }, { on := 8, ground := Ground.phase }, { on := 9, ground := Ground.phase }, { on := 10, ground := Ground.phase }, { on := 11, ground := Ground.phase }, { on := 12, ground := Ground.phase }, { on := 13, ground := Ground.phase }, { on := 14, ground := Ground.phase }, { on := 15, ground := Ground.phase }, { on := 16, ground := Ground.phase }, { on := 17, ground := Ground.phase }, { on := 18, ground := Ground.phase }, { on := 19, ground := Ground.phase }, { on := 20, ground := Ground.phase }, { on := 21, ground := Ground.phase }], guard := none }) (v := ?_) rfl (by kernel_rfl) (by kernel_rfl) (by kernel_rfl) (fun _ _ _ h => h) (Or.inl ⟨by rfl, ?_⟩) (by assumption) ?_
            rotate_left
            · intro w hSw
              skip
              clear hSw
              go_simp
              try with_reducible rfl
            try simp only [Act.put, List.setIfInBounds_toArray, List.set_cons_zero, List.set_cons_succ]
            refine wpAnyH_done (by kernel_rfl) ?_ _
            refine NoPanic.normal ?_
            have HBF := Lib.hid (HB5.out.trans ((Chg.below m20' (Nat.le_refl _) (fun _ _ => id)).mono HB5.out.size))
            go_wp2
            go_roundw
            case rel => exact ⟨k + 1, by omega, by go_num, by rw [HTT.out, HEE.out, HPW.out, HSP.out]; simp only [ByteArray.append_assoc], HBF, hMk⟩
            case measure => simp [intOf]; omega
          · have CR2 := fun W => recordR_any kLink x.to (by unfold lineL; simp only [List.length_append, List.length_cons, List.length_nil]; rw [show kLink.length = 8 from rfl]; omega) (by unfold lineL; simp only [List.length_append, List.length_cons, List.length_nil]; rw [show kLink.length = 8 from rfl]; omega) W
            have eMo : moreE x = recW kLink x.to := by unfold moreE longR; rw [if_neg (by omega), if_pos (by omega)]; simp
            have i1 : ¬ 100 < (str x.name).size := by omega
            have i2 : 100 < (str x.to).size := by omega
            have hk4 : kPath = [112, 97, 116, 104] := rfl
            rw [show str kLink = ⟨#[108, 105, 110, 107, 112, 97, 116, 104]⟩ from rfl] at CR2
            clear hk4
            have hml : 100 ≤ (moreE x).length ∧ (moreE x).length ≤ 800 := by
              have y1 := longR_le (k := kPath) (v := x.name) (by decide) hn200
              have y2 := longR_le (k := kLink) (v := x.to) (by decide) ht200
              refine ⟨?_, by unfold moreE; rw [List.length_append]; omega⟩
              rw [eMo]
              simp only [recW, lineL, List.length_append, List.length_cons, List.length_nil]
              omega
            have hne : moreE x ≠ [] := fun e => by rw [e] at hml; simp at hml
            have qm := eq_lit (moreE x) []
            rw [decide_eq_false hne] at qm
            have qm2 : (str (moreE x)).toList.isEmpty = false := by rw [empty_lit, decide_eq_false hne]
            have CX := fun W => headR_any kPax [] 0 (moreE x).length 120 (by decide) (by decide) (by decide) (by omega) W
            rw [show str kPax = ⟨#[112, 97, 120]⟩ from rfl, show str [] = ⟨#[]⟩ from rfl, show str [120] = ⟨#[120]⟩ from rfl, show ((0 : Nat) : Int) = 0 from rfl] at CX
            have CY := fun W => fullR_any (moreE x) (by omega) W
            have zx : (str (headW kPax [] 0 (moreE x).length 120)).size = 512 := by rw [str_size, headW_len]
            have zy : (str (fullT (moreE x))).size ≤ 2000 := by rw [str_size, fullT_len]; unfold blocksN; omega
            have zm := str_size (moreE x)
            have HEE : Hid (str (encE x) = (str (headW kPax [] 0 (moreE x).length 120) ++ str (fullT (moreE x))) ++ str (partW x.name x.to md (typeL x.kind) x.data)) := Lib.hid (by rw [HEN.out, if_neg hne, str_append, str_append]; rfl)
            rw [← eMo] at CR2
            have he0 : (⟨#[]⟩ : ByteArray) ++ str (moreE x) = str (moreE x) := str_append [] (moreE x)
            obtain ⟨ML, hML⟩ : ∃ ML, ML = (moreE x).length := ⟨_, rfl⟩
            rw [← hML] at CX zx zm HEE hml
            clear eMo hne hML
            generalize str (headW kPax [] 0 ML 120) = XH at *
            generalize str (fullT (moreE x)) = XF at *
            generalize str (moreE x) = MO at *
            clear HEN hmd hkn hn200 ht200 hn ht
            generalize str (headW x.name x.to md DL (typeL x.kind)) = DH at *
            generalize str (fullT x.data) = DF at *
            generalize str (partW x.name x.to md (typeL x.kind) x.data) = DP at *
            generalize str [typeL x.kind] = KT at *
            generalize str x.name = NM at *
            generalize str x.to = TO at *
            generalize str x.data = DT at *
            generalize str (encE x) = EN at *
            generalize str (encL (l.take k)) = S at *
            go_upto_region 15 with (first
              | (go_at_call 13; ((with_reducible refine (CR2 _).mono ?_); rintro e w3 ⟨rfl, rfl⟩)))
            go_upto_region 17 with (first
              | (go_at_call 14; ((with_reducible refine (CX _).mono ?_); rintro e w4 ⟨rfl, hb4⟩))
              | (go_at_call 15; ((with_reducible refine (CY _).mono ?_); rintro e w5 ⟨rfl, hb5⟩)))
            have HB5 := Lib.hid (HB2.out.trans ((hb4.trans (hb5.mono hb4.size)).mono HB2.out.size))
            have HR5 := Lib.hid (rowC_below HRW.out (hb4.trans (hb5.mono hb4.size)) (rowC_lt HRW.out))
            obtain ⟨SP, hSP⟩ : ∃ SP, SP = S ++ XH ++ XF := ⟨_, rfl⟩
            rw [← hSP]
            have zSP : SP.size ≤ 900000100000 := by rw [hSP, ByteArray.size_append, ByteArray.size_append]; omega
            have HSP := Lib.hid hSP
            clear hSP CX CY qm qm2 zx zy zm hml d1 d2 i1 i2 z1 z2 CM hb4 hb5
            clear CR2
            clear he0
            have CH : Hid (∀ w', Gn w5 no w' → Calls Tryz.prog 14 #[.string NM, .string TO, .int .i64 (md : Int), .int .i64 (DL : Int), .string KT] w' fun e w'' => e = .returned (.string DH) ∧ Gn w5 no w'') := Lib.hid fun w' hg => (CH0 w').mono fun _ _ ⟨h1, h2⟩ => ⟨h1, hg.call h2⟩
            have CF : Hid (∀ w', Gn w5 no w' → Calls Tryz.prog 15 #[.string DT] w' fun e w'' => e = .returned (.string DF) ∧ Gn w5 no w'') := Lib.hid fun w' hg => (CF0 w').mono fun _ _ ⟨h1, h2⟩ => ⟨h1, hg.call h2⟩
            have OS : ∀ w', Gn w5 no w' → w'.cell? ⟨wr.heap.size, 0, none⟩ = some (.int .i64 (kn : Int)) ∧ w'.cell? ⟨wr.heap.size, 1, none⟩ = some (.string NM) ∧ w'.cell? ⟨wr.heap.size, 2, none⟩ = some (.string TO) ∧ w'.cell? ⟨wr.heap.size, 3, none⟩ = some (.int .i64 (md : Int)) ∧ w'.cell? ⟨wr.heap.size, 4, none⟩ = some (.string DT) := fun w' hg => ⟨rowC_cell (hg.row HR5.out id) 0, rowC_cell (hg.row HR5.out id) 1, rowC_cell (hg.row HR5.out id) 2, rowC_cell (hg.row HR5.out id) 3, rowC_cell (hg.row HR5.out id) 4⟩
            have SO : ∀ w', Gn w5 no w' → Gn w5 no w' := fun _ h => h
            have hw1 : IntKind.i64.wrap (kn : Int) = (kn : Int) := IntWalk.i64_in _ (by omega)
            have hw2 : IntKind.i64.wrap ((kn : Int) + 1) = (kn : Int) + 1 := IntWalk.i64_in _ (by omega)
            have hk0 : (0 : Int) ≤ (kn : Int) := by omega
            have hk5 : (kn : Int) + 1 ≤ 5 := by omega
            have hk6 : (kn : Int) ≤ (kn : Int) + 1 := by omega
            clear CH0 CF0
            refine wp_region_noPanic ?_
            refine wp_region_held_drew (S := Gn w5 no) (by kernel_rfl) (Gn.start _ _) (fun hHeld => ?_)
            generalize w5.drew = wd at *
            refine wpAnyH_take (i := 0) (oi := { dst := some 50, op := Op.move (Operand.tmp 4), type := 9, pos := "ref.go:114", after := #[], guard := none }) (v := ?_) rfl (by kernel_rfl) (by kernel_rfl) (by kernel_rfl) (fun _ _ _ h => h) (Or.inl ⟨by rfl, ?_⟩) (by assumption) ?_
            rotate_left
            · intro w hSw
              skip
              clear hSw
              go_simp
              try with_reducible rfl
            try simp only [Act.put, List.setIfInBounds_toArray, List.set_cons_zero, List.set_cons_succ]
            refine wpAnyH_take (i := 1) (oi := { dst := some 51, op := Op.fieldAddr 39 (Operand.tmp 6) 1, type := 0, pos := "ref.go:114", after := #[], guard := none }) (v := ?_) rfl (by kernel_rfl) (by kernel_rfl) (by kernel_rfl) (fun _ _ _ h => h) (Or.inl ⟨by rfl, ?_⟩) (by assumption) ?_
            rotate_left
            · intro w hSw
              skip
              clear hSw
              go_simp
              try with_reducible rfl
            try simp only [Act.put, List.setIfInBounds_toArray, List.set_cons_zero, List.set_cons_succ]
            refine wpAnyH_take (i := 3) (oi := { dst := some 53, op := Op.fieldAddr 39 (Operand.tmp 6) 2, type := 0, pos := "ref.go:114", after := #[], guard := none }) (v := ?_) rfl (by kernel_rfl) (by kernel_rfl) (by kernel_rfl) (fun _ _ _ h => h) (Or.inl ⟨by rfl, ?_⟩) (by assumption) ?_
            rotate_left
            · intro w hSw
              skip
              clear hSw
              go_simp
              try with_reducible rfl
            try simp only [Act.put, List.setIfInBounds_toArray, List.set_cons_zero, List.set_cons_succ]
            refine wpAnyH_take (i := 5) (oi := { dst := some 55, op := Op.fieldAddr 39 (Operand.tmp 6) 3, type := 0, pos := "ref.go:114", after := #[], guard := none }) (v := ?_) rfl (by kernel_rfl) (by kernel_rfl) (by kernel_rfl) (fun _ _ _ h => h) (Or.inl ⟨by rfl, ?_⟩) (by assumption) ?_
            rotate_left
            · intro w hSw
              skip
              clear hSw
              go_simp
              try with_reducible rfl
            try simp only [Act.put, List.setIfInBounds_toArray, List.set_cons_zero, List.set_cons_succ]
            refine wpAnyH_take (i := 7) (oi := { dst := some 57, op := Op.fieldAddr 39 (Operand.tmp 6) 4, type := 0, pos := "ref.go:114", after := #[], guard := none }) (v := ?_) rfl (by kernel_rfl) (by kernel_rfl) (by kernel_rfl) (fun _ _ _ h => h) (Or.inl ⟨by rfl, ?_⟩) (by assumption) ?_
            rotate_left
            · intro w hSw
              skip
              clear hSw
              go_simp
              try with_reducible rfl
            try simp only [Act.put, List.setIfInBounds_toArray, List.set_cons_zero, List.set_cons_succ]
            refine wpAnyH_take (i := 10) (oi := { dst := some 60, op := Op.fieldAddr 39 (Operand.tmp 6) 0, type := 0, pos := "ref.go:114", after := #[], guard := none }) (v := ?_) rfl (by kernel_rfl) (by kernel_rfl) (by kernel_rfl) (fun _ _ _ h => h) (Or.inl ⟨by rfl, ?_⟩) (by assumption) ?_
            rotate_left
            · intro w hSw
              skip
              clear hSw
              go_simp
              try with_reducible rfl
            try simp only [Act.put, List.setIfInBounds_toArray, List.set_cons_zero, List.set_cons_succ]
            refine wpAnyH_take (i := 12) (oi := { dst := some 62, op := Op.fieldAddr 39 (Operand.tmp 6) 0, type := 0, pos := "ref.go:114", after := #[], guard := none }) (v := ?_) rfl (by kernel_rfl) (by kernel_rfl) (by kernel_rfl) (fun _ _ _ h => h) (Or.inl ⟨by rfl, ?_⟩) (by assumption) ?_
            rotate_left
            · intro w hSw
              skip
              clear hSw
              go_simp
              try with_reducible rfl
            try simp only [Act.put, List.setIfInBounds_toArray, List.set_cons_zero, List.set_cons_succ]
            refine wpAnyH_take (i := 18) (oi := { dst := some 68, op := Op.fieldAddr 39 (Operand.tmp 6) 4, type := 0, pos := "ref.go:114", after := #[], guard := none }) (v := ?_) rfl (by kernel_rfl) (by kernel_rfl) (by kernel_rfl) (fun _ _ _ h => h) (Or.inl ⟨by rfl, ?_⟩) (by assumption) ?_
            rotate_left
            · intro w hSw
              skip
              clear hSw
              go_simp
              try with_reducible rfl
            try simp only [Act.put, List.setIfInBounds_toArray, List.set_cons_zero, List.set_cons_succ]
            refine wpAnyH_take (i := 2) (oi := { dst := some 52, op := Op.load 9 (Operand.tmp 51), type := 9, pos := "ref.go:114", after := #[{ on := 1, ground := Ground.data }], guard := none }) (v := ?_) rfl (by kernel_rfl) (by kernel_rfl) (by kernel_rfl) (fun _ _ _ h => h) (Or.inl ⟨by rfl, ?_⟩) (by assumption) ?_
            rotate_left
            · intro w hSw
              have hSw := OS _ hSw
              go_simp
              try with_reducible rfl
            try simp only [Act.put, List.setIfInBounds_toArray, List.set_cons_zero, List.set_cons_succ]
            refine wpAnyH_take (i := 4) (oi := { dst := some 54, op := Op.load 9 (Operand.tmp 53), type := 9, pos := "ref.go:114", after := #[{ on := 3, ground := Ground.data }], guard := none }) (v := ?_) rfl (by kernel_rfl) (by kernel_rfl) (by kernel_rfl) (fun _ _ _ h => h) (Or.inl ⟨by rfl, ?_⟩) (by assumption) ?_
            rotate_left
            · intro w hSw
              have hSw := OS _ hSw
              go_simp
              try with_reducible rfl
            try simp only [Act.put, List.setIfInBounds_toArray, List.set_cons_zero, List.set_cons_succ]
            refine wpAnyH_take (i := 6) (oi := { dst := some 56, op := Op.load 3 (Operand.tmp 55), type := 3, pos := "ref.go:114", after := #[{ on := 5, ground := Ground.data }], guard := none }) (v := ?_) rfl (by kernel_rfl) (by kernel_rfl) (by kernel_rfl) (fun _ _ _ h => h) (Or.inl ⟨by rfl, ?_⟩) (by assumption) ?_
            rotate_left
            · intro w hSw
              have hSw := OS _ hSw
              go_simp
              try with_reducible rfl
            try simp only [Act.put, List.setIfInBounds_toArray, List.set_cons_zero, List.set_cons_succ]
            refine wpAnyH_take (i := 8) (oi := { dst := some 58, op := Op.load 9 (Operand.tmp 57), type := 9, pos := "ref.go:114", after := #[{ on := 7, ground := Ground.data }], guard := none }) (v := ?_) rfl (by kernel_rfl) (by kernel_rfl) (by kernel_rfl) (fun _ _ _ h => h) (Or.inl ⟨by rfl, ?_⟩) (by assumption) ?_
            rotate_left
            · intro w hSw
              have hSw := OS _ hSw
              go_simp
              try with_reducible rfl
            try simp only [Act.put, List.setIfInBounds_toArray, List.set_cons_zero, List.set_cons_succ]
            refine wpAnyH_take (i := 9) (oi := { dst := some 59, op := Op.call { callee := Callee.builtin Builtin.len, args := #[Operand.tmp 58], argTypes := #[9] }, type := 3, pos := "ref.go:114", after := #[{ on := 8, ground := Ground.data }], guard := none }) (v := ?_) rfl (by kernel_rfl) (by kernel_rfl) (by kernel_rfl) (fun _ _ _ h => h) (Or.inl ⟨by rfl, ?_⟩) (by assumption) ?_
            rotate_left
            · intro w hSw
              skip
              clear hSw
              go_simp
              try with_reducible rfl
            try simp only [Act.put, List.setIfInBounds_toArray, List.set_cons_zero, List.set_cons_succ]
            refine wpAnyH_take (i := 11) (oi := { dst := some 61, op := Op.load 3 (Operand.tmp 60), type := 3, pos := "ref.go:114", after := #[{ on := 10, ground := Ground.data }], guard := none }) (v := ?_) rfl (by kernel_rfl) (by kernel_rfl) (by kernel_rfl) (fun _ _ _ h => h) (Or.inl ⟨by rfl, ?_⟩) (by assumption) ?_
            rotate_left
            · intro w hSw
              have hSw := OS _ hSw
              go_simp
              try with_reducible rfl
            try simp only [Act.put, List.setIfInBounds_toArray, List.set_cons_zero, List.set_cons_succ]
            refine wpAnyH_take (i := 13) (oi := { dst := some 63, op := Op.load 3 (Operand.tmp 62), type := 3, pos := "ref.go:114", after := #[{ on := 12, ground := Ground.data }], guard := none }) (v := ?_) rfl (by kernel_rfl) (by kernel_rfl) (by kernel_rfl) (fun _ _ _ h => h) (Or.inl ⟨by rfl, ?_⟩) (by assumption) ?_
            rotate_left
            · intro w hSw
              have hSw := OS _ hSw
              go_simp
              try with_reducible rfl
            try simp only [Act.put, List.setIfInBounds_toArray, List.set_cons_zero, List.set_cons_succ]
            refine wpAnyH_take (i := 14) (oi := { dst := some 64, op := Op.binOp BinOp.add 3 (Operand.tmp 63) (Operand.const (Value.int IntKind.i64 1)) 3, type := 3, pos := "ref.go:114", after := #[{ on := 13, ground := Ground.data }], guard := none }) (v := ?_) rfl (by kernel_rfl) (by kernel_rfl) (by kernel_rfl) (fun _ _ _ h => h) (Or.inl ⟨by rfl, ?_⟩) (by assumption) ?_
            rotate_left
            · intro w hSw
              skip
              clear hSw
              go_simp
              try with_reducible rfl
            try simp only [Act.put, List.setIfInBounds_toArray, List.set_cons_zero, List.set_cons_succ]
            refine wpAnyH_take (i := 15) (oi := { dst := some 65, op := Op.slice 9 (Operand.const (Value.string { data := #[32, 48, 53, 49, 50] })) (some (Operand.tmp 61)) (some (Operand.tmp 64)) none, type := 9, pos := "ref.go:114", after := #[{ on := 11, ground := Ground.data }, { on := 14, ground := Ground.data }], guard := none }) (v := ?_) rfl (by kernel_rfl) (by kernel_rfl) (by kernel_rfl) (fun _ _ _ h => h) (Or.inl ⟨by rfl, ?_⟩) (by assumption) ?_
            rotate_left
            · intro w hSw
              skip
              clear hSw
              go_simp
              try with_reducible rfl
            try simp only [Act.put, List.setIfInBounds_toArray, List.set_cons_zero, List.set_cons_succ]
            refine wpAnyH_take (i := 19) (oi := { dst := some 69, op := Op.load 9 (Operand.tmp 68), type := 9, pos := "ref.go:114", after := #[{ on := 18, ground := Ground.data }], guard := none }) (v := ?_) rfl (by kernel_rfl) (by kernel_rfl) (by kernel_rfl) (fun _ _ _ h => h) (Or.inl ⟨by rfl, ?_⟩) (by assumption) ?_
            rotate_left
            · intro w hSw
              have hSw := OS _ hSw
              go_simp
              try with_reducible rfl
            try simp only [Act.put, List.setIfInBounds_toArray, List.set_cons_zero, List.set_cons_succ]
            refine wpAnyH_ready (rs := [16]) (by kernel_rfl) (by simp) ?_
            refine (AllReadyH.cons (o := { dst := some 66, op := Op.call { callee := Callee.value (Operand.func 14), args := #[Operand.tmp 52, Operand.tmp 54, Operand.tmp 56, Operand.tmp 59, Operand.tmp 65], argTypes := #[9, 9, 3, 3, 9] }, type := 9, pos := "ref.go:114", after := #[{ on := 2, ground := Ground.data }, { on := 4, ground := Ground.data }, { on := 6, ground := Ground.data }, { on := 9, ground := Ground.data }, { on := 15, ground := Ground.data }], guard := none }) rfl (fun K hK => ?_) AllReadyH.nil)
            go_simp
            refine (CH.out _ (by assumption)).mono ?_
            rintro e w16' ⟨rfl, m16'⟩
            refine hK.out _ _ (SO _ (by assumption)) (fun hHeld => ?_)
            clear hK K
            try simp only [Act.put, List.setIfInBounds_toArray, List.set_cons_zero, List.set_cons_succ]
            refine wpAnyH_take (i := 17) (oi := { dst := some 67, op := Op.binOp BinOp.add 9 (Operand.tmp 50) (Operand.tmp 66) 9, type := 9, pos := "ref.go:114", after := #[{ on := 0, ground := Ground.data }, { on := 16, ground := Ground.data }], guard := none }) (v := ?_) rfl (by kernel_rfl) (by kernel_rfl) (by kernel_rfl) (fun _ _ _ h => h) (Or.inl ⟨by rfl, ?_⟩) (by assumption) ?_
            rotate_left
            · intro w hSw
              skip
              clear hSw
              go_simp
              first | with_reducible rfl | (rw [if_neg (by omega)])
            try simp only [Act.put, List.setIfInBounds_toArray, List.set_cons_zero, List.set_cons_succ]
            refine wpAnyH_ready (rs := [20]) (by kernel_rfl) (by simp) ?_
            refine (AllReadyH.cons (o := { dst := some 70, op := Op.call { callee := Callee.value (Operand.func 15), args := #[Operand.tmp 69], argTypes := #[9] }, type := 9, pos := "ref.go:114", after := #[{ on := 19, ground := Ground.data }, { on := 16, ground := Ground.chain }], guard := none }) rfl (fun K hK => ?_) AllReadyH.nil)
            go_simp
            refine (CF.out _ (by assumption)).mono ?_
            rintro e w20' ⟨rfl, m20'⟩
            refine hK.out _ _ (SO _ (by assumption)) (fun hHeld => ?_)
            clear hK K
            try simp only [Act.put, List.setIfInBounds_toArray, List.set_cons_zero, List.set_cons_succ]
            refine wpAnyH_take (i := 21) (oi := { dst := some 71, op := Op.binOp BinOp.add 9 (Operand.tmp 67) (Operand.tmp 70) 9, type := 9, pos := "ref.go:114", after := #[{ on := 17, ground := Ground.data }, { on := 20, ground := Ground.data }], guard := none }) (v := ?_) rfl (by kernel_rfl) (by kernel_rfl) (by kernel_rfl) (fun _ _ _ h => h) (Or.inl ⟨by rfl, ?_⟩) (by assumption) ?_
            rotate_left
            · intro w hSw
              skip
              clear hSw
              go_simp
              first | with_reducible rfl | (rw [if_neg (by omega)])
            try simp only [Act.put, List.setIfInBounds_toArray, List.set_cons_zero, List.set_cons_succ]
            refine wpAnyH_take (i := 22) (oi := { dst := some 4, op := Op.assign (Operand.tmp 71), type := 9, pos := "ref.go:114", after := #[{ on := 21, ground := Ground.data }, { on := 20, ground := Ground.chain }, { on := 0, ground := Ground.phase }, { on := 1, ground := Ground.phase }, { on := 2, ground := Ground.phase }, { on := 3, ground := Ground.phase }, { on := 4, ground := Ground.phase }, { on := 5, ground := Ground.phase }, { on := 6, ground := Ground.phase }, { on := 7, ground := Ground.phase }, { on := 8, ground := Ground.phase }, { on := 9, ground := Ground.phase }, { on := 10, ground := Ground.phase }, { on := 11, ground := Ground.phase }, { on := 12, ground := Ground.phase }, { on := 13, ground := Ground.phase }, { on := 14, ground := Ground.phase }, { on := 15, ground := Ground.phase }, { on := 16, ground := Ground.phase }, { on := 17, ground := Ground.phase }, { on := 18, ground := Ground.phase }, { on := 19, ground := Ground.phase }, { on := 20, ground := Ground.phase }, { on := 21, ground := Ground.phase }], guard := none }) (v := ?_) rfl (by kernel_rfl) (by kernel_rfl) (by kernel_rfl) (fun _ _ _ h => h) (Or.inl ⟨by rfl, ?_⟩) (by assumption) ?_
            rotate_left
            · intro w hSw
              skip
              clear hSw
              go_simp
              try with_reducible rfl
            try simp only [Act.put, List.setIfInBounds_toArray, List.set_cons_zero, List.set_cons_succ]
            refine wpAnyH_done (by kernel_rfl) ?_ _
            refine NoPanic.normal ?_
            have HBF := Lib.hid (HB5.out.trans ((Chg.below m20' (Nat.le_refl _) (fun _ _ => id)).mono HB5.out.size))
            go_wp2
            go_roundw
            case rel => exact ⟨k + 1, by omega, by go_num, by rw [HTT.out, HEE.out, HPW.out, HSP.out]; simp only [ByteArray.append_assoc], HBF, hMk⟩
            case measure => simp [intOf]; omega
          · have eMo : moreE x = [] := by unfold moreE longR; rw [if_neg (by omega), if_neg (by omega)]; rfl
            have i1 : ¬ 100 < (str x.name).size := by omega
            have i2 : ¬ 100 < (str x.to).size := by omega
            have hk4 : kPath = [112, 97, 116, 104] := rfl
            clear hk4
            have HEE : Hid (str (encE x) = str (partW x.name x.to md (typeL x.kind) x.data)) := Lib.hid (by rw [HEN.out, if_pos eMo]; rfl)
            clear eMo
            clear HEN hmd hkn hn200 ht200 hn ht
            generalize str (headW x.name x.to md DL (typeL x.kind)) = DH at *
            generalize str (fullT x.data) = DF at *
            generalize str (partW x.name x.to md (typeL x.kind) x.data) = DP at *
            generalize str [typeL x.kind] = KT at *
            generalize str x.name = NM at *
            generalize str x.to = TO at *
            generalize str x.data = DT at *
            generalize str (encE x) = EN at *
            generalize str (encL (l.take k)) = S at *
            go_upto_region 17 with (fail)
            obtain ⟨SP, hSP⟩ : ∃ SP, SP = S := ⟨_, rfl⟩
            rw [← hSP]
            have zSP : SP.size ≤ 900000100000 := by rw [hSP]; omega
            have HSP := Lib.hid hSP
            clear hSP d1 d2 i1 i2 z1 z2 CM
            have CH : Hid (∀ w', Gn w2 no w' → Calls Tryz.prog 14 #[.string NM, .string TO, .int .i64 (md : Int), .int .i64 (DL : Int), .string KT] w' fun e w'' => e = .returned (.string DH) ∧ Gn w2 no w'') := Lib.hid fun w' hg => (CH0 w').mono fun _ _ ⟨h1, h2⟩ => ⟨h1, hg.call h2⟩
            have CF : Hid (∀ w', Gn w2 no w' → Calls Tryz.prog 15 #[.string DT] w' fun e w'' => e = .returned (.string DF) ∧ Gn w2 no w'') := Lib.hid fun w' hg => (CF0 w').mono fun _ _ ⟨h1, h2⟩ => ⟨h1, hg.call h2⟩
            have OS : ∀ w', Gn w2 no w' → w'.cell? ⟨wr.heap.size, 0, none⟩ = some (.int .i64 (kn : Int)) ∧ w'.cell? ⟨wr.heap.size, 1, none⟩ = some (.string NM) ∧ w'.cell? ⟨wr.heap.size, 2, none⟩ = some (.string TO) ∧ w'.cell? ⟨wr.heap.size, 3, none⟩ = some (.int .i64 (md : Int)) ∧ w'.cell? ⟨wr.heap.size, 4, none⟩ = some (.string DT) := fun w' hg => ⟨rowC_cell (hg.row HRW.out id) 0, rowC_cell (hg.row HRW.out id) 1, rowC_cell (hg.row HRW.out id) 2, rowC_cell (hg.row HRW.out id) 3, rowC_cell (hg.row HRW.out id) 4⟩
            have SO : ∀ w', Gn w2 no w' → Gn w2 no w' := fun _ h => h
            have hw1 : IntKind.i64.wrap (kn : Int) = (kn : Int) := IntWalk.i64_in _ (by omega)
            have hw2 : IntKind.i64.wrap ((kn : Int) + 1) = (kn : Int) + 1 := IntWalk.i64_in _ (by omega)
            have hk0 : (0 : Int) ≤ (kn : Int) := by omega
            have hk5 : (kn : Int) + 1 ≤ 5 := by omega
            have hk6 : (kn : Int) ≤ (kn : Int) + 1 := by omega
            clear CH0 CF0
            refine wp_region_noPanic ?_
            refine wp_region_held_drew (S := Gn w2 no) (by kernel_rfl) (Gn.start _ _) (fun hHeld => ?_)
            generalize w2.drew = wd at *
            refine wpAnyH_take (i := 0) (oi := { dst := some 50, op := Op.move (Operand.tmp 4), type := 9, pos := "ref.go:114", after := #[], guard := none }) (v := ?_) rfl (by kernel_rfl) (by kernel_rfl) (by kernel_rfl) (fun _ _ _ h => h) (Or.inl ⟨by rfl, ?_⟩) (by assumption) ?_
            rotate_left
            · intro w hSw
              skip
              clear hSw
              go_simp
              try with_reducible rfl
            try simp only [Act.put, List.setIfInBounds_toArray, List.set_cons_zero, List.set_cons_succ]
            refine wpAnyH_take (i := 1) (oi := { dst := some 51, op := Op.fieldAddr 39 (Operand.tmp 6) 1, type := 0, pos := "ref.go:114", after := #[], guard := none }) (v := ?_) rfl (by kernel_rfl) (by kernel_rfl) (by kernel_rfl) (fun _ _ _ h => h) (Or.inl ⟨by rfl, ?_⟩) (by assumption) ?_
            rotate_left
            · intro w hSw
              skip
              clear hSw
              go_simp
              try with_reducible rfl
            try simp only [Act.put, List.setIfInBounds_toArray, List.set_cons_zero, List.set_cons_succ]
            refine wpAnyH_take (i := 3) (oi := { dst := some 53, op := Op.fieldAddr 39 (Operand.tmp 6) 2, type := 0, pos := "ref.go:114", after := #[], guard := none }) (v := ?_) rfl (by kernel_rfl) (by kernel_rfl) (by kernel_rfl) (fun _ _ _ h => h) (Or.inl ⟨by rfl, ?_⟩) (by assumption) ?_
            rotate_left
            · intro w hSw
              skip
              clear hSw
              go_simp
              try with_reducible rfl
            try simp only [Act.put, List.setIfInBounds_toArray, List.set_cons_zero, List.set_cons_succ]
            refine wpAnyH_take (i := 5) (oi := { dst := some 55, op := Op.fieldAddr 39 (Operand.tmp 6) 3, type := 0, pos := "ref.go:114", after := #[], guard := none }) (v := ?_) rfl (by kernel_rfl) (by kernel_rfl) (by kernel_rfl) (fun _ _ _ h => h) (Or.inl ⟨by rfl, ?_⟩) (by assumption) ?_
            rotate_left
            · intro w hSw
              skip
              clear hSw
              go_simp
              try with_reducible rfl
            try simp only [Act.put, List.setIfInBounds_toArray, List.set_cons_zero, List.set_cons_succ]
            refine wpAnyH_take (i := 7) (oi := { dst := some 57, op := Op.fieldAddr 39 (Operand.tmp 6) 4, type := 0, pos := "ref.go:114", after := #[], guard := none }) (v := ?_) rfl (by kernel_rfl) (by kernel_rfl) (by kernel_rfl) (fun _ _ _ h => h) (Or.inl ⟨by rfl, ?_⟩) (by assumption) ?_
            rotate_left
            · intro w hSw
              skip
              clear hSw
              go_simp
              try with_reducible rfl
            try simp only [Act.put, List.setIfInBounds_toArray, List.set_cons_zero, List.set_cons_succ]
            refine wpAnyH_take (i := 10) (oi := { dst := some 60, op := Op.fieldAddr 39 (Operand.tmp 6) 0, type := 0, pos := "ref.go:114", after := #[], guard := none }) (v := ?_) rfl (by kernel_rfl) (by kernel_rfl) (by kernel_rfl) (fun _ _ _ h => h) (Or.inl ⟨by rfl, ?_⟩) (by assumption) ?_
            rotate_left
            · intro w hSw
              skip
              clear hSw
              go_simp
              try with_reducible rfl
            try simp only [Act.put, List.setIfInBounds_toArray, List.set_cons_zero, List.set_cons_succ]
            refine wpAnyH_take (i := 12) (oi := { dst := some 62, op := Op.fieldAddr 39 (Operand.tmp 6) 0, type := 0, pos := "ref.go:114", after := #[], guard := none }) (v := ?_) rfl (by kernel_rfl) (by kernel_rfl) (by kernel_rfl) (fun _ _ _ h => h) (Or.inl ⟨by rfl, ?_⟩) (by assumption) ?_
            rotate_left
            · intro w hSw
              skip
              clear hSw
              go_simp
              try with_reducible rfl
            try simp only [Act.put, List.setIfInBounds_toArray, List.set_cons_zero, List.set_cons_succ]
            refine wpAnyH_take (i := 18) (oi := { dst := some 68, op := Op.fieldAddr 39 (Operand.tmp 6) 4, type := 0, pos := "ref.go:114", after := #[], guard := none }) (v := ?_) rfl (by kernel_rfl) (by kernel_rfl) (by kernel_rfl) (fun _ _ _ h => h) (Or.inl ⟨by rfl, ?_⟩) (by assumption) ?_
            rotate_left
            · intro w hSw
              skip
              clear hSw
              go_simp
              try with_reducible rfl
            try simp only [Act.put, List.setIfInBounds_toArray, List.set_cons_zero, List.set_cons_succ]
            refine wpAnyH_take (i := 2) (oi := { dst := some 52, op := Op.load 9 (Operand.tmp 51), type := 9, pos := "ref.go:114", after := #[{ on := 1, ground := Ground.data }], guard := none }) (v := ?_) rfl (by kernel_rfl) (by kernel_rfl) (by kernel_rfl) (fun _ _ _ h => h) (Or.inl ⟨by rfl, ?_⟩) (by assumption) ?_
            rotate_left
            · intro w hSw
              have hSw := OS _ hSw
              go_simp
              try with_reducible rfl
            try simp only [Act.put, List.setIfInBounds_toArray, List.set_cons_zero, List.set_cons_succ]
            refine wpAnyH_take (i := 4) (oi := { dst := some 54, op := Op.load 9 (Operand.tmp 53), type := 9, pos := "ref.go:114", after := #[{ on := 3, ground := Ground.data }], guard := none }) (v := ?_) rfl (by kernel_rfl) (by kernel_rfl) (by kernel_rfl) (fun _ _ _ h => h) (Or.inl ⟨by rfl, ?_⟩) (by assumption) ?_
            rotate_left
            · intro w hSw
              have hSw := OS _ hSw
              go_simp
              try with_reducible rfl
            try simp only [Act.put, List.setIfInBounds_toArray, List.set_cons_zero, List.set_cons_succ]
            refine wpAnyH_take (i := 6) (oi := { dst := some 56, op := Op.load 3 (Operand.tmp 55), type := 3, pos := "ref.go:114", after := #[{ on := 5, ground := Ground.data }], guard := none }) (v := ?_) rfl (by kernel_rfl) (by kernel_rfl) (by kernel_rfl) (fun _ _ _ h => h) (Or.inl ⟨by rfl, ?_⟩) (by assumption) ?_
            rotate_left
            · intro w hSw
              have hSw := OS _ hSw
              go_simp
              try with_reducible rfl
            try simp only [Act.put, List.setIfInBounds_toArray, List.set_cons_zero, List.set_cons_succ]
            refine wpAnyH_take (i := 8) (oi := { dst := some 58, op := Op.load 9 (Operand.tmp 57), type := 9, pos := "ref.go:114", after := #[{ on := 7, ground := Ground.data }], guard := none }) (v := ?_) rfl (by kernel_rfl) (by kernel_rfl) (by kernel_rfl) (fun _ _ _ h => h) (Or.inl ⟨by rfl, ?_⟩) (by assumption) ?_
            rotate_left
            · intro w hSw
              have hSw := OS _ hSw
              go_simp
              try with_reducible rfl
            try simp only [Act.put, List.setIfInBounds_toArray, List.set_cons_zero, List.set_cons_succ]
            refine wpAnyH_take (i := 9) (oi := { dst := some 59, op := Op.call { callee := Callee.builtin Builtin.len, args := #[Operand.tmp 58], argTypes := #[9] }, type := 3, pos := "ref.go:114", after := #[{ on := 8, ground := Ground.data }], guard := none }) (v := ?_) rfl (by kernel_rfl) (by kernel_rfl) (by kernel_rfl) (fun _ _ _ h => h) (Or.inl ⟨by rfl, ?_⟩) (by assumption) ?_
            rotate_left
            · intro w hSw
              skip
              clear hSw
              go_simp
              try with_reducible rfl
            try simp only [Act.put, List.setIfInBounds_toArray, List.set_cons_zero, List.set_cons_succ]
            refine wpAnyH_take (i := 11) (oi := { dst := some 61, op := Op.load 3 (Operand.tmp 60), type := 3, pos := "ref.go:114", after := #[{ on := 10, ground := Ground.data }], guard := none }) (v := ?_) rfl (by kernel_rfl) (by kernel_rfl) (by kernel_rfl) (fun _ _ _ h => h) (Or.inl ⟨by rfl, ?_⟩) (by assumption) ?_
            rotate_left
            · intro w hSw
              have hSw := OS _ hSw
              go_simp
              try with_reducible rfl
            try simp only [Act.put, List.setIfInBounds_toArray, List.set_cons_zero, List.set_cons_succ]
            refine wpAnyH_take (i := 13) (oi := { dst := some 63, op := Op.load 3 (Operand.tmp 62), type := 3, pos := "ref.go:114", after := #[{ on := 12, ground := Ground.data }], guard := none }) (v := ?_) rfl (by kernel_rfl) (by kernel_rfl) (by kernel_rfl) (fun _ _ _ h => h) (Or.inl ⟨by rfl, ?_⟩) (by assumption) ?_
            rotate_left
            · intro w hSw
              have hSw := OS _ hSw
              go_simp
              try with_reducible rfl
            try simp only [Act.put, List.setIfInBounds_toArray, List.set_cons_zero, List.set_cons_succ]
            refine wpAnyH_take (i := 14) (oi := { dst := some 64, op := Op.binOp BinOp.add 3 (Operand.tmp 63) (Operand.const (Value.int IntKind.i64 1)) 3, type := 3, pos := "ref.go:114", after := #[{ on := 13, ground := Ground.data }], guard := none }) (v := ?_) rfl (by kernel_rfl) (by kernel_rfl) (by kernel_rfl) (fun _ _ _ h => h) (Or.inl ⟨by rfl, ?_⟩) (by assumption) ?_
            rotate_left
            · intro w hSw
              skip
              clear hSw
              go_simp
              try with_reducible rfl
            try simp only [Act.put, List.setIfInBounds_toArray, List.set_cons_zero, List.set_cons_succ]
            refine wpAnyH_take (i := 15) (oi := { dst := some 65, op := Op.slice 9 (Operand.const (Value.string { data := #[32, 48, 53, 49, 50] })) (some (Operand.tmp 61)) (some (Operand.tmp 64)) none, type := 9, pos := "ref.go:114", after := #[{ on := 11, ground := Ground.data }, { on := 14, ground := Ground.data }], guard := none }) (v := ?_) rfl (by kernel_rfl) (by kernel_rfl) (by kernel_rfl) (fun _ _ _ h => h) (Or.inl ⟨by rfl, ?_⟩) (by assumption) ?_
            rotate_left
            · intro w hSw
              skip
              clear hSw
              go_simp
              try with_reducible rfl
            try simp only [Act.put, List.setIfInBounds_toArray, List.set_cons_zero, List.set_cons_succ]
            refine wpAnyH_take (i := 19) (oi := { dst := some 69, op := Op.load 9 (Operand.tmp 68), type := 9, pos := "ref.go:114", after := #[{ on := 18, ground := Ground.data }], guard := none }) (v := ?_) rfl (by kernel_rfl) (by kernel_rfl) (by kernel_rfl) (fun _ _ _ h => h) (Or.inl ⟨by rfl, ?_⟩) (by assumption) ?_
            rotate_left
            · intro w hSw
              have hSw := OS _ hSw
              go_simp
              try with_reducible rfl
            try simp only [Act.put, List.setIfInBounds_toArray, List.set_cons_zero, List.set_cons_succ]
            refine wpAnyH_ready (rs := [16]) (by kernel_rfl) (by simp) ?_
            refine (AllReadyH.cons (o := { dst := some 66, op := Op.call { callee := Callee.value (Operand.func 14), args := #[Operand.tmp 52, Operand.tmp 54, Operand.tmp 56, Operand.tmp 59, Operand.tmp 65], argTypes := #[9, 9, 3, 3, 9] }, type := 9, pos := "ref.go:114", after := #[{ on := 2, ground := Ground.data }, { on := 4, ground := Ground.data }, { on := 6, ground := Ground.data }, { on := 9, ground := Ground.data }, { on := 15, ground := Ground.data }], guard := none }) rfl (fun K hK => ?_) AllReadyH.nil)
            go_simp
            refine (CH.out _ (by assumption)).mono ?_
            rintro e w16' ⟨rfl, m16'⟩
            refine hK.out _ _ (SO _ (by assumption)) (fun hHeld => ?_)
            clear hK K
            try simp only [Act.put, List.setIfInBounds_toArray, List.set_cons_zero, List.set_cons_succ]
            refine wpAnyH_take (i := 17) (oi := { dst := some 67, op := Op.binOp BinOp.add 9 (Operand.tmp 50) (Operand.tmp 66) 9, type := 9, pos := "ref.go:114", after := #[{ on := 0, ground := Ground.data }, { on := 16, ground := Ground.data }], guard := none }) (v := ?_) rfl (by kernel_rfl) (by kernel_rfl) (by kernel_rfl) (fun _ _ _ h => h) (Or.inl ⟨by rfl, ?_⟩) (by assumption) ?_
            rotate_left
            · intro w hSw
              skip
              clear hSw
              go_simp
              first | with_reducible rfl | (rw [if_neg (by omega)])
            try simp only [Act.put, List.setIfInBounds_toArray, List.set_cons_zero, List.set_cons_succ]
            refine wpAnyH_ready (rs := [20]) (by kernel_rfl) (by simp) ?_
            refine (AllReadyH.cons (o := { dst := some 70, op := Op.call { callee := Callee.value (Operand.func 15), args := #[Operand.tmp 69], argTypes := #[9] }, type := 9, pos := "ref.go:114", after := #[{ on := 19, ground := Ground.data }, { on := 16, ground := Ground.chain }], guard := none }) rfl (fun K hK => ?_) AllReadyH.nil)
            go_simp
            refine (CF.out _ (by assumption)).mono ?_
            rintro e w20' ⟨rfl, m20'⟩
            refine hK.out _ _ (SO _ (by assumption)) (fun hHeld => ?_)
            clear hK K
            try simp only [Act.put, List.setIfInBounds_toArray, List.set_cons_zero, List.set_cons_succ]
            refine wpAnyH_take (i := 21) (oi := { dst := some 71, op := Op.binOp BinOp.add 9 (Operand.tmp 67) (Operand.tmp 70) 9, type := 9, pos := "ref.go:114", after := #[{ on := 17, ground := Ground.data }, { on := 20, ground := Ground.data }], guard := none }) (v := ?_) rfl (by kernel_rfl) (by kernel_rfl) (by kernel_rfl) (fun _ _ _ h => h) (Or.inl ⟨by rfl, ?_⟩) (by assumption) ?_
            rotate_left
            · intro w hSw
              skip
              clear hSw
              go_simp
              first | with_reducible rfl | (rw [if_neg (by omega)])
            try simp only [Act.put, List.setIfInBounds_toArray, List.set_cons_zero, List.set_cons_succ]
            refine wpAnyH_take (i := 22) (oi := { dst := some 4, op := Op.assign (Operand.tmp 71), type := 9, pos := "ref.go:114", after := #[{ on := 21, ground := Ground.data }, { on := 20, ground := Ground.chain }, { on := 0, ground := Ground.phase }, { on := 1, ground := Ground.phase }, { on := 2, ground := Ground.phase }, { on := 3, ground := Ground.phase }, { on := 4, ground := Ground.phase }, { on := 5, ground := Ground.phase }, { on := 6, ground := Ground.phase }, { on := 7, ground := Ground.phase }, { on := 8, ground := Ground.phase }, { on := 9, ground := Ground.phase }, { on := 10, ground := Ground.phase }, { on := 11, ground := Ground.phase }, { on := 12, ground := Ground.phase }, { on := 13, ground := Ground.phase }, { on := 14, ground := Ground.phase }, { on := 15, ground := Ground.phase }, { on := 16, ground := Ground.phase }, { on := 17, ground := Ground.phase }, { on := 18, ground := Ground.phase }, { on := 19, ground := Ground.phase }, { on := 20, ground := Ground.phase }, { on := 21, ground := Ground.phase }], guard := none }) (v := ?_) rfl (by kernel_rfl) (by kernel_rfl) (by kernel_rfl) (fun _ _ _ h => h) (Or.inl ⟨by rfl, ?_⟩) (by assumption) ?_
            rotate_left
            · intro w hSw
              skip
              clear hSw
              go_simp
              try with_reducible rfl
            try simp only [Act.put, List.setIfInBounds_toArray, List.set_cons_zero, List.set_cons_succ]
            refine wpAnyH_done (by kernel_rfl) ?_ _
            refine NoPanic.normal ?_
            have HBF := Lib.hid (HB2.out.trans ((Chg.below m20' (Nat.le_refl _) (fun _ _ => id)).mono HB2.out.size))
            go_wp2
            go_roundw
            case rel => exact ⟨k + 1, by omega, by go_num, by rw [HTT.out, HEE.out, HPW.out, HSP.out]; simp only [ByteArray.append_assoc], HBF, hMk⟩
            case measure => simp [intOf]; omega
      · obtain rfl : k = N := by omega
        have HTA : Hid (l.take k = l) := Lib.hid (by rw [HN.out, List.take_length])
        rw [HTA.out] at hM ⊢
        have HR : Hid (writeL l = (encL l ++ zerosL 1024, 0)) := Lib.hid (by
          rw [HWS.out, if_pos]
          rw [List.all_eq_true]
          intro x hx
          exact (mayE_iff x).2 (hM.out x hx))
        have hle : (str (encL l)).size ≤ 900000000000 := by
          rw [str_size]
          have := encL_le l (fun x hx => ⟨hM.out x hx, HD.out x hx⟩)
          have := HN.out
          have := HN2.out
          omega
        have CZ := fun W => zerosR_any 1024 (by decide) W
        rw [show ((1024 : Nat) : Int) = 1024 from rfl] at CZ
        have hz : (str (zerosL 1024)).size = 1024 := by rw [str_size, zerosL_len]
        have HAP := Lib.hid (str_append (encL l) (zerosL 1024))
        clear hlt hM HTA HWS
        generalize str (zerosL 1024) = Z at *
        generalize str (encL l) = S at *
        go_wp2_with (first
          | (go_at_call 16; ((with_reducible refine (CZ _).mono ?_); rintro e w1 ⟨rfl, hb1⟩)))
        go_ret2
        exact ⟨by rw [HR.out, ← HAP.out]; rfl, hB.out.trans (hb1.mono hB.out.size)⟩
end Go.Proofs.YtmgpofdmoaafoaaGreatDoor
