/- Layer 15: the program's Write. -/
import Derived.Test.YtmgpofdmoaafoaaGreatDoorTrR
import Derived.Lib.FrozenHead
namespace Go.Proofs.YtmgpofdmoaafoaaGreatDoor
open Go.RowKit

theorem add_add (a : Addr) (i j : Nat) : (a.add i).add j = a.add (i + j) := by
  unfold Addr.add
  by_cases h : i = 0
  · subst h; simp
  · by_cases h2 : j = 0
    · subst h2; simp
    · rw [if_neg h, if_neg h2, if_neg (by omega)]
      simp [Nat.add_assoc]
theorem run_loadVar_at (w : World) (a : Addr) (ty : TypeId) (cs : List Value) (d : TypeDesc) (hc : ∀ j v, cs[j]? = some v → w.cell? (a.add j) = some v)
    (hu : Tryz.prog.underlying ty = some d) (hd : d.isRow = true) (hi : (Tryz.prog.info? ty).map (·.size) = some cs.length) :
    (loadVar ty a).run Tryz.prog w = .ok (.agg cs.toArray) w := by
  have hl := run_loadCells_list (P := Tryz.prog) w a cs hc
  cases hq : Tryz.prog.info? ty with
  | none => simp [hq] at hi
  | some i =>
    have hs : i.size = cs.length := by simpa [hq] using hi
    have hagg : (isAgg ty).run Tryz.prog w = .ok true w := by
      unfold isAgg
      rw [Sem.run_bind, run_underlying hu w]
      cases d <;> simp_all
    simp [loadVar, Sem.run_bind, hagg, sizeOf, typeInfo, hq, hs, hl]
theorem wpList_load_at {ops : Array Oper} {rest : List Oper} {op : Oper} {a : Act} {w : World} {Q : Exit → Act → World → Prop} (hw : Region.wanted op (yielded ops a.tmps) = true) (ty : TypeId) (x : Operand) (ho : op.op = .load ty x)
    (p : Addr) (hx : a.eval x = .pointer (some p)) (cs : List Value) (d : TypeDesc) (hc : ∀ j v, cs[j]? = some v → w.cell? (p.add j) = some v)
    (hu : Tryz.prog.underlying ty = some d) (hd : d.isRow = true) (hi : (Tryz.prog.info? ty).map (·.size) = some cs.length)
    (h : wpList Tryz.prog ops Q rest (a.put op.dst (.agg cs.toArray)) w) : wpList Tryz.prog ops Q (op :: rest) a w := by
  rw [wpList, if_pos hw]
  refine .inl ?_
  unfold Oper.wp execOp
  simp only [ho, hx, Instr.loadAt, Instr.sureAddr, Sem.run_bind, Sem.run_pure, Result.andThen_ok, run_loadVar_at w p ty cs d hc hu hd hi]
  exact h

theorem cell_far {B : Nat} {w w' : World} (h : Below B w w') {p : Addr} (hp : p.block < B) : w'.cell? p = w.cell? p := World.cell?_of_block (h.block p.block hp)
/-- Entries in a slice, wherever it came from. -/
def EntsAt (w : World) (ad : Option Addr) (l : List Ent) : Prop := ∀ i x, l[i]? = some x → ∃ a, ad = some a ∧ a.block < w.heap.size ∧ ∀ j u, (entV x)[j]? = some u → w.cell? ((a.add (i * 5)).add j) = some u
theorem add_blk (a : Addr) (i : Nat) : (a.add i).block = a.block := by unfold Addr.add; split <;> rfl
theorem EntsAt.far {B : Nat} {w w' : World} {ad : Option Addr} {l : List Ent} (h : EntsAt w ad l) (hb : Below B w w') (hB : w.heap.size ≤ B) : EntsAt w' ad l := fun i x hx => by
  obtain ⟨a, ha, hlt, hc⟩ := h i x hx
  refine ⟨a, ha, Nat.lt_of_lt_of_le hlt hb.size, fun j u hu => ?_⟩
  rw [cell_far hb (by rw [add_blk, add_blk]; omega)]
  exact hc j u hu
theorem bd_fresh (w : World) : BdAt (w.alloc (.cells #[.pointer none, .slice none 0 0] 67)) w.heap.size w.heap.size [] := by
  refine .inl ⟨Nat.le_refl _, .slice none 0 0, heap_alloc_new w _, ?_, fun e => by cases e⟩
  exact ⟨rfl, .inl ⟨rfl, rfl⟩⟩
theorem string_any {w : World} {B b : Nat} {l : Bs} (h : BdAt w B b l) (hB : B ≤ w.heap.size) : Calls Tryz.prog 32 #[.pointer (some ⟨b, 0, none⟩)] w fun e w' => e = .returned (.string (str l)) ∧ Below B w w' :=
  (Tryz.Builder_String_any_k B b l w h hB).mono fun _ _ ⟨he, _, hb, _⟩ => ⟨he, hb⟩
theorem encL_take {l : List Ent} {k : Nat} (h : k < l.length) : encL (l.take (k + 1)) = encL (l.take k) ++ encE l[k] := by
  rw [List.take_succ_eq_append_getElem h, encL_app, encL_cons, encL_nil, List.append_nil]
theorem encE_le {x : Ent} (h : MayP x) (hd : x.data.length ≤ 1000000) : (encE x).length ≤ 1010000 := by
  have p11 := pow11
  have h3 := more_len (x := x) ⟨h, by omega⟩
  unfold encE
  split <;> simp only [List.length_append, partW_len, List.length_nil, blocksN] <;> omega
theorem encL_le : ∀ l : List Ent, (∀ x ∈ l, MayP x ∧ x.data.length ≤ 1000000) → (encL l).length ≤ 1010000 * l.length
  | [], _ => Nat.le_refl _
  | x :: l, h => by
    have h1 := encE_le (h x (by simp)).1 (h x (by simp)).2
    have h2 := encL_le l (fun y hy => h y (by simp [hy]))
    rw [encL_cons, List.length_append, List.length_cons]
    omega
theorem retSI {a a' : ByteArray} {n n' : Int} (h : a = a') (h2 : n = n') : Ending.returned (.tuple #[.string a, .int .i64 n]) = .returned (.tuple #[.string a', .int .i64 n']) := by rw [h, h2]
set_option maxRecDepth 100000 in
set_option maxHeartbeats 8000000 in
theorem writes_any (l : List Ent) (ad : Option Addr) (c : Nat) (hd : ∀ x ∈ l, x.data.length ≤ 1000000) (hlen : l.length ≤ maxLen) (w : World) (hE : EnvT w) (h : EntsAt w ad l) :
    Calls Tryz.prog 11 #[.slice ad l.length c] w fun e w' => e = .returned (.tuple #[.string (str (writeL l).1), .int .i64 ((writeL l).2 : Int)]) ∧ Below w.heap.size w w' := by
  have HI := Lib.hid info_ent5
  have HWR : Hid (writeL l = if 200 < l.length then ([], 63) else if l.all mayE then (encL l ++ zerosL 1024, 0) else ([], 2)) := Lib.hid rfl
  unfold maxLen at hlen
  obtain ⟨N, hN⟩ : ∃ N, N = l.length := ⟨_, rfl⟩
  rw [← hN] at hlen HWR ⊢
  by_cases h1 : 200 < N
  · have HR := Lib.hid (HWR.out.trans (if_pos h1))
    have g : (200 : Int) < (N : Int) := by omega
    clear HWR h1 hE h hd hN
    go_enter Tryz.func11, Tryz.ntmps11
    go_wp2
    go_ret2
    exact ⟨by rw [HR.out]; rfl, Below.refl _ _⟩
  · have HWS := Lib.hid (HWR.out.trans (if_neg h1))
    have g : ¬ (200 : Int) < (N : Int) := by omega
    have hN200 : N ≤ 200 := by omega
    obtain ⟨W0, hW0⟩ : ∃ W0, W0 = w.alloc (.cells #[.pointer none, .slice none 0 0] 67) := ⟨_, rfl⟩
    have HW0 := Lib.hid hW0
    have HS0 : Hid (BdS w w.heap.size w.heap.size [] W0) := Lib.hid (by rw [hW0]; exact ⟨bd_fresh w, (Below.refl _ _).alloc (Nat.le_refl _) _, fun k o hk hkb ho => by
      rw [Below.heap_alloc w _ k (Array.getElem?_eq_some_iff.1 hk).1]; exact hk⟩)
    have HB0 : Hid (w.heap.size < W0.heap.size) := Lib.hid (by rw [hW0, size_alloc]; omega)
    have HENT := Lib.hid h
    have HN := Lib.hid hN
    have HD := Lib.hid hd
    have HE := Lib.hid hE
    clear HWR h1 hW0 h hN hd hE hlen
    go_enter Tryz.func11, Tryz.ntmps11
    go_upto_region 4 with (fail)
    rw [← HW0.out]
    go_upto_region 5 with (fail)
    go_loopw [6, 12] (fun p i wr => ∃ k : Nat, k ≤ N ∧ i = .int .i64 k ∧ Hid (BdS w w.heap.size w.heap.size (encL (l.take k)) wr) ∧ Hid (w.heap.size < wr.heap.size) ∧ Hid (∀ x ∈ l.take k, MayP x)) (fun _ i _ => N - (intOf i).toNat)
    case atStart => exact ⟨0, Nat.zero_le _, rfl, HS0, HB0, Lib.hid (fun x hx => by simp at hx)⟩
    case round =>
      clear HS0 HB0 HW0
      obtain ⟨k, hk, rfl, hS, hB, hM⟩ := hrel
      by_cases hlt : k < N
      · have hkl : k < l.length := by rw [← HN.out]; exact hlt
        obtain ⟨a, rfl, hab, hcell⟩ := HENT.out k l[k] (List.getElem?_eq_getElem hkl)
        have HST := Lib.hid (encL_take hkl)
        have HMEM : Hid (l[k] ∈ l) := Lib.hid (List.getElem_mem hkl)
        have HTK : Hid (l.take (k + 1) = l.take k ++ [l[k]]) := Lib.hid (List.take_succ_eq_append_getElem hkl)
        have HAT : Hid (∀ W, Below w.heap.size w W → ∀ j u, (entV l[k])[j]? = some u → W.cell? ((a.add (k * 5)).add j) = some u) := Lib.hid fun W hb j u hu => by
          rw [cell_far hb (by rw [add_blk, add_blk]; exact hab)]
          exact hcell j u hu
        have HLL : Hid ((encL (l.take k)).length ≤ 900000000000) := Lib.hid (by
          have := encL_le (l.take k) (fun x hx => ⟨hM.out x hx, HD.out x (List.mem_of_mem_take hx)⟩)
          rw [List.length_take] at this
          omega)
        have HXD : Hid (l[k].data.length ≤ 1000000) := Lib.hid (HD.out _ HMEM.out)
        have HMF : Hid (mayE l[k] = false → writeL l = ([], 2)) := Lib.hid fun hf => by
          rw [HWS.out, if_neg]
          intro hall
          have := List.all_eq_true.1 hall _ HMEM.out
          rw [hf] at this
          cases this
        generalize l[k] = x at *
        have CM := fun W => may_any x W
        clear hcell
        have g1 : (k : Int) < (N : Int) := by omega
        have HONE := Lib.hid (entA_one x)
        obtain ⟨W1, hW1⟩ : ∃ W1, W1 = wr.alloc (.cells (entA x) 39) := ⟨_, rfl⟩
        have HW1 := Lib.hid hW1
        have HS1 : Hid (BdS w w.heap.size w.heap.size (encL (l.take k)) W1) := Lib.hid (by rw [hW1]; exact hS.out.below (by have := hB.out; omega) ((Below.refl _ _).alloc (Nat.le_refl _) _))
        have HZ1 : Hid (rowC W1 wr.heap.size (entA x) 39) := Lib.hid (by rw [hW1]; exact rowC_new wr _ _)
        have HB1 : Hid (w.heap.size < W1.heap.size ∧ wr.heap.size ≠ w.heap.size) := Lib.hid ⟨by rw [hW1, size_alloc]; have := hB.out; omega, by have := hB.out; omega⟩
        clear hW1
        go_upto_region 7 with (first
          | ((with_reducible show wpList _ _ _ (⟨some 15, .load _ _, _, _, _, _⟩ :: _) _ _); refine wpList_load_at rfl 39 _ rfl (a.add (k * 5)) rfl (entV x) _ (HAT.out wr hS.out.bel) Tryz.underlying39 rfl HI.out ?_)
          | ((with_reducible show wpList _ _ _ (⟨none, .store _ (.tmp 6) _, _, _, _, _⟩ :: _) _ _); refine wpList_store_last rfl 39 _ _ rfl wr.heap.size (entA x) rfl rfl 39 _ rfl HI.out rfl HONE.out ?_))
        rw [← HW1.out]
        try simp only [Act.put]
        cases hmay : mayE x with
        | false =>
          have HR := Lib.hid (HMF.out hmay)
          rw [hmay] at CM
          clear hmay HMF
          go_wp2_with (first
            | ((with_reducible show wpList _ _ _ (⟨some 16, .load _ (.tmp 6), _, _, _, _⟩ :: _) _ _); refine wpList_load_row rfl 39 _ rfl wr.heap.size rfl 39 #[.int .i64 x.kind, .string (str x.name), .string (str x.to), .int .i64 x.mode, .string (str x.data)] (0, 0) _ HZ1.out Tryz.underlying39 rfl HI.out ?_)
            | (go_at_call 28; ((with_reducible refine (CM _).mono ?_); rintro e w2 ⟨rfl, hb2⟩; have hbw := HS1.out.bel.trans (hb2.mono (by have := HB1.out.1; omega)))))
          go_ret2
          exact ⟨by rw [HR.out]; rfl, hbw⟩
        | true =>
          have HMX := Lib.hid ((mayE_iff x).1 hmay)
          have hMk : Hid (∀ y ∈ l.take (k + 1), MayP y) := Lib.hid fun y hy => by
            rw [HTK.out, List.mem_append, List.mem_singleton] at hy
            rcases hy with hy | rfl
            · exact hM.out y hy
            · exact HMX.out
          rw [hmay] at CM
          clear hmay HMF
          go_wp2_with (first
            | ((with_reducible show wpList _ _ _ (⟨some 16, .load _ (.tmp 6), _, _, _, _⟩ :: _) _ _); refine wpList_load_row rfl 39 _ rfl wr.heap.size rfl 39 #[.int .i64 x.kind, .string (str x.name), .string (str x.to), .int .i64 x.mode, .string (str x.data)] (0, 0) _ HZ1.out Tryz.underlying39 rfl HI.out ?_)
            | (go_at_call 28; ((with_reducible refine (CM _).mono ?_); rintro e w2 ⟨rfl, hb2⟩; have HS2 := Lib.hid (HS1.out.below (by have := HB1.out.1; omega) hb2); have HZ2 := Lib.hid (rowC_below HZ1.out hb2 (rowC_lt HZ1.out)); have HB2 : Hid (w.heap.size < w2.heap.size) := Lib.hid (Nat.lt_of_lt_of_le HB1.out.1 hb2.size)))
            | ((with_reducible show wpList _ _ _ (⟨some 19, .load _ (.tmp 6), _, _, _, _⟩ :: _) _ _); refine wpList_load_row rfl 39 _ rfl wr.heap.size rfl 39 #[.int .i64 x.kind, .string (str x.name), .string (str x.to), .int .i64 x.mode, .string (str x.data)] (0, 0) _ HZ2.out Tryz.underlying39 rfl HI.out ?_)
            | (go_at_call 29; ((with_reducible refine (putEntry_any w.heap.size w.heap.size _ x HMX.out (by have := HXD.out; omega) HLL.out _ (HE.out.far HS2.out.bel HE.out.big) (by have := HB2.out; omega) HS2.out.pr).mono ?_); rintro e w3 ⟨rfl, s3⟩; have HS3 := Lib.hid (HS2.out.trans s3); have HB3 : Hid (w.heap.size < w3.heap.size) := Lib.hid (Nat.lt_of_lt_of_le HB2.out s3.size))))
          go_roundw
          case rel => exact ⟨k + 1, by omega, by go_num, by rw [HST.out]; exact HS3, HB3, hMk⟩
          case measure => simp [intOf]; omega
      · obtain rfl : k = N := by omega
        have HT : Hid (l.take k = l) := Lib.hid (by rw [HN.out, List.take_length])
        rw [HT.out] at hS hM
        have HR : Hid (writeL l = (encL l ++ zerosL 1024, 0)) := Lib.hid (by
          rw [HWS.out, if_pos]
          rw [List.all_eq_true]
          intro x hx
          exact (mayE_iff x).2 (hM.out x hx))
        have HLL : Hid ((encL l).length ≤ 900000000000) := Lib.hid (by
          have := encL_le l (fun x hx => ⟨hM.out x hx, HD.out x hx⟩)
          have := HN.out
          omega)
        have CR := fun W => zeros_call 1024 (by decide) W
        rw [show ((1024 : Nat) : Int) = 1024 from rfl] at CR
        clear hlt hM HT HWS
        go_wp2_with (first
          | (go_at_call 31; ((with_reducible refine (CR _).mono ?_); rintro e w1 ⟨rfl, hb1⟩; have HS1 := Lib.hid (hS.out.below (by have := hB.out; omega) hb1); have HB1 : Hid (w.heap.size < w1.heap.size) := Lib.hid (Nat.lt_of_lt_of_le hB.out hb1.size)))
          | (go_at_call 30; ((with_reducible refine (write_any (zerosL 1024) HS1.out.pr (by have := HB1.out; omega) (by rw [zerosL_len]; have := HLL.out; omega)).mono ?_); rintro e w2 ⟨rfl, s2⟩; have HS2 := Lib.hid (HS1.out.trans s2); have HB2 : Hid (w.heap.size ≤ w2.heap.size) := Lib.hid (by have := HB1.out; have := s2.size; omega)))
          | (go_at_call 32; ((with_reducible refine (string_any HS2.out.pr HB2.out).mono ?_); rintro e w3 ⟨rfl, hb3⟩)))
        go_ret2
        exact ⟨by rw [HR.out]; rfl, HS2.out.bel.trans hb3⟩
end Go.Proofs.YtmgpofdmoaafoaaGreatDoor
