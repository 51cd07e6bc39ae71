/- Layer 15: the program's Read. -/
import Derived.Test.YtmgpofdmoaafoaaGreatDoorTrI
namespace Go.Proofs.YtmgpofdmoaafoaaGreatDoor
open Go.RowKit

theorem oneR_val {s k v t : Bs} (h : oneR s = some (k, v, t)) : v.length ≤ s.length := by
  unfold oneR at h
  split at h
  · cases h
  · split at h
    · cases h
    · simp only at h
      split at h
      · cases h
        rename_i n _ _ _
        have h1 := (List.dropWhile_sublist (fun x : UInt8 => x != 61) (l := (List.drop ((List.takeWhile (fun x => x != 32) s).length + 1) (List.take n s)).dropLast)).length_le
        rw [List.length_drop]
        have h2 : ((List.drop ((List.takeWhile (fun x => x != 32) s).length + 1) (List.take n s)).dropLast).length ≤ s.length := by
          rw [List.length_dropLast, List.length_drop, List.length_take]; omega
        omega
      · cases h
structure RecB (r : Recs) : Prop where
  p : (r.path.getD []).length ≤ 1000000000
  l : (r.link.getD []).length ≤ 1000000000
  s : (r.size.getD []).length ≤ 1000000000
theorem setR_b {r : Recs} (h : RecB r) (k : Bs) {v : Bs} (hv : v.length ≤ 1000000000) : RecB (setR r k v) := by
  unfold setR
  split
  · exact ⟨hv, h.l, h.s⟩
  · split
    · exact ⟨h.p, hv, h.s⟩
    · split
      · exact ⟨h.p, h.l, hv⟩
      · exact h
theorem recsR_b (s : Bs) (r r' : Recs) (hs : s.length ≤ 1000000000) (hr : RecB r) (h : recsR s r = some r') : RecB r' := by
  by_cases h0 : s = []
  · rw [h0, recsR_nil] at h
    cases h
    exact hr
  · cases h1 : oneR s with
    | none => rw [recsR_bad h0 h1] at h; cases h
    | some p =>
      obtain ⟨k, v, t⟩ := p
      have hlt := oneR_le h1
      rw [recsR_step h0 h1] at h
      exact recsR_b t (setR r k v) r' (by omega) (setR_b hr k (by have := oneR_val h1; omega)) h
termination_by s.length
theorem wtB_none : WtB none := ⟨Nat.zero_le _, Nat.zero_le _, Nat.zero_le _⟩
theorem stepR_wt {h : Hd} {rest : Bs} {wt : Option Recs} {out : List Ent} {r' wt' out'} (hr : rest.length ≤ 1000000000) (he : stepR h rest wt out = .inr (r', wt', out')) : WtB wt' := by
  have hadd : ∀ {x : Ent} {r : Bs}, addR x r out = .inr (r', wt', out') → wt' = none := fun {x r} ha => by
    unfold addR at ha
    split at ha
    · cases ha
    · split at ha
      · cases ha
      · split at ha
        · cases ha
        · cases ha; rfl
  unfold stepR at he
  split at he
  · split at he
    · cases he
    · rw [hadd he]; exact wtB_none
  · split at he
    · split at he
      · cases he
      · split at he
        · cases he
        · rw [hadd he]; exact wtB_none
    · split at he
      · split at he
        · cases he
        · rename_i d r1 ht
          split at he
          · cases he
          · rename_i rs hrs
            split at he
            · cases he
            · cases he
              have hd : d.length ≤ 1000000000 := by
                unfold takeR at ht
                split at ht
                · cases ht
                · cases ht
                  rw [List.length_take]; omega
              have hb := recsR_b d _ rs hd ⟨Nat.zero_le _, Nat.zero_le _, Nat.zero_le _⟩ hrs
              exact ⟨hb.p, hb.l, hb.s⟩
      · cases he
theorem headR_b {s : Bs} {h : Hd} (he : headR s = some h) : HdB h := by
  have cb : ∀ a b, b - a ≤ 155 → (cut0 (sl s a b)).length ≤ 155 := fun a b hab => by
    have h1 := cut0_le (sl s a b)
    rw [sl_len] at h1
    omega
  unfold headR at he
  split at he
  · split at he
    · rename_i mode size hm hs
      cases he
      have h1 := numP_lt hm
      have h2 := numP_lt hs
      refine ⟨?_, ?_, ?_, ?_⟩
      · show (nameR s).length ≤ _
        unfold nameR
        have := cb 345 500 (by omega)
        have := cb 0 100 (by omega)
        split
        · omega
        · simp only [List.length_append, List.length_cons, List.length_nil]; omega
      · have := cb 157 257 (by omega)
        show (cut0 (sl s 157 257)).length ≤ _
        omega
      · show size ≤ _; omega
      · show mode ≤ _; omega
    · cases he
  · cases he
def restLen (w : World) (B : Nat) : Nat := match w.cell? ⟨B, 0, none⟩ with
  | some (.string b) => b.size
  | _ => 0
theorem restLen_eq {w : World} {B : Nat} {rest : Bs} {wt : Option Recs} {v : Value} (h : rowC w B (rdrV rest wt v) 50) : restLen w B = rest.length := by
  unfold restLen
  rw [(rdr_cell h).1.1]
  exact str_size rest
theorem take512 (rest : Bs) : takeR 512 rest = if rest.length < 512 then none else some (rest.take 512, rest.drop 512) := rfl
theorem info_rdr : (Tryz.prog.info? 50).map (·.size) = some 9 := by kernel_rfl
theorem rdrV_one (rest : Bs) (wt : Option Recs) (a : Option Addr) (n c : Nat) : (rdrV rest wt (.slice a n c)).all (·.oneCell') = true := by simp [Value.oneCell', rdrV]
theorem retVI {v v' : Value} {a b : Int} (h : v = v') (h2 : a = b) : Ending.returned (.tuple #[v, .int .i64 a]) = .returned (.tuple #[v', .int .i64 b]) := by rw [h, h2]
theorem ownsE_nil (w : World) (base : Nat) : OwnsE w base (.slice none 0 0) [] := World.ownsRow_nil w base _ 5
theorem OwnsE.base {w : World} {b b' : Nat} {v : Value} {l : List Ent} (h : OwnsE w b v l) (hb : b' ≤ b) : OwnsE w b' v l := by
  refine ⟨h.1, ?_⟩
  rcases h.2 with hn | ⟨g, cap, cur, hv, hg, hrest⟩
  · exact .inl hn
  · exact .inr ⟨g, cap, cur, hv, Nat.le_trans hb hg, hrest⟩
theorem OwnsE.alloc {w : World} {b : Nat} {v : Value} {l : List Ent} (h : OwnsE w b v l) (o : Obj) : OwnsE (w.alloc o) b v l := (Chg.of_below (s := fun _ => False) ((Below.refl _ _).alloc (Nat.le_refl _) _)).owns h (fun _ _ hf => hf)
set_option maxRecDepth 100000 in
set_option maxHeartbeats 16000000 in
theorem read_any (s : Bs) (hs : s.length ≤ 1000000000) (w : World) :
    Calls Tryz.prog 8 #[.string (str s)] w fun e w' => ∃ v, e = .returned (.tuple #[v, .int .i64 ((readR s none []).1 : Int)]) ∧ OwnsE w' w.heap.size v (readR s none []).2 ∧ Below w.heap.size w w' := by
  have HI := Lib.hid info_rdr
  have HIH := Lib.hid info_hd
  obtain ⟨W0, hW0⟩ : ∃ W0, W0 = w.alloc (.cells (rdrV s none (.slice none 0 0)) 50) := ⟨_, rfl⟩
  have Z0 : rowC W0 w.heap.size (rdrV s none (.slice none 0 0)) 50 := by rw [hW0]; exact rowC_new w _ _
  have B0 : Below w.heap.size w W0 := by rw [hW0]; exact (Below.refl _ _).alloc (Nat.le_refl _) _
  have HW0 := Lib.hid hW0
  have HZ0 := Lib.hid Z0
  have HB0 := Lib.hid B0
  have HONE := Lib.hid (rdrV_one s none none 0 0)
  have HIZ := Lib.hid (fun x => zero_any x)
  clear hW0 Z0 B0
  go_enter Tryz.func8, Tryz.ntmps8
  go_upto_region 2 with (first
    | ((with_reducible show wpList _ _ _ (⟨some 10, .build _ _, _, _, _, _⟩ :: _) _ _); refine wpList_build_as rfl 50 _ rfl (rdrV s none (.slice none 0 0)) (by kernel_rfl) ?_)
    | ((with_reducible show wpList _ _ _ (⟨none, .store _ (.tmp 4) _, _, _, _, _⟩ :: _) _ _); refine wpList_store_last rfl 50 _ _ rfl w.heap.size (rdrV s none (.slice none 0 0)) rfl rfl 50 _ rfl HI.out rfl HONE.out ?_))
  rw [← HW0.out]
  try simp only [Act.put]
  go_loopw [5, 6, 7, 8] (fun v5 v6 v7 v8 wr => ∃ (rest : Bs) (wt : Option Recs) (v : Value) (out : List Ent), Hid (rowC wr w.heap.size (rdrV rest wt v) 50) ∧ Hid (OwnsE wr (w.heap.size + 1) v out) ∧ Hid (Below w.heap.size w wr) ∧ Hid (readR s none [] = readR rest wt out) ∧ Hid (rest.length ≤ 1000000000 ∧ out.length ≤ 200 ∧ WtB wt)) (fun _ _ _ _ wr => restLen wr w.heap.size)
  case atStart => exact ⟨s, none, .slice none 0 0, [], HZ0, Lib.hid (ownsE_nil _ _), HB0, Lib.hid rfl, Lib.hid ⟨hs, Nat.zero_le _, wtB_none⟩⟩
  case round =>
    clear HZ0 HB0 HONE HW0
    obtain ⟨rest, wt, v, out, hZ, hO, hB, hR, hL⟩ := hrel
    have HTK := Lib.hid (fun W hr => take_any w.heap.size rest wt v 512 (by decide) W hr)
    rw [take512, show (((512 : Nat)) : Int) = 512 from rfl] at HTK
    have HRL := Lib.hid (restLen_eq hZ.out)
    have HFAR := Lib.hid (own_far hO.out)
    by_cases h1 : rest.length < 512
    · have HR : Hid (readR s none [] = (10, [])) := Lib.hid (by rw [hR.out, readR_short _ _ h1])
      rw [if_pos h1] at HTK
      simp only [Option.map_none, Option.getD_none, Option.isSome_none] at HTK
      clear h1 hR
      go_wp2_with (go_at_call 17; (with_reducible refine (HTK.out _ hZ.out).mono ?_); rintro e w1 ⟨rfl, y1, c1⟩)
      go_ret2
      refine ⟨.slice none 0 0, by rw [HR.out]; rfl, by rw [HR.out]; exact ownsE_nil _ _, hB.out.trans (c1.below hB.out.size (fun k hk e => by have : k = w.heap.size := e; omega))⟩
    · rw [if_neg h1] at HTK
      simp only [Option.map_some, Option.getD_some, Option.isSome_some] at HTK
      have HRS : Hid (readR rest wt out = if allZ (rest.take 512) then (if wt.isSome = true ∨ (rest.drop 512).length < 512 ∨ allZ (rest.drop 512) = false then (10, []) else (0, out))
          else match headR (rest.take 512) with
          | none => (10, [])
          | some hd => match stepR hd (rest.drop 512) wt out with
            | .inl e => (e, [])
            | .inr (r', wt', out') => readR r' wt' out') := Lib.hid (by
        conv => lhs; rw [← List.take_append_drop 512 rest]
        by_cases hz : allZ (rest.take 512) = true
        · rw [if_pos hz, List.take_append_drop]
          conv => lhs; rw [readR]
          rw [if_neg h1, if_pos hz]
        · rw [if_neg hz, readR_step wt out (by rw [List.length_take]; omega) (by simpa using hz)]
          rfl)
      have hl512 : (rest.take 512).length = 512 := by rw [List.length_take]; omega
      have hdl : (rest.drop 512).length + 512 = rest.length := by rw [List.length_drop]; omega
      have CZ := fun w => zero_any (rest.take 512) w
      have CH := fun w => head_any (rest.take 512) hl512 w
      have HDL := Lib.hid hdl
      generalize rest.take 512 = hd at *
      generalize rest.drop 512 = r at *
      cases hz : allZ hd with
      | true =>
        have HR : Hid (readR s none [] = if wt.isSome = true ∨ r.length < 512 ∨ allZ r = false then (10, []) else (0, out)) := Lib.hid (by rw [hR.out, HRS.out, hz]; rfl)
        rw [hz] at CZ
        have CE := fun W h => end_any w.heap.size r wt v W h
        have HCE := Lib.hid CE
        have HEV : Hid (endV r wt v = if wt.isSome = true ∨ r.length < 512 ∨ allZ r = false then .tuple #[.slice none 0 0, .int .i64 10] else .tuple #[v, .int .i64 0]) := Lib.hid rfl
        clear h1 hR HRS hl512 hdl CH hz CE
        by_cases hc : wt.isSome = true ∨ r.length < 512 ∨ allZ r = false
        · have HRR := Lib.hid (HR.out.trans (if_pos hc))
          have HEE := Lib.hid (HEV.out.trans (if_pos hc))
          rw [HEE.out] at HCE
          clear hc HR HEV HEE
          go_wp2_with (first
            | (go_at_call 17; (with_reducible refine (HTK.out _ hZ.out).mono ?_); rintro e w1 ⟨rfl, y1, c1⟩)
            | (go_at_call 18; (with_reducible refine (CZ _).mono ?_); rintro e w2 ⟨rfl, rfl⟩)
            | (go_at_call 19; (with_reducible refine (HCE.out _ y1).mono ?_); rintro e w3 ⟨rfl, rfl⟩))
          go_ret2
          refine ⟨.slice none 0 0, by rw [HRR.out]; rfl, by rw [HRR.out]; exact ownsE_nil _ _, hB.out.trans (c1.below hB.out.size (fun k hk e => by have : k = w.heap.size := e; omega))⟩
        · have HRR := Lib.hid (HR.out.trans (if_neg hc))
          have HEE := Lib.hid (HEV.out.trans (if_neg hc))
          rw [HEE.out] at HCE
          clear hc HR HEV HEE
          go_wp2_with (first
            | (go_at_call 17; (with_reducible refine (HTK.out _ hZ.out).mono ?_); rintro e w1 ⟨rfl, y1, c1⟩)
            | (go_at_call 18; (with_reducible refine (CZ _).mono ?_); rintro e w2 ⟨rfl, rfl⟩)
            | (go_at_call 19; (with_reducible refine (HCE.out _ y1).mono ?_); rintro e w3 ⟨rfl, rfl⟩))
          go_ret2
          refine ⟨v, by rw [HRR.out]; rfl, ?_, hB.out.trans (c1.below hB.out.size (fun k hk e => by have : k = w.heap.size := e; omega))⟩
          rw [HRR.out]
          exact OwnsE.base (c1.owns hO.out (fun g hg e => HFAR.out (by have : g = w.heap.size := e; exact this ▸ hg))) (Nat.le_succ _)
      | false =>
        rw [hz] at CZ
        rw [hz, if_neg (by decide)] at HRS
        clear hz
        cases hh : headR hd with
        | none =>
          have HR : Hid (readR s none [] = (10, [])) := Lib.hid (by rw [hR.out, HRS.out, hh])
          rw [hh] at CH
          unfold hdO at CH
          clear h1 hR HRS hl512 hdl hh
          go_wp2_with (first
            | (go_at_call 17; (with_reducible refine (HTK.out _ hZ.out).mono ?_); rintro e w1 ⟨rfl, y1, c1⟩; have hbw := hB.out.trans (c1.below hB.out.size (fun k hk e => by have : k = w.heap.size := e; omega)))
            | (go_at_call 18; (with_reducible refine (CZ _).mono ?_); rintro e w2 ⟨rfl, rfl⟩)
            | (go_at_call 20; (with_reducible refine (CH _).mono ?_); rintro e w3 ⟨rfl, hb3⟩; have hbw3 := hbw.trans (hb3.mono hbw.size))
            | ((with_reducible show wpList _ _ _ (⟨none, .store _ (.tmp 7) _, _, _, _, _⟩ :: _) _ _); refine wpList_store_last rfl 56 _ _ rfl w3.heap.size hd0 rfl rfl 56 _ rfl HIH.out rfl (hd_one none) ?_))
          go_ret2
          refine ⟨.slice none 0 0, by rw [HR.out]; rfl, by rw [HR.out]; exact ownsE_nil _ _, hbw3.alloc hbw3.size _⟩
        | some h =>
          have hHB := headR_b hh
          rw [hh] at CH HRS
          simp only at HRS
          unfold hdO hdV at CH
          rw [Option.isSome_some] at CH
          have HSZ := Lib.hid (show 5 = (hdV h).size from rfl)
          have HRL2 : Hid (r.length ≤ 1000000000) := Lib.hid (by have := hL.out.1; have := HDL.out; omega)
          have HST := Lib.hid (fun W hr ho => step_any w.heap.size r wt v out h hHB hL.out.2.2 HRL2.out hL.out.2.1 W hr ho)
          have HSL := Lib.hid (fun r' wt' out' (he : stepR h r wt out = .inr (r', wt', out')) => (And.intro (stepR_le he) (stepR_wt HRL2.out he)))
          clear h1 hl512 hdl hh hHB
          go_upto_region 11 with (first
            | (go_at_call 17; (with_reducible refine (HTK.out _ hZ.out).mono ?_); rintro e w1 ⟨rfl, y1, c1⟩; have hbw := hB.out.trans (c1.below hB.out.size (fun k hk e => by have : k = w.heap.size := e; omega)); have o1 : OwnsE w1 (w.heap.size + 1) v out := c1.owns hO.out (fun g hg e => HFAR.out (by have : g = w.heap.size := e; exact this ▸ hg)))
            | (go_at_call 18; (with_reducible refine (CZ _).mono ?_); rintro e w2 ⟨rfl, rfl⟩)
            | (go_at_call 20; (with_reducible refine (CH _).mono ?_); rintro e w3 ⟨rfl, hb3⟩; have hbw3 := hbw.trans (hb3.mono hbw.size); have y3 := rowC_below y1 hb3 (rowC_lt y1); have o3 : OwnsE w3 (w.heap.size + 1) v out := (Chg.of_below (s := fun _ => False) hb3).owns o1 (fun _ _ hf => hf))
            | ((with_reducible show wpList _ _ _ (⟨none, .store _ (.tmp 7) _, _, _, _, _⟩ :: _) _ _); refine wpList_store_last rfl 56 _ _ rfl w3.heap.size (hdV h) rfl rfl 56 _ rfl HIH.out rfl (hd_one (some h)) ?_)
            | ((with_reducible show wpList _ _ _ (⟨some 29, .load _ (.tmp 7), _, _, _, _⟩ :: _) _ _); refine wpList_load_row rfl 56 _ rfl w3.heap.size rfl 56 #[.string (str h.name), .string (str h.link), .int .i64 (h.mode : Int), .int .i64 (h.size : Int), .int .u8 (h.kind.toNat : Int)] (0, 0) _ (rowC_new w3 (hdV h) _) Tryz.underlying56 rfl HIH.out ?_)
            | (go_at_call 21; ((with_reducible refine (HST.out _ (rowC_alloc y3 _) (OwnsE.alloc o3 _)).mono ?_); rintro e w9 ⟨hs9, hb9⟩; obtain ⟨rfl, ht9⟩ := says_split hs9; have hbw9 := (hbw3.alloc hbw3.size (.cells (hdV h) 56)).trans hb9)))
          have HT9 := Lib.hid ht9
          have HB9 := Lib.hid hbw9
          clear y1 c1 o1 y3 o3 hb3 hbw hbw3 hs9 ht9 hb9 hbw9 HST HTK CZ CH
          cases hst : stepR h r wt out with
          | inl c =>
            have HR : Hid (readR s none [] = (c, [])) := Lib.hid (by rw [hR.out, HRS.out, hst])
            rw [hst] at HT9
            have hc : c ≠ 0 := HT9.out
            have qc : (((c : Nat) : Int) == 0) = false := by rw [beq_eq_false_iff_ne]; omega
            unfold codeS
            clear hR HRS hst HSL
            go_wp2
            go_ret2
            refine ⟨.slice none 0 0, by rw [HR.out]; rfl, by rw [HR.out]; exact ownsE_nil _ _, HB9.out⟩
          | inr p =>
            obtain ⟨r', wt', out'⟩ := p
            obtain ⟨⟨hle, hol⟩, hwb⟩ := HSL.out r' wt' out' hst
            have HR : Hid (readR s none [] = readR r' wt' out') := Lib.hid (by rw [hR.out, HRS.out, hst])
            rw [hst] at HT9
            obtain ⟨v', hr9, ho9⟩ := HT9.out
            have HR9 := Lib.hid hr9
            have HO9 := Lib.hid ho9
            have HLL : Hid (r'.length ≤ 1000000000 ∧ out'.length ≤ 200 ∧ WtB wt') := Lib.hid ⟨by have := HRL2.out; omega, hol hL.out.2.1, hwb⟩
            have HLT : Hid (r'.length < rest.length) := Lib.hid (by have := HDL.out; omega)
            unfold codeS
            clear hR HRS hst HSL hle hol hwb hr9 ho9 HT9
            go_wp2
            go_roundw
            case rel => exact ⟨r', wt', v', out', HR9, HO9, HB9, HR, HLL⟩
            case measure => rw [HRL.out, restLen_eq HR9.out]; exact HLT.out
end Go.Proofs.YtmgpofdmoaafoaaGreatDoor
