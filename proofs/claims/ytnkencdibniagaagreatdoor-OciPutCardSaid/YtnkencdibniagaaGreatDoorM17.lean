/- Merged: JbB, JsV, JuJ. -/
import Derived.Test.YtnkencdibniagaaGreatDoorM16
import Derived.Test.YtnkencdibniagaaGreatDoorM07
import Derived.Shelf.Unicode.ValidAny
import Derived.Test.YtnkencdibniagaaGreatDoorM14
/- Layer 11, plain: what is parsed keeps the bounds that its text has. -/
namespace Go.Proofs.YtnkencdibniagaaGreatDoor
open Go.Lib

theorem str_len : ∀ (n : Nat) {l acc t q : Bs}, strP n l acc = some (.ok t q) → t.length ≤ acc.length + 4 * l.length
  | 0, l, acc, t, q, h => by cases h
  | n + 1, l, acc, t, q, h => by
    rw [strP] at h
    split at h
    · rw [Option.some.injEq, Res.ok.injEq] at h
      rw [← h.1]; omega
    · cases ho : oneP l with
      | bad k r => rw [ho] at h; cases h
      | ok c r =>
        rw [ho] at h
        have hc := one_ok ho
        have h1 := str_len n h
        have h2 := enc_le c
        rw [List.length_append] at h1
        omega
theorem quo_len {n : Nat} {l t q : Bs} (h : quoP n l = some (.ok t q)) : t.length ≤ 4 * l.length := by
  unfold quoP at h
  split at h
  · have h1 := str_len n h
    have := tail_le l
    rw [List.length_nil] at h1
    omega
  · cases h
theorem key_len {n : Nat} {seen : List Bs} {l t q : Bs} (h : keyP n seen l = some (.ok t q)) : t.length ≤ 4 * l.length := by
  unfold keyP at h
  cases hq : quoP n (dropB l) with
  | none => rw [hq] at h; cases h
  | some x =>
    rw [hq] at h
    cases x with
    | bad k r => cases h
    | ok key r =>
      simp only at h
      have h1 := quo_len hq
      have h2 := dropB_le l
      split at h
      · cases h
      split at h
      · rw [Option.some.injEq, Res.ok.injEq] at h
        rw [← h.1]; omega
      · cases h
/-- A step that goes on, by what is left. -/
theorem parts_good {α : Type} {e : UInt8} {step : α → Bs → Option (Res α)} {good : α → Nat → Prop} (hm : ∀ a n m, m ≤ n → good a n → good a m) (hs : ∀ a l b q, good a l.length → step a l = some (.ok b q) → good b q.length) :
    ∀ (n : Nat) (first : Bool) (a : α) (l : Bs) (b : α) (q : Bs), good a l.length → partsP e step n first a l = some (.ok b q) → good b q.length
  | 0, _, _, _, _, _, _, h => by cases h
  | n + 1, first, a, l, b, q, hg, h => by
    have hb := dropB_le l
    have ht := tail_le (dropB l)
    rw [partsP] at h
    split at h
    · rw [Option.some.injEq, Res.ok.injEq] at h
      rw [← h.1, ← h.2]
      exact hm _ _ _ (by omega) hg
    split at h
    · cases hx : step a (dropB l) with
      | none => rw [hx] at h; cases h
      | some x =>
        rw [hx] at h
        cases x with
        | bad k r => cases h
        | ok a' r => exact parts_good hm hs n false a' r b q (hs _ _ _ _ (hm _ _ _ hb hg) hx) h
    split at h
    · cases hx : step a (dropB l).tail with
      | none => rw [hx] at h; cases h
      | some x =>
        rw [hx] at h
        cases x with
        | bad k r => cases h
        | ok a' r => exact parts_good hm hs n false a' r b q (hs _ _ _ _ (hm _ _ _ (by omega) hg) hx) h
    · cases h
theorem okJL_all : ∀ {l : List JV}, (∀ x ∈ l, okJ x) → okJL l
  | [], _ => by rw [okJL]; trivial
  | x :: l, h => by rw [okJL]; exact ⟨h x (by simp), okJL_all fun y hy => h y (by simp [hy])⟩
theorem okJ_leaf (k : Int) (t : Bs) (h : t.length ≤ 70368744177664) : okJ (.mk k t [] []) := by
  rw [okJ, okJL]
  exact ⟨fun _ => h, ⟨by simp, by simp, fun y hy => by cases hy⟩, trivial⟩
theorem val_good : ∀ (n lev : Nat) (l : Bs) (v : JV) (q : Bs), lev ≤ 16 → l.length ≤ 65536 → valP n lev l = some (.ok v q) → okJ v
  | 0, lev, l, v, q, _, _, h => by cases h
  | n + 1, lev, l, v, q, hlev, hl, h => by
    rw [valP] at h
    have hb := dropB_le l
    generalize dropB l = m at h hb
    unfold valB at h
    have word : ∀ k w, some (mkW k w m) = some (.ok v q) → okJ v := by
      intro k w h
      unfold mkW at h
      cases hx : wordP w m with
      | bad k r => rw [hx] at h; cases h
      | ok u r =>
        rw [hx] at h
        simp only [Res.map, Option.some.injEq, Res.ok.injEq] at h
        rw [← h.1]
        exact okJ_leaf _ _ (Nat.zero_le _)
    have hml := tail_le m
    split at h
    · exact word 0 nullT h
    split at h
    · exact word 1 falseT h
    split at h
    · exact word 2 trueT h
    split at h
    · cases hx : quoP n m with
      | none => rw [hx] at h; cases h
      | some x =>
        rw [hx] at h
        cases x with
        | bad k r => cases h
        | ok t r =>
          simp only [Option.map_some, Res.map, Option.some.injEq, Res.ok.injEq] at h
          rw [← h.1]
          have h1 := quo_len hx
          exact okJ_leaf _ _ (by omega)
    split at h
    · split at h
      · cases h
      · rename_i h91 h16
        cases hx : partsP 93 (stepL (valP n (lev + 1))) n true [] m.tail with
        | none => rw [hx] at h; cases h
        | some x =>
          rw [hx] at h
          cases x with
          | bad k r => cases h
          | ok acc r =>
            simp only [Option.map_some, Res.map, Option.some.injEq, Res.ok.injEq] at h
            rw [← h.1]
            have hp := parts_good (e := 93) (step := stepL (valP n (lev + 1))) (good := fun (acc : List JV) k => acc.length + k ≤ 65536 ∧ ∀ x ∈ acc, okJ x) (fun a n m hm h => ⟨by omega, h.2⟩) (by
              intro a l b q ha hs
              unfold stepL at hs
              cases hv : valP n (lev + 1) l with
              | none => rw [hv] at hs; cases hs
              | some y =>
                rw [hv] at hs
                cases y with
                | bad k r => cases hs
                | ok y r =>
                  rw [Option.some.injEq, Res.ok.injEq] at hs
                  obtain ⟨rfl, rfl⟩ := hs
                  have h1 := val_ok n (lev + 1) l y _ (by omega) hv
                  have h2 := val_good n (lev + 1) l y _ (by omega) (by omega) hv
                  refine ⟨by rw [List.length_append, List.length_singleton]; omega, fun z hz => ?_⟩
                  rcases List.mem_append.1 hz with hz | hz
                  · exact ha.2 z hz
                  · rw [List.mem_singleton.1 hz]; exact h2) n true [] m.tail acc r ⟨by rw [List.length_nil]; omega, fun x hx => by cases hx⟩ hx
            unfold mkL
            rw [okJ]
            exact ⟨fun _ => Nat.zero_le _, ⟨by omega, by simp, fun y hy => by cases hy⟩, okJL_all hp.2⟩
    split at h
    · split at h
      · cases h
      · rename_i h91 h16
        cases hx : partsP 125 (stepO n (valP n (lev + 1))) n true [] m.tail with
        | none => rw [hx] at h; cases h
        | some x =>
          rw [hx] at h
          cases x with
          | bad k r => cases h
          | ok acc r =>
            simp only [Option.map_some, Res.map, Option.some.injEq, Res.ok.injEq] at h
            rw [← h.1]
            have hp := parts_good (e := 125) (step := stepO n (valP n (lev + 1))) (good := fun (acc : List (Bs × JV)) k => acc.length + k ≤ 65536 ∧ ∀ x ∈ acc, okJ x.2 ∧ x.1.length ≤ 262144) (fun a n m hm h => ⟨by omega, h.2⟩) (by
              intro a l b q ha hs
              unfold stepO at hs
              cases hk : keyP n (a.map (·.1)) l with
              | none => rw [hk] at hs; cases hs
              | some kx =>
                rw [hk] at hs
                cases kx with
                | bad k r => cases hs
                | ok key r =>
                  simp only at hs
                  have hk1 := key_ok hk
                  have hk2 := key_len hk
                  cases hv : valP n (lev + 1) r with
                  | none => rw [hv] at hs; cases hs
                  | some y =>
                    rw [hv] at hs
                    cases y with
                    | bad k r => cases hs
                    | ok y r' =>
                      simp only [Option.some.injEq, Res.ok.injEq] at hs
                      obtain ⟨rfl, rfl⟩ := hs
                      have h1 := val_ok n (lev + 1) r y _ (by omega) hv
                      have h2 := val_good n (lev + 1) r y _ (by omega) (by omega) hv
                      refine ⟨by rw [List.length_append, List.length_singleton]; omega, fun z hz => ?_⟩
                      rcases List.mem_append.1 hz with hz | hz
                      · exact ha.2 z hz
                      · rw [List.mem_singleton.1 hz]; exact ⟨h2, show key.length ≤ 262144 by have := ha.1; omega⟩) n true [] m.tail acc r ⟨by rw [List.length_nil]; omega, fun x hx => by cases hx⟩ hx
            unfold mkO
            rw [okJ]
            refine ⟨fun _ => Nat.zero_le _, ⟨by rw [List.length_map]; omega, by rw [List.length_map]; omega, fun y hy => ?_⟩, okJL_all fun y hy => ?_⟩
            · obtain ⟨z, hz, rfl⟩ := List.mem_map.1 hy
              exact (hp.2 z hz).2
            · obtain ⟨z, hz, rfl⟩ := List.mem_map.1 hy
              exact (hp.2 z hz).1
    · unfold mkN at h
      cases hx : numP m with
      | bad k r => rw [hx] at h; cases h
      | ok u r =>
        rw [hx] at h
        simp only [Option.some.injEq, Res.ok.injEq] at h
        rw [← h.1]
        exact okJ_leaf _ _ (by rw [List.length_take]; omega)
theorem all_good {n : Nat} {l : Bs} {v : JV} {r : Bs} (hl : l.length ≤ 65536) (h : allP n l = some (.ok v r)) : okJ v := by
  unfold allP at h
  cases hv : valP n 0 l with
  | none => rw [hv] at h; cases h
  | some x =>
    rw [hv] at h
    cases x with
    | bad k q => cases h
    | ok w q =>
      have := val_good n 0 l w q (by omega) hl hv
      dsimp only at h
      split at h
      · rw [Option.some.injEq, Res.ok.injEq] at h
        rw [← h.1]
        exact this
      · cases h
end Go.Proofs.YtnkencdibniagaaGreatDoor

/- Layer 11: utf8.ValidString, laid by hand. -/
namespace Go.Proofs
open Go.Shelf
open Go.RowKit Go.Lib in
theorem Tryz.utf8_ValidString (s : ByteArray) (w : World) (hs : s.size ≤ 9223372036854775807) (hT : Lib.Utf8Tabs 2 3 w) :
    Calls Tryz.prog 89 #[.string s] w fun e w' => e = .returned (.bool (Lib.validD s.data.toList)) ∧ Below w.heap.size w w' := Any.utf8_ValidString Tryz.laysValid s w hs hT
end Go.Proofs

/- Layer 11: is a text a number; may keys be. -/
namespace Go.Proofs.YtnkencdibniagaaGreatDoor
open Go.RowKit Go.Maps

set_option maxRecDepth 100000 in
set_option maxHeartbeats 4000000 in
theorem isNumber_any (t : Bs) (ht : okT t) (w : World) : Calls Tryz.prog 109 #[.string (str t)] w fun e w' => e = .returned (.bool (isNumB t)) ∧ Below w.heap.size w w' := by
  obtain ⟨W0, hW0⟩ : ∃ W0, W0 = w.alloc (.cells #[.string (str t), .int .i64 0, .int .i64 0] 120) := ⟨_, rfl⟩
  have R0 : RdAt W0 w.heap.size t t 0 := ⟨by
    rw [hW0, Nat.sub_self]
    exact rowC_new w _ _, List.suffix_refl t⟩
  have B0 : Below w.heap.size w W0 := by rw [hW0]; exact (Below.refl _ _).alloc (Nat.le_refl _) _
  have C := number_any ht R0
  have HW0 := Lib.hid hW0
  have HB0 := Lib.hid B0
  have hsz := str_size t
  have HIs : Hid (isNumB t = match numP t with | .ok _ r => decide (r = []) | .bad _ _ => false) := Lib.hid rfl
  clear hW0 B0 R0 ht
  cases hn : numP t with
  | bad code x =>
    rw [hn] at C HIs
    unfold saysU errAt errV at C
    go_enter Tryz.func109, Tryz.ntmps109
    go_wp2_with ((go_at_call 137; (try rw [← HW0.out]); ((with_reducible refine C.mono ?_); rintro e w2 ⟨rfl, h2⟩)))
    go_ret
    rw [HIs.out]
    exact ⟨rfl, HB0.out.trans ((h2.2).below HB0.out.size (fun k hk e => by omega))⟩
  | ok u x =>
    rw [hn] at C HIs
    unfold saysU okP at C
    by_cases hx : x = []
    · subst hx
      go_enter Tryz.func109, Tryz.ntmps109
      go_wp2_with ((go_at_call 137; (try rw [← HW0.out]); ((with_reducible refine C.mono ?_); rintro e w2 ⟨rfl, h2, c2⟩; have g1 : w2.cell? ⟨w.heap.size, 1, none⟩ = some (.int .i64 (t.length : Int)) := h2.cell.2.1; have HC := Lib.hid c2; clear h2 c2)))
      go_ret
      rw [HIs.out]
      exact ⟨rfl, HB0.out.trans (HC.out.below HB0.out.size (fun k hk e => by omega))⟩
    · have hd : decide (x = []) = false := by simpa using hx
      go_enter Tryz.func109, Tryz.ntmps109
      go_wp2_with ((go_at_call 137; (try rw [← HW0.out]); ((with_reducible refine C.mono ?_); rintro e w2 ⟨rfl, h2, c2⟩; have g1 := h2.cell.2.1; have hne : (((t.length - x.length : Nat) : Int) == (t.length : Int)) = false := (by have h3 := h2.le; have h4 := List.length_pos_iff.2 hx; rw [beq_eq_false_iff_ne]; omega); generalize t.length - x.length = kk at g1 hne; have HC := Lib.hid c2; clear h2 c2)))
      go_ret
      rw [HIs.out]
      exact ⟨by rw [hd]; rfl, HB0.out.trans (HC.out.below HB0.out.size (fun k hk e => by omega))⟩
/-! ### Keys -/
theorem size_setS (l : List Bs) (t : Bs) : Maps.size (setS (l ++ [t])) = if t ∈ l then Maps.size (setS l) else Maps.size (setS l) + 1 := by
  have e : setS (l ++ [t]) = (setS l).put (litS t) (.agg []) := by unfold setS; rw [List.map_append]; exact setOf_snoc _ _ _
  rw [e, size_put (show Tidy (setS l) from tidy_setOf _ _ (fun x hx => by obtain ⟨_, _, rfl⟩ := List.mem_map.1 hx; trivial)), has_setS]
  by_cases h : t ∈ l
  · simp [h]
  · simp [h]
theorem size_nil : Maps.size (setS []) = 0 := rfl
theorem nodup_snoc (l : List Bs) (t : Bs) : (l ++ [t]).Nodup ↔ l.Nodup ∧ t ∉ l := by
  rw [List.nodup_append]
  constructor
  · rintro ⟨h1, _, h3⟩
    exact ⟨h1, fun hm => h3 t hm t (by simp) rfl⟩
  · rintro ⟨h1, h2⟩
    refine ⟨h1, by simp, ?_⟩
    intro a ha b hb
    simp at hb
    subst hb
    rintro rfl
    exact h2 ha
theorem size_take (l : List Bs) : ∀ n, n ≤ l.length → Maps.size (setS (l.take n)) ≤ n ∧ (Maps.size (setS (l.take n)) = n ↔ (l.take n).Nodup)
  | 0, _ => by rw [List.take_zero]; exact ⟨Nat.le_of_eq size_nil, by simp [size_nil]⟩
  | n + 1, h => by
    obtain ⟨h1, h2⟩ := size_take l n (by omega)
    rw [← List.take_append_getElem (show n < l.length by omega), size_setS, nodup_snoc, ← h2]
    split
    · rename_i hm
      exact ⟨by omega, ⟨fun e => by omega, fun e => absurd hm e.2⟩⟩
    · rename_i hm
      exact ⟨by omega, ⟨fun e => ⟨by omega, hm⟩, fun e => by omega⟩⟩
theorem size_keys (l : List Bs) : (Maps.size (setS l) : Int) = (l.length : Int) ↔ l.Nodup := by
  have := (size_take l l.length (Nat.le_refl _)).2
  rw [List.take_length] at this
  rw [← this]
  omega
theorem keysOk_false {l : List Bs} {x : Bs} (h : x ∈ l) (hx : Lib.validD x = false) : keysOk l = false := by
  unfold keysOk
  rw [Bool.and_eq_false_iff]
  exact .inl (List.all_eq_false.2 ⟨x, h, by rw [hx]; decide⟩)
theorem keysOk_end {l : List Bs} (h : ∀ x ∈ l, Lib.validD x = true) : keysOk l = decide l.Nodup := by
  unfold keysOk
  rw [List.all_eq_true.2 h, Bool.true_and]
set_option maxRecDepth 100000 in
set_option maxHeartbeats 4000000 in
theorem areKeys_any {w : World} {F : Nat → Prop} {keys : List Bs} {x2 : Option Addr} {c2 : Nat} (hE : Env w) (hF : ∀ k, F k → k < w.heap.size) (hl : keys.length ≤ 65536) (hs : ∀ y ∈ keys, y.length ≤ 262144)
    (hK : ∀ i, i < keys.length → ∃ ad, x2 = some ad ∧ F ad.block ∧ w.cell? (ad.add i) = some (.string (str (keys.getD i [])))) :
    Calls Tryz.prog 142 #[.slice x2 keys.length c2] w fun e w' => e = .returned (.bool (keysOk keys)) ∧ Below w.heap.size w w' := by
  obtain ⟨W0, hW0⟩ : ∃ W0, W0 = w.alloc (.map #[] 0) := ⟨_, rfl⟩
  have S0 : SetM W0 w.heap.size [] := by rw [hW0]; exact World.ownsMap_made w _ _ _
  have B0 : Below w.heap.size w W0 := by rw [hW0]; exact (Below.refl _ _).alloc (Nat.le_refl _) _
  have HW0 := Lib.hid hW0
  have HS0 := Lib.hid S0
  have HB0 := Lib.hid B0
  have HE := Lib.hid hE
  have HKK := Lib.hid hK
  have HSS := Lib.hid hs
  have HF := Lib.hid hF
  have HL := Lib.hid hl
  have hmm := @run_makeMap Tryz.prog
  clear hW0 S0 B0 hE hK hs hF
  go_enter Tryz.func142, Tryz.ntmps142
  go_wp2
  go_loopg [5, 9] keys.length (fun kk s5 s9 wr => ∃ (n : Nat), s9 = .int .i64 (n : Int) ∧ Hid (kk = keys.length - n) ∧ Hid (n ≤ keys.length) ∧ Hid (SetM wr w.heap.size (keys.take n)) ∧ Hid (∀ x ∈ keys.take n, Lib.validD x = true) ∧ Hid (Below w.heap.size w wr))
  case atStart => exact ⟨0, rfl, Lib.hid rfl, Lib.hid (Nat.zero_le _), Lib.hid (by rw [← HW0.out]; exact HS0.out), Lib.hid (by simp), Lib.hid (by rw [← HW0.out]; exact HB0.out)⟩
  case round =>
    obtain ⟨n, rfl, HN, HNL, HM, HV, HB⟩ := hrel
    by_cases hn : n < keys.length
    · obtain ⟨ad, rfl, hFk, hck⟩ := HKK.out n hn
      have gk : wr.cell? (ad.add n) = some (.string (str (keys.getD n []))) := cell_chg (chg_of_below HB.out) hck (by rw [add_block]; have := HF.out _ hFk; omega)
      have HX : Hid (keys.take (n + 1) = keys.take n ++ [keys.getD n []]) := Lib.hid (by
        rw [List.getD_eq_getElem?_getD, List.getElem?_eq_getElem hn]
        exact (List.take_append_getElem hn).symm)
      have hmem : keys.getD n [] ∈ keys := by rw [List.getD_eq_getElem?_getD, List.getElem?_eq_getElem hn]; exact List.getElem_mem hn
      have hkl := HSS.out _ hmem
      have hn1 : (n : Int) < (keys.length : Int) := by omega
      have CV := Tryz.utf8_ValidString (str (keys.getD n [])) wr (by rw [str_size]; omega) ((HE.out.below HB.out).tabs)
      rw [str_toList] at CV
      have HMEM := Lib.hid hmem
      have HKY := Lib.hid (key_str _ hkl)
      clear hck hFk hmem
      generalize keys.getD n [] = kt at *
      by_cases hv : Lib.validD kt = true
      · rw [hv] at CV
        have HVT := Lib.hid hv
        clear hv
        go_wp2_with (first
          | (go_at_call 89; ((with_reducible refine CV.mono ?_); rintro e w2 ⟨rfl, hb2⟩; have M2 : SetM w2 w.heap.size (keys.take n) := HM.out.chg (s := fun _ => False) (Chg.of_below hb2) id))
          | (at_mapUpdate; refine wpList_mapUpdate_own _ rfl _ _ _ 231 rfl 9 233 law_str Tryz.underlying231 (unitElem (H := Unit)) w.heap.size (keys.take n).length _ rfl M2 (by rw [List.length_take]; have := HL.out; unfold maxLen; omega) _ _ _ rfl rfl HKY.out _ [] unitElem_mk ?_; intro w3 hown3 hgrow3; have M3 := Lib.hid hown3; clear hown3))
        go_roundg (keys.length - (n + 1))
        case measure => rw [HN.out]; omega
        case rel => exact ⟨n + 1, rfl, Lib.hid rfl, Lib.hid (by omega), Lib.hid (by
            rw [HX.out]
            unfold SetM
            rw [List.length_append, List.length_singleton, show setS (keys.take n ++ [kt]) = (setS (keys.take n)).put (litS kt) (.agg []) by unfold setS; rw [List.map_append]; exact setOf_snoc _ _ _]
            exact M3.out), Lib.hid (by
            rw [HX.out]
            intro x hx
            rcases List.mem_append.1 hx with hx | hx
            · exact HV.out x hx
            · rw [List.mem_singleton.1 hx]; exact HVT.out), Lib.hid (by
            have hc : Chg (fun k => k = w.heap.size) w2 w3 := (Chg.refl _ w2).grown hgrow3 (fun k hk => .inl (Option.some.inj hk).symm)
            exact (HB.out.trans (hb2.mono HB.out.size)).trans (hc.below (Nat.le_trans HB.out.size hb2.size) (fun k hk e => by omega)))⟩
      · have hv' : Lib.validD kt = false := by simpa using hv
        rw [hv'] at CV
        have HF2 := Lib.hid (keysOk_false HMEM.out hv')
        clear hv hv'
        go_wp2_with (go_at_call 89; ((with_reducible refine CV.mono ?_); rintro e w2 ⟨rfl, hb2⟩))
        go_ret
        rw [HF2.out]
        exact ⟨rfl, HB.out.trans (hb2.mono HB.out.size)⟩
    · obtain rfl : n = keys.length := by have := HNL.out; omega
      have hmt := HM.out
      have hvv := HV.out
      rw [List.take_length] at hmt hvv
      have HE2 := Lib.hid (keysOk_end hvv)
      have HSZ := Lib.hid (size_keys keys)
      clear hvv hn
      go_wp2_with (at_len; refine wpList_len_own _ rfl _ 231 rfl 9 233 Tryz.underlying231 _ w.heap.size _ _ rfl hmt ?_)
      go_ret
      rw [HE2.out]
      have hz : ((Maps.size (setS keys) : Int) == (keys.length : Int)) = decide keys.Nodup := by rw [Bool.eq_iff_iff, beq_iff_eq, decide_eq_true_eq]; exact HSZ.out
      exact ⟨retBool hz, HB.out⟩
end Go.Proofs.YtnkencdibniagaaGreatDoor

