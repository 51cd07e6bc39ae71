/- Layer 15: the document's records, walked. -/
import Derived.Test.YtmgpofdmoaafoaaGreatDoorTsU
import Derived.Deep.AppendLies
import Derived.Deep.DeepCutAuto
import Derived.Deep.CutBlock
namespace Go.Proofs.YtmgpofdmoaafoaaGreatDoor
open Go.RowKit

/-- What is told of a key: a row of one text, or none. -/
def OptAt (base : Nat) (w : World) (v : Value) (o : Option Bs) : Prop := match o with
  | none => v = .slice none 0 0
  | some t => ∃ b, v = .slice (some ⟨b, 0, none⟩) 1 1 ∧ base ≤ b ∧ b < w.heap.size ∧ w.cell? ⟨b, 0, none⟩ = some (.string (str t))
theorem OptAt.chg {base : Nat} {s : Nat → Prop} {w w' : World} {v : Value} {o : Option Bs} (h : OptAt base w v o) (hc : Chg s w w') (hs : ∀ k, base ≤ k → ¬ s k) : OptAt base w' v o := by
  cases o with
  | none => exact h
  | some t =>
    obtain ⟨b, h1, h2, h3, h4⟩ := h
    exact ⟨b, h1, h2, Nat.lt_of_lt_of_le h3 hc.size, by rw [World.cell?_of_block (hc.block b h3 (hs b h2))]; exact h4⟩
structure RcAt (base : Nat) (w : World) (c0 c1 c2 : Value) (r : Recs) : Prop where
  p : OptAt base w c0 r.path
  l : OptAt base w c1 r.link
  s : OptAt base w c2 r.size
theorem RcAt.chg {base : Nat} {s : Nat → Prop} {w w' : World} {c0 c1 c2 : Value} {r : Recs} (h : RcAt base w c0 c1 c2 r) (hc : Chg s w w') (hs : ∀ k, base ≤ k → ¬ s k) : RcAt base w' c0 c1 c2 r :=
  ⟨h.p.chg hc hs, h.l.chg hc hs, h.s.chg hc hs⟩
theorem OptAt.one {base : Nat} {w : World} {v : Value} {o : Option Bs} (h : OptAt base w v o) : v.oneCell' = true := by
  cases o with
  | none => rw [show v = .slice none 0 0 from h]; rfl
  | some t =>
    obtain ⟨b, h1, _⟩ := h
    rw [h1]; rfl
theorem RcAt.one {base : Nat} {w : World} {c0 c1 c2 : Value} {r : Recs} (h : RcAt base w c0 c1 c2 r) : (#[c0, c1, c2] : Array Value).all (·.oneCell') = true := by
  simp [h.p.one, h.l.one, h.s.one]
theorem info_r72 : (Tryz.prog.info? 61).map (·.size) = some 3 := by kernel_rfl
theorem OptAt.down {base base' : Nat} {s : Nat → Prop} {w w' : World} {v : Value} {o : Option Bs} (h : OptAt base w v o) (hb : base' ≤ base) (hc : Chg s w w') (hs : ∀ k, base ≤ k → ¬ s k) : OptAt base' w' v o := by
  have h2 := h.chg hc hs
  cases o with
  | none => exact h2
  | some t =>
    obtain ⟨b, h1, h3, h4⟩ := h2
    exact ⟨b, h1, by omega, h4⟩
theorem RcAt.down {base base' : Nat} {s : Nat → Prop} {w w' : World} {c0 c1 c2 : Value} {r : Recs} (h : RcAt base w c0 c1 c2 r) (hb : base' ≤ base) (hc : Chg s w w') (hs : ∀ k, base ≤ k → ¬ s k) : RcAt base' w' c0 c1 c2 r :=
  ⟨h.p.down hb hc hs, h.l.down hb hc hs, h.s.down hb hc hs⟩
theorem eq_strs15 (a b : List UInt8) : ((str a).toList == (str b).toList) = decide (a = b) := by
  rw [eq_lit, show (str b).toList = b by unfold str; rw [ByteArray.toList_mk]]
def none3 : Array Value := #[.slice none 0 0, .slice none 0 0, .slice none 0 0]
def keys3 : Array Value := #[.string ⟨#[112, 97, 116, 104]⟩, .string ⟨#[108, 105, 110, 107, 112, 97, 116, 104]⟩, .string ⟨#[115, 105, 122, 101]⟩]
theorem keys_one : keys3.all (·.oneCell') = true := by simp [Value.oneCell', keys3]
theorem info_k93 : (Tryz.prog.info? 83).map (·.size) = some 3 := by kernel_rfl
def rJ (j : Nat) (r : Recs) (k v : Bs) : Recs := if j = 0 then r else if k = kPath then { r with path := some v } else if j = 1 then r else if k = kLink then { r with link := some v } else if j = 2 then r else if k = kSize then { r with size := some v } else r
theorem rJ_ne0 {r : Recs} {K V : Bs} (h : ¬ kPath = K) : rJ 1 r K V = rJ 0 r K V := by
  have h' : K ≠ kPath := fun e => h e.symm
  simp [rJ, h']
theorem rJ_ne1 {r : Recs} {K V : Bs} (h : ¬ kLink = K) : rJ 2 r K V = rJ 1 r K V := by
  have h' : K ≠ kLink := fun e => h e.symm
  simp [rJ, h']
theorem rJ_ne2 {r : Recs} {K V : Bs} (h : ¬ kSize = K) : rJ 3 r K V = rJ 2 r K V := by
  have h' : K ≠ kSize := fun e => h e.symm
  simp [rJ, h']
theorem rJ_eq0 {r : Recs} {V : Bs} : rJ 1 r kPath V = { r with path := some V } := rfl
theorem rJ_eq1 {r : Recs} {V : Bs} : rJ 2 r kLink V = { r with link := some V } := rfl
theorem rJ_eq2 {r : Recs} {V : Bs} : rJ 3 r kSize V = { r with size := some V } := rfl
theorem rJ_at0 {r : Recs} {V : Bs} : rJ 0 r kPath V = r := rfl
theorem rJ_at1 {r : Recs} {V : Bs} : rJ 1 r kLink V = r := rfl
theorem rJ_at2 {r : Recs} {V : Bs} : rJ 2 r kSize V = r := rfl
theorem putM {w wr : World} {v : Bs} {bK nq j : Nat} {cs : Array Value} (hQ : rowC wr (w.heap.size + 1) cs 61) (hZ : rowC wr w.heap.size none3 61) (hK : rowC wr bK keys3 83) (hL : w.heap.size + 2 ≤ bK) (hB : Below w.heap.size w wr) :
    ∀ Wf, Wf = ((wr.drewN nq).alloc (.cells #[.string (str v)] 9)).setCell ⟨w.heap.size + 1, j, none⟩ (.slice (some ⟨wr.heap.size, 0, none⟩) 1 1) →
      rowC Wf (w.heap.size + 1) (cs.setIfInBounds j (.slice (some ⟨wr.heap.size, 0, none⟩) 1 1)) 61 ∧ rowC Wf w.heap.size none3 61 ∧ rowC Wf bK keys3 83 ∧ Below w.heap.size w Wf ∧ Chg (fun k => k = w.heap.size + 1) wr Wf ∧
        OptAt (w.heap.size + 2) Wf (.slice (some ⟨wr.heap.size, 0, none⟩) 1 1) (some v) := by
  rintro Wf rfl
  have hlt := rowC_lt hK
  have hc : Chg (fun k => k = w.heap.size + 1) wr (((wr.drewN nq).alloc (.cells #[.string (str v)] 9)).setCell ⟨w.heap.size + 1, j, none⟩ (.slice (some ⟨wr.heap.size, 0, none⟩) 1 1)) :=
    (((Chg.refl _ _).drewN nq).alloc _).setCell _ _ (.inl rfl)
  have hn : rowC (((wr.drewN nq).alloc (.cells #[.string (str v)] 9)).setCell ⟨w.heap.size + 1, j, none⟩ (.slice (some ⟨wr.heap.size, 0, none⟩) 1 1)) wr.heap.size #[.string (str v)] 9 :=
    rowC_other (rowC_new (wr.drewN nq) _ _) _ _ (by show wr.heap.size ≠ w.heap.size + 1; omega)
  refine ⟨rowC_set (rowC_alloc (rowC_drewN hQ nq) _) j _, rowC_other (rowC_alloc (rowC_drewN hZ nq) _) _ _ (by show w.heap.size ≠ w.heap.size + 1; omega), rowC_other (rowC_alloc (rowC_drewN hK nq) _) _ _ (by show bK ≠ w.heap.size + 1; omega), ?_, hc, ⟨wr.heap.size, rfl, by omega, rowC_lt hn, rowC_cell hn 0⟩⟩
  exact hB.trans (hc.below hB.size (fun k hk e => by omega))
theorem eq_keyL (a K : List UInt8) : (a == (str K).toList) = decide (a = K) := by
  rw [show (str K).toList = K by unfold str; rw [ByteArray.toList_mk], Bool.eq_iff_iff, beq_iff_eq, decide_eq_true_eq]
theorem eq_at {X : Bs} {a : Nat} (ha : a < X.length) (hA : (X.take a).all (· != 61) = true) (h : X.getD a 0 = 61) : (61 : UInt8) ∈ X ∧ X.takeWhile (· != 61) = X.take a ∧ (X.dropWhile (· != 61)).drop 1 = X.drop (a + 1) := by
  have e : X = X.take a ++ (61 :: X.drop (a + 1)) := by
    conv => lhs; rw [← List.take_append_drop a X, List.drop_eq_getElem_cons ha]
    rw [← getD_in8 ha, h]
  refine ⟨?_, ?_, ?_⟩
  · rw [e]; simp
  · conv => lhs; rw [e]
    rw [List.takeWhile_append_of_pos (fun x hx => List.all_eq_true.1 hA x hx), List.takeWhile_cons_of_neg (by decide), List.append_nil]
  · conv => lhs; rw [e]
    rw [List.dropWhile_append_of_pos (fun x hx => List.all_eq_true.1 hA x hx), List.dropWhile_cons_of_neg (by decide)]
    rfl
def RecE (base : Nat) (s : Bs) (e : Ending) (w' : World) : Prop := match recsR s ⟨none, none, none⟩ with
  | none => ∃ c0 c1 c2, e = .returned (.tuple #[.agg #[c0, c1, c2], .bool false]) ∧ (#[c0, c1, c2] : Array Value).all (·.oneCell') = true
  | some r => ∃ c0 c1 c2, e = .returned (.tuple #[.agg #[c0, c1, c2], .bool true]) ∧ RcAt base w' c0 c1 c2 r
set_option maxRecDepth 100000 in
set_option maxHeartbeats 64000000 in
theorem recordsR_any (s : Bs) (hs : s.length ≤ 1000000000) (w : World) :
    Calls Tryz.prog 24 #[.string (str s)] w fun e w' => RecE w.heap.size s e w' ∧ Below w.heap.size w w' := by
  obtain ⟨W0, hW0⟩ : ∃ W0, W0 = (w.alloc (.cells none3 61)).alloc (.cells none3 61) := ⟨_, rfl⟩
  have HW0 := Lib.hid hW0
  have HR0 : Hid (rowC W0 w.heap.size none3 61) := Lib.hid (by rw [hW0]; exact rowC_alloc (rowC_new w _ _) _)
  have HQ0 : Hid (rowC W0 (w.heap.size + 1) none3 61) := Lib.hid (by rw [hW0]; have := rowC_new (w.alloc (.cells none3 61)) none3 61; rwa [size_alloc] at this)
  have HB0 : Hid (Below w.heap.size w W0) := Lib.hid (by rw [hW0]; exact (((Below.refl _ _).alloc (Nat.le_refl _) _).alloc (by rw [size_alloc]; omega) _))
  clear hW0
  have HI := Lib.hid info_r72
  have HI3 := Lib.hid info_k93
  go_enter Tryz.func24, Tryz.ntmps24
  go_upto_region 2 with (fail)
  rw [show (w.alloc (.cells #[.slice none 0 0, .slice none 0 0, .slice none 0 0] 61)).alloc (.cells #[.slice none 0 0, .slice none 0 0, .slice none 0 0] 61) = W0 from HW0.out.symm]
  go_loopw [0, 5, 6, 7, 8, 9, 10] (fun d _ _ _ _ _ _ wr => ∃ (t : Bs) (r : Recs) (c0 c1 c2 : Value), d = .string (str t) ∧ t.length ≤ s.length ∧ Hid (recsR s ⟨none, none, none⟩ = recsR t r) ∧ Hid (rowC wr w.heap.size none3 61) ∧ Hid (rowC wr (w.heap.size + 1) #[c0, c1, c2] 61) ∧ Hid (RcAt (w.heap.size + 2) wr c0 c1 c2 r) ∧ Hid (Below w.heap.size w wr)) (fun d _ _ _ _ _ _ _ => match d with | .string b => b.size | _ => 0)
  case atStart => exact ⟨s, ⟨none, none, none⟩, _, _, _, rfl, Nat.le_refl _, Lib.hid rfl, HR0, HQ0, Lib.hid ⟨rfl, rfl, rfl⟩, HB0⟩
  case round =>
    obtain ⟨t, r, c0, c1, c2, rfl, hts, hR, hZ, hQ, hC, hB⟩ := hrel
    have hz := str_size t
    have q1 : ((str t).toList == []) = decide (t = []) := eq_lit t []
    have q2 : (str t).toList.isEmpty = decide (t = []) := empty_lit t
    by_cases ht : t = []
    · rw [decide_eq_true ht] at q1 q2
      have HT0 := Lib.hid ht
      clear ht
      have HE : Hid (recsR s ⟨none, none, none⟩ = some r) := Lib.hid (by rw [hR.out, HT0.out, recsR, if_pos rfl])
      have HONE := Lib.hid hC.out.one
      have HC2 : Hid (RcAt w.heap.size (wr.setRow w.heap.size #[c0, c1, c2]) c0 c1 c2 r) := Lib.hid (hC.out.down (by omega) ((Chg.refl _ _).setRow w.heap.size _ (.inl rfl)) (fun k hk e => by omega))
      go_wp2_with (first
        | ((with_reducible show wpList _ _ _ (⟨some 116, .load _ _, _, _, _, _⟩ :: _) _ _); refine wpList_load_row rfl 61 _ rfl (w.heap.size + 1) rfl 61 #[c0, c1, c2] (0, 0) _ hQ.out Tryz.underlying61 rfl HI.out ?_)
        | ((with_reducible show wpList _ _ _ (⟨none, .store _ (.tmp 2) _, _, _, _, _⟩ :: _) _ _); refine wpList_store_row rfl 61 _ _ rfl w.heap.size #[c0, c1, c2] rfl rfl 61 none3 hZ.out HI.out rfl HONE.out ?_))
      exact bodyPost_ret (results_row_tmp rfl _ _ w.heap.size 61 #[c0, c1, c2] _ rfl (rowC_setRow hZ.out _) Tryz.underlying61 rfl HI.out (.bool true) rfl) rfl ⟨by unfold RecE; rw [HE.out]; exact ⟨c0, c1, c2, rfl, HC2.out⟩, below_setRow hB.out (Nat.le_refl _) _⟩
    · rw [decide_eq_false ht] at q1 q2
      have HT0 := Lib.hid ht
      have IS := Lib.hid (fun (i : Nat) (h : i < (str t).size) => idx_str (str t) i i rfl h)
      rw [str_toList] at IS
      have HEX : Hid (∀ k, (str t).extract 0 k = str (t.take k)) := Lib.hid fun k => by rw [extract_str, sl, List.drop_zero]
      have HDR : Hid (∀ k, k ≤ t.length → (str t).extract k t.length = str (t.drop k)) := Lib.hid fun k _ => by rw [extract_str, sl, List.take_length]
      have HSL : Hid (∀ a b, (str t).extract a b = str (sl t a b)) := Lib.hid fun a b => extract_str t a b
      obtain ⟨S, hS⟩ : ∃ S, S = str t := ⟨_, rfl⟩
      rw [← hS] at q1 q2 hz IS HEX HDR HSL
      rw [← hS]
      have HSS := Lib.hid hS
      clear hS ht
      go_upto_block 2 with fail
      go_cut [5] from 13 to 30 (fun v wx => ∃ k : Nat, v = .int .i64 k ∧ k ≤ t.length ∧ Hid ((t.take k).all (isDig 10) = true) ∧ Hid (k < t.length → isDig 10 (t.getD k 0) = false) ∧ wx = wr)
      case first =>
        go_wp2_with fail
        go_loop [5] (fun i => ∃ k : Nat, k ≤ t.length ∧ i = .int .i64 k ∧ Hid ((t.take k).all (isDig 10) = true)) (fun i => t.length - (intOf i).toNat)
        case atStart => exact ⟨0, Nat.zero_le _, rfl, Lib.hid rfl⟩
        case round =>
          obtain ⟨k, hk, rfl, hA⟩ := hrel
          by_cases hlt : k < t.length
          · have HLT := Lib.hid hlt
            have i1 := IS.out k (by omega)
            have g2 : (k : Int) < (S.size : Int) := by omega
            have HD := Lib.hid (isDig_iff 10 (t.getD k 0))
            obtain ⟨x, hxx⟩ : ∃ x, x = (t.getD k 0).toNat := ⟨_, rfl⟩
            rw [← hxx] at i1 HD
            clear hxx
            by_cases hx : 48 ≤ x
            · have g3 : (48 : Int) ≤ (x : Int) := by omega
              by_cases hx9 : x ≤ 57
              · have g4 : (x : Int) ≤ 57 := by omega
                have HP2 := Lib.hid (all_next (p := isDig 10) hA.out hlt (HD.out.2 ⟨by omega, by omega⟩))
                go_wp2
                go_round
                case rel => exact ⟨k + 1, Nat.succ_le_of_lt HLT.out, by go_num, HP2⟩
                case measure => have := HLT.out; simp [intOf]; omega
              · have g4 : ¬ (x : Int) ≤ 57 := by omega
                have HBD : Hid (k < t.length → isDig 10 (t.getD k 0) = false) := Lib.hid fun _ => by
                  rw [Bool.eq_false_iff]; intro h; have := HD.out.1 h; omega
                go_wp2
                go_meet
                exact ⟨k, rfl, hk, hA, HBD, rfl⟩
            · have g3 : ¬ (48 : Int) ≤ (x : Int) := by omega
              have HBD : Hid (k < t.length → isDig 10 (t.getD k 0) = false) := Lib.hid fun _ => by
                rw [Bool.eq_false_iff]; intro h; have := HD.out.1 h; omega
              go_wp2
              go_meet
              exact ⟨k, rfl, hk, hA, HBD, rfl⟩
          · have g2 : ¬ (k : Int) < (S.size : Int) := by omega
            have HBD : Hid (k < t.length → isDig 10 (t.getD k 0) = false) := Lib.hid fun h => absurd h hlt
            go_wp2
            go_meet
            exact ⟨k, rfl, hk, hA, HBD, rfl⟩
      case rest =>
        obtain ⟨k, rfl, hk, hA, HBD, rfl⟩ := hcut
        have CP := fun W => plainR_any (t.take k) (by rw [List.length_take]; omega) W
        have ex := HEX.out k
        have g1 : (k : Int) ≤ (S.size : Int) := by omega
        go_upto_region 7 with (go_at_call 26; ((with_reducible refine (CP _).mono ?_); rintro e w1 ⟨rfl, rfl⟩))
        have HE : Hid (oneR t = none → recsR s ⟨none, none, none⟩ = none) := Lib.hid fun h => by rw [hR.out, recsR_bad HT0.out h]
        have HONE := Lib.hid hC.out.one
        cases hn : numP 10 (t.take k) with
        | none =>
          have HE := Lib.hid (HE.out (one_none hk hA.out HBD.out hn))
          rw [show numI none = -1 from rfl]
          have cb : decide ((-1 : Int) < 0) = true := rfl
          go_quiet (fail)
          have HQ2 : Hid (rowC (wc.drewN nq) (w.heap.size + 1) #[c0, c1, c2] 61) := Lib.hid hQ.out
          have HZ2 : Hid (rowC (wc.drewN nq) w.heap.size none3 61) := Lib.hid hZ.out
          have HB2 := Lib.hid (below_drewN hB.out nq)
          go_wp2_with (first
            | ((with_reducible show wpList _ _ _ (⟨some 70, .load _ _, _, _, _, _⟩ :: _) _ _); refine wpList_load_row rfl 61 _ rfl (w.heap.size + 1) rfl 61 #[c0, c1, c2] (0, 0) _ HQ2.out Tryz.underlying61 rfl HI.out ?_)
            | ((with_reducible show wpList _ _ _ (⟨none, .store _ (.tmp 2) _, _, _, _, _⟩ :: _) _ _); refine wpList_store_row rfl 61 _ _ rfl w.heap.size #[c0, c1, c2] rfl rfl 61 none3 HZ2.out HI.out rfl HONE.out ?_))
          exact bodyPost_ret (results_row_tmp rfl _ _ w.heap.size 61 #[c0, c1, c2] _ rfl (rowC_setRow HZ2.out _) Tryz.underlying61 rfl HI.out (.bool false) rfl) rfl ⟨by unfold RecE; rw [HE.out]; exact ⟨c0, c1, c2, rfl, HONE.out⟩, below_setRow HB2.out (Nat.le_refl _) _⟩
        | some n =>
          rw [show numI (some n) = (n : Int) from rfl]
          have hn40 := (numP_lt hn).1
          have DC := fun W => decimal_any 12 n (by decide) (by omega) (by omega) W
          have cb0 : decide ((n : Int) < 0) = false := decide_eq_false (by omega)
          have qd := eq_strs15 (decD n) (t.take k)
          clear CP
          go_cut [69] from 35 to 68 (fun v wx => v = .bool (badR t k n) ∧ ∃ q, wx = wc.drewN q)
          case first =>
            clear HE HONE HBD hR hA hZ hQ hC hB HDR HSL HEX
            by_cases hd : decD n = t.take k
            · rw [decide_eq_true hd] at qd
              by_cases h2 : n < k + 2
              · have cb2 : decide ((n : Int) < (k : Int) + 2) = true := decide_eq_true (by omega)
                have HB9 : Hid (badR t k n = true) := Lib.hid (by unfold badR; rw [decide_eq_true hd, decide_eq_true h2]; simp)
                go_quiet ((go_at_call 33; exact qs (DC _)))
                go_wp2
                go_meet
                exact ⟨by rw [HB9.out] <;> first | rfl | rw [cb7], _, rfl⟩
              · have cb2 : decide ((n : Int) < (k : Int) + 2) = false := decide_eq_false (by omega)
                by_cases h3 : t.length < n
                · have cb3 : decide ((t.length : Int) < (n : Int)) = true := decide_eq_true (by omega)
                  have HB9 : Hid (badR t k n = true) := Lib.hid (by unfold badR; rw [decide_eq_true hd, decide_eq_false h2, decide_eq_true h3]; simp)
                  go_quiet ((go_at_call 33; exact qs (DC _)))
                  go_wp2
                  go_meet
                  exact ⟨by rw [HB9.out] <;> first | rfl | rw [cb7], _, rfl⟩
                · have cb3 : decide ((t.length : Int) < (n : Int)) = false := decide_eq_false (by omega)
                  have i1 := IS.out k (by omega)
                  have i2 := IS.out (n - 1) (by omega)
                  rw [show ((n - 1 : Nat) : Int) = (n : Int) - 1 by omega] at i2
                  have g2 : (k : Int) < (S.size : Int) := by omega
                  have g3 : (n : Int) - 1 < (S.size : Int) := by omega
                  have g4 : (0 : Int) ≤ (n : Int) - 1 := by omega
                  by_cases h4 : t.getD k 0 = 32
                  · rw [h4, show (((32 : UInt8).toNat : Nat) : Int) = 32 from rfl] at i1
                    by_cases h5 : t.getD (n - 1) 0 = 10
                    · rw [h5, show (((10 : UInt8).toNat : Nat) : Int) = 10 from rfl] at i2
                      have HB9 : Hid (badR t k n = false) := Lib.hid (by unfold badR; rw [decide_eq_true hd, decide_eq_false h2, decide_eq_false h3, decide_eq_true h4, decide_eq_true h5]; rfl)
                      go_quiet ((go_at_call 33; exact qs (DC _)))
                      go_wp2
                      go_meet
                      exact ⟨by rw [HB9.out] <;> first | rfl | rw [cb7], _, rfl⟩
                    · obtain ⟨x, hxx⟩ : ∃ x, x = (t.getD (n - 1) 0).toNat := ⟨_, rfl⟩
                      have hx10 : ¬ x = 10 := fun e => h5 (UInt8.toNat_inj.1 (by rw [← hxx, e]; rfl))
                      rw [← hxx] at i2
                      have cb5 : ((x : Int) == 10) = false := by rw [beq_eq_false_iff_ne]; omega
                      have cb6 : decide ((x : Int) = 10) = false := decide_eq_false (by omega)
                      have cb7 : ((x : Int) != 10) = true := by rw [bne, cb5]; rfl
                      clear hxx
                      have HB9 : Hid (badR t k n = true) := Lib.hid (by unfold badR; rw [decide_eq_true hd, decide_eq_false h2, decide_eq_false h3, decide_eq_true h4, decide_eq_false h5]; rfl)
                      go_quiet ((go_at_call 33; exact qs (DC _)))
                      go_wp2
                      go_meet
                      exact ⟨by rw [HB9.out] <;> first | rfl | rw [cb7], _, rfl⟩
                  · obtain ⟨x, hxx⟩ : ∃ x, x = (t.getD k 0).toNat := ⟨_, rfl⟩
                    have hx10 : ¬ x = 32 := fun e => h4 (UInt8.toNat_inj.1 (by rw [← hxx, e]; rfl))
                    rw [← hxx] at i1
                    have cb5 : ((x : Int) == 32) = false := by rw [beq_eq_false_iff_ne]; omega
                    have cb6 : decide ((x : Int) = 32) = false := decide_eq_false (by omega)
                    have cb7 : ((x : Int) != 32) = true := by rw [bne, cb5]; rfl
                    clear hxx
                    have HB9 : Hid (badR t k n = true) := Lib.hid (by unfold badR; rw [decide_eq_true hd, decide_eq_false h2, decide_eq_false h3, decide_eq_false h4]; simp)
                    go_quiet ((go_at_call 33; exact qs (DC _)))
                    go_wp2
                    go_meet
                    exact ⟨by rw [HB9.out] <;> first | rfl | rw [cb7], _, rfl⟩
            · rw [decide_eq_false hd] at qd
              have HB9 : Hid (badR t k n = true) := Lib.hid (by unfold badR; rw [decide_eq_false hd]; simp)
              go_quiet ((go_at_call 33; exact qs (DC _)))
              go_wp2
              go_meet
              exact ⟨by rw [HB9.out] <;> first | rfl | rw [cb7], _, rfl⟩
          case rest =>
            obtain ⟨rfl, q, rfl⟩ := hcut
            clear DC qd cb0
            cases hbd : badR t k n with
            | true =>
              have HE := Lib.hid (HE.out (one_bad hk hA.out HBD.out hn hbd))
              have HQ2 : Hid (rowC (wc.drewN q) (w.heap.size + 1) #[c0, c1, c2] 61) := Lib.hid hQ.out
              have HZ2 : Hid (rowC (wc.drewN q) w.heap.size none3 61) := Lib.hid hZ.out
              have HB2 := Lib.hid (below_drewN hB.out q)
              go_wp2_with (first
                | ((with_reducible show wpList _ _ _ (⟨some 70, .load _ _, _, _, _, _⟩ :: _) _ _); refine wpList_load_row rfl 61 _ rfl (w.heap.size + 1) rfl 61 #[c0, c1, c2] (0, 0) _ HQ2.out Tryz.underlying61 rfl HI.out ?_)
                | ((with_reducible show wpList _ _ _ (⟨none, .store _ (.tmp 2) _, _, _, _, _⟩ :: _) _ _); refine wpList_store_row rfl 61 _ _ rfl w.heap.size #[c0, c1, c2] rfl rfl 61 none3 HZ2.out HI.out rfl HONE.out ?_))
              exact bodyPost_ret (results_row_tmp rfl _ _ w.heap.size 61 #[c0, c1, c2] _ rfl (rowC_setRow HZ2.out _) Tryz.underlying61 rfl HI.out (.bool false) rfl) rfl ⟨by unfold RecE; rw [HE.out]; exact ⟨c0, c1, c2, rfl, HONE.out⟩, below_setRow HB2.out (Nat.le_refl _) _⟩
            | false =>
              obtain ⟨hkl, hkn, hnl, hone⟩ := one_good hk hA.out hn hbd
              have HON := Lib.hid hone
              have hXl : (sl t (k + 1) (n - 1)).length = n - 1 - (k + 1) := by rw [sl_cut, Nat.min_eq_left (by omega)]
              have eX := HSL.out (k + 1) (n - 1)
              have g3 : (k : Int) + 1 ≤ (n : Int) - 1 := by omega
              have g4 : (n : Int) - 1 ≤ (S.size : Int) := by omega
              clear hone
              have IX := Lib.hid (fun (i : Nat) (h : i < (str (sl t (k + 1) (n - 1))).size) => idx_str (str (sl t (k + 1) (n - 1))) i i rfl h)
              rw [str_toList] at IX
              have zX := str_size (sl t (k + 1) (n - 1))
              have HKX : Hid (∀ a, (str (sl t (k + 1) (n - 1))).extract 0 a = str ((sl t (k + 1) (n - 1)).take a)) := Lib.hid fun a => by rw [extract_str, sl, List.drop_zero]
              have HVX : Hid (∀ a, (str (sl t (k + 1) (n - 1))).extract a (sl t (k + 1) (n - 1)).length = str ((sl t (k + 1) (n - 1)).drop a)) := Lib.hid fun a => by rw [extract_str, sl, List.take_length]
              obtain ⟨X, hX⟩ : ∃ X, X = sl t (k + 1) (n - 1) := ⟨_, rfl⟩
              rw [← hX] at HON hXl eX IX zX HKX HVX
              have HXX := Lib.hid hX
              clear hX
              obtain ⟨Y, hY⟩ : ∃ Y, Y = str X := ⟨_, rfl⟩
              rw [← hY] at eX IX zX HKX HVX
              have HYY := Lib.hid hY
              clear hY
              go_upto_block 4 with fail
              go_cut [8] from 77 to 88 (fun v wx => ∃ a : Nat, v = .int .i64 a ∧ a ≤ X.length ∧ Hid ((X.take a).all (· != 61) = true) ∧ Hid (a < X.length → X.getD a 0 = 61) ∧ wx = wc.drewN q)
              case first =>
                go_wp2_with fail
                go_loop [8] (fun i => ∃ a : Nat, a ≤ X.length ∧ i = .int .i64 a ∧ Hid ((X.take a).all (· != 61) = true)) (fun i => X.length - (intOf i).toNat)
                case atStart => exact ⟨0, Nat.zero_le _, rfl, Lib.hid rfl⟩
                case round =>
                  obtain ⟨a, ha, rfl, hA2⟩ := hrel
                  by_cases hlt : a < X.length
                  · have HLT := Lib.hid hlt
                    have i1 := IX.out a (by omega)
                    have g5 : (a : Int) < (Y.size : Int) := by omega
                    by_cases h61 : X.getD a 0 = 61
                    · rw [h61, show (((61 : UInt8).toNat : Nat) : Int) = 61 from rfl] at i1
                      have HBD2 : Hid (a < X.length → X.getD a 0 = 61) := Lib.hid fun _ => h61
                      clear h61
                      go_wp2
                      go_meet
                      exact ⟨a, rfl, ha, hA2, HBD2, rfl⟩
                    · have HP2 := Lib.hid (all_next (p := (· != 61)) hA2.out hlt (by rw [bne_iff_ne]; exact h61))
                      obtain ⟨x, hxx⟩ : ∃ x, x = (X.getD a 0).toNat := ⟨_, rfl⟩
                      have hx10 : ¬ x = 61 := fun e => h61 (UInt8.toNat_inj.1 (by rw [← hxx, e]; rfl))
                      rw [← hxx] at i1
                      have cb5 : ((x : Int) == 61) = false := by rw [beq_eq_false_iff_ne]; omega
                      have cb6 : ¬ (x : Int) = 61 := by omega
                      clear hxx h61
                      go_wp2
                      go_round
                      case rel => exact ⟨a + 1, Nat.succ_le_of_lt HLT.out, by go_num, HP2⟩
                      case measure => have := HLT.out; simp [intOf]; omega
                  · have g5 : ¬ (a : Int) < (Y.size : Int) := by omega
                    have HBD2 : Hid (a < X.length → X.getD a 0 = 61) := Lib.hid fun h => absurd h hlt
                    go_wp2
                    go_meet
                    exact ⟨a, rfl, ha, hA2, HBD2, rfl⟩
              case rest =>
                obtain ⟨a, rfl, ha, hA2, HBD2, rfl⟩ := hcut
                have HQ2 : Hid (rowC (wc.drewN q) (w.heap.size + 1) #[c0, c1, c2] 61) := Lib.hid hQ.out
                have HZ2 : Hid (rowC (wc.drewN q) w.heap.size none3 61) := Lib.hid hZ.out
                have HB2 := Lib.hid (below_drewN hB.out q)
                by_cases hae : a = X.length
                · have HE := Lib.hid (HE.out (by
                    rw [HON.out, if_neg]
                    intro hm
                    have h7 := hA2.out
                    rw [hae, List.take_length] at h7
                    have h8 := List.all_eq_true.1 h7 _ hm
                    revert h8
                    decide))
                  have g5 : ((a : Int) == (X.length : Int)) = true := by rw [beq_iff_eq]; omega
                  have g6 : (a : Int) = (X.length : Int) := by omega
                  go_wp2_with (first
                    | ((with_reducible show wpList _ _ _ (⟨some 93, .load _ _, _, _, _, _⟩ :: _) _ _); refine wpList_load_row rfl 61 _ rfl (w.heap.size + 1) rfl 61 #[c0, c1, c2] (0, 0) _ HQ2.out Tryz.underlying61 rfl HI.out ?_)
                    | ((with_reducible show wpList _ _ _ (⟨none, .store _ (.tmp 2) _, _, _, _, _⟩ :: _) _ _); refine wpList_store_row rfl 61 _ _ rfl w.heap.size #[c0, c1, c2] rfl rfl 61 none3 HZ2.out HI.out rfl HONE.out ?_))
                  exact bodyPost_ret (results_row_tmp rfl _ _ w.heap.size 61 #[c0, c1, c2] _ rfl (rowC_setRow HZ2.out _) Tryz.underlying61 rfl HI.out (.bool false) rfl) rfl ⟨by unfold RecE; rw [HE.out]; exact ⟨c0, c1, c2, rfl, HONE.out⟩, below_setRow HB2.out (Nat.le_refl _) _⟩
                · have haX : a < X.length := by omega
                  have g5 : ((a : Int) == (X.length : Int)) = false := by rw [beq_eq_false_iff_ne]; omega
                  have g6 : ¬ (a : Int) = (X.length : Int) := by omega
                  obtain ⟨K, hK⟩ : ∃ K, K = X.take a := ⟨_, rfl⟩
                  obtain ⟨V, hV⟩ : ∃ V, V = X.drop (a + 1) := ⟨_, rfl⟩
                  have HSR : Hid (recsR s ⟨none, none, none⟩ = recsR (t.drop n) (setR r K V)) := Lib.hid (by
                    rw [hR.out]
                    refine recsR_step HT0.out ?_ r
                    rw [HON.out]
                    obtain ⟨h7, h8⟩ := eq_at haX hA2.out (HBD2.out haX)
                    rw [if_pos h7, h8.1, h8.2, ← hK, ← hV])
                  have kx := HKX.out a
                  rw [← hK] at kx
                  have vx := HVX.out (a + 1)
                  rw [← hV] at vx
                  have ha9 : (a : Int) ≤ 1000000000 := by omega
                  have ha8 : (a : Int) + 1 ≤ (X.length : Int) := by omega
                  clear hK hV hXl
                  have HW1 : Hid (Below (wc.drewN q).heap.size (wc.drewN q) ((wc.drewN q).alloc (.cells keys3 83))) := Lib.hid ((Below.refl _ _).alloc (Nat.le_refl _) _)
                  go_upto_region 16 with (first
                    | ((with_reducible show wpList _ _ _ (⟨some 94, .build _ _, _, _, _, _⟩ :: _) _ _); refine wpList_build_as rfl 83 _ rfl keys3 (by kernel_rfl) ?_)
                    | ((with_reducible show wpList _ _ _ (⟨none, .store _ (.tmp 9) _, _, _, _, _⟩ :: _) _ _); refine wpList_store_last rfl 83 _ _ rfl (wc.drewN q).heap.size keys3 rfl rfl 83 _ rfl HI3.out rfl keys_one ?_))
                  have HQ3 := Lib.hid (rowC_below HQ2.out HW1.out (rowC_lt HQ2.out))
                  have HZ3 := Lib.hid (rowC_below HZ2.out HW1.out (rowC_lt HZ2.out))
                  have HB3 := Lib.hid (HB2.out.trans (HW1.out.mono HB2.out.size))
                  have HC3 : Hid (RcAt (w.heap.size + 2) ((wc.drewN q).alloc (.cells keys3 83)) c0 c1 c2 r) := Lib.hid ((hC.out.chg (s := fun _ => False) ((Chg.refl _ _).drewN q) (fun _ _ => id)).chg (s := fun _ => False) (Chg.of_below HW1.out) (fun _ _ => id))
                  have HK3 : Hid (rowC ((wc.drewN q).alloc (.cells keys3 83)) wc.heap.size keys3 83) := Lib.hid (rowC_new (wc.drewN q) _ _)
                  have HL3 : Hid (w.heap.size + 2 ≤ wc.heap.size) := Lib.hid (by have h9 : w.heap.size + 1 < wc.heap.size := rowC_lt HQ2.out; omega)
                  generalize (wc.drewN q).alloc (.cells keys3 83) = wk at *
                  obtain ⟨bK, hbK⟩ : ∃ b, b = wc.heap.size := ⟨_, rfl⟩
                  rw [← hbK] at HK3 HL3
                  rw [← hbK]
                  clear hbK HW1 HQ2 HZ2 HB2 hQ hZ hB hC HONE HE HON HKX HVX HBD HBD2 hA hA2 IS IX hR
                  go_upto_region 17 with (fail)
                  go_loopw [10] (fun i wr => ∃ (j : Nat) (d0 d1 d2 : Value), j ≤ 3 ∧ i = .int .i64 j ∧ Hid (rowC wr (w.heap.size + 1) #[d0, d1, d2] 61) ∧ Hid (rowC wr w.heap.size none3 61) ∧ Hid (rowC wr bK keys3 83) ∧ Hid (RcAt (w.heap.size + 2) wr d0 d1 d2 (rJ j r K V)) ∧ Hid (Below w.heap.size w wr)) (fun i _ => 3 - (intOf i).toNat)
                  case atStart => exact ⟨0, c0, c1, c2, by omega, rfl, HQ3, HZ3, HK3, HC3, HB3⟩
                  case round =>
                    obtain ⟨j, d0, d1, d2, hj, rfl, hQ, hZ, hKK, hC, hB⟩ := hrel
                    have hcj : j = 0 ∨ j = 1 ∨ j = 2 ∨ j = 3 := by omega
                    rcases hcj with rfl | rfl | rfl | rfl
                    · rw [show ((0 : Nat) : Int) = 0 from rfl]
                      have ck : wr.cell? ⟨bK, 0, none⟩ = some (.string ⟨#[112, 97, 116, 104]⟩) := rowC_cell hKK.out 0
                      have qk : (([112, 97, 116, 104] : List UInt8) == (str K).toList) = decide (kPath = K) := eq_keyL kPath K
                      have g7 : (a : Int) ≤ (Y.size : Int) := by omega
                      by_cases hkk : kPath = K
                      · rw [decide_eq_true hkk] at qk
                        have HKE := Lib.hid hkk
                        clear hkk
                        go_upto_region 19 with (fail)
                        go_quiet (fail)
                        have cq : ∀ o, ((wr.drewN nq).alloc o).cell? ⟨w.heap.size + 1, 0, none⟩ = some d0 := fun o => rowC_cell (rowC_alloc (rowC_drewN hQ.out nq) o) 0
                        have fq : ∀ o, ((wr.drewN nq).alloc o).frozen? ⟨w.heap.size + 1, 0, none⟩ = false := fun o => rowC_free (rowC_alloc (rowC_drewN hQ.out nq) o) 0
                        go_upto_region 18 with (fail)
                        obtain ⟨wf, hwf⟩ : ∃ wf, wf = ((wr.drewN nq).alloc (.cells #[.string (str V)] 9)).setCell ⟨w.heap.size + 1, 0, none⟩ (.slice (some ⟨wr.heap.size, 0, none⟩) 1 1) := ⟨_, rfl⟩
                        rw [← hwf]
                        obtain ⟨h1, h2, h3, h4, h5, h6⟩ := putM (nq := nq) (j := 0) (v := V) hQ.out hZ.out hKK.out HL3.out hB.out wf hwf
                        have HC5 := Lib.hid ((hC.out).chg h5 (fun k hk e => by omega))
                        have HE5 : Hid (RcAt (w.heap.size + 2) wf (.slice (some ⟨wr.heap.size, 0, none⟩) 1 1) d1 d2 (rJ 1 r K V)) := Lib.hid (by
                          have h7 := HC5.out
                          rw [← HKE.out] at h7 ⊢
                          rw [rJ_at0] at h7
                          rw [rJ_eq0]
                          exact ⟨h6, h7.l, h7.s⟩)
                        have H1 : Hid (rowC wf (w.heap.size + 1) #[.slice (some ⟨wr.heap.size, 0, none⟩) 1 1, d1, d2] 61) := Lib.hid h1
                        have H2 := Lib.hid h2
                        have H3 := Lib.hid h3
                        have H4 := Lib.hid h4
                        clear h1 h2 h3 h4 h5 h6 hwf cq fq ck qk
                        go_wp2
                        go_roundw
                        case rel => exact ⟨1, _, d1, d2, by omega, rfl, H1, H2, H3, HE5, H4⟩
                        case measure => simp [intOf]
                      · rw [decide_eq_false hkk] at qk
                        have HKE := Lib.hid hkk
                        clear hkk
                        have HC5 := fun nq => Lib.hid (hC.out.chg (s := fun _ => False) ((Chg.refl _ _).drewN nq) (fun _ _ => id))
                        go_upto_region 19 with (fail)
                        go_quiet (fail)
                        go_wp2
                        go_roundw
                        case rel => exact ⟨1, d0, d1, d2, by omega, rfl, Lib.hid (rowC_drewN hQ.out nq), Lib.hid (rowC_drewN hZ.out nq), Lib.hid (rowC_drewN hKK.out nq), Lib.hid (by rw [rJ_ne0 HKE.out]; exact (HC5 nq).out), Lib.hid (below_drewN hB.out nq)⟩
                        case measure => simp [intOf]
                    · rw [show ((1 : Nat) : Int) = 1 from rfl]
                      have ck : wr.cell? ⟨bK, 1, none⟩ = some (.string ⟨#[108, 105, 110, 107, 112, 97, 116, 104]⟩) := rowC_cell hKK.out 1
                      have qk : (([108, 105, 110, 107, 112, 97, 116, 104] : List UInt8) == (str K).toList) = decide (kLink = K) := eq_keyL kLink K
                      have g7 : (a : Int) ≤ (Y.size : Int) := by omega
                      by_cases hkk : kLink = K
                      · rw [decide_eq_true hkk] at qk
                        have HKE := Lib.hid hkk
                        clear hkk
                        go_upto_region 19 with (fail)
                        go_quiet (fail)
                        have cq : ∀ o, ((wr.drewN nq).alloc o).cell? ⟨w.heap.size + 1, 1, none⟩ = some d1 := fun o => rowC_cell (rowC_alloc (rowC_drewN hQ.out nq) o) 1
                        have fq : ∀ o, ((wr.drewN nq).alloc o).frozen? ⟨w.heap.size + 1, 1, none⟩ = false := fun o => rowC_free (rowC_alloc (rowC_drewN hQ.out nq) o) 1
                        go_upto_region 18 with (fail)
                        obtain ⟨wf, hwf⟩ : ∃ wf, wf = ((wr.drewN nq).alloc (.cells #[.string (str V)] 9)).setCell ⟨w.heap.size + 1, 1, none⟩ (.slice (some ⟨wr.heap.size, 0, none⟩) 1 1) := ⟨_, rfl⟩
                        rw [← hwf]
                        obtain ⟨h1, h2, h3, h4, h5, h6⟩ := putM (nq := nq) (j := 1) (v := V) hQ.out hZ.out hKK.out HL3.out hB.out wf hwf
                        have HC5 := Lib.hid ((hC.out).chg h5 (fun k hk e => by omega))
                        have HE5 : Hid (RcAt (w.heap.size + 2) wf d0 (.slice (some ⟨wr.heap.size, 0, none⟩) 1 1) d2 (rJ 2 r K V)) := Lib.hid (by
                          have h7 := HC5.out
                          rw [← HKE.out] at h7 ⊢
                          rw [rJ_at1] at h7
                          rw [rJ_eq1]
                          exact ⟨h7.p, h6, h7.s⟩)
                        have H1 : Hid (rowC wf (w.heap.size + 1) #[d0, .slice (some ⟨wr.heap.size, 0, none⟩) 1 1, d2] 61) := Lib.hid h1
                        have H2 := Lib.hid h2
                        have H3 := Lib.hid h3
                        have H4 := Lib.hid h4
                        clear h1 h2 h3 h4 h5 h6 hwf cq fq ck qk
                        go_wp2
                        go_roundw
                        case rel => exact ⟨2, d0, _, d2, by omega, rfl, H1, H2, H3, HE5, H4⟩
                        case measure => simp [intOf]
                      · rw [decide_eq_false hkk] at qk
                        have HKE := Lib.hid hkk
                        clear hkk
                        have HC5 := fun nq => Lib.hid (hC.out.chg (s := fun _ => False) ((Chg.refl _ _).drewN nq) (fun _ _ => id))
                        go_upto_region 19 with (fail)
                        go_quiet (fail)
                        go_wp2
                        go_roundw
                        case rel => exact ⟨2, d0, d1, d2, by omega, rfl, Lib.hid (rowC_drewN hQ.out nq), Lib.hid (rowC_drewN hZ.out nq), Lib.hid (rowC_drewN hKK.out nq), Lib.hid (by rw [rJ_ne1 HKE.out]; exact (HC5 nq).out), Lib.hid (below_drewN hB.out nq)⟩
                        case measure => simp [intOf]
                    · rw [show ((2 : Nat) : Int) = 2 from rfl]
                      have ck : wr.cell? ⟨bK, 2, none⟩ = some (.string ⟨#[115, 105, 122, 101]⟩) := rowC_cell hKK.out 2
                      have qk : (([115, 105, 122, 101] : List UInt8) == (str K).toList) = decide (kSize = K) := eq_keyL kSize K
                      have g7 : (a : Int) ≤ (Y.size : Int) := by omega
                      by_cases hkk : kSize = K
                      · rw [decide_eq_true hkk] at qk
                        have HKE := Lib.hid hkk
                        clear hkk
                        go_upto_region 19 with (fail)
                        go_quiet (fail)
                        have cq : ∀ o, ((wr.drewN nq).alloc o).cell? ⟨w.heap.size + 1, 2, none⟩ = some d2 := fun o => rowC_cell (rowC_alloc (rowC_drewN hQ.out nq) o) 2
                        have fq : ∀ o, ((wr.drewN nq).alloc o).frozen? ⟨w.heap.size + 1, 2, none⟩ = false := fun o => rowC_free (rowC_alloc (rowC_drewN hQ.out nq) o) 2
                        go_upto_region 18 with (fail)
                        obtain ⟨wf, hwf⟩ : ∃ wf, wf = ((wr.drewN nq).alloc (.cells #[.string (str V)] 9)).setCell ⟨w.heap.size + 1, 2, none⟩ (.slice (some ⟨wr.heap.size, 0, none⟩) 1 1) := ⟨_, rfl⟩
                        rw [← hwf]
                        obtain ⟨h1, h2, h3, h4, h5, h6⟩ := putM (nq := nq) (j := 2) (v := V) hQ.out hZ.out hKK.out HL3.out hB.out wf hwf
                        have HC5 := Lib.hid ((hC.out).chg h5 (fun k hk e => by omega))
                        have HE5 : Hid (RcAt (w.heap.size + 2) wf d0 d1 (.slice (some ⟨wr.heap.size, 0, none⟩) 1 1) (rJ 3 r K V)) := Lib.hid (by
                          have h7 := HC5.out
                          rw [← HKE.out] at h7 ⊢
                          rw [rJ_at2] at h7
                          rw [rJ_eq2]
                          exact ⟨h7.p, h7.l, h6⟩)
                        have H1 : Hid (rowC wf (w.heap.size + 1) #[d0, d1, .slice (some ⟨wr.heap.size, 0, none⟩) 1 1] 61) := Lib.hid h1
                        have H2 := Lib.hid h2
                        have H3 := Lib.hid h3
                        have H4 := Lib.hid h4
                        clear h1 h2 h3 h4 h5 h6 hwf cq fq ck qk
                        go_wp2
                        go_roundw
                        case rel => exact ⟨3, d0, d1, _, by omega, rfl, H1, H2, H3, HE5, H4⟩
                        case measure => simp [intOf]
                      · rw [decide_eq_false hkk] at qk
                        have HKE := Lib.hid hkk
                        clear hkk
                        have HC5 := fun nq => Lib.hid (hC.out.chg (s := fun _ => False) ((Chg.refl _ _).drewN nq) (fun _ _ => id))
                        go_upto_region 19 with (fail)
                        go_quiet (fail)
                        go_wp2
                        go_roundw
                        case rel => exact ⟨3, d0, d1, d2, by omega, rfl, Lib.hid (rowC_drewN hQ.out nq), Lib.hid (rowC_drewN hZ.out nq), Lib.hid (rowC_drewN hKK.out nq), Lib.hid (by rw [rJ_ne2 HKE.out]; exact (HC5 nq).out), Lib.hid (below_drewN hB.out nq)⟩
                        case measure => simp [intOf]
                    · rw [show ((3 : Nat) : Int) = 3 from rfl]
                      have HS3 : Hid (rJ 3 r K V = setR r K V) := Lib.hid rfl
                      have HDD := HDR.out n hnl
                      have HDL : Hid ((t.drop n).length < t.length) := Lib.hid (by rw [List.length_drop]; omega)
                      have g8 : (n : Int) ≤ (S.size : Int) := by omega
                      have g9 : (0 : Int) ≤ (n : Int) := by omega
                      have HZT := Lib.hid hz
                      go_wp2
                      go_roundw
                      case rel => exact ⟨t.drop n, setR r K V, d0, d1, d2, rfl, by have := HDL.out; omega, HSR, hZ, hQ, by have := hC; rwa [HS3.out] at this, hB⟩
                      case measure =>
                        show (str (t.drop n)).size < S.size
                        rw [str_size, HZT.out]
                        exact HDL.out
end Go.Proofs.YtmgpofdmoaafoaaGreatDoor
#print axioms Go.Proofs.YtmgpofdmoaafoaaGreatDoor.recordsR_any
