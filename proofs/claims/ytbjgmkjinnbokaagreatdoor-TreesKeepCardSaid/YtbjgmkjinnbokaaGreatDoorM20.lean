/- Merged: TtW, Byt. -/
import Derived.Test.YtbjgmkjinnbokaaGreatDoorM19
import Derived.Test.YtbjgmkjinnbokaaGreatDoorM01
/- Layer 16: the program's Apply. -/
namespace Go.Proofs.YtbjgmkjinnbokaaGreatDoor
open Go.RowKit

/-! ### What a ground keeps -/
def SzG (g : List Pl) : Prop := ∀ p ∈ g, p.nd.path.length ≤ 200 ∧ p.nd.data.length ≤ 65536
theorem may_sz {n : Nd} (h : mayN n = true) : n.path.length ≤ 200 ∧ n.data.length ≤ 65536 := by
  unfold mayN at h
  simp only [Bool.and_eq_true, decide_eq_true_eq] at h
  obtain ⟨_, _, _, h4, h5⟩ := h
  refine ⟨by have := clean_len n.path; rw [h4] at this; exact this, ?_⟩
  unfold kindN at h5
  split at h5
  · exact of_decide_eq_true h5
  · split at h5
    · rw [of_decide_eq_true h5]; exact Nat.zero_le _
    · split at h5
      · rw [Bool.and_eq_true] at h5
        have := of_decide_eq_true h5.2
        omega
      · cases h5
theorem sz_put {g : List Pl} (h : SzG g) {p : Pl} (h1 : p.nd.path.length ≤ 200) (h2 : p.nd.data.length ≤ 65536) : SzG (putG g p) := fun q hq => by
  rcases put_mem.1 hq with rfl | ⟨h3, _⟩
  · exact ⟨h1, h2⟩
  · exact h q h3
theorem sz_filter {g : List Pl} (h : SzG g) (f : Pl → Bool) : SzG (g.filter f) := fun q hq => h q (List.mem_filter.1 hq).1
structure OkG (g : List Pl) : Prop where
  r : Rise g
  s : SzG g
theorem ok_put {g : List Pl} (h : OkG g) {p : Pl} (h1 : p.nd.path.length ≤ 200) (h2 : p.nd.data.length ≤ 65536) : OkG (putG g p) := ⟨rise_put h.r p, sz_put h.s h1 h2⟩
theorem ok_filter {g : List Pl} (h : OkG g) (f : Pl → Bool) : OkG (g.filter f) := ⟨rise_filter h.r f, sz_filter h.s f⟩
theorem ok_ground {l : List Nd} (h : ∀ n ∈ l, mayN n = true) : OkG (groundOf l) := by
  refine ⟨ground_rise l, ?_⟩
  have key : ∀ (l : List Nd) (g : List Pl), SzG g → (∀ n ∈ l, mayN n = true) → SzG (l.foldl (fun g n => putG g ⟨n, 0⟩) g) := by
    intro l
    induction l with
    | nil => intro g hg _; exact hg
    | cons n r ih =>
      intro g hg hm
      have := may_sz (hm n (by simp))
      exact ih _ (sz_put hg this.1 this.2) (fun m hmm => hm m (by simp [hmm]))
  exact key l [] (fun p hp => by cases hp) h
theorem enterG_ok (k : Int) : ∀ (n : Nat) (d : List UInt8) (g g' : List Pl), d.length ≤ n → d.length ≤ 200 → OkG g → enterG k d g = some g' → OkG g'
  | 0, d, g, g', hn, _, hg, h => by
    have : d = [] := List.eq_nil_of_length_eq_zero (by omega)
    subst this
    rw [enterG_nil] at h
    cases h
    exact hg
  | n + 1, d, g, g', hn, h2, hg, h => by
    by_cases hd : d = []
    · subst hd
      rw [enterG_nil] at h
      cases h
      exact hg
    · rw [enterG_step k hd] at h
      have hp := parent_lt hd
      cases he : enterG k (parentL d) g with
      | none => rw [he] at h; cases h
      | some g1 =>
        rw [he] at h
        have h1 := enterG_ok k n (parentL d) g g1 (by omega) (by omega) hg he
        simp only at h
        cases hl : lookG g1 d with
        | none =>
          rw [hl] at h
          simp only at h
          cases h
          exact ok_put h1 h2 (Nat.zero_le _)
        | some p =>
          rw [hl] at h
          simp only at h
          have hs := h1.s p (look_some hl).1
          split at h
          · cases h
            exact ok_put h1 hs.1 hs.2
          · cases h
theorem nodeG_may {g : List Pl} {x : En} {p : List UInt8} (h : (nodeG g x p).2 = 0) : mayN (nodeG g x p).1 = true := by
  have pick : ∀ {n : Nd}, (if mayN n = true then (n, (0 : Int)) else (default, 2)).2 = 0 → mayN (if mayN n = true then (n, (0 : Int)) else (default, 2)).1 = true := fun {n} h => by
    cases hm : mayN n
    · rw [hm] at h; cases h
    · exact hm
  unfold nodeG at h ⊢
  by_cases h3 : x.kind = 3
  · rw [if_pos h3] at h ⊢
    by_cases h4 : (linkedG g x.to).2 = 0
    · rw [if_pos h4] at h ⊢
      exact pick h
    · rw [if_neg h4] at h
      exact absurd h h4
  · rw [if_neg h3] at h ⊢
    exact pick h
theorem layG_ok {k : Int} {g : List Pl} {n : Nd} (hg : OkG g) (hm : mayN n = true) : OkG (layG k g n) := by
  have := may_sz hm
  unfold layG
  refine ok_put ?_ this.1 this.2
  split
  · exact ok_filter hg _
  · exact hg
theorem stepT_ok {k : Int} {g : List Pl} {x : En} (hg : OkG g) (h : (stepT k g x).2 = 0) : OkG (stepT k g x).1 := by
  by_cases hce : (cleanL x.name).2 = 0
  rotate_left
  · rw [stepT_err hce]
    exact hg
  · by_cases hp : (cleanL x.name).1 = []
    · rw [stepT_root hce hp]
      exact hg
    · cases hw : (whiteL (baseL (cleanL x.name).1)).2.2 with
      | true =>
        rw [stepT_wh rfl hce hp hw]
        exact ok_filter hg _
      | false =>
        rw [stepT_in rfl hce hp hw] at h ⊢
        have hcl := clean_len x.name
        have hpl := parent_le (cleanL x.name).1
        cases he : enterG k (parentL (cleanL x.name).1) g with
        | none => rw [he] at h; cases h
        | some g1 =>
          rw [he] at h
          have h1 := enterG_ok k _ (parentL (cleanL x.name).1) g g1 (Nat.le_refl _) (by omega) hg he
          simp only at h ⊢
          split at h
          · rename_i h2
            rw [if_pos h2]
            exact layG_ok h1 (nodeG_may h2)
          · rename_i h2
            exact absurd h h2
theorem stepsT_ok {k : Int} : ∀ (l : List En) {g : List Pl}, OkG g → (stepsT k g l).2 = 0 → OkG (stepsT k g l).1
  | [], _, hg, _ => hg
  | x :: r, g, hg, h => by
    rw [stepsT_cons] at h ⊢
    by_cases h0 : (stepT k g x).2 = 0
    · rw [if_pos h0] at h ⊢
      exact stepsT_ok r (stepT_ok hg h0) h
    · rw [if_neg h0] at h
      exact absurd h h0
theorem laysT_ok {k : Int} {l : List En} {g : List Pl} (hg : OkG g) (h : (laysT k g l).2 = 0) : OkG (laysT k g l).1 ∧ (laysT k g l).1.length ≤ 400 := by
  unfold laysT at h ⊢
  split
  · rename_i h1; rw [if_pos h1] at h; cases h
  · rename_i h1
    rw [if_neg h1] at h
    split
    · rename_i h2
      rw [if_pos h2] at h
      split
      · rename_i h3; rw [if_pos h3] at h; cases h
      · exact ⟨stepsT_ok l hg h2, by show (stepsT k g l).1.length ≤ 400; omega⟩
    · rename_i h2
      rw [if_neg h2] at h
      exact absurd h h2
/-! ### Apply -/
theorem applyT_bad {l : List Nd} {x : List En} (h : checkT l ≠ 0) : applyT l x = ([], checkT l) := by unfold applyT; rw [if_neg h]
theorem applyT_no {l : List Nd} {x : List En} (h : checkT l = 0) (h2 : (laysT 1 (groundOf l) x).2 ≠ 0) : applyT l x = ([], (laysT 1 (groundOf l) x).2) := by unfold applyT; rw [if_pos h, if_neg h2]
theorem applyT_ok {l : List Nd} {x : List En} (h : checkT l = 0) (h2 : (laysT 1 (groundOf l) x).2 = 0) : applyT l x = ((laysT 1 (groundOf l) x).1.map Pl.nd, 0) := by unfold applyT; rw [if_pos h, if_pos h2]
theorem check_zero {l : List Nd} (h : checkT l = 0) : l.length ≤ 400 ∧ treeB l = true := by
  unfold checkT at h
  split at h
  · cases h
  · split at h
    · rename_i h2; exact ⟨by omega, h2⟩
    · cases h
theorem tree_may {l : List Nd} (h : treeB l = true) : ∀ n ∈ l, mayN n = true := fun n hn => by
  obtain ⟨i, hi, rfl⟩ := List.getElem_of_mem hn
  exact ((treeB_iff l).1 h i _ (List.getElem?_eq_getElem hi)).1
set_option maxRecDepth 100000 in
set_option maxHeartbeats 16000000 in
theorem apply_any (l : List Nd) (ad : Option Addr) (c : Nat) (hl : l.length ≤ maxLen) (hlc : l.length ≤ c) (hp : ∀ n ∈ l, n.path.length ≤ 900000) (x : List En) (ax : Option Addr) (cx : Nat) (hx : x.length ≤ maxLen) (hsm : ∀ y ∈ x, y.name.length ≤ 900000 ∧ y.to.length ≤ 900000)
    (w : World) (h : NodesAt w ad l) (hE : EnsAt w ax x) :
    Calls Tryz.prog 6 #[.slice ad l.length c, .slice ax x.length cx] w fun e w' =>
      (∃ a' c', e = .returned (.tuple #[.slice a' (applyT l x).1.length c', .int .i64 (applyT l x).2]) ∧ (applyT l x).1.length ≤ c' ∧ NodesAt w' a' (applyT l x).1) ∧ Below w.heap.size w w' := by
  have CC := check_any l ad c hl hlc hp w h
  have HN := Lib.hid h
  have HE := Lib.hid hE
  by_cases hc0 : checkT l = 0
  rotate_left
  · have HR := Lib.hid (applyT_bad (x := x) hc0)
    generalize checkT l = ce at *
    have g1 : (ce != 0) = true := by rw [bne_iff_ne]; exact hc0
    clear hc0
    go_enter Tryz.func6, Tryz.ntmps6
    go_wp2_with (go_at_call 9; (refine CC.mono ?_; rintro e w1 ⟨rfl, hB1⟩))
    go_ret2
    exact ⟨⟨none, 0, by rw [HR.out]; rfl, by rw [HR.out]; exact Nat.le_refl _, by rw [HR.out]; exact NodesAt.nil _ _⟩, hB1⟩
  · obtain ⟨h400, htree⟩ := check_zero hc0
    have hmay := tree_may htree
    have hok := ok_ground hmay
    have HOK := Lib.hid (fun (h2 : (laysT 1 (groundOf l) x).2 = 0) => laysT_ok hok h2)
    have HNO := Lib.hid (fun (h2 : (laysT 1 (groundOf l) x).2 ≠ 0) => applyT_no hc0 h2)
    have HYES := Lib.hid (fun (h2 : (laysT 1 (groundOf l) x).2 = 0) => applyT_ok hc0 h2)
    have CG := fun W (hW : NodesAt W ad l) => groundOf_any l ad c (by omega) hp W hW
    have hgl := ground_len l
    have CL := fun (B M : Nat) W (hb : Below w.heap.size w W) (hB : w.heap.size ≤ B) (hM : w.heap.size ≤ M) (hG : GrAt W B M (groundOf l) 0) => lay_any x ax cx hx hsm B M (groundOf l) (by omega) 0 (by omega) (by omega) w HE.out W hb hB hM hG
    rw [hc0] at CC
    rw [show (0 : Int) + 1 = 1 from rfl] at CL
    clear hc0 hmay htree hok
    generalize hgr : groundOf l = g0 at *
    generalize laysT 1 g0 x = LT at *
    obtain ⟨g1, e1⟩ := LT
    simp only at CL HOK HNO HYES
    have HL4 : Hid (l.length ≤ 1000000) := Lib.hid (by omega)
    by_cases he1 : e1 = 0
    rotate_left
    · have HR := Lib.hid (HNO.out he1)
      have gg : (e1 != 0) = true := by rw [bne_iff_ne]; exact he1
      clear HNO HYES HOK he1
      go_enter Tryz.func6, Tryz.ntmps6
      go_wp2_with (first
        | (go_at_call 9; (refine CC.mono ?_; rintro e w1 ⟨rfl, hB1⟩; have HB1 := Lib.hid hB1; have HN1 := Lib.hid (HN.out.below hB1); clear hB1))
        | (go_at_call 14; (refine (CG _ HN1.out).mono ?_; rintro e w2 ⟨rfl, hr2, hm2, hb2⟩; have HB2 := Lib.hid (HB1.out.trans (hb2.mono HB1.out.size)); have HG2 := Lib.hid (GrAt.mk hr2 hm2); have HZ2 := Lib.hid HB1.out.size; clear hr2 hm2 hb2))
        | (go_at_call 15; (refine (CL _ _ _ HB2.out (by have := HZ2.out; omega) (by have := HZ2.out; omega) HG2.out).mono ?_; rintro e w3 ⟨rfl, _, hC3⟩; have HB3 : Hid (Below w.heap.size w w3) := Lib.hid (HB2.out.trans (Chg.below hC3 HB2.out.size (fun j h1 h2 => by have := HZ2.out; omega))); clear hC3)))
      go_ret2
      exact ⟨⟨none, 0, by rw [HR.out]; rfl, by rw [HR.out]; exact Nat.le_refl _, by rw [HR.out]; exact NodesAt.nil _ _⟩, HB3.out⟩
    · subst he1
      have HR := Lib.hid (HYES.out rfl)
      obtain ⟨hok1, hlen1⟩ := HOK.out rfl
      have CN := fun (B M : Nat) W (hG : GrAt W B M g1 1) => nodes_any B M g1 hok1.r (by omega) (fun p hp => by have := hok1.s p hp; omega) 1 W hG
      have HLN : Hid ((g1.map Pl.nd).length = g1.length) := Lib.hid (List.length_map _)
      clear HNO HYES HOK hok1
      obtain ⟨gl, hgl1⟩ : ∃ gl, gl = g1.length := ⟨_, rfl⟩
      rw [← hgl1] at CN HLN
      clear hgl1
      go_enter Tryz.func6, Tryz.ntmps6
      go_wp2_with (first
        | (go_at_call 9; (refine CC.mono ?_; rintro e w1 ⟨rfl, hB1⟩; have HB1 := Lib.hid hB1; have HN1 := Lib.hid (HN.out.below hB1); clear hB1))
        | (go_at_call 14; (refine (CG _ HN1.out).mono ?_; rintro e w2 ⟨rfl, hr2, hm2, hb2⟩; have HB2 := Lib.hid (HB1.out.trans (hb2.mono HB1.out.size)); have HG2 := Lib.hid (GrAt.mk hr2 hm2); have HZ2 := Lib.hid HB1.out.size; clear hr2 hm2 hb2))
        | (go_at_call 15; (refine (CL _ _ _ HB2.out (by have := HZ2.out; omega) (by have := HZ2.out; omega) HG2.out).mono ?_; rintro e w3 ⟨rfl, hG3, hC3⟩; have HG3 : Hid (GrAt w3 (w1.heap.size + 1) w1.heap.size g1 1) := Lib.hid (by first | exact hG3 | exact hG3 rfl | exact hG3 trivial); have HB3 : Hid (Below w.heap.size w w3) := Lib.hid (HB2.out.trans (Chg.below hC3 HB2.out.size (fun j h1 h2 => by have := HZ2.out; omega))); clear hC3 hG3))
        | (go_at_call 16; (refine (CN _ _ _ HG3.out).mono ?_; rintro e w4 ⟨⟨a4, c4, rfl, hcap, hn4⟩, hb4⟩)))
      go_ret2
      exact ⟨⟨a4, c4, by rw [HR.out, HLN.out]; rfl, by rw [HR.out, HLN.out]; exact hcap, by rw [HR.out]; exact hn4⟩, HB3.out.trans (hb4.mono HB3.out.size)⟩
end Go.Proofs.YtbjgmkjinnbokaaGreatDoor
#print axioms Go.Proofs.YtbjgmkjinnbokaaGreatDoor.apply_any

/- Slices of bytes as texts (wants the type []uint8 of the cut). -/
namespace Go.Proofs.YtbjgmkjinnbokaaGreatDoor
open Go.RowKit
/-- 'string(b)' of a slice of the call's own. -/
theorem conv_own {w : World} {base : Nat} {v : Value} {n : Nat} {l : List UInt8} (h : w.ownsRow base 5 1 v n (l.map byteV)) (hn : l.length = n) :
    ∃ a cap, v = .slice a n cap ∧ (convert 48 9 (.slice a n cap)).run Tryz.prog w = .ok (.string (str l)) w := by
  subst hn
  have hh := h
  obtain ⟨_, h⟩ := h
  rcases h with ⟨rfl, h0⟩ | ⟨g, cap, cur, rfl, _, _, _, _, _, _⟩
  · have : l = [] := List.eq_nil_of_length_eq_zero h0
    subst this
    exact ⟨none, 0, rfl, run_convert_bytes_nil w 48 5 Tryz.underlying48 Tryz.underlying5 0 0 9 Tryz.underlying9⟩
  · refine ⟨_, cap, rfl, ?_⟩
    rw [run_convert_bytes_arg w 48 5 Tryz.underlying48 Tryz.underlying5 g 0 l.length cap (l.map fun b => (b.toNat : Int)) (by simp) (fun i hi => ?_) 9 Tryz.underlying9, str_nums]
    rw [Nat.zero_add, hh.cellAt i (by omega), List.getElem?_map, List.getElem?_eq_getElem hi]
    simp [List.getD, List.getElem?_eq_getElem hi, byteV]
end Go.Proofs.YtbjgmkjinnbokaaGreatDoor

