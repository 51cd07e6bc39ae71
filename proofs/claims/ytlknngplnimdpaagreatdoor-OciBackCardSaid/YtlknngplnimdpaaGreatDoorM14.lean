/- Merged: OfG, Rnd, OfH, OfJ, OfL, OfM. -/
import Derived.Test.YtlknngplnimdpaaGreatDoorM13
import Derived.Sort.QuietThIn
import Derived.Sort.BigQuietIn
import Derived.StillTail
import Derived.TacticsIn
import Derived.Sort.QuietLawsIn
import Derived.Test.YtlknngplnimdpaaGreatDoorM11
/- Layer 13: the chapter's texts. -/
namespace Go.Proofs.YtlknngplnimdpaaGreatDoor
open Go.RowKit

def imgT : Bs := [123, 34, 97, 114, 99, 104, 105, 116, 101, 99, 116, 117, 114, 101, 34, 58, 34, 97, 109, 100, 54, 52, 34, 44, 34, 111, 115, 34, 58, 34, 108, 105, 110, 117, 120, 34, 44, 34, 114, 111, 111, 116, 102, 115, 34, 58, 123, 34, 116, 121, 112, 101, 34, 58, 34, 108, 97, 121, 101, 114, 115, 34, 44, 34, 100, 105, 102, 102, 95, 105, 100, 115, 34, 58, 91, 93, 125, 125]
def linB : Bs := [108, 105, 110, 117, 120]
def amdB : Bs := [97, 109, 100, 54, 52]
theorem imgA_ex : imgA (linB, amdB) [] = (imgT, 0) := by decide +kernel
theorem man_ex1 : allP 20 [123, 125] = some (.ok (.mk 6 [] [] []) []) := by rfl
theorem man_ex2 : allP 20 [91] = some (.bad 10 []) := by rfl
theorem manV_ex : manR (.ok (.mk 6 [] [] []) []) = .bad 10 := by
  show manV (.mk 6 [] [] []) = .bad 10
  have h : headV 1 (.mk 6 [] [] []) = 10 := by decide +kernel
  unfold manV
  rw [if_pos (by rw [h]; decide), h]
theorem kind_ex : kindN [97, 112, 112, 108, 105, 99, 97, 116, 105, 111, 110, 47, 118, 110, 100, 46, 111, 99, 105, 46, 105, 109, 97, 103, 101, 46, 108, 97, 121, 101, 114, 46, 118, 49, 46, 116, 97, 114] = 4 ∧ kindN [116, 101, 120, 116, 47, 112, 108, 97, 105, 110] = 0 := by decide +kernel
theorem man_bad {S : Bs} {q : Nat} {R : Res JV} (hR : allP q S = some R) (hb : manR R = .bad 10) (hS : S.length ≤ 65536) (w : World) (hE : Env2 w) :
    Calls Tryz.prog 9 #[.string (str S)] w fun e w' => ∃ c x cc, e = .returned (.tuple #[.agg (encM c (.slice x 0 cc)), .int .i64 10]) ∧ goodD c ∧ Below w.heap.size w w' := by
  refine (manifest_any hS w hE hR).mono ?_
  rintro e w' ⟨c, l, x, cc, code, rfl, _, hg, h, hB⟩
  rw [hb] at h
  rcases h with ⟨h, _⟩ | ⟨h, _, rfl, rfl⟩
  · cases h
  · injection h with h
    subst h
    exact ⟨_, x, cc, rfl, hg, hB⟩
set_option maxRecDepth 100000 in
set_option maxHeartbeats 8000000 in
theorem described_any (w : World) (hE : Env2 w) : Calls Tryz.prog 8 #[] w fun e w' => e = .returned (.bool true) ∧ Below w.heap.size w w' := by
  have M1 : ∀ w, Env2 w → Calls Tryz.prog 9 #[.string ⟨#[123, 125]⟩] w fun e w' => ∃ c x cc, e = .returned (.tuple #[.agg (encM c (.slice x 0 cc)), .int .i64 10]) ∧ goodD c ∧ Below w.heap.size w w' := fun w hE => man_bad man_ex1 manV_ex (by decide) w hE
  have M2 : ∀ w, Env2 w → Calls Tryz.prog 9 #[.string ⟨#[91]⟩] w fun e w' => ∃ c x cc, e = .returned (.tuple #[.agg (encM c (.slice x 0 cc)), .int .i64 10]) ∧ goodD c ∧ Below w.heap.size w w' := fun w hE => man_bad (R := .bad 10 []) man_ex2 rfl (by decide) w hE
  obtain ⟨T, hT⟩ : ∃ T, T = imgT := ⟨_, rfl⟩
  have PI : ∀ w, Env2 w → Calls Tryz.prog 22 #[.agg #[.string ⟨#[108, 105, 110, 117, 120]⟩, .string ⟨#[97, 109, 100, 54, 52]⟩, .slice none 0 0]] w fun e w' => e = .returned (.tuple #[.string (str T), .int .i64 0]) ∧ Below w.heap.size w w' := fun w hE => by
    have h := putImage_any (linB, amdB) [] none 0 w hE (by decide) (by decide) (by decide) (.inl ⟨rfl, rfl⟩)
    rw [imgA_ex, ← hT] at h
    exact h
  have PK : ∀ w, Calls Tryz.prog 27 #[.slice none 0 0, .agg #[.string ⟨#[]⟩, .string ⟨#[]⟩]] w fun e w' => e = .returned (.tuple #[.agg (encD zeroD), .int .i64 73]) ∧ Below w.heap.size w w' := fun w => pick_any [] ([], []) none 0 w (by decide) (.inl ⟨rfl, rfl⟩)
  have K1 : ∀ w, Calls Tryz.prog 24 #[.string ⟨#[97, 112, 112, 108, 105, 99, 97, 116, 105, 111, 110, 47, 118, 110, 100, 46, 111, 99, 105, 46, 105, 109, 97, 103, 101, 46, 108, 97, 121, 101, 114, 46, 118, 49, 46, 116, 97, 114]⟩] w fun e w' => e = .returned (.int .i64 4) ∧ w = w' := fun w => by
    have h := kind_any [97, 112, 112, 108, 105, 99, 97, 116, 105, 111, 110, 47, 118, 110, 100, 46, 111, 99, 105, 46, 105, 109, 97, 103, 101, 46, 108, 97, 121, 101, 114, 46, 118, 49, 46, 116, 97, 114] w
    rw [kind_ex.1] at h
    exact h
  have K2 : ∀ w, Calls Tryz.prog 24 #[.string ⟨#[116, 101, 120, 116, 47, 112, 108, 97, 105, 110]⟩] w fun e w' => e = .returned (.int .i64 0) ∧ w = w' := fun w => by
    have h := kind_any [116, 101, 120, 116, 47, 112, 108, 97, 105, 110] w
    rw [kind_ex.2] at h
    exact h
  have hq : ((str T).toList == [123, 34, 97, 114, 99, 104, 105, 116, 101, 99, 116, 117, 114, 101, 34, 58, 34, 97, 109, 100, 54, 52, 34, 44, 34, 111, 115, 34, 58, 34, 108, 105, 110, 117, 120, 34, 44, 34, 114, 111, 111, 116, 102, 115, 34, 58, 123, 34, 116, 121, 112, 101, 34, 58, 34, 108, 97, 121, 101, 114, 115, 34, 44, 34, 100, 105, 102, 102, 95, 105, 100, 115, 34, 58, 91, 93, 125, 125]) = true := by rw [hT]; exact (eqT imgT imgT).trans (decide_eq_true rfl)
  have HIM := Lib.hid (fun (c : DV) (hg : goodD c) (x : Option Addr) (cc : Nat) => show (Tryz.prog.info? 31).map (·.size) = some (encM c (.slice x 0 cc)).size by rw [encM_size hg]; exact info_M)
  have HZM := Lib.hid (fun (c : DV) (hg : goodD c) (x : Option Addr) (cc : Nat) => show zeroM.size = (encM c (.slice x 0 cc)).size by rw [encM_size hg]; rfl)
  have HE := Lib.hid hE
  clear hT hE
  go_enter Tryz.func8, Tryz.ntmps8
  go_upto_region 2 with (first
    | (go_at_call 9; (with_reducible refine (M1 _ HE.out).mono ?_); rintro e w1 ⟨c1, x1, k1, rfl, hg1, b1⟩; have HG1 := Lib.hid hg1; have HB1 := Lib.hid b1; clear hg1 b1)
    | ((with_reducible show wpList _ _ _ (⟨none, .store _ (.tmp 1) _, _, _, _, _⟩ :: _) _ _); refine wpList_store_last rfl 31 _ _ rfl w1.heap.size (encM c1 (.slice x1 0 k1)) rfl rfl 31 zeroM rfl (HIM.out _ HG1.out _ _) (HZM.out _ HG1.out _ _) (encM_all _ _ _ _) ?_))
  have HB1' := Lib.hid (HB1.out.alloc HB1.out.size (.cells (encM c1 (.slice x1 0 k1)) 31))
  generalize w1.alloc (.cells (encM c1 (.slice x1 0 k1)) 31) = v1 at *
  go_upto_region 3 with (first
    | (go_at_call 9; (with_reducible refine (M2 _ (HE.out.below HB1'.out)).mono ?_); rintro e w2 ⟨c2, x2, k2, rfl, hg2, b2⟩; have HG2 := Lib.hid hg2; have HB2 := Lib.hid (HB1'.out.trans (b2.mono HB1'.out.size)); clear hg2 b2)
    | ((with_reducible show wpList _ _ _ (⟨none, .store _ (.tmp 3) _, _, _, _, _⟩ :: _) _ _); refine wpList_store_last rfl 31 _ _ rfl w2.heap.size (encM c2 (.slice x2 0 k2)) rfl rfl 31 zeroM rfl (HIM.out _ HG2.out _ _) (HZM.out _ HG2.out _ _) (encM_all _ _ _ _) ?_))
  have HB2' := Lib.hid (HB2.out.alloc HB2.out.size (.cells (encM c2 (.slice x2 0 k2)) 31))
  generalize w2.alloc (.cells (encM c2 (.slice x2 0 k2)) 31) = v2 at *
  go_upto_region 5 with (first
    | (go_at_call 22; (with_reducible refine (PI _ (HE.out.below HB2'.out)).mono ?_); rintro e w3 ⟨rfl, b3⟩; have HB3 := Lib.hid (HB2'.out.trans (b3.mono HB2'.out.size)); clear b3)
    | (go_at_call 27; (with_reducible refine (PK _).mono ?_); rintro e w4 ⟨rfl, b4⟩; have HB4 := Lib.hid (HB3.out.trans (b4.mono HB3.out.size)); clear b4)
    | ((with_reducible show wpList _ _ _ (⟨none, .store _ (.tmp 7) _, _, _, _, _⟩ :: _) _ _); refine wpList_store_last rfl 28 _ _ rfl w4.heap.size (encD zeroD) rfl rfl 28 (encD zeroD) rfl info_D rfl (encD_one _) ?_))
  have HB4' := Lib.hid (HB4.out.alloc HB4.out.size (.cells (encD zeroD) 28))
  generalize w4.alloc (.cells (encD zeroD) 28) = v4 at *
  go_wp2_with (first
    | (go_at_call 24; (with_reducible refine (K1 _).mono ?_); rintro e w5 ⟨rfl, rfl⟩)
    | (go_at_call 24; (with_reducible refine (K2 _).mono ?_); rintro e w6 ⟨rfl, rfl⟩))
  go_ret
  exact ⟨rfl, HB4'.out⟩
end Go.Proofs.YtlknngplnimdpaaGreatDoor

/- Generic: a region that draws its order, in a fence, in a round too: all of it quiet, or all but a forced end, under any class of worlds. (It names nothing of the cut.) -/
namespace Go.Proofs.YtlknngplnimdpaaGreatDoor
open Go

/-- A wide fence lets every call through, in a round too. -/
theorem wide_fn (f : FuncId) : Fence.wide.fn f = True := eq_true trivial
theorem round_fn (l : Nat) (f : FuncId) : (Fence.wide.inRound l).fn f = True := eq_true trivial
/-- No operation puts a call off. -/
def noDef (l : List Oper) : Bool := l.all fun o => match o.op with | .defer _ => false | _ => true
theorem noDef_at {l : List Oper} (h : noDef l = true) {i : Nat} {o : Oper} (ho : l.toArray[i]? = some o) : ∀ c, o.op ≠ .defer c := by
  intro c hc
  have hm : o ∈ l := List.mem_of_getElem? (by simpa using ho)
  have := List.all_eq_true.1 h o hm
  rw [hc] at this
  cases this
section
variable {F : Fence} {n : Nat} {P : Program} {l : List Oper} {md : Region.Mode} {C : World → Prop}

theorem op_quiet {o : Oper} {a : Act} {K : Act → Prop} {K' : Act → World → Prop} {Q' : Exit → Act → World → Prop} {w : World} (hd : ∀ c, o.op ≠ .defer c) (hw : C w) (h : ∀ a w', C w' → K a → K' a w')
    (ha : o.askedIn F P a C) (hq : o.quietIn F n P a C K) : o.wpIn F n P a w K' Q' := by
  obtain ⟨v, hv, hk⟩ := hq
  have hv := hv w hw
  unfold Oper.quietAtIn at hv
  refine ⟨ha w hw, ?_⟩
  rw [Oper.semAt_eq _ _ _ hd]
  cases hr : (execOp a.eval o).run P w with
  | halt x w' => rw [hr] at hv; exact hv.elim
  | ok x w' =>
    rw [hr] at hv
    cases x with
    | value u => obtain ⟨rfl, rfl⟩ := hv; exact h _ _ hw hk
    | skip => obtain ⟨rfl, rfl⟩ := hv; exact h _ _ hw hk
    | enter f args =>
      obtain ⟨rfl, hdep, hc⟩ := hv
      exact ⟨hdep, hc.mono fun e w'' hh => by obtain ⟨rfl, hC⟩ := hh; exact h _ _ hC hk⟩
    | _ => exact hv.elim
theorem wpOp_quiet {i : Nat} {a : Act} {K : Act → Prop} {K' : Act → World → Prop} {Q' : Exit → Act → World → Prop} {w : World} (hd : noDef l = true) (hw : C w) (h : ∀ a w', C w' → K a → K' a w')
    (hq : qOpIn F n P l.toArray C i K a) : wpOpIn F n P l.toArray Q' i K' a w := by
  unfold qOpIn at hq
  unfold wpOpIn
  cases ho : l.toArray[i]? with
  | none => rw [ho] at hq; exact h _ _ hw hq
  | some o =>
    rw [ho] at hq
    obtain ⟨ha, hq⟩ := hq
    by_cases hg : Region.wanted o (yielded l.toArray a.tmps) = true
    · simp only [hg, if_true] at hq ⊢; exact op_quiet (noDef_at hd ho) hw h ha hq
    · simp only [hg, Bool.false_eq_true, if_false] at hq ⊢; exact ⟨ha w hw, h _ _ hw hq⟩
theorem wpAny_quietR {Q : Act → Prop} {Q' : Exit → Act → World → Prop} (hd : noDef l = true) (hQ : ∀ a w, C w → Q a → Q' .normal a w) : ∀ (f : Nat) (listed : Array Bool) (a : Act) (w : World), C w →
    wpAnyQIn F n P md l.toArray C Q f listed a → wpAnyIn F n P md l.toArray Q' f listed a w
  | 0, _, _, _, hw, h => ⟨h.1, hQ _ _ hw h.2⟩
  | f + 1, _, _, _, hw, h => ⟨fun h0 => hQ _ _ hw (h.1 h0), fun i hi => wpOp_quiet hd hw (fun a' w' hw' hk => wpAny_quietR hd hQ f _ a' w' hw' hk) (h.2 i hi)⟩
/-- All of it is quiet. -/
theorem region_quiet {id : Nat} {Q : Exit → Act → World → Prop} {a : Act} {w : World} (hm : P.follows .mixedOrders = true) (hd : noDef l = true) (hB : Region.lexB .any l.toArray = true) (hC : C w.drew)
    (h : wpQuietIn F n P l.toArray C (fun a' => ∀ w', C w' → Q .normal a' w') l a) : (Code.region id l.toArray true).wpIn F n P Q a w := by
  simp only [Region.lexB, Bool.and_eq_true] at hB
  refine wpIn_region_any hm (wpAny_quietR (Q := fun a' => ∀ w', C w' → Q .normal a' w') hd (fun _ w' hw' h => h w' hw') _ _ _ w.drew hC ?_)
  have := wpAnyQIn_lex (F := F) (n := n) (P := P) (C := C) (md := .any) hB.1 l 0 (Array.replicate l.toArray.size false) a (by simp) (by simpa using hB.2) h
  simpa using this
/-- .. at the class 'w after some draws'. -/
theorem region_quiet_drew {id : Nat} {Q : Exit → Act → World → Prop} {a : Act} {w : World} (hm : P.follows .mixedOrders = true) (hd : noDef l = true) (hB : Region.lexB .any l.toArray = true)
    (h : wpQuietIn F n P l.toArray (fun w' => ∃ k, w' = w.drewN k) (fun a' => ∀ w', (∃ k, w' = w.drewN k) → Q .normal a' w') l a) : (Code.region id l.toArray true).wpIn F n P Q a w :=
  region_quiet (C := fun w' => ∃ k, w' = w.drewN k) hm hd hB ⟨1, rfl⟩ h
/-! ### All but a forced end -/
/-- The operations ahead of number m, in whatever order; then T. -/
def headQ (F : Fence) (n : Nat) (P : Program) (md : Region.Mode) (ops : Array Oper) (C : World → Prop) (m : Nat) (T : Array Bool → Act → Prop) : Nat → Array Bool → Act → Prop
  | 0, listed, a => T listed a
  | f + 1, listed, a => Region.ready md ops listed ≠ [] ∧ ∀ i ∈ Region.ready md ops listed, i < m ∧ qOpIn F n P ops C i (headQ F n P md ops C m T f (listed.setIfInBounds i true)) a
theorem headQ_sound {m g : Nat} {T : Array Bool → Act → Prop} {Q' : Exit → Act → World → Prop} (hd : noDef l = true) (hT : ∀ listed a w, C w → T listed a → wpAnyIn F n P md l.toArray Q' g listed a w) :
    ∀ (f : Nat) (listed : Array Bool) (a : Act) (w : World), C w → headQ F n P md l.toArray C m T f listed a → wpAnyIn F n P md l.toArray Q' (f + g) listed a w
  | 0, listed, a, w, hw, h => by rw [Nat.zero_add]; exact hT _ _ _ hw h
  | f + 1, listed, a, w, hw, h => by
    rw [Nat.succ_add]
    exact ⟨fun h0 => absurd h0 h.1, fun i hi => wpOp_quiet hd hw (fun a' w' hw' hk => headQ_sound hd hT f _ a' w' hw' hk) (h.2 i hi).2⟩
theorem headQ_first {ops : Array Oper} {m i : Nat} {oi : Oper} {v : Value} {T : Array Bool → Act → Prop} (hi : ops[i]? = some oi) (hsel : ∀ (j : Nat) (o : Oper) cs b, ops[j]? = some o → o.op ≠ .select cs b)
    (hs : Region.sinkB md ops m = true) (hc : Region.chainB md ops m = true) (hm : m < ops.size) (him : i < m) (hT : ∀ listed a, T listed a → ∀ j ∈ Region.ready md ops listed, m ≤ j) :
    ∀ (f : Nat) (listed : Array Bool) (a : Act), HeadInv md ops m listed →
      (∀ j oj, ops[j]? = some oj → j ≠ i → listed.getD j true = false → (∀ e ∈ oj.after, Region.binds md e = true → e.on ≠ i) → oi.apart ops oj = true) →
      i ∈ Region.ready md ops listed → YieldsQuiet F n P ops C oi v a →
      headQ F n P md ops C m T f (listed.setIfInBounds i true) (a.put oi.dst v) → headQ F n P md ops C m T (f + 1) listed a := by
  intro f
  induction f with
  | zero =>
    intro listed a inv _ hr hy H
    refine ⟨fun h0 => (by rw [h0] at hr; cases hr), fun j hj => ?_⟩
    have hjm : j < m := Nat.lt_of_not_le fun h => tail_waits hs hc hm inv _ i rfl him (mem_ready.1 hr).1 j h hj
    by_cases hji : j = i
    · subst hji; exact ⟨hjm, hy.qOpIn hi H⟩
    · have := hT _ _ H j (ready_mono hj hji)
      omega
  | succ f ih =>
    intro listed a inv hfree hr hy H
    have hun := (mem_ready.1 hr).1
    refine ⟨fun h0 => (by rw [h0] at hr; cases hr), fun j hj => ?_⟩
    have hjm : j < m := Nat.lt_of_not_le fun h => tail_waits hs hc hm inv _ i rfl him hun j h hj
    refine ⟨hjm, ?_⟩
    by_cases hji : j = i
    · subst hji; exact hy.qOpIn hi H
    · obtain ⟨hjun, oj, hoj, hall⟩ := mem_ready.1 hj
      have hnot : ∀ e ∈ oj.after, Region.binds md e = true → e.on ≠ i := fun e he hb heq => by
        have h1 := hall e he hb
        rw [heq, getD_both hun] at h1
        cases h1
      have hstep := qOpIn_put hoj (hfree j oj hoj hji hjun hnot) (fun cs b => hsel i oi cs b hi) (fun cs b => hsel j oj cs b hoj) hy (H.2 j (ready_mono hj hji)).2
      refine qOpIn_mono (fun a' h3 => ih (listed.setIfInBounds j true) a' (inv.set hj hjm) (fun k ok hk hki hkun hno => hfree k ok hk hki ?_ hno) (ready_mono hr (Ne.symm hji)) h3.1 ?_) hstep
      · by_cases hjk : j = k
        · subst hjk; exact hjun
        · rw [getD_set_ne true hjk] at hkun; exact hkun
      · rw [Array.setIfInBounds_comm _ _ hji]
        exact h3.2
theorem headQ_lex {ops : Array Oper} {m g : Nat} {T : Act → Prop} (hsel : Region.noSelect ops = true) (hs : Region.sinkB md ops m = true) (hc : Region.chainB md ops m = true) (hm : m < ops.size) :
    ∀ (h : List Oper) (k : Nat) (listed : Array Bool) (a : Act), (∀ j, j < h.length → h[j]? = ops[k + j]?) → k + h.length = m → HeadInv md ops m listed → Region.lexHead md ops g h.length k listed = true → wpQuietIn F n P ops C T h a →
      headQ F n P md ops C m (fun listed' a' => Region.seqB md ops g m listed' = true ∧ T a') h.length listed a
  | [], k, listed, a, _, hk, _, hB, hq => by
    obtain rfl : k = m := by simpa using hk
    exact ⟨by simpa [Region.lexHead] using hB, hq⟩
  | o :: r, k, listed, a, hl, hk, inv, hB, hq => by
    have h0 : ops[k]? = some o := by simpa using (hl 0 (by simp)).symm
    simp only [List.length_cons, Region.lexHead, Bool.and_eq_true] at hB
    rw [List.length_cons] at hk
    have hr : k ∈ Region.ready md ops listed := by simpa using hB.1.1
    have hst : qOpIn F n P ops C k (wpQuietIn F n P ops C T r) a := by unfold qOpIn; rw [h0]; exact hq
    obtain ⟨v, hy, hK⟩ := yieldsQuiet_of_qOpIn h0 hst
    exact headQ_first h0 (Region.noSelect_spec hsel) hs hc hm (by omega) (fun _ _ hL => seqB_ready hL.1) r.length listed a inv (Region.free_spec h0 hB.1.2) hr hy
      (headQ_lex hsel hs hc hm r (k + 1) _ _ (fun j hj => by have := hl (j + 1) (by simp; omega); simpa [Nat.add_assoc, Nat.add_comm 1 j] using this) (by omega) (inv.set hr (by omega)) hB.2 hK)
theorem seq_sound {ops : Array Oper} {Q' : Exit → Act → World → Prop} : ∀ (r : List Oper) (k : Nat) (listed : Array Bool) (a : Act) (w : World), (∀ j, r[j]? = ops[k + j]?) → Region.seqB md ops r.length k listed = true →
    wpListIn F n P ops Q' r a w → wpAnyIn F n P md ops Q' r.length listed a w
  | [], _, _, _, _, _, hB, h => ⟨by simpa [Region.seqB] using hB, h⟩
  | o :: r, k, listed, a, w, hl, hB, h => by
    have h0 : ops[k]? = some o := by simpa using (hl 0).symm
    simp only [List.length_cons, Region.seqB, Bool.and_eq_true, decide_eq_true_eq] at hB
    refine ⟨fun h1 => (by rw [hB.1] at h1; cases h1), fun i hi => ?_⟩
    rw [hB.1, List.mem_singleton] at hi
    subst hi
    have hw : wpOpIn F n P ops Q' i (wpListIn F n P ops Q' r) a w := by unfold wpOpIn; rw [h0]; exact h
    exact wpOpIn_mono (fun a' w' h' => seq_sound r (i + 1) _ a' w' (fun j => by have := hl (j + 1); simpa [Nat.add_assoc, Nat.add_comm 1 j] using this) hB.2 h') hw
/-- The first m operations are quiet; those behind come in their order. -/
theorem region_quiet_tail {id : Nat} {Q : Exit → Act → World → Prop} {a : Act} {w : World} (m : Nat) (hm : P.follows .mixedOrders = true) (hd : noDef l = true) (hB : Region.lexTailB .any l.toArray m = true) (hC : C w.drew)
    (h : wpQuietIn F n P l.toArray C (fun a' => ∀ w', C w' → wpListIn F n P l.toArray Q (l.drop m) a' w') (l.take m) a) : (Code.region id l.toArray true).wpIn F n P Q a w := by
  simp only [Region.lexTailB, Bool.and_eq_true, decide_eq_true_eq] at hB
  obtain ⟨⟨⟨⟨hsel, hlt⟩, hs⟩, hc⟩, hlex⟩ := hB
  have hlt' : m < l.length := by simpa using hlt
  have htl : (l.take m).length = m := by simp; omega
  have hdl : (l.drop m).length = l.toArray.size - m := by simp
  have inv0 : HeadInv .any l.toArray m (Array.replicate l.toArray.size false) :=
    ⟨by simp, fun j oj _ hl => (by rw [getD_replicate_false] at hl; cases hl), fun t _ ht => getD_in (by simpa using ht) (getD_replicate_false _ _)⟩
  have H := headQ_lex (F := F) (n := n) (P := P) (C := C) (md := .any) (g := l.toArray.size - m) hsel hs hc hlt (l.take m) 0 _ a (fun j hj => by rw [htl] at hj; simp [hj]) (by simpa using htl) inv0 (by rw [htl]; exact hlex) h
  refine wpIn_region_any hm ?_
  have := headQ_sound (Q' := Q) (g := l.toArray.size - m) hd (fun listed a' w' hw' hL => by
    have := seq_sound (F := F) (n := n) (P := P) (md := .any) (Q' := Q) (l.drop m) m listed a' w' (fun j => by simp [List.getElem?_drop]) (by rw [hdl]; exact hL.1) (hL.2 w' hw')
    rwa [hdl] at this) _ _ _ w.drew hC H
  rw [htl, show m + (l.toArray.size - m) = l.toArray.size by omega] at this
  exact this
end
end Go.Proofs.YtlknngplnimdpaaGreatDoor

/- Layer 13: what OciKind keeps; quiet loads of rows. -/
namespace Go.Proofs.YtlknngplnimdpaaGreatDoor
open Go.RowKit

theorem wpQuietIn_load_midG {F : Fence} {n : Nat} {P : Program} {ops : Array Oper} {C : World → Prop} {Q : Act → Prop} {o : Oper} {rest : List Oper} {a : Act} (hF : ∀ f, F.fn f) (hw : Region.wanted o (yielded ops a.tmps) = true) (ty : TypeId) (x : Operand) (ho : o.op = .load ty x)
    (b k : Nat) (hx : a.eval x = .pointer (some ⟨b, k, none⟩)) (cs : List Value) (d : TypeDesc) (hc : ∀ w, C w → w.rangeAt b k cs)
    (hu : P.underlying ty = some d) (hd : d.isRow = true) (hi : (P.info? ty).map (·.size) = some cs.length)
    (h : wpQuietIn F n P ops C Q rest (a.put o.dst (.agg cs.toArray))) : wpQuietIn F n P ops C Q (o :: rest) a :=
  wpQuietIn_step (fun _ _ f _ => hF f) (fun K hK => by
    rw [if_pos hw]
    exact ⟨.agg cs.toArray, fun w hC => by
    unfold Oper.quietAtIn execOp
    simp only [ho, hx, Instr.loadAt, Instr.sureAddr, Sem.run_bind, Sem.run_pure, Result.andThen_ok, run_loadVar_mid w b k ty cs d (hc w hC) hu hd hi]
    exact ⟨rfl, rfl⟩, hK _ h⟩)
/-- Worlds that have no more than new blocks. -/
structure After (w : World) where
  v : World
  h : Below w.heap.size w v
instance (w : World) : Nonempty (After w) := ⟨⟨w, Below.refl _ _⟩⟩
theorem flatD_at {Y : List DV} (hY : ∀ d ∈ Y, goodD d) {i j : Nat} {d : DV} {u : Value} (hi : Y[i]? = some d) (hj : (encL d)[j]? = some u) : (flatD Y)[36 * i + j]? = some u :=
  flat_at Y (fun d hd => by rw [Array.length_toList]; exact encD_size d (hY d hd)) i d j u hi (by rw [encD_list]; exact hj)
/-- A row of descriptors that a call owns, read cell by cell. -/
theorem own_at {w : World} {B : Nat} {a : Option Addr} {n c : Nat} {Y : List DV} (h : w.ownsRow B 28 36 (.slice a n c) Y.length (flatD Y)) (hY : ∀ d ∈ Y, goodD d) {i : Nat} {d : DV} (hi : Y[i]? = some d) :
    ∃ g, a = some ⟨g, 0, none⟩ ∧ B ≤ g ∧ g < w.heap.size ∧ ∀ j u, (encL d)[j]? = some u → w.cell? ⟨g, 36 * i + j, none⟩ = some u := by
  have hp : 0 < Y.length := by have := (List.getElem?_eq_some_iff.1 hi).1; omega
  obtain ⟨g, c', hv⟩ := owns_some h hp
  simp only [Value.slice.injEq] at hv
  obtain ⟨rfl, rfl, rfl⟩ := hv
  obtain ⟨h1, h2⟩ := h.lt g rfl
  refine ⟨g, rfl, h1, h2, fun j u hj => ?_⟩
  have := flatD_at hY hi hj
  rw [h.cellAt _ (by
    have h3 := (List.getElem?_eq_some_iff.1 this).1
    have h4 := h.1
    omega)]
  exact this
theorem own_des {w : World} {B : Nat} {a : Option Addr} {n c : Nat} {Y : List DV} (h : w.ownsRow B 28 36 (.slice a n c) Y.length (flatD Y)) (hY : ∀ d ∈ Y, goodD d) : eDess.at_ w (fun k => k < w.heap.size) Y (.slice a n c) := by
  have h1 := rows_own (enc := encD) (good := goodD) (acc := Y) h (fun d hd => ⟨hY d hd, encD_size d (hY d hd)⟩)
  exact eDess.mono h1 (fun k _ hk => hk)
theorem drop_at {α : Type} {l : List α} {i : Nat} {d : α} (h : l[i]? = some d) : l.drop i = d :: l.drop (i + 1) := by
  obtain ⟨hi, rfl⟩ := List.getElem?_eq_some_iff.1 h
  exact List.drop_eq_getElem_cons hi
end Go.Proofs.YtlknngplnimdpaaGreatDoor

/- Layer 13: two lists of descriptors, two of digests: are they the same? -/
namespace Go.Proofs.YtlknngplnimdpaaGreatDoor
open Go.RowKit
attribute [local go_sem] wide_fn round_fn

theorem wpQuietIn_load_at {F : Fence} {n : Nat} {ops : Array Oper} {C : World → Prop} {Q : Act → Prop} {o : Oper} {rest : List Oper} {a : Act} (hF : ∀ f, F.fn f) (hw : Region.wanted o (yielded ops a.tmps) = true) (ty : TypeId) (x : Operand) (ho : o.op = .load ty x)
    (p : Addr) (hx : a.eval x = .pointer (some p)) (cs : List Value) (d : TypeDesc) (hc : ∀ w, C w → ∀ j v, cs[j]? = some v → w.cell? (p.add j) = some v)
    (hu : Tryz.prog.underlying ty = some d) (hd : d.isRow = true) (hi : (Tryz.prog.info? ty).map (·.size) = some cs.length)
    (h : wpQuietIn F n Tryz.prog ops C Q rest (a.put o.dst (.agg cs.toArray))) : wpQuietIn F n Tryz.prog ops C Q (o :: rest) a :=
  wpQuietIn_step (fun _ _ f _ => hF f) (fun K hK => by
    rw [if_pos hw]
    exact ⟨.agg cs.toArray, fun w hC => by
    unfold Oper.quietAtIn execOp
    simp only [ho, hx, Instr.loadAt, Instr.sureAddr, Sem.run_bind, Sem.run_pure, Result.andThen_ok, run_loadVar_at w p ty cs d (hc w hC) hu hd hi]
    exact ⟨rfl, rfl⟩, hK _ h⟩)
theorem take_succ_eq {α : Type} {A B : List α} {j : Nat} {a : α} (ha : A[j]? = some a) (hb : B[j]? = some a) (h : A.take j = B.take j) : A.take (j + 1) = B.take (j + 1) := by
  rw [List.take_add_one, List.take_add_one, ha, hb, h]
theorem ne_at {α : Type} {A B : List α} {j : Nat} {a b : α} (ha : A[j]? = some a) (hb : B[j]? = some b) (h : a ≠ b) : A ≠ B := fun e => by
  rw [e, hb] at ha
  exact h (Option.some.inj ha).symm
theorem guard_dig : Tryz.prog.eqGuardType Tryz.prog.depth 24 = false := by kernel_rfl
set_option maxRecDepth 100000 in
set_option maxHeartbeats 16000000 in
theorem same_any (A B : List DV) (x y : Option Addr) (cx cy : Nat) (w : World) (hA : eDess.at_ w (fun k => k < w.heap.size) A (.slice x A.length cx)) (hB : eDess.at_ w (fun k => k < w.heap.size) B (.slice y B.length cy)) (hlA : A.length < 2 ^ 48) :
    Calls Tryz.prog 15 #[.slice x A.length cx, .slice y B.length cy] w fun e w' => ∃ b, e = .returned (.bool b) ∧ (b = true ↔ A = B) ∧ Below w.heap.size w w' := by
  have HA := Lib.hid hA
  have HB := Lib.hid hB
  obtain ⟨N, hN⟩ : ∃ N, N = A.length := ⟨_, rfl⟩
  obtain ⟨M, hM⟩ : ∃ M, M = B.length := ⟨_, rfl⟩
  have HN := Lib.hid hN
  have HM := Lib.hid hM
  rw [← hN] at hlA ⊢
  rw [← hM]
  clear hN hM hA hB
  go_enter Tryz.func15, Tryz.ntmps15
  by_cases hne : N = M
  rotate_left
  · have g1 : ((N : Int) == (M : Int)) = false := by rw [beq_eq_false_iff_ne]; omega
    have e0 : Hid (A ≠ B) := Lib.hid (fun e => hne (by rw [HN.out, HM.out, e]))
    clear hne
    go_wp2
    go_ret
    exact ⟨_, rfl, ⟨(fun h => by cases h), fun h => absurd h e0.out⟩, Below.refl _ _⟩
  subst hne
  have HMM := HM
  clear HM
  go_wp2
  go_loopw [5] (fun v wr => ∃ j : Nat, j ≤ N ∧ v = .int .i64 j ∧ Hid (A.take j = B.take j) ∧ Hid (Below w.heap.size w wr)) (fun v _ => N - (intOf v).toNat)
  case atStart => exact ⟨0, Nat.zero_le _, rfl, Lib.hid rfl, Lib.hid (Below.refl _ _)⟩
  case round =>
    obtain ⟨j, hjN, rfl, hT, hBl⟩ := hrel
    by_cases hj : j < N
    · have g1 : (j : Int) < (N : Int) := by omega
      obtain ⟨a, ha⟩ : ∃ a, A[j]? = some a := ⟨_, List.getElem?_eq_getElem (by have := HN.out; omega)⟩
      obtain ⟨b, hb⟩ : ∃ b, B[j]? = some b := ⟨_, List.getElem?_eq_getElem (by have := HMM.out; omega)⟩
      obtain ⟨hga, adx, rfl, hax, hcx⟩ := dess_at HA.out ha
      obtain ⟨hgb, ady, rfl, hay, hcy⟩ := dess_at HB.out hb
      have HCX := Lib.hid (show ∀ v : After wr, ∀ i u, (encL a)[i]? = some u → v.v.cell? ((adx.add (j * 36)).add i) = some u from fun v i u hu => by
        rw [World.cell?_of_block (w := w) (w' := v.v) ((hBl.out.trans (v.h.mono hBl.out.size)).block _ (by rw [add_block, add_block]; exact hax))]
        exact hcx i u hu)
      have HCY := Lib.hid (show ∀ v : After wr, ∀ i u, (encL b)[i]? = some u → v.v.cell? ((ady.add (j * 36)).add i) = some u from fun v i u hu => by
        rw [World.cell?_of_block (w := w) (w' := v.v) ((hBl.out.trans (v.h.mono hBl.out.size)).block _ (by rw [add_block, add_block]; exact hay))]
        exact hcy i u hu)
      have HIA := Lib.hid (show (Tryz.prog.info? 28).map (·.size) = some (encL a).length by rw [encL_len hga.1]; exact info_D)
      have HIB := Lib.hid (show (Tryz.prog.info? 28).map (·.size) = some (encL b).length by rw [encL_len hgb.1]; exact info_D)
      have eq1 : ∀ w, (Op.equalIn 10000 28 (.agg (encL a).toArray) (.agg (encL b).toArray)).run Tryz.prog w = .ok (eqDB a b) w := fun w => by
        rw [← encD_list, ← encD_list]
        exact eq_desc w 9997 hga.1 hgb.1
      have gd := guard_desc
      have hud := Tryz.underlying28
      have HST := Lib.hid (fun (e : a = b) => take_succ_eq ha (by rw [hb, e]) hT.out)
      have HNE := Lib.hid (fun (e : a ≠ b) => ne_at ha hb e)
      have HQ := Lib.hid (eqDB_iff a b)
      obtain ⟨eb, heb⟩ : ∃ eb, eb = eqDB a b := ⟨_, rfl⟩
      rw [← heb] at eq1 HQ
      clear ha hb hga hgb hax hay hcx hcy heb hj hT
      go_upto_region 6 with (fail)
      refine (wpIn_wide (n := 4)).1 ?_
      refine region_quiet (C := fun w' => ∃ y : After wr, w' = y.v) (by kernel_rfl) (by kernel_rfl) (by kernel_rfl) ⟨⟨wr.drew, (Below.refl _ _).drew⟩, rfl⟩ ?_
      iterate 3 (gi_big_quiet_step (fail))
      refine wpQuietIn_load_at (fun _ => trivial) rfl 28 _ rfl (adx.add (j * 36)) rfl (encL a) _ (by rintro _ ⟨y, rfl⟩; exact HCX.out y) hud rfl HIA.out ?_
      simp only [Act.put, List.setIfInBounds_toArray, List.set_cons_zero, List.set_cons_succ]
      iterate 3 (gi_big_quiet_step (fail))
      refine wpQuietIn_load_at (fun _ => trivial) rfl 28 _ rfl (ady.add (j * 36)) rfl (encL b) _ (by rintro _ ⟨y, rfl⟩; exact HCY.out y) hud rfl HIB.out ?_
      simp only [Act.put, List.setIfInBounds_toArray, List.set_cons_zero, List.set_cons_succ]
      gi_big_quiet_step (fail)
      refine wpQuietIn_nil ?_
      rintro _ ⟨v, rfl⟩
      have HBV := Lib.hid (hBl.out.trans (v.h.mono hBl.out.size))
      clear HCX HCY eq1
      cases eb
      · gi_wp2
        go_wp2
        go_ret
        exact ⟨_, rfl, ⟨(fun h => by cases h), fun h => absurd h (HNE.out (fun e => by have h5 := HQ.out.2 e; cases h5))⟩, HBV.out⟩
      · gi_wp2
        go_wp2
        go_roundw
        case rel => exact ⟨j + 1, by omega, by go_num, Lib.hid (HST.out (HQ.out.1 (by trivial))), HBV⟩
        case measure => simp [intOf] <;> omega
    · go_wp2
      go_ret
      exact ⟨_, rfl, ⟨fun _ => by have h := hT.out; rw [List.take_of_length_le (by have := HN.out; omega), List.take_of_length_le (by have := HMM.out; omega)] at h; exact h, fun _ => rfl⟩, hBl.out⟩
set_option maxRecDepth 100000 in
set_option maxHeartbeats 16000000 in
theorem samedig_any (A B : List Bs) (x y : Option Addr) (cx cy : Nat) (w : World) (hA : eDigs.at_ w (fun k => k < w.heap.size) A (.slice x A.length cx)) (hB : eDigs.at_ w (fun k => k < w.heap.size) B (.slice y B.length cy)) (hlA : A.length < 2 ^ 48) :
    Calls Tryz.prog 16 #[.slice x A.length cx, .slice y B.length cy] w fun e w' => ∃ b, e = .returned (.bool b) ∧ (b = true ↔ A = B) ∧ Below w.heap.size w w' := by
  have HA := Lib.hid hA
  have HB := Lib.hid hB
  obtain ⟨N, hN⟩ : ∃ N, N = A.length := ⟨_, rfl⟩
  obtain ⟨M, hM⟩ : ∃ M, M = B.length := ⟨_, rfl⟩
  have HN := Lib.hid hN
  have HM := Lib.hid hM
  rw [← hN] at hlA ⊢
  rw [← hM]
  clear hN hM hA hB
  go_enter Tryz.func16, Tryz.ntmps16
  by_cases hne : N = M
  rotate_left
  · have g1 : ((N : Int) == (M : Int)) = false := by rw [beq_eq_false_iff_ne]; omega
    have e0 : Hid (A ≠ B) := Lib.hid (fun e => hne (by rw [HN.out, HM.out, e]))
    clear hne
    go_wp2
    go_ret
    exact ⟨_, rfl, ⟨(fun h => by cases h), fun h => absurd h e0.out⟩, Below.refl _ _⟩
  subst hne
  have HMM := HM
  clear HM
  go_wp2
  go_loopw [5] (fun v wr => ∃ j : Nat, j ≤ N ∧ v = .int .i64 j ∧ Hid (A.take j = B.take j) ∧ Hid (Below w.heap.size w wr)) (fun v _ => N - (intOf v).toNat)
  case atStart => exact ⟨0, Nat.zero_le _, rfl, Lib.hid rfl, Lib.hid (Below.refl _ _)⟩
  case round =>
    obtain ⟨j, hjN, rfl, hT, hBl⟩ := hrel
    by_cases hj : j < N
    · have g1 : (j : Int) < (N : Int) := by omega
      obtain ⟨a, ha⟩ : ∃ a, A[j]? = some a := ⟨_, List.getElem?_eq_getElem (by have := HN.out; omega)⟩
      obtain ⟨b, hb⟩ : ∃ b, B[j]? = some b := ⟨_, List.getElem?_eq_getElem (by have := HMM.out; omega)⟩
      obtain ⟨hga, adx, rfl, hax, hcx⟩ := digs_at HA.out ha
      obtain ⟨hgb, ady, rfl, hay, hcy⟩ := digs_at HB.out hb
      have HCX := Lib.hid (show ∀ v : After wr, ∀ i u, (cells8 a).toList[i]? = some u → v.v.cell? ((adx.add (j * 32)).add i) = some u from fun v i u hu => by
        rw [World.cell?_of_block (w := w) (w' := v.v) ((hBl.out.trans (v.h.mono hBl.out.size)).block _ (by rw [add_block, add_block]; exact hax))]
        exact hcx i u hu)
      have HCY := Lib.hid (show ∀ v : After wr, ∀ i u, (cells8 b).toList[i]? = some u → v.v.cell? ((ady.add (j * 32)).add i) = some u from fun v i u hu => by
        rw [World.cell?_of_block (w := w) (w' := v.v) ((hBl.out.trans (v.h.mono hBl.out.size)).block _ (by rw [add_block, add_block]; exact hay))]
        exact hcy i u hu)
      have HIA := Lib.hid (show (Tryz.prog.info? 24).map (·.size) = some (cells8 a).toList.length by rw [Array.length_toList, cells8_size, hga]; exact info_G)
      have HIB := Lib.hid (show (Tryz.prog.info? 24).map (·.size) = some (cells8 b).toList.length by rw [Array.length_toList, cells8_size, hgb]; exact info_G)
      have eq1 : ∀ w, (Op.equalIn 10000 24 (.agg (cells8 a).toList.toArray) (.agg (cells8 b).toList.toArray)).run Tryz.prog w = .ok (decide (a = b)) w := fun w => by
        exact eq_digest w 9998 hga hgb
      have gd := guard_dig
      have hud := Tryz.underlying24
      have HST := Lib.hid (fun (e : a = b) => take_succ_eq ha (by rw [hb, e]) hT.out)
      have HNE := Lib.hid (fun (e : a ≠ b) => ne_at ha hb e)
      have HQ := Lib.hid (decide_eq_true_iff (p := a = b))
      obtain ⟨eb, heb⟩ : ∃ eb, eb = decide (a = b) := ⟨_, rfl⟩
      rw [← heb] at eq1 HQ
      clear ha hb hga hgb hax hay hcx hcy heb hj hT
      go_upto_region 6 with (fail)
      refine (wpIn_wide (n := 4)).1 ?_
      refine region_quiet (C := fun w' => ∃ y : After wr, w' = y.v) (by kernel_rfl) (by kernel_rfl) (by kernel_rfl) ⟨⟨wr.drew, (Below.refl _ _).drew⟩, rfl⟩ ?_
      iterate 3 (gi_big_quiet_step (fail))
      refine wpQuietIn_load_at (fun _ => trivial) rfl 24 _ rfl (adx.add (j * 32)) rfl (cells8 a).toList _ (by rintro _ ⟨y, rfl⟩; exact HCX.out y) hud rfl HIA.out ?_
      simp only [Act.put, List.setIfInBounds_toArray, List.set_cons_zero, List.set_cons_succ]
      iterate 3 (gi_big_quiet_step (fail))
      refine wpQuietIn_load_at (fun _ => trivial) rfl 24 _ rfl (ady.add (j * 32)) rfl (cells8 b).toList _ (by rintro _ ⟨y, rfl⟩; exact HCY.out y) hud rfl HIB.out ?_
      simp only [Act.put, List.setIfInBounds_toArray, List.set_cons_zero, List.set_cons_succ]
      gi_big_quiet_step (fail)
      refine wpQuietIn_nil ?_
      rintro _ ⟨v, rfl⟩
      have HBV := Lib.hid (hBl.out.trans (v.h.mono hBl.out.size))
      clear HCX HCY eq1
      cases eb
      · gi_wp2
        go_wp2
        go_ret
        exact ⟨_, rfl, ⟨(fun h => by cases h), fun h => absurd h (HNE.out (fun e => by have h5 := HQ.out.2 e; cases h5))⟩, HBV.out⟩
      · gi_wp2
        go_wp2
        go_roundw
        case rel => exact ⟨j + 1, by omega, by go_num, Lib.hid (HST.out (HQ.out.1 (by trivial))), HBV⟩
        case measure => simp [intOf] <;> omega
    · go_wp2
      go_ret
      exact ⟨_, rfl, ⟨fun _ => by have h := hT.out; rw [List.take_of_length_le (by have := HN.out; omega), List.take_of_length_le (by have := HMM.out; omega)] at h; exact h, fun _ => rfl⟩, hBl.out⟩
end Go.Proofs.YtlknngplnimdpaaGreatDoor

/- Layer 13: what is put, read again, and put again: the three rounds as contracts. -/
namespace Go.Proofs.YtlknngplnimdpaaGreatDoor
open Go.RowKit

theorem read_printed {v : JV} (h : (printA v).2 = 0) : (printA v).1.length ≤ 65536 ∧ ∃ q, allP q (printA v).1 = some (.ok v []) := by
  obtain ⟨h1, h2, h3, h4⟩ := printA_ok h
  rw [h3]
  refine ⟨h4, ?_⟩
  obtain ⟨n0, hn⟩ := all_rt (g := []) (fun _ h => by cases h) h1 h2
  refine ⟨n0, ?_⟩
  have := hn n0 (Nat.le_refl _)
  simpa using this
theorem plain_putB {d : DV} (h : putD d) : putD d.plain := by
  obtain ⟨⟨h1, h2, h3, h4⟩, h5, h6⟩ := h
  exact ⟨⟨h1, h2, by show ([] : Bs).length ≤ _; exact Nat.zero_le _, by show ([] : Bs).length ≤ _; exact Nat.zero_le _⟩, h5, h6⟩
theorem plains_put {l : List DV} (h : ∀ d ∈ l, putD d) : ∀ d ∈ l.map DV.plain, putD d := fun d hd => by
  obtain ⟨e, he, rfl⟩ := List.mem_map.1 hd
  exact plain_putB (h e he)
theorem man_round {c : DV} {l : List DV} (h : (manA c l).2 = 0) (hc : putD c) (hl : ∀ d ∈ l, putD d) (w : World) (hE : Env2 w) :
    Calls Tryz.prog 9 #[.string (str (manA c l).1)] w fun e w' => ∃ x cc, e = .returned (.tuple #[.agg (encM c.plain (.slice x l.length cc)), .int .i64 0]) ∧ eDess.at_ w' (fun k => w.heap.size ≤ k ∧ k < w'.heap.size) (l.map DV.plain) (.slice x l.length cc) ∧ Below w.heap.size w w' := by
  obtain ⟨e1, e2, _⟩ := man_back h hc.1.1 (fun d hd => (hl d hd).1.1)
  rw [e1] at h ⊢
  obtain ⟨hS, q, hq⟩ := read_printed h
  refine (manifest_any hS w hE hq).mono ?_
  rintro e w' ⟨c', l', x, cc, code, rfl, h1, h2, h3, h4⟩
  rcases h3 with ⟨h3, rfl⟩ | ⟨h3, _⟩
  · have h5 : manV (manJ c l) = .ok (c', l') := h3
    rw [e2] at h5
    injection h5 with h5
    injection h5 with h5 h6
    subst h5
    subst h6
    rw [List.length_map] at h1 ⊢
    exact ⟨x, cc, rfl, h1, h4⟩
  · have h5 : manV (manJ c l) = .bad code := h3
    rw [e2] at h5
    cases h5
theorem man_again {c : DV} {l : List DV} (h : (manA c l).2 = 0) (hc : putD c) (hl : ∀ d ∈ l, putD d) (hn : l.length ≤ 70368744177664) (x : Option Addr) (cc : Nat) (w : World) (hE : Env2 w) (hL : eDess.at_ w (fun k => k < w.heap.size) (l.map DV.plain) (.slice x l.length cc)) :
    Calls Tryz.prog 18 #[.agg (encM c.plain (.slice x l.length cc))] w fun e w' => e = .returned (.tuple #[.string (str (manA c l).1), .int .i64 0]) ∧ Below w.heap.size w w' := by
  obtain ⟨_, _, e3⟩ := man_back h hc.1.1 (fun d hd => (hl d hd).1.1)
  have := putManifest_any c.plain (l.map DV.plain) x cc w hE (by rw [List.length_map]; exact hn) (plain_putB hc) (plains_put hl) (by rw [List.length_map]; exact hL)
  rw [List.length_map, e3, h] at this
  exact this
theorem idx_round {l : List DV} (h : (idxA l).2 = 0) (hl : ∀ d ∈ l, putD d) (w : World) (hE : Env2 w) :
    Calls Tryz.prog 11 #[.string (str (idxA l).1)] w fun e w' => ∃ x cc, e = .returned (.tuple #[.slice x l.length cc, .int .i64 0]) ∧ eDess.at_ w' (fun k => w.heap.size ≤ k ∧ k < w'.heap.size) l (.slice x l.length cc) ∧ Below w.heap.size w w' := by
  obtain ⟨e1, e2⟩ := idx_back h (fun d hd => (hl d hd).1.1)
  rw [e1] at h ⊢
  obtain ⟨hS, q, hq⟩ := read_printed h
  refine (index_any2 hS w hE hq).mono ?_
  rintro e w' ⟨l', t, code, rfl, h1, h3, h4⟩
  rcases h3 with ⟨h3, rfl⟩ | ⟨h3, _⟩
  · have h5 : idxV (idxJ l) = .ok l' := h3
    rw [e2] at h5
    injection h5 with h5
    subst h5
    rcases h1 with ⟨rfl, rfl⟩ | ⟨ad, cap, rfl, h6⟩
    · exact ⟨none, 0, rfl, .inl ⟨rfl, rfl⟩, h4⟩
    · exact ⟨some ad, cap, rfl, .inr ⟨ad, cap, rfl, h6⟩, h4⟩
  · have h5 : idxV (idxJ l) = .bad code := h3
    rw [e2] at h5
    cases h5
theorem idx_again {l : List DV} (h : (idxA l).2 = 0) (hl : ∀ d ∈ l, putD d) (hn : l.length ≤ 70368744177664) (x : Option Addr) (cc : Nat) (w : World) (hE : Env2 w) (hL : eDess.at_ w (fun k => k < w.heap.size) l (.slice x l.length cc)) :
    Calls Tryz.prog 20 #[.slice x l.length cc] w fun e w' => e = .returned (.tuple #[.string (str (idxA l).1), .int .i64 0]) ∧ Below w.heap.size w w' := by
  have := putIndex_any l x cc w hE hn hl hL
  rw [h] at this
  exact this
theorem img_round {p : Bs × Bs} {l : List Bs} (h : (imgA p l).2 = 0) (hl : ∀ d ∈ l, d.length = 32) (w : World) (hE : Env2 w) :
    Calls Tryz.prog 13 #[.string (str (imgA p l).1)] w fun e w' => ∃ x cc, e = .returned (.tuple #[.agg (row3 (str p.1) (str p.2) x l.length cc), .int .i64 0]) ∧ eDigs.at_ w' (fun k => w.heap.size ≤ k ∧ k < w'.heap.size) l (.slice x l.length cc) ∧ Below w.heap.size w w' := by
  obtain ⟨e1, e2⟩ := img_back h hl
  rw [e1] at h ⊢
  obtain ⟨hS, q, hq⟩ := read_printed h
  refine (image_any hS w hE hq).mono ?_
  rintro e w' ⟨p', l', x, cc, code, rfl, h1, _, h3, h4⟩
  rcases h3 with ⟨h3, rfl⟩ | ⟨h3, _⟩
  · have h5 : imgV (imgJ p l) = .ok (p', l') := h3
    rw [e2] at h5
    injection h5 with h5
    injection h5 with h5 h6
    subst h5
    subst h6
    exact ⟨x, cc, rfl, h1, h4⟩
  · have h5 : imgV (imgJ p l) = .bad code := h3
    rw [e2] at h5
    cases h5
theorem img_again {p : Bs × Bs} {l : List Bs} (h : (imgA p l).2 = 0) (hn : l.length ≤ 70368744177664) (h1 : p.1.length ≤ 281474976710656) (h2 : p.2.length ≤ 281474976710656) (x : Option Addr) (cc : Nat) (w : World) (hE : Env2 w) (hL : eDigs.at_ w (fun k => k < w.heap.size) l (.slice x l.length cc)) :
    Calls Tryz.prog 22 #[.agg (row3 (str p.1) (str p.2) x l.length cc)] w fun e w' => e = .returned (.tuple #[.string (str (imgA p l).1), .int .i64 0]) ∧ Below w.heap.size w w' := by
  have := putImage_any p l x cc w hE hn h1 h2 hL
  rw [h] at this
  exact this
end Go.Proofs.YtlknngplnimdpaaGreatDoor

/- Layer 13: what OciBack keeps: three rows of descriptors; a platform in a row is cleared. -/
namespace Go.Proofs.YtlknngplnimdpaaGreatDoor
open Go.RowKit

theorem encL_plain {d : DV} (h : d.dig.length = 32) : ((encL d).set 34 (.string (str []))).set 35 (.string (str [])) = encL d.plain := by
  have e0 : encL d = ([.string (str d.media)] ++ d.dig.map byteV ++ [.int .i64 d.size]) ++ [.string (str d.os), .string (str d.arch)] := by unfold encL; simp
  have e1 : encL d.plain = ([.string (str d.media)] ++ d.dig.map byteV ++ [.int .i64 d.size]) ++ [.string (str []), .string (str [])] := by unfold encL DV.plain; simp
  have hl : ([.string (str d.media)] ++ d.dig.map byteV ++ [.int .i64 d.size] : List Value).length = 34 := by simp [h]
  rw [e0, e1, List.set_append_right _ _ (by rw [hl]; omega), List.set_append_right _ _ (by rw [hl]; omega), hl]
  rfl
theorem flatD_len {l : List DV} (h : ∀ d ∈ l, d.dig.length = 32) : (flatD l).length = l.length * 36 := by
  induction l with
  | nil => rfl
  | cons d l ih =>
    unfold flatD at ih ⊢
    rw [List.flatMap_cons, List.length_append, ih (fun e he => h e (List.mem_cons_of_mem _ he)), encD_list, encL_len (h d (List.mem_cons_self ..)), List.length_cons]
    omega
theorem flatD_plain {Z : List DV} {i : Nat} {d : DV} (h : ∀ d ∈ Z, d.dig.length = 32) (hi : Z[i]? = some d) : ((flatD Z).set (36 * i + 34) (.string (str []))).set (36 * i + 35) (.string (str [])) = flatD (Z.set i d.plain) := by
  induction Z generalizing i with
  | nil => simp at hi
  | cons e Z ih =>
    have he : (encL e).length = 36 := encL_len (h e (List.mem_cons_self ..))
    unfold flatD at ih ⊢
    match i, hi with
    | 0, hi =>
      rw [List.getElem?_cons_zero] at hi
      injection hi with hi
      subst hi
      rw [List.set_cons_zero, List.flatMap_cons, List.flatMap_cons, encD_list, encD_list]
      rw [List.set_append_left _ _ (by show _ < (encL e).length; omega), List.set_append_left _ _ (by rw [List.length_set]; show _ < (encL e).length; omega)]
      have := encL_plain (h e (List.mem_cons_self ..))
      rw [← this]
    | i + 1, hi =>
      rw [List.getElem?_cons_succ] at hi
      rw [List.set_cons_succ, List.flatMap_cons, List.flatMap_cons, ← ih (fun x hx => h x (List.mem_cons_of_mem _ hx)) hi, encD_list]
      rw [List.set_append_right _ _ (by show (encL e).length ≤ _; omega), List.set_append_right _ _ (by show (encL e).length ≤ _; omega)]
      show _ = encL e ++ _
      rw [show (36 * (i + 1) + 34) - (encL e).toArray.toList.length = 36 * i + 34 by show _ - (encL e).length = _; omega, show (36 * (i + 1) + 35) - (encL e).toArray.toList.length = 36 * i + 35 by show _ - (encL e).length = _; omega]
/-- A platform in a row of descriptors is cleared. -/
theorem own_clear {W : World} {B g n c i : Nat} {Z : List DV} {d : DV} (h : W.ownsRow B 28 36 (.slice (some ⟨g, 0, none⟩) n c) n (flatD Z)) (hZ : ∀ d ∈ Z, d.dig.length = 32) (hi : Z[i]? = some d) :
    (W.setCells g (36 * i + 34) [.string (str []), .string (str [])]).ownsRow B 28 36 (.slice (some ⟨g, 0, none⟩) n c) n (flatD (Z.set i d.plain)) := by
  have h1 := (h.stored (36 * i + 34) (.string (str []))).1
  have h2 := (h1.stored (36 * i + 35) (.string (str []))).1
  rw [flatD_plain hZ hi] at h2
  exact h2
theorem own_clear_other {W : World} {B g n o : Nat} {v : Value} {xs : List Value} (h : W.ownsRow B 28 36 v n xs) (hv : v.ownBlock ≠ some g) (a b : Value) : (W.setCells g o [a, b]).ownsRow B 28 36 v n xs :=
  ownsRow_setCell_other (ownsRow_setCell_other h (a := ⟨g, o, none⟩) hv a) (a := ⟨g, o + 1, none⟩) hv b
theorem own_there {W : World} {B g n c o k : Nat} {xs : List Value} (h : W.ownsRow B 28 36 (.slice (some ⟨g, 0, none⟩) n c) n xs) (hk : o + k ≤ xs.length) (hx : xs.length = n * 36) : W.there g o k := fun j hj => by
  refine ⟨?_, h.frozenAt _⟩
  rw [h.cellAt _ (by omega), List.getElem?_eq_getElem (by omega)]
  rfl
theorem own_lower {w : World} {B B' size n : Nat} {e : TypeId} {v : Value} {xs : List Value} (h : w.ownsRow B e size v n xs) (hle : B' ≤ B) : w.ownsRow B' e size v n xs := by
  refine ⟨h.1, ?_⟩
  rcases h.2 with h2 | ⟨g, c, cur, hv, hb, h3⟩
  · exact .inl h2
  · exact .inr ⟨g, c, cur, hv, Nat.le_trans hle hb, h3⟩
/-- What is kept: the configuration's box, and three rows of descriptors, each elder than the next. -/
structure BkM (w : World) (r : RG) (S1 S2 : Nat) (x t p : Value) (X Y Z : List DV) (W : World) : Prop where
  ox : W.ownsRow (w.heap.size + 1) 28 36 x X.length (flatD X)
  xl : ∀ g, x.ownBlock = some g → g < S1
  ot : W.ownsRow S1 28 36 t Y.length (flatD Y)
  tl : ∀ g, t.ownBlock = some g → g < S2
  op : W.ownsRow S2 28 36 p Z.length (flatD Z)
  s : w.heap.size + 1 ≤ S1 ∧ S1 ≤ S2
  r : rowC W w.heap.size (encR r).toArray 46
  b : Below w.heap.size w W
theorem BkM.below {w W W' : World} {r : RG} {S1 S2 : Nat} {x t p : Value} {X Y Z : List DV} (h : BkM w r S1 S2 x t p X Y Z W) (hb : Below W.heap.size W W') : BkM w r S1 S2 x t p X Y Z W' :=
  ⟨(Chg.of_below (s := no) hb).owns h.ox (fun _ _ h => h), h.xl, (Chg.of_below (s := no) hb).owns h.ot (fun _ _ h => h), h.tl, (Chg.of_below (s := no) hb).owns h.op (fun _ _ h => h), h.s, rowC_below h.r hb (rowC_lt h.r), h.b.trans (hb.mono h.b.size)⟩
theorem BkM.clearP {w W : World} {r : RG} {S1 S2 g n c i : Nat} {x t : Value} {X Y Z : List DV} {d : DV} (h : BkM w r S1 S2 x t (.slice (some ⟨g, 0, none⟩) n c) X Y Z W) (hn : n = Z.length) (hZ : ∀ d ∈ Z, d.dig.length = 32) (hi : Z[i]? = some d) :
    BkM w r S1 S2 x t (.slice (some ⟨g, 0, none⟩) n c) X Y (Z.set i d.plain) (W.setCells g (36 * i + 34) [.string (str []), .string (str [])]) := by
  have hp := h.op
  rw [← hn] at hp
  have hg := (hp.lt g rfl).1
  have hs := h.s
  refine ⟨own_clear_other h.ox (fun e => by have := h.xl g e; omega) _ _, h.xl, own_clear_other h.ot (fun e => by have := h.tl g e; omega) _ _, h.tl, ?_, h.s, rowC_setCells_other (by omega) _ _ h.r, below_setCells (by omega) _ _ h.b⟩
  rw [List.length_set, ← hn]
  exact own_clear hp hZ hi
theorem BkM.clearX {w W : World} {r : RG} {S1 S2 g c : Nat} {t p : Value} {Y Z : List DV} {d : DV} (h : BkM w r S1 S2 (.slice (some ⟨g, 0, none⟩) 1 c) t p [d] Y Z W) (hd : d.dig.length = 32) :
    BkM w r S1 S2 (.slice (some ⟨g, 0, none⟩) 1 c) t p [d.plain] Y Z (W.setCells g 34 [.string (str []), .string (str [])]) := by
  have hp : W.ownsRow (w.heap.size + 1) 28 36 (.slice (some ⟨g, 0, none⟩) 1 c) 1 (flatD [d]) := h.ox
  have hg := (hp.lt g rfl).1
  have hs := h.s
  have hx := h.xl g rfl
  refine ⟨?_, h.xl, own_clear_other h.ot (fun e => by have := (h.ot.lt g e).1; omega) _ _, h.tl, own_clear_other h.op (fun e => by have := (h.op.lt g e).1; omega) _ _, h.s, rowC_setCells_other (by omega) _ _ h.r, below_setCells (by omega) _ _ h.b⟩
  have := own_clear (i := 0) hp (fun e he => by rw [List.mem_singleton.1 he]; exact hd) rfl
  exact this
theorem one_rough {W : World} {g : Nat} {r : RG} (hr : r.ok) (hR : rowC W g (encR r).toArray 46) : RghsC W (some ⟨g, 0, none⟩) [r] := fun i r' hi => by
  match i, hi with
  | 0, hi =>
    rw [List.getElem?_cons_zero] at hi
    injection hi with hi
    subst hi
    refine ⟨hr, ⟨g, 0, none⟩, rfl, rowC_lt hR, fun j v hj => ?_⟩
    rw [show ((⟨g, 0, none⟩ : Addr).add (0 * 37)).add j = ⟨g, j, none⟩ by simp [Addr.add]; exact fun h => h.symm, rowC_cell hR, List.getElem?_toArray]
    exact hj
theorem of_one (r : RG) (hr : r.ok) (g : Nat) (w : World) (hR : rowC w g (encR r).toArray 46) :
    Calls Tryz.prog 17 #[.slice (some ⟨g, 0, none⟩) 1 1, .int .i64 1] w fun e w' => ∃ t, e = .returned (.tuple #[t, .bool (ofR [r] 1)]) ∧ (ofR [r] 1 = true → w'.ownsRow w.heap.size 28 36 t 1 (flatD [descOf r])) ∧ Below w.heap.size w w' :=
  of_any [r] (some ⟨g, 0, none⟩) 1 1 w (by show 1 * 96 ≤ _; omega) (one_rough hr hR)
end Go.Proofs.YtlknngplnimdpaaGreatDoor

