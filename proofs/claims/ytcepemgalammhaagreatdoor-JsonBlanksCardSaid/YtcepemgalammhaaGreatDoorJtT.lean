/- Layer 11: what an object has gathered. -/
import Derived.Test.YtcepemgalammhaaGreatDoorJtS
namespace Go.Proofs.YtcepemgalammhaaGreatDoor
open Go.RowKit

theorem info_S1 : (Tryz.prog.info? 9).map (fun i => (i.zero, i.size, i.bytes)) = some (some (.string ⟨#[]⟩), 1, 16) := by kernel_rfl
def keysV (l : List Bs) : List Value := l.map fun t => .string (str t)
structure StO (bL br bm bv q mp : Nat) (acc : List (Bs × JV)) (w : World) : Prop where
  le : bL ≤ w.heap.size
  box : rowC w br #[.pointer (some ⟨q, 0, none⟩)] 47
  map : rowC w bm #[.map (some mp)] 125
  set : SetM w mp (acc.map (·.1))
  row : ∃ I K, rowC w bv #[.int .i64 6, .string ⟨#[]⟩, I, K] 27 ∧ w.ownsRow bL 9 1 K acc.length (keysV (acc.map (·.1))) ∧ RowJ w bL I (acc.map (·.2)) (fun k => K.ownBlock = some k)
theorem StO.kept {bL br bm bv q mp : Nat} (o1 : q < br) (o2 : br < bv) (o3 : bv < mp) (o4 : mp < bm) (o5 : bm < bL) {acc : List (Bs × JV)} {w w' : World} (h : StO bL br bm bv q mp acc w) (hc : Chg (· = q) w w') : StO bL br bm bv q mp acc w' := by
  obtain ⟨I, K, hr, hk, hj⟩ := h.row
  exact ⟨Nat.le_trans h.le hc.size, hc.rowC h.box (by omega), hc.rowC h.map (by omega), h.set.chg hc (by omega), I, K, hc.rowC hr (by omega), hc.owns hk (fun g hg e => by have := (hk.lt g hg).1; omega), hj.chg hc (fun k hk => .inl (by omega))⟩
/-- An item is put to a value: what holds behind the two stores, in either order. -/
def putI (w2 w' : World) (bL bv lo hi : Nat) (own : Nat → Prop) (k0 : Int) (acc : List JV) (I I' D a b c d : Value) : Prop :=
  Chg (fun k => I.ownBlock = some k ∨ k = bv) w2 w' ∧ rowC w' bv #[.int .i64 k0, .string ⟨#[]⟩, I', D] 27 ∧
    ∀ v, HoldsC w2 (fun k => lo ≤ k ∧ k < hi) v a b c d → RowJ w' bL I' (acc ++ [v]) own
theorem item_put {w2 w4 : World} {bL bv lo hi m g cap : Nat} {k0 : Int} {acc : List JV} {I a b c d D : Value} {xs : List Value} {F own : Nat → Prop} (hbL : bv < bL) (hlo : bL ≤ lo) (hhi : hi ≤ w2.heap.size)
    (hI : ItemsC w2 F acc xs) (hF : ∀ k, F k → bL ≤ k ∧ ¬ own k ∧ I.ownBlock ≠ some k) (hm : m = acc.length) (hIo : ∀ k, I.ownBlock = some k → bL ≤ k ∧ k < lo) (hIn : ∀ k, own k → I.ownBlock ≠ some k)
    (how : ∀ k, own k → k < lo ∨ hi ≤ k) (howl : ∀ k, own k → k < w2.heap.size) (hR : rowC w2 bv #[.int .i64 k0, .string ⟨#[]⟩, I, D] 27)
    (hN : w4.ownsRow bL 27 4 (.slice (some ⟨g, 0, none⟩) (m + 1) cap) (m + 1) (xs ++ [.int .i64 0, .string ⟨#[]⟩, .slice none 0 0, .slice none 0 0]))
    (hc : Chg (fun k => I.ownBlock = some k) w2 w4) (hat : I.ownBlock = some g ∨ w2.heap.size ≤ g) :
    putI w2 (((((w4.setCell ⟨g, m * 4, none⟩ a).setCell ⟨g, m * 4 + 1, none⟩ b).setCell ⟨g, m * 4 + 2, none⟩ c).setCell ⟨g, m * 4 + 3, none⟩ d).setCell ⟨bv, 2, none⟩ (.slice (some ⟨g, 0, none⟩) (m + 1) cap)) bL bv lo hi own k0 acc I (.slice (some ⟨g, 0, none⟩) (m + 1) cap) D a b c d ∧
    putI w2 (((((w4.setCell ⟨bv, 2, none⟩ (.slice (some ⟨g, 0, none⟩) (m + 1) cap)).setCell ⟨g, m * 4, none⟩ a).setCell ⟨g, m * 4 + 1, none⟩ b).setCell ⟨g, m * 4 + 2, none⟩ c).setCell ⟨g, m * 4 + 3, none⟩ d) bL bv lo hi own k0 acc I (.slice (some ⟨g, 0, none⟩) (m + 1) cap) D a b c d := by
  have lbv := rowC_lt hR
  have gbv : ¬ bv = g := by
    intro e
    subst e
    rcases hat with hat | hat
    · have := (hIo _ hat).1; omega
    · omega
  have gn : ¬ own g := by
    intro hk
    rcases hat with hat | hat
    · exact hIn _ hk hat
    · have := howl _ hk; omega
  have hIbv : ¬ I.ownBlock = some bv := fun e => by have := (hIo _ e).1; omega
  have r4 := hc.rowC hR hIbv
  have set4c : ∀ x : World, Chg (fun k => k = g) x ((((x.setCell ⟨g, m * 4, none⟩ a).setCell ⟨g, m * 4 + 1, none⟩ b).setCell ⟨g, m * 4 + 2, none⟩ c).setCell ⟨g, m * 4 + 3, none⟩ d) := fun x => ((((Chg.refl _ x).cellq _ _).cellq _ _).cellq _ _).cellq _ _
  have setb : ∀ (x : World) (v : Value), Chg (fun k => k = bv) x (x.setCell ⟨bv, 2, none⟩ v) := fun x v => (Chg.refl _ x).cellq _ _
  refine ⟨⟨?_, ?_, fun v hv => ?_⟩, ⟨?_, ?_, fun v hv => ?_⟩⟩
  · exact ((hc.mono (t := fun k => I.ownBlock = some k ∨ k = bv) (fun k _ hk => .inl hk)).trans (set4c w4) (fun k hk e => by subst e; rcases hat with hat | hat; exact .inl hat; omega)).trans (setb _ _) (fun k _ hk => .inr hk)
  · exact rowC_set ((set4c w4).rowC r4 gbv) 2 _
  · refine RowJ.chg (RowJ.put hI hF hm.symm hv hlo hhi how (fun k hk => (hIo k hk).2) hN (hc.mono (fun k _ hk => .inl hk)) hat gn) (setb _ _) (fun k hk => .inl (by omega))
  · exact ((hc.mono (t := fun k => I.ownBlock = some k ∨ k = bv) (fun k _ hk => .inl hk)).trans (setb w4 _) (fun k _ hk => .inr hk)).trans (set4c _) (fun k hk e => by subst e; rcases hat with hat | hat; exact .inl hat; omega)
  · exact (set4c _).rowC (rowC_set r4 2 _) gbv
  · refine RowJ.put hI hF hm.symm hv hlo hhi how (fun k hk => (hIo k hk).2) ((setb w4 _).owns hN (fun k hk e => ?_)) ((hc.mono (t := fun k => I.ownBlock = some k ∨ own k ∨ k < bL) (fun k _ hk => .inl hk)).trans (setb w4 _) (fun k _ hk => .inr (.inr (by omega)))) hat gn
    simp only [Value.ownBlock, Option.some.injEq] at hk
    exact gbv (by rw [← e, hk])
/-- What the walk's end asks, once for all its ways. -/
theorem obj1_fin {n lev bL br bm bv q mp : Nat} {S : Bs} (hlev : lev ≤ 16) (o1 : q < br) (o2 : br < bv) (o3 : bv < mp) (o4 : mp < bm) (o5 : bm < bL) {acc : List (Bs × JV)} {r x t : Bs} {R : Res (List (Bs × JV))} {w1 w2 w3 w5 w' : World} {Q : Res JV} {a b c d ev I I' K K' : Value}
    (h : RdAt w1 q S r lev) (hst : StO bL br bm bv q mp acc w1) (hk : keyP n (acc.map (·.1)) r = some (.ok t x)) (hx : x <:+ r) (hv : valP n lev x = some Q) (hR : stepO n (valP n lev) acc r = some R)
    (hC2 : Chg (fun k => k = q ∨ k = mp) w1 w2) (hset : SetM w2 mp (acc.map (·.1) ++ [t])) (hG : gotV w2 q S x lev Q a b c d ev w3) (hC3 : Chg (· = q) w2 w3)
    (hc5 : Chg (fun k => K.ownBlock = some k ∨ k = bv) w3 w5) (hKb : ∀ k, K.ownBlock = some k → bL ≤ k) (hIb : ∀ k, I.ownBlock = some k → bL ≤ k)
    (hP : putI w5 w' bL bv w2.heap.size w3.heap.size (fun k => K'.ownBlock = some k) 6 (acc.map (·.2)) I I' K' a b c d) (hK5 : w5.ownsRow bL 9 1 K' (acc.length + 1) (keysV (acc.map (·.1)) ++ [.string (str t)]))
    (hIK : ∀ k, K'.ownBlock = some k → I.ownBlock ≠ some k) (hH : ∀ v, HoldsC w3 (fun k => w2.heap.size ≤ k ∧ k < w3.heap.size) v a b c d → HoldsC w5 (fun k => w2.heap.size ≤ k ∧ k < w3.heap.size) v a b c d)
    (hf : ∃ x n c, I' = .slice x n c) (hf2 : ∃ x n c, K' = .slice x n c) :
    saysA w1 q S r lev (fun k => k = q ∨ k = mp ∨ k = bv ∨ bL ≤ k) (StO bL br bm bv q mp) (WkV bv) R (.returned ev) w' := by
  obtain ⟨hc6, hrow, hj⟩ := hP
  have hle : bL ≤ w'.heap.size := by
    have := hst.le; have := hC2.size; have := hC3.size; have := hc5.size; have := hc6.size; omega
  have n5 : ∀ k, k < bL → k ≠ bv → ¬ (K.ownBlock = some k ∨ k = bv) := by
    rintro k hk hn (e | e)
    · have := hKb k e; omega
    · exact hn e
  have n6 : ∀ k, k < bL → k ≠ bv → ¬ (I.ownBlock = some k ∨ k = bv) := by
    rintro k hk hn (e | e)
    · have := hIb k e; omega
    · exact hn e
  have hcc : Chg (fun k => k = q ∨ k = mp ∨ k = bv ∨ bL ≤ k) w1 w' := by
    refine (((hC2.mono (fun k _ hk => ?_)).trans hC3 (fun k _ hk => .inl hk)).trans hc5 (fun k _ hk => ?_)).trans hc6 (fun k _ hk => ?_)
    · rcases hk with e | e
      · exact .inl e
      · exact .inr (.inl e)
    · rcases hk with e | e
      · exact .inr (.inr (.inr (hKb k e)))
      · exact .inr (.inr (.inl e))
    · rcases hk with e | e
      · exact .inr (.inr (.inr (hIb k e)))
      · exact .inr (.inr (.inl e))
  unfold stepO at hR
  rw [hk] at hR
  simp only [hv] at hR
  cases Q with
  | ok v y =>
    obtain ⟨rfl, hHv, h2, _⟩ := hG
    have hlt := (val_ok n lev x v y hlev hv).2.2
    refine saysA_ok (Option.some.inj hR).symm ((h2.chg hc5 (n5 q (by omega) (by omega))).chg hc6 (n6 q (by omega) (by omega))) ⟨hle, ?_, ?_, ?_, I', K', hrow, ?_, ?_⟩ hcc ((suf_of h2.suf (hx.trans h.suf) (by omega)).trans hx)
    · exact hc6.rowC (hc5.rowC (hC3.rowC (hC2.rowC hst.box (by omega)) (by omega)) (n5 br (by omega) (by omega))) (n6 br (by omega) (by omega))
    · exact hc6.rowC (hc5.rowC (hC3.rowC (hC2.rowC hst.map (by omega)) (by omega)) (n5 bm (by omega) (by omega))) (n6 bm (by omega) (by omega))
    · rw [List.map_append]
      exact ((hset.chg hC3 (by omega)).chg hc5 (n5 mp (by omega) (by omega))).chg hc6 (n6 mp (by omega) (by omega))
    · rw [List.length_append, List.map_append]
      unfold keysV at hK5 ⊢
      rw [List.map_append]
      refine hc6.owns hK5 (fun g hg e => ?_)
      rcases e with e | e
      · exact hIK g hg e
      · have := (hK5.lt g hg).1; omega
    · rw [List.map_append]
      exact hj v (hH v hHv)
  | bad code y =>
    obtain ⟨rfl, ⟨z, l2, h2, hs⟩, _⟩ := hG
    obtain ⟨xi, ni, ci, rfl⟩ := hf
    obtain ⟨xk, nk, ck, rfl⟩ := hf2
    exact saysA_bad (Option.some.inj hR).symm ⟨z, l2, (h2.chg hc5 (n5 q (by omega) (by omega))).chg hc6 (n6 q (by omega) (by omega)), hs.trans hx⟩ hcc ⟨_, _, _, _, _, _, _, _, hrow⟩
end Go.Proofs.YtcepemgalammhaaGreatDoor
