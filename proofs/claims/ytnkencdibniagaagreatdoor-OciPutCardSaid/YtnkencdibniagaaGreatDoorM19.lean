/- Merged: JtT, JtU, JtV. -/
import Derived.Test.YtnkencdibniagaaGreatDoorM18
/- Layer 11: what an object has gathered. -/
namespace Go.Proofs.YtnkencdibniagaaGreatDoor
open Go.RowKit

theorem info_S1 : (Tryz.prog.info? 9).map (fun i => (i.zero, i.size, i.bytes)) = some (some (.string ⟨#[]⟩), 1, 16) := by kernel_rfl
def keysV (l : List Bs) : List Value := l.map fun t => .string (str t)
structure StO (bL br bm bv q mp : Nat) (acc : List (Bs × JV)) (w : World) : Prop where
  le : bL ≤ w.heap.size
  box : rowC w br #[.pointer (some ⟨q, 0, none⟩)] 118
  map : rowC w bm #[.map (some mp)] 231
  set : SetM w mp (acc.map (·.1))
  row : ∃ I K, rowC w bv #[.int .i64 6, .string ⟨#[]⟩, I, K] 63 ∧ w.ownsRow bL 9 1 K acc.length (keysV (acc.map (·.1))) ∧ RowJ w bL I (acc.map (·.2)) (fun k => K.ownBlock = some k)
theorem StO.kept {bL br bm bv q mp : Nat} (o1 : q < br) (o2 : br < bv) (o3 : bv < mp) (o4 : mp < bm) (o5 : bm < bL) {acc : List (Bs × JV)} {w w' : World} (h : StO bL br bm bv q mp acc w) (hc : Chg (· = q) w w') : StO bL br bm bv q mp acc w' := by
  obtain ⟨I, K, hr, hk, hj⟩ := h.row
  exact ⟨Nat.le_trans h.le hc.size, hc.rowC h.box (by omega), hc.rowC h.map (by omega), h.set.chg hc (by omega), I, K, hc.rowC hr (by omega), hc.owns hk (fun g hg e => by have := (hk.lt g hg).1; omega), hj.chg hc (fun k hk => .inl (by omega))⟩
/-- An item is put to a value: what holds behind the two stores, in either order. -/
def putI (w2 w' : World) (bL bv lo hi : Nat) (own : Nat → Prop) (k0 : Int) (acc : List JV) (I I' D a b c d : Value) : Prop :=
  Chg (fun k => I.ownBlock = some k ∨ k = bv) w2 w' ∧ rowC w' bv #[.int .i64 k0, .string ⟨#[]⟩, I', D] 63 ∧
    ∀ v, HoldsC w2 (fun k => lo ≤ k ∧ k < hi) v a b c d → RowJ w' bL I' (acc ++ [v]) own
theorem item_put {w2 w4 : World} {bL bv lo hi m g cap : Nat} {k0 : Int} {acc : List JV} {I a b c d D : Value} {xs : List Value} {F own : Nat → Prop} (hbL : bv < bL) (hlo : bL ≤ lo) (hhi : hi ≤ w2.heap.size)
    (hI : ItemsC w2 F acc xs) (hF : ∀ k, F k → bL ≤ k ∧ ¬ own k ∧ I.ownBlock ≠ some k) (hm : m = acc.length) (hIo : ∀ k, I.ownBlock = some k → bL ≤ k ∧ k < lo) (hIn : ∀ k, own k → I.ownBlock ≠ some k)
    (how : ∀ k, own k → k < lo ∨ hi ≤ k) (howl : ∀ k, own k → k < w2.heap.size) (hR : rowC w2 bv #[.int .i64 k0, .string ⟨#[]⟩, I, D] 63)
    (hN : w4.ownsRow bL 63 4 (.slice (some ⟨g, 0, none⟩) (m + 1) cap) (m + 1) (xs ++ [.int .i64 0, .string ⟨#[]⟩, .slice none 0 0, .slice none 0 0]))
    (hc : Chg (fun k => I.ownBlock = some k) w2 w4) (hat : I.ownBlock = some g ∨ w2.heap.size ≤ g) :
    putI w2 (((((w4.setCell ⟨g, m * 4, none⟩ a).setCell ⟨g, m * 4 + 1, none⟩ b).setCell ⟨g, m * 4 + 2, none⟩ c).setCell ⟨g, m * 4 + 3, none⟩ d).setCell ⟨bv, 2, none⟩ (.slice (some ⟨g, 0, none⟩) (m + 1) cap)) bL bv lo hi own k0 acc I (.slice (some ⟨g, 0, none⟩) (m + 1) cap) D a b c d ∧
    putI w2 (((((w4.setCell ⟨bv, 2, none⟩ (.slice (some ⟨g, 0, none⟩) (m + 1) cap)).setCell ⟨g, m * 4, none⟩ a).setCell ⟨g, m * 4 + 1, none⟩ b).setCell ⟨g, m * 4 + 2, none⟩ c).setCell ⟨g, m * 4 + 3, none⟩ d) bL bv lo hi own k0 acc I (.slice (some ⟨g, 0, none⟩) (m + 1) cap) D a b c d := by
  have lbv := rowC_lt hR
  have gbv : ¬ bv = g := by
    intro e
    subst e
    rcases hat with hat | hat
    · have := (hIo _ hat).1; omega
    · omega
  have gn : ¬ own g := by
    intro hk
    rcases hat with hat | hat
    · exact hIn _ hk hat
    · have := howl _ hk; omega
  have hIbv : ¬ I.ownBlock = some bv := fun e => by have := (hIo _ e).1; omega
  have r4 := hc.rowC hR hIbv
  have set4c : ∀ x : World, Chg (fun k => k = g) x ((((x.setCell ⟨g, m * 4, none⟩ a).setCell ⟨g, m * 4 + 1, none⟩ b).setCell ⟨g, m * 4 + 2, none⟩ c).setCell ⟨g, m * 4 + 3, none⟩ d) := fun x => ((((Chg.refl _ x).cellq _ _).cellq _ _).cellq _ _).cellq _ _
  have setb : ∀ (x : World) (v : Value), Chg (fun k => k = bv) x (x.setCell ⟨bv, 2, none⟩ v) := fun x v => (Chg.refl _ x).cellq _ _
  refine ⟨⟨?_, ?_, fun v hv => ?_⟩, ⟨?_, ?_, fun v hv => ?_⟩⟩
  · exact ((hc.mono (t := fun k => I.ownBlock = some k ∨ k = bv) (fun k _ hk => .inl hk)).trans (set4c w4) (fun k hk e => by subst e; rcases hat with hat | hat; exact .inl hat; omega)).trans (setb _ _) (fun k _ hk => .inr hk)
  · exact rowC_set ((set4c w4).rowC r4 gbv) 2 _
  · refine RowJ.chg (RowJ.put hI hF hm.symm hv hlo hhi how (fun k hk => (hIo k hk).2) hN (hc.mono (fun k _ hk => .inl hk)) hat gn) (setb _ _) (fun k hk => .inl (by omega))
  · exact ((hc.mono (t := fun k => I.ownBlock = some k ∨ k = bv) (fun k _ hk => .inl hk)).trans (setb w4 _) (fun k _ hk => .inr hk)).trans (set4c _) (fun k hk e => by subst e; rcases hat with hat | hat; exact .inl hat; omega)
  · exact (set4c _).rowC (rowC_set r4 2 _) gbv
  · refine RowJ.put hI hF hm.symm hv hlo hhi how (fun k hk => (hIo k hk).2) ((setb w4 _).owns hN (fun k hk e => ?_)) ((hc.mono (t := fun k => I.ownBlock = some k ∨ own k ∨ k < bL) (fun k _ hk => .inl hk)).trans (setb w4 _) (fun k _ hk => .inr (.inr (by omega)))) hat gn
    simp only [Value.ownBlock, Option.some.injEq] at hk
    exact gbv (by rw [← e, hk])
/-- What the walk's end asks, once for all its ways. -/
theorem obj1_fin {n lev bL br bm bv q mp : Nat} {S : Bs} (hlev : lev ≤ 16) (o1 : q < br) (o2 : br < bv) (o3 : bv < mp) (o4 : mp < bm) (o5 : bm < bL) {acc : List (Bs × JV)} {r x t : Bs} {R : Res (List (Bs × JV))} {w1 w2 w3 w5 w' : World} {Q : Res JV} {a b c d ev I I' K K' : Value}
    (h : RdAt w1 q S r lev) (hst : StO bL br bm bv q mp acc w1) (hk : keyP n (acc.map (·.1)) r = some (.ok t x)) (hx : x <:+ r) (hv : valP n lev x = some Q) (hR : stepO n (valP n lev) acc r = some R)
    (hC2 : Chg (fun k => k = q ∨ k = mp) w1 w2) (hset : SetM w2 mp (acc.map (·.1) ++ [t])) (hG : gotV w2 q S x lev Q a b c d ev w3) (hC3 : Chg (· = q) w2 w3)
    (hc5 : Chg (fun k => K.ownBlock = some k ∨ k = bv) w3 w5) (hKb : ∀ k, K.ownBlock = some k → bL ≤ k) (hIb : ∀ k, I.ownBlock = some k → bL ≤ k)
    (hP : putI w5 w' bL bv w2.heap.size w3.heap.size (fun k => K'.ownBlock = some k) 6 (acc.map (·.2)) I I' K' a b c d) (hK5 : w5.ownsRow bL 9 1 K' (acc.length + 1) (keysV (acc.map (·.1)) ++ [.string (str t)]))
    (hIK : ∀ k, K'.ownBlock = some k → I.ownBlock ≠ some k) (hH : ∀ v, HoldsC w3 (fun k => w2.heap.size ≤ k ∧ k < w3.heap.size) v a b c d → HoldsC w5 (fun k => w2.heap.size ≤ k ∧ k < w3.heap.size) v a b c d)
    (hf : ∃ x n c, I' = .slice x n c) (hf2 : ∃ x n c, K' = .slice x n c) :
    saysA w1 q S r lev (fun k => k = q ∨ k = mp ∨ k = bv ∨ bL ≤ k) (StO bL br bm bv q mp) (WkV bv) R (.returned ev) w' := by
  obtain ⟨hc6, hrow, hj⟩ := hP
  have hle : bL ≤ w'.heap.size := by
    have := hst.le; have := hC2.size; have := hC3.size; have := hc5.size; have := hc6.size; omega
  have n5 : ∀ k, k < bL → k ≠ bv → ¬ (K.ownBlock = some k ∨ k = bv) := by
    rintro k hk hn (e | e)
    · have := hKb k e; omega
    · exact hn e
  have n6 : ∀ k, k < bL → k ≠ bv → ¬ (I.ownBlock = some k ∨ k = bv) := by
    rintro k hk hn (e | e)
    · have := hIb k e; omega
    · exact hn e
  have hcc : Chg (fun k => k = q ∨ k = mp ∨ k = bv ∨ bL ≤ k) w1 w' := by
    refine (((hC2.mono (fun k _ hk => ?_)).trans hC3 (fun k _ hk => .inl hk)).trans hc5 (fun k _ hk => ?_)).trans hc6 (fun k _ hk => ?_)
    · rcases hk with e | e
      · exact .inl e
      · exact .inr (.inl e)
    · rcases hk with e | e
      · exact .inr (.inr (.inr (hKb k e)))
      · exact .inr (.inr (.inl e))
    · rcases hk with e | e
      · exact .inr (.inr (.inr (hIb k e)))
      · exact .inr (.inr (.inl e))
  unfold stepO at hR
  rw [hk] at hR
  simp only [hv] at hR
  cases Q with
  | ok v y =>
    obtain ⟨rfl, hHv, h2, _⟩ := hG
    have hlt := (val_ok n lev x v y hlev hv).2.2
    refine saysA_ok (Option.some.inj hR).symm ((h2.chg hc5 (n5 q (by omega) (by omega))).chg hc6 (n6 q (by omega) (by omega))) ⟨hle, ?_, ?_, ?_, I', K', hrow, ?_, ?_⟩ hcc ((suf_of h2.suf (hx.trans h.suf) (by omega)).trans hx)
    · exact hc6.rowC (hc5.rowC (hC3.rowC (hC2.rowC hst.box (by omega)) (by omega)) (n5 br (by omega) (by omega))) (n6 br (by omega) (by omega))
    · exact hc6.rowC (hc5.rowC (hC3.rowC (hC2.rowC hst.map (by omega)) (by omega)) (n5 bm (by omega) (by omega))) (n6 bm (by omega) (by omega))
    · rw [List.map_append]
      exact ((hset.chg hC3 (by omega)).chg hc5 (n5 mp (by omega) (by omega))).chg hc6 (n6 mp (by omega) (by omega))
    · rw [List.length_append, List.map_append]
      unfold keysV at hK5 ⊢
      rw [List.map_append]
      refine hc6.owns hK5 (fun g hg e => ?_)
      rcases e with e | e
      · exact hIK g hg e
      · have := (hK5.lt g hg).1; omega
    · rw [List.map_append]
      exact hj v (hH v hHv)
  | bad code y =>
    obtain ⟨rfl, ⟨z, l2, h2, hs⟩, _⟩ := hG
    obtain ⟨xi, ni, ci, rfl⟩ := hf
    obtain ⟨xk, nk, ck, rfl⟩ := hf2
    exact saysA_bad (Option.some.inj hR).symm ⟨z, l2, (h2.chg hc5 (n5 q (by omega) (by omega))).chg hc6 (n6 q (by omega) (by omega)), hs.trans hx⟩ hcc ⟨_, _, _, _, _, _, _, _, hrow⟩
end Go.Proofs.YtnkencdibniagaaGreatDoor

/- Layer 11: an item of an object is read. -/
namespace Go.Proofs.YtnkencdibniagaaGreatDoor
open Go.RowKit
attribute [local go_sem ↓] Go.wp_at_zero Go.wp_at_succ

theorem step_len {n lev : Nat} {acc : List (Bs × JV)} {r : Bs} {R : Res (List (Bs × JV))} (h : stepO n (valP n lev) acc r = some R) : ∃ K, keyP n (acc.map (·.1)) r = some K ∧ match K with
    | .bad code x => R = .bad code x
    | .ok _ x => ∃ Q, valP n lev x = some Q := by
  unfold stepO at h
  cases hk : keyP n (acc.map (·.1)) r with
  | none => rw [hk] at h; cases h
  | some K =>
    refine ⟨K, rfl, ?_⟩
    rw [hk] at h
    cases K with
    | bad code x => exact (Option.some.inj h).symm
    | ok t x =>
      cases hv : valP n lev x with
      | none => simp only [hv] at h; cases h
      | some Q => exact ⟨Q, hv⟩
set_option maxRecDepth 100000 in
set_option maxHeartbeats 8000000 in
theorem object1_any {n lev bL br bm bv q mp : Nat} (V : ValOk n) (hlev : lev ≤ 16) (S : Bs) (hS : okS S) (hq : 10 ≤ q) (o1 : q < br) (o2 : br < bv) (o3 : bv < mp) (o4 : mp < bm) (o5 : bm < bL)
    (acc : List (Bs × JV)) (r : Bs) (R : Res (List (Bs × JV))) (w1 : World) (hE : Env w1) (h : RdAt w1 q S r lev) (hst : StO bL br bm bv q mp acc w1) (hBd : acc.length + r.length ≤ 65536) (hR : stepO n (valP n lev) acc r = some R) :
    Calls Tryz.prog 159 #[.pointer (some ⟨br, 0, none⟩), .pointer (some ⟨bm, 0, none⟩), .pointer (some ⟨bv, 0, none⟩)] w1 fun e w2 => saysA w1 q S r lev (fun k => k = q ∨ k = mp ∨ k = bv ∨ bL ≤ k) (StO bL br bm bv q mp) (WkV bv) R e w2 := by
  obtain ⟨KK, hk, hKK⟩ := step_len hR
  have CK := key_any hS hE hq h hst.set (by rw [List.length_map]; omega) hk
  have b0 : w1.cell? ⟨br, 0, none⟩ = some (.pointer (some ⟨q, 0, none⟩)) := rowC_cell hst.box 0
  have b1 : w1.cell? ⟨bm, 0, none⟩ = some (.map (some mp)) := rowC_cell hst.map 0
  cases KK with
  | bad code x =>
    unfold saysK errAt errV at CK
    have HKK := Lib.hid (show R = .bad code x from hKK)
    have HST := Lib.hid hst
    clear hk hKK hR hst h hE V
    go_enter Tryz.func159, Tryz.ntmps159
    go_wp2_with (go_at_call 160; ((with_reducible refine CK.mono ?_); rintro e w2 ⟨rfl, h2, c2⟩))
    go_ret
    obtain ⟨y, ly, hy1, hy2⟩ := h2
    obtain ⟨I, K, hr, hko, hj⟩ := HST.out.row
    obtain ⟨xs, F, ho, _, _⟩ := hj.ex
    obtain ⟨ai, ci, rfl⟩ := owns_form ho
    obtain ⟨ak, ck, rfl⟩ := owns_form hko
    exact saysA_bad HKK.out ⟨y, ly, hy1, hy2⟩ (c2.mono (fun k _ hk => by rcases hk with e | e; exact .inl e; exact .inr (.inl e))) ⟨_, _, _, _, _, _, _, _, c2.rowC hr (by omega)⟩
  | ok t x =>
    obtain ⟨Q, hv⟩ := hKK
    unfold saysK at CK
    have CV := fun (w2 : World) (h2 : RdAt w2 q S x lev) (c2 : Chg (fun k => k = q ∨ k = mp) w1 w2) => V w2 q S x lev Q hS (hE.chg c2 (fun k hk e => by omega)) hq h2 hlev hv
    have FIN := Lib.hid (fun (hx : x <:+ r) (w2 w3 w5 w' : World) (a b c d ev I I' K K' : Value) => obj1_fin (w2 := w2) (w3 := w3) (w5 := w5) (w' := w') (a := a) (b := b) (c := c) (d := d) (ev := ev) (I := I) (I' := I') (K := K) (K' := K') hlev o1 o2 o3 o4 o5 h hst hk hx hv hR)
    have hxl := (key_ok hk).2.2
    have HST := Lib.hid hst
    have HBD := Lib.hid hBd
    have HHr := Lib.hid h.suf
    obtain ⟨I, K, hr0, hko0, hj0⟩ := hst.row
    obtain ⟨m, hm⟩ : ∃ m, m = acc.length := ⟨_, rfl⟩
    have hml : m ≤ 65536 := by omega
    obtain ⟨⟨xs, F, ho0, hI0, hF⟩, hIn⟩ := hj0
    rw [List.length_map, ← hm] at ho0
    rw [← hm] at hko0
    obtain ⟨ai, ci, rfl⟩ := owns_form ho0
    obtain ⟨ak, ck, rfl⟩ := owns_form hko0
    have hlx := ItemsC.len _ _ hI0
    rw [List.length_map, ← hm] at hlx
    have HM := Lib.hid hm
    have HR0 := Lib.hid hr0
    have HKO0 := Lib.hid hko0
    have HO0 := Lib.hid ho0
    have HI0 := Lib.hid (ItemsC.mono (G := fun k => F k ∧ k < w1.heap.size) (fun k hk hlt => ⟨hk, hlt⟩) _ xs hI0)
    have HF := Lib.hid hF
    have HIN := Lib.hid hIn
    have HKV : Hid ((Value.slice ak m ck).ownBlock ≠ some bv) := Lib.hid (fun e => by have := (hko0.lt _ e).1; omega)
    have HIV : Hid ((Value.slice ai m ci).ownBlock ≠ some bv) := Lib.hid (fun e => by have := (ho0.lt _ e).1; omega)
    have HKL := Lib.hid (fun k (e : (Value.slice ak m ck).ownBlock = some k) => hko0.lt k e)
    have HIL := Lib.hid (fun k (e : (Value.slice ai m ci).ownBlock = some k) => ho0.lt k e)
    have HXL := Lib.hid hlx
    have hle := hst.le
    obtain ⟨i0, hi0, hz0, hz1, hz2⟩ := info_parts info_V3
    obtain ⟨j0, ji0, jz0, jz1, jz2⟩ := info_parts info_S1
    clear hk hv hR hst h hE V hm hr0 hko0 ho0 hI0 hF hIn hlx hBd
    go_enter Tryz.func159, Tryz.ntmps159
    go_upto_region 5 with (first
      | (go_at_call 160; ((with_reducible refine CK.mono ?_); rintro e w2 ⟨rfl, htl, h2, hset, c2⟩; have b2 := rowC_cell (c2.rowC HST.out.box (by omega)) 0; have C := CV w2 h2 c2; have H2 := Lib.hid h2; have HSET := Lib.hid hset; have C2 := Lib.hid c2; clear h2 hset c2))
      | (go_at_call 98; ((with_reducible refine C.mono ?_); rintro e w3 VV; obtain ⟨k, t0, x1, n1, c1, x2, n2, c2, ev, rfl, HG⟩ := saysV_all VV; clear VV)))
    have HXR := Lib.hid (suf_of H2.out.suf HHr.out (by omega))
    have hr3 := HG.out.1.rowC (C2.out.rowC HR0.out (by omega)) (by omega)
    have hko3 := HG.out.1.owns (C2.out.owns HKO0.out (fun g hg e => by have := (HKO0.out.lt g hg).1; omega)) (fun g hg e => by have := (HKO0.out.lt g hg).1; omega)
    have ho3 := HG.out.1.owns (C2.out.owns HO0.out (fun g hg e => by have := (HO0.out.lt g hg).1; omega)) (fun g hg e => by have := (HO0.out.lt g hg).1; omega)
    have hI3 := ItemsC.chg HG.out.1 (fun k hk e => by have := (HF.out k hk.1).1; omega) _ xs (ItemsC.chg C2.out (fun k hk e => by have := (HF.out k hk.1).1; omega) _ xs HI0.out)
    have s13 : w1.heap.size ≤ w3.heap.size := Nat.le_trans C2.out.size HG.out.1.size
    obtain ⟨W, hW⟩ : ∃ W, W = w3.alloc (Obj.cells #[.int .i64 k, .string t0, .slice x1 n1 c1, .slice x2 n2 c2] 63) := ⟨_, rfl⟩
    have hbv3 := rowC_lt hr3
    have hck : W.cell? ⟨bv, 3, none⟩ = some (.slice ak m ck) := by rw [hW]; exact rowC_cell (rowC_alloc hr3 _) 3
    have hsz : W.heap.size = w3.heap.size + 1 := by rw [hW]; exact size_alloc _ _
    have hkoW : W.ownsRow bL 9 1 (.slice ak m ck) m (keysV (acc.map (·.1))) := by rw [hW]; exact hko3.alloc _
    have HRW : Hid (rowC W bv #[.int .i64 6, .string ⟨#[]⟩, .slice ai m ci, .slice ak m ck] 63) := by rw [hW]; exact Lib.hid (rowC_alloc hr3 _)
    have HXW : Hid (rowC W w3.heap.size #[.int .i64 k, .string t0, .slice x1 n1 c1, .slice x2 n2 c2] 63) := by rw [hW]; exact Lib.hid (rowC_new w3 _ _)
    have HOW : Hid (W.ownsRow bL 63 4 (.slice ai m ci) m xs) := by rw [hW]; exact Lib.hid (ho3.alloc _)
    have HCW : Hid (Chg (fun _ => False) w3 W) := by rw [hW]; exact Lib.hid ((Chg.refl _ _).alloc _)
    have HI3 := Lib.hid hI3
    have HS3 := Lib.hid s13
    rw [← hW]
    have hbLW : bL ≤ W.heap.size := by omega
    have hWs : w3.heap.size < W.heap.size := by omega
    have hbvW : bv < W.heap.size := by omega
    have HSZ := Lib.hid hsz
    clear hsz hW hr3 hko3 ho3 hI3 b0 b1 b2 C CV CK hxl
    go_upto_region 6 with ((with_reducible show wpList _ _ _ (⟨some 25, _, _, _, _, _⟩ :: _) _ _); refine wpList_append_lies _ rfl _ _ 61 rfl bL 9 j0 (.string ⟨#[]⟩) 1 16 Tryz.underlying61 ji0 jz0 jz1 jz2 rfl (by decide) (.slice ak m ck) m (keysV (acc.map (·.1))) rfl (hkoW.alloc _) ⟨W.heap.size, 0, none⟩ 1 1 [.string (str t)] rfl rfl (World.news_of_block (heap_alloc_new W _)) (by intro u hu; simp at hu; rw [hu]; rfl) (by decide) (by unfold maxLen; omega) (by omega) (by rw [size_alloc]; omega) _ rfl ?_; intro gk capk w4 hown4 hgrow4 hat4 hlt4; have r4 := row_far (rowC_alloc HRW.out _) hgrow4 HKV.out; have cbk := rowC_cell r4 3; have fbk := rowC_free r4 3; have R4 := Lib.hid r4; clear r4; have HK4 := Lib.hid hown4; have HG4 := Lib.hid hgrow4; have HA4 := Lib.hid hat4; clear hown4 hgrow4 hat4)
    have hat4 := HA4.out
    rw [size_alloc] at hat4
    have gkv : ¬ bv = gk := by
      intro e
      subst e
      rcases hat4 with e | e
      · exact HKV.out e
      · omega
    have hI4 : ∀ k, (Value.slice ak m ck).ownBlock = some k → (Value.slice ai m ci).ownBlock ≠ some k := HIN.out
    have hIg : (Value.slice ai m ci).ownBlock ≠ some gk := by
      intro e
      rcases hat4 with e4 | e4
      · exact HIN.out gk e4 e
      · have := (HIL.out gk e).2; have := HS3.out; omega
    have glo : gk < w1.heap.size ∨ w3.heap.size < gk := by
      rcases hat4 with e4 | e4
      · exact .inl (HKL.out gk e4).2
      · exact .inr (by omega)
    have hc34 : Chg (fun k => (Value.slice ak m ck).ownBlock = some k) w3 w4 := ((HCW.out.mono (fun k _ hk => hk.elim)).alloc _).grown HG4.out (fun k hk => .inl hk)
    have hX4 : rowC w4 w3.heap.size #[.int .i64 k, .string t0, .slice x1 n1 c1, .slice x2 n2 c2] 63 := row_far (rowC_alloc HXW.out _) HG4.out (fun e => by have := (HKL.out _ e).2; have := HS3.out; omega)
    have hO4 : w4.ownsRow bL 63 4 (.slice ai m ci) m xs := ((Chg.refl (fun k => (Value.slice ak m ck).ownBlock = some k) _).grown HG4.out (fun k hk => .inl hk)).owns (HOW.out.alloc _) (fun g hg e => HIN.out g e hg)
    have setb : Chg (fun k => k = bv) w4 (w4.setCell ⟨bv, 3, none⟩ (.slice (some ⟨gk, 0, none⟩) (m + 1) capk)) := (Chg.refl _ w4).cellq _ _
    obtain ⟨W5, hW5⟩ : ∃ W5, W5 = w4.setCell ⟨bv, 3, none⟩ (.slice (some ⟨gk, 0, none⟩) (m + 1) capk) := ⟨_, rfl⟩
    have hs5 : w3.heap.size < W5.heap.size := by rw [hW5]; have := setb.size; have := rowC_lt hX4; omega
    have R5 : Hid (rowC W5 bv #[.int .i64 6, .string ⟨#[]⟩, .slice ai m ci, .slice (some ⟨gk, 0, none⟩) (m + 1) capk] 63) := by rw [hW5]; exact Lib.hid (rowC_set R4.out 3 _)
    rw [← hW5] at setb
    have C5 : Hid (Chg (fun k => (Value.slice ak m ck).ownBlock = some k ∨ k = bv) w3 W5) := Lib.hid ((hc34.mono (t := fun k => (Value.slice ak m ck).ownBlock = some k ∨ k = bv) (fun k _ hk => .inl hk)).trans setb (fun k _ hk => .inr hk))
    have X5 := setb.rowC hX4 (by omega)
    have hoW := setb.owns hO4 (fun g hg e => HIV.out (by rw [← e]; exact hg))
    have K5 := Lib.hid (setb.owns HK4.out (fun g hg e => gkv (by simp only [Value.ownBlock, Option.some.injEq] at hg; rw [← e, hg])))
    have I5 := Lib.hid (ItemsC.chg C5.out (fun k hk e => by
      rcases e with e | e
      · exact (HF.out k hk.1).2.1 e
      · have := (HF.out k hk.1).1; omega) _ xs HI3.out)
    have g5 : gk < W5.heap.size := by rw [hW5]; exact Nat.lt_of_lt_of_le hlt4 ((Chg.refl (fun k => k = bv) w4).cellq 3 _).size
    rw [← hW5]
    have hcv : W5.cell? ⟨bv, 2, none⟩ = some (.slice ai m ci) := rowC_cell R5.out 2
    have hfv : W5.frozen? ⟨bv, 2, none⟩ = false := rowC_free R5.out 2
    have hx0 : W5.cell? ⟨w3.heap.size, 0, none⟩ = some (.int .i64 k) := rowC_cell X5 0
    have hx1 : W5.cell? ⟨w3.heap.size, 1, none⟩ = some (.string t0) := rowC_cell X5 1
    have hx2 : W5.cell? ⟨w3.heap.size, 2, none⟩ = some (.slice x1 n1 c1) := rowC_cell X5 2
    have hx3 : W5.cell? ⟨w3.heap.size, 3, none⟩ = some (.slice x2 n2 c2) := rowC_cell X5 3
    have hIbv := HIV.out
    have hIbx : (Value.slice ai m ci).ownBlock ≠ some w3.heap.size := fun e => by have := (HIL.out _ e).2; have := HS3.out; omega
    have hbv5 : bv < W5.heap.size := rowC_lt R5.out
    have hbL5 : bL ≤ W5.heap.size := by have := HSZ.out; omega
    have hxbv : ¬ w3.heap.size = bv := by omega
    have hbvx : ¬ bv = w3.heap.size := by omega
    have m0 : (0 : Int) ≤ (m : Int) := by omega
    have m1 : (m : Int) < ((m + 1 : Nat) : Int) := by omega
    have m2 : (m : Int) < (m : Int) + 1 := by omega
    have GKV := Lib.hid gkv
    have HIG := Lib.hid hIg
    have GLO := Lib.hid glo
    have HOW5 := Lib.hid hoW
    clear hW5 setb hc34 hX4 hO4 X5 gkv hI4 hIg glo hat4 hlt4 cbk fbk hck hkoW hbLW hWs hbvW hbv3
    go_region_law (refine step_append_lies _ (by rfl) _ _ _ (by rfl) bL 63 i0 _ 4 72 Tryz.underlying60 hi0 hz0 hz1 hz2 rfl (by omega) (.slice ai m ci) m xs (by rfl) ((hoW.alloc _).drew) ⟨W5.heap.size, 0, none⟩ 1 1 [.int .i64 0, .string ⟨#[]⟩, .slice none 0 0, .slice none 0 0] (by rfl) (by rfl) (World.news_of_block (cs := #[.int .i64 0, .string ⟨#[]⟩, .slice none 0 0, .slice none 0 0]) (t := 63) (fr := (0, 0)) (heap_alloc_new W5 _)) (by simp [Value.oneCell']) (by omega) (by unfold maxLen; omega) (by omega) (by simp; omega) (W5.heap.size + 1) (by simp) ?_; intro g cap w6 hown hgrow hat hltg; obtain ⟨q0, q1, q2, q3⟩ := row_cells4 hown HXL.out; obtain ⟨z1, z2, z3, z4⟩ := apart_g hat hIbv hIbx hbv5 hs5; have y0 := ((hgrow.cell_far ⟨w3.heap.size, 0, none⟩ (by simp; omega) (Ne.symm hIbx)).trans (World.cell?_alloc_old W5 _ ⟨w3.heap.size, 0, none⟩ (by show w3.heap.size ≠ _; omega))).trans hx0; have y1 := ((hgrow.cell_far ⟨w3.heap.size, 1, none⟩ (by simp; omega) (Ne.symm hIbx)).trans (World.cell?_alloc_old W5 _ ⟨w3.heap.size, 1, none⟩ (by show w3.heap.size ≠ _; omega))).trans hx1; have y2 := ((hgrow.cell_far ⟨w3.heap.size, 2, none⟩ (by simp; omega) (Ne.symm hIbx)).trans (World.cell?_alloc_old W5 _ ⟨w3.heap.size, 2, none⟩ (by show w3.heap.size ≠ _; omega))).trans hx2; have y3 := ((hgrow.cell_far ⟨w3.heap.size, 3, none⟩ (by simp; omega) (Ne.symm hIbx)).trans (World.cell?_alloc_old W5 _ ⟨w3.heap.size, 3, none⟩ (by show w3.heap.size ≠ _; omega))).trans hx3; have cbv := ((hgrow.cell_far ⟨bv, 2, none⟩ (by simp; omega) (Ne.symm hIbv)).trans (World.cell?_alloc_old W5 _ ⟨bv, 2, none⟩ (by show bv ≠ _; omega))).trans hcv; have pbv := ((hgrow.frozen_far ⟨bv, 2, none⟩ (by simp; omega) (Ne.symm hIbv)).trans (World.frozen?_alloc_old W5 _ ⟨bv, 2, none⟩ (by show bv ≠ _; omega))).trans hfv; have p0 := hown.frozenAt (m * 4); have p1 := hown.frozenAt (m * 4 + 1); have p2 := hown.frozenAt (m * 4 + 2); have p3 := hown.frozenAt (m * 4 + 3); have HN := Lib.hid hown; have HGR := Lib.hid hgrow; have HAT := Lib.hid hat; clear hown hgrow hat hltg)
    all_goals (go_wp2; go_ret)
    all_goals (
      have hc6 : Chg (fun k => (Value.slice ai m ci).ownBlock = some k) W5 w6 := (((Chg.refl _ W5).alloc _).drew).grown HGR.out (fun k hk => .inl hk)
      obtain ⟨PA, PB⟩ := item_put (k0 := 6) (a := .int .i64 k) (b := .string t0) (c := .slice x1 n1 c1) (d := .slice x2 n2 c2) (lo := w2.heap.size) (hi := w3.heap.size) (own := fun k => (Value.slice (some ⟨gk, 0, none⟩) (m + 1) capk).ownBlock = some k) (by omega) (Nat.le_trans hle C2.out.size) (by omega) I5.out (fun k hk => ⟨(HF.out k hk.1).1, fun e => by
          simp only [Value.ownBlock, Option.some.injEq] at e
          have := hk.2
          have := HS3.out
          rcases HA4.out with e4 | e4
          · exact (HF.out k hk.1).2.1 (by rw [← e]; exact e4)
          · rw [size_alloc] at e4; have := HSZ.out; omega, (HF.out k hk.1).2.2⟩) (by rw [List.length_map]; exact HM.out) (fun k hk => ⟨(HIL.out k hk).1, Nat.lt_of_lt_of_le (HIL.out k hk).2 C2.out.size⟩) (fun k hk e => HIG.out (by simp only [Value.ownBlock, Option.some.injEq] at hk; rw [hk]; exact e))
          (fun k hk => by simp only [Value.ownBlock, Option.some.injEq] at hk; have := GLO.out; have := C2.out.size; omega) (fun k hk => by simp only [Value.ownBlock, Option.some.injEq] at hk; omega) R5.out HN.out hc6 (by rcases HAT.out with e | e; exact .inl e; exact .inr (by omega))
      have FF := fun w' hP => FIN.out HXR.out w2 w3 W5 w' (.int .i64 k) (.string t0) (.slice x1 n1 c1) (.slice x2 n2 c2) ev (.slice ai m ci) (.slice (some ⟨g, 0, none⟩) (m + 1) cap) (.slice ak m ck) (.slice (some ⟨gk, 0, none⟩) (m + 1) capk) C2.out HSET.out HG.out.2 HG.out.1 C5.out (fun k hk => (HKL.out k hk).1) (fun k hk => (HIL.out k hk).1) hP (by rw [← HM.out]; exact K5.out)
        (fun k hk e => HIG.out (by simp only [Value.ownBlock, Option.some.injEq] at hk; rw [hk]; exact e)) (fun v hv => HoldsC.chg C5.out (fun k hk e => by
          have := C2.out.size
          rcases e with e | e
          · have := (HKL.out k e).2; omega
          · omega) v _ _ _ _ hv) ⟨_, _, _, rfl⟩ ⟨_, _, _, rfl⟩
      show saysA w1 q S r lev (fun k => k = q ∨ k = mp ∨ k = bv ∨ bL ≤ k) (StO bL br bm bv q mp) (WkV bv) R (.returned ev) _
      first
      | (with_reducible exact FF _ PA)
      | (with_reducible exact FF _ PB))
end Go.Proofs.YtnkencdibniagaaGreatDoor

/- Layer 11: an object. -/
namespace Go.Proofs.YtnkencdibniagaaGreatDoor
open Go.RowKit

theorem enter_object1 (args : Array Value) (w : World) : (callFunc 159 args).run Tryz.prog w = .ok (.enter 159 args) w := by kernel_rfl
theorem part_object {n lev bL br bm bv q mp : Nat} (V : ValOk n) (hlev : lev + 1 ≤ 16) (S : Bs) (hS : okS S) (hq : 10 ≤ q) (o1 : q < br) (o2 : br < bv) (o3 : bv < mp) (o4 : mp < bm) (o5 : bm < bL) :
    Part q S (lev + 1) (fun k => k = q ∨ k = mp ∨ k = bv ∨ bL ≤ k) (StO bL br bm bv q mp) (WkV bv) (fun acc r => acc.length + r.length ≤ 65536) 159 #[.pointer (some ⟨br, 0, none⟩), .pointer (some ⟨bm, 0, none⟩), .pointer (some ⟨bv, 0, none⟩)] (stepO n (valP n (lev + 1))) where
  enter := enter_object1
  weak := fun a w h => by
    obtain ⟨I, K, hr, hk, ⟨xs, F, ho, _, _⟩, _⟩ := h.row
    obtain ⟨x, c, rfl⟩ := owns_form ho
    obtain ⟨x, c, rfl⟩ := owns_form hk
    exact ⟨_, _, _, _, _, _, _, _, hr⟩
  kept := fun a w1 w2 h hc => h.kept o1 o2 o3 o4 o5 hc
  own := .inl rfl
  env := fun k hk => by omega
  sub := fun a r x hs hB => by have := hs.length_le; omega
  go := fun a r a' x hB hs => by
    unfold stepO at hs
    cases hk : keyP n (a.map (·.1)) r with
    | none => rw [hk] at hs; cases hs
    | some K =>
      rw [hk] at hs
      cases K with
      | bad code y => cases hs
      | ok t y =>
        have h1 := (key_ok hk).2.2
        cases hv : valP n (lev + 1) y with
        | none => simp only [hv] at hs; cases hs
        | some Q =>
          simp only [hv] at hs
          cases Q with
          | bad code z => cases hs
          | ok v z =>
            have hlt := (val_ok n (lev + 1) y v z hlev hv).2.2
            cases hs
            rw [List.length_append, List.length_singleton]
            omega
  call := fun a r R w1 hE h hst hB hs => object1_any V hlev S hS hq o1 o2 o3 o4 o5 a r R w1 hE h hst hB hs
theorem keys_holds {w : World} {bL n : Nat} {K : Value} {keys : List Bs} (h : w.ownsRow bL 9 1 K n (keysV keys)) (hn : n = keys.length) : HoldsK w (fun k => bL ≤ k ∧ k < w.heap.size) keys K := by
  subst hn
  have hl := h.lt
  rcases h.2 with ⟨hv, hn⟩ | ⟨g, cap, cur, hv, hb, _⟩
  · exact .inl ⟨hv, List.eq_nil_of_length_eq_zero hn⟩
  · refine .inr ⟨⟨g, 0, none⟩, cap, hv, fun i hi => ⟨⟨hb, (hl g (by rw [hv]; rfl)).2⟩, ?_⟩⟩
    have := h.cells (g := g) (by rw [hv]; rfl) i (.string (str (keys.getD i []))) (by
      unfold keysV
      rw [List.getElem?_map, List.getElem?_eq_getElem hi, List.getD_eq_getElem?_getD, List.getElem?_eq_getElem hi]
      rfl)
    simpa [Addr.add] using this
theorem object_parts {n lev q bL br bm bv mp res : Nat} {w w1 : World} {S l : Bs} {R : Res JV} (V : ValOk n) (hS : okS S) (hE : Env w1) (hq : 10 ≤ q) (hqw : q < w.heap.size) (h : RdAt w1 q S l lev) (hlev : lev ≤ 16) (hne : l ≠ [])
    (hC : Chg (· = q) w w1) (hbr : w.heap.size ≤ br) (o2 : br < bv) (o3 : bv < mp) (o4 : mp < bm) (o5 : bm < bL) (hres : w.heap.size ≤ res) (hn3 : res ≠ bv) (hn4 : res ≠ mp) (hn5 : res < bL) (hbL : w1.heap.size = bL)
    (hB : rowC w1 br #[.pointer (some ⟨q, 0, none⟩)] 118) (hM : rowC w1 bm #[.map (some mp)] 231) (hSet : SetM w1 mp []) (hV : rowC w1 bv #[.int .i64 6, .string ⟨#[]⟩, .slice none 0 0, .slice none 0 0] 63) (hZ : rowC w1 res zeroV4 63)
    (hR : (if lev = 16 then some (.bad 11 l) else (partsP 125 (stepO n (valP n (lev + 1))) n true [] l.tail).map (Res.map mkO)) = some R) :
    Calls Tryz.prog 157 #[.pointer (some ⟨q, 0, none⟩), .int .u8 125, .func (.func 159) #[] #[.pointer (some ⟨br, 0, none⟩), .pointer (some ⟨bm, 0, none⟩), .pointer (some ⟨bv, 0, none⟩)]] w1 fun e w3 => boxed w bv res q S l lev R e w3 := by
  by_cases h16 : lev = 16
  · rw [if_pos h16, Option.some.injEq] at hR
    subst h16
    refine (parts_deep h).mono ?_
    rintro e w2 ⟨rfl, rfl⟩
    refine ⟨6, ⟨#[]⟩, none, 0, 0, none, 0, 0, _, rfl, Lib.hid ⟨hV, hZ, fun w' hc => ?_⟩⟩
    exact saysV_bad hR.symm ⟨_, _, _, _, _, _, _, _, rfl⟩ ⟨⟨l, 16, h.chg hc (by omega), List.suffix_refl _⟩, hC.trans hc (fun k hk e => by omega)⟩
  · rw [if_neg h16] at hR
    cases hp : partsP 125 (stepO n (valP n (lev + 1))) n true [] l.tail with
    | none => rw [hp] at hR; cases hR
    | some Q =>
      rw [hp] at hR
      have hR' : R = Res.map mkO Q := (Option.some.inj hR).symm
      have hl := h.suf.length_le
      have hSS := hS
      unfold okS at hSS
      have P := part_object (lev := lev) (br := br) (bm := bm) (bv := bv) (bL := bL) (q := q) (mp := mp) V (by omega) S hS hq (by omega) o2 o3 o4 o5
      refine (parts_any (a := ([] : List (Bs × JV))) hS hE hq h (by omega) hne (.inr rfl) 125 rfl P ⟨by omega, hB, hM, hSet, _, _, hV, World.ownsRow_nil _ _ _ _, RowJ.nil _ _ _⟩ (show [].length + l.tail.length ≤ 65536 by rw [List.length_tail]; simp; omega) hp).mono ?_
      intro e w3 hA
      cases Q with
      | bad code x =>
        obtain ⟨rfl, ⟨y, l2, h2, hs⟩, hc, ⟨k, t, x1, n1, c1, x2, n2, c2, hrow⟩⟩ := hA
        refine ⟨k, t, x1, n1, c1, x2, n2, c2, _, rfl, Lib.hid ⟨hrow, hc.rowC hZ (by omega), fun w' hc' => ?_⟩⟩
        exact saysV_bad hR' ⟨_, _, _, _, _, _, _, _, rfl⟩ ⟨⟨y, l2, h2.chg hc' (by omega), hs⟩, (hC.trans hc (fun k hk e => by omega)).trans hc' (fun k hk e => by omega)⟩
      | ok acc x =>
        obtain ⟨rfl, h2, hst, hc, hs⟩ := hA
        obtain ⟨I, K, hr, hk, hj⟩ := hst.row
        obtain ⟨ai, ci, rfl⟩ := owns_form hj.ex.choose_spec.choose_spec.1
        obtain ⟨ak, ck, rfl⟩ := owns_form hk
        refine ⟨6, ⟨#[]⟩, ai, _, ci, ak, _, ck, _, rfl, Lib.hid ⟨hr, hc.rowC hZ (by omega), fun w' hc' => ?_⟩⟩
        have hj' := (hj.chg hc' (fun k hk => .inl (by omega))).holds
        have hk' := keys_holds (hc'.owns hk (fun g hg e => by have := (hk.lt g hg).1; omega)) (keys := acc.map (·.1)) (by rw [List.length_map])
        refine saysV_ok hR' ⟨_, _, _, _, rfl, ?_⟩ ⟨h2.chg hc' (by omega), (hC.trans hc (fun k hk e => by omega)).trans hc' (fun k hk e => by omega)⟩
        unfold mkO
        rw [HoldsC]
        refine ⟨rfl, rfl, by simp, hk'.mono (fun k hk hlt => ⟨by have := hC.size; omega, hlt⟩), ?_⟩
        rcases hj' with ⟨h5, h6⟩ | ⟨ad, cap, h5, h6⟩
        · exact .inl ⟨h5, h6⟩
        · exact .inr ⟨ad, cap, h5, HoldsR.mono (fun k hk hlt => ⟨by have := hC.size; omega, hlt⟩) _ _ _ h6⟩
set_option maxRecDepth 100000 in
set_option maxHeartbeats 4000000 in
theorem object_any {n lev q : Nat} {w : World} {S l : Bs} {R : Res JV} (V : ValOk n) (hS : okS S) (hE : Env w) (hq : 10 ≤ q) (h : RdAt w q S l lev) (hlev : lev ≤ 16) (hne : l ≠ [])
    (hR : (if lev = 16 then some (.bad 11 l) else (partsP 125 (stepO n (valP n (lev + 1))) n true [] l.tail).map (Res.map mkO)) = some R) :
    Calls Tryz.prog 136 #[.pointer (some ⟨q, 0, none⟩)] w fun e w' => saysV w q S l lev R e w' := by
  have hqw := h.lt
  obtain ⟨W0, hW0⟩ : ∃ W0, W0 = ((w.alloc (.cells #[.pointer (some ⟨q, 0, none⟩)] 118)).alloc (.cells #[.int .i64 0, .string ⟨#[]⟩, .slice none 0 0, .slice none 0 0] 63)).alloc (.cells #[.int .i64 6, .string ⟨#[]⟩, .slice none 0 0, .slice none 0 0] 63) := ⟨_, rfl⟩
  have hs0 : W0.heap.size = w.heap.size + 1 + 1 + 1 := by rw [hW0]; simp
  obtain ⟨W1, hW1⟩ : ∃ W1, W1 = (W0.alloc (.map #[] 0)).alloc (.cells #[.map (some (w.heap.size + 1 + 1 + 1))] 231) := ⟨_, rfl⟩
  have hs1 : W1.heap.size = w.heap.size + 1 + 1 + 1 + 1 + 1 := by rw [hW1]; simp [hs0]
  have A0 : Chg (fun _ => False) w W1 := by rw [hW1, hW0]; exact (((((Chg.refl _ w).alloc _).alloc _).alloc _).alloc _).alloc _
  have B0 : rowC W1 w.heap.size #[.pointer (some ⟨q, 0, none⟩)] 118 := by rw [hW1, hW0]; exact rowC_alloc (rowC_alloc (rowC_alloc (rowC_alloc (rowC_new w _ _) _) _) _) _
  have R0 : rowC W1 (w.heap.size + 1) zeroV4 63 := by
    rw [hW1, hW0, ← size_alloc w (.cells #[.pointer (some ⟨q, 0, none⟩)] 118)]
    exact rowC_alloc (rowC_alloc (rowC_alloc (rowC_new _ _ _) _) _) _
  have V0' : rowC W0 (w.heap.size + 1 + 1) #[.int .i64 6, .string ⟨#[]⟩, .slice none 0 0, .slice none 0 0] 63 := by
    rw [hW0, ← size_alloc w (.cells #[.pointer (some ⟨q, 0, none⟩)] 118), ← size_alloc (w.alloc _) (.cells #[.int .i64 0, .string ⟨#[]⟩, .slice none 0 0, .slice none 0 0] 63)]
    exact rowC_new _ _ _
  have V0 : rowC W1 (w.heap.size + 1 + 1) #[.int .i64 6, .string ⟨#[]⟩, .slice none 0 0, .slice none 0 0] 63 := by rw [hW1]; exact rowC_alloc (rowC_alloc V0' _) _
  have S0 : SetM W1 (w.heap.size + 1 + 1 + 1) [] := by
    rw [hW1, ← hs0]
    exact World.ownsMap.alloc (World.ownsMap_made W0 _ _ _) _
  have M0 : rowC W1 (w.heap.size + 1 + 1 + 1 + 1) #[.map (some (w.heap.size + 1 + 1 + 1))] 231 := by
    rw [hW1, ← hs0, ← size_alloc W0 (.map #[] 0)]
    exact rowC_new _ _ _
  have E0 : Env W1 := hE.chg A0 (fun _ _ => id)
  have H0 : RdAt W1 q S l lev := h.chg A0 (fun e => e)
  have C := object_parts (bL := W1.heap.size) V hS E0 hq hqw H0 hlev hne (A0.mono (fun k _ hk => hk.elim)) (br := w.heap.size) (bv := w.heap.size + 1 + 1) (mp := w.heap.size + 1 + 1 + 1) (bm := w.heap.size + 1 + 1 + 1 + 1) (res := w.heap.size + 1) (Nat.le_refl _) (by omega) (by omega) (by omega) (by omega) (by omega) (by omega) (by omega) (by omega) rfl B0 M0 S0 V0 R0 hR
  have HW0 := Lib.hid hW0
  have HW1 := Lib.hid hW1
  have HI := Lib.hid info_V
  have c0 := rowC_cell B0 0
  have HS0 := Lib.hid hs0
  have hmm := @run_makeMap Tryz.prog
  clear hR hW0 hW1 A0 B0 R0 V0' V0 S0 M0 E0 H0 hs0 hs1 h hE
  go_enter Tryz.func136, Tryz.ntmps136
  go_upto_region 2 with (fail)
  rw [← HW0.out]
  go_upto_region 3 with (fail)
  rw [HS0.out, ← HW1.out]
  go_wp2_with (first
    | (go_at_call 157; ((with_reducible refine C.mono ?_); rintro e w3 ⟨k, t, x1, n1, c1, x2, n2, c2, ev, rfl, HB⟩))
    | ((with_reducible show wpList _ _ _ (⟨some 12, .load _ (.tmp 4), _, _, _, _⟩ :: _) _ _); refine wpList_load_row rfl 63 _ rfl (w.heap.size + 1 + 1) rfl 63 (row4 k t x1 n1 c1 x2 n2 c2) (0, 0) _ HB.out.1 Tryz.underlying63 rfl HI.out ?_)
    | ((with_reducible show wpList _ _ _ (⟨none, .store _ (.tmp 2) _, _, _, _, _⟩ :: _) _ _); refine wpList_store_row rfl 63 _ _ rfl (w.heap.size + 1) (row4 k t x1 n1 c1 x2 n2 c2) rfl rfl 63 zeroV4 HB.out.2.1 HI.out rfl (row4_all _ _ _ _ _ _ _ _) ?_))
  refine bodyPost_ret (results_row_tmp rfl _ _ (w.heap.size + 1) 63 (row4 k t x1 n1 c1 x2 n2 c2) _ rfl (rowC_setRow HB.out.2.1 _) Tryz.underlying63 rfl HI.out ev rfl) rfl ?_
  exact HB.out.2.2 _ ((Chg.refl _ _).setRow _ _ (.inl rfl))
end Go.Proofs.YtnkencdibniagaaGreatDoor

