/- Merged: JtF, JtG, OhC. -/
import Derived.Test.YtnkencdibniagaaGreatDoorM07
import Derived.Test.YtnkencdibniagaaGreatDoorM05
import Derived.Lib.ItoaLen
/- Layer 11: what start-up laid; values in memory; words. -/
namespace Go.Proofs.YtnkencdibniagaaGreatDoor
open Go.RowKit

/-- What start-up laid, as far as it is read. -/
structure Env (w : World) : Prop where
  words : ∀ i, i < 3 → w.cell? ⟨1, i, none⟩ = some (.string (str (wordOf (i : Int))))
  tabs : Lib.Utf8Tabs 2 3 w
  errT : w.cell? ⟨0, 0, none⟩ = some (.iface 206 (.agg #[.pointer (some ⟨10, 122, none⟩)]))
  syn : ∃ tp p, w.var? Tryz.prog "strconv.ErrSyntax" = some #[.iface tp p]
  big : 10 ≤ w.heap.size
  tz : w.cell? ⟨9, 15, none⟩ = some (.int .u8 4)
theorem cell_same {w w' : World} (h : ∀ k, k < 10 → w'.heap[k]? = w.heap[k]?) (k : Nat) (hk : k < 10) (i : Nat) : w'.cell? ⟨k, i, none⟩ = w.cell? ⟨k, i, none⟩ :=
  World.cell?_of_block (w := w) (w' := w') (a := ⟨k, i, none⟩) (h k hk)
theorem syn_glob : Tryz.prog.globalNamed "strconv.ErrSyntax" = some 4 := by kernel_rfl
theorem Env.same {w w' : World} (e : Env w) (h : ∀ k, k < 10 → w'.heap[k]? = w.heap[k]?) (hs : w.heap.size ≤ w'.heap.size) : Env w' := by
  refine ⟨fun i hi => (cell_same h _ (by decide) i).trans (e.words i hi), ⟨fun c hc => (cell_same h _ (by decide) c).trans (e.tabs.1 c hc), fun i hi => ⟨(cell_same h _ (by decide) _).trans (e.tabs.2 i hi).1, (cell_same h _ (by decide) _).trans (e.tabs.2 i hi).2⟩⟩, (cell_same h _ (by decide) 0).trans e.errT, ?_, Nat.le_trans e.big hs, (cell_same h _ (by decide) 15).trans e.tz⟩
  obtain ⟨tp, p, hv⟩ := e.syn
  refine ⟨tp, p, ?_⟩
  rw [← hv]
  unfold World.var?
  rw [syn_glob]
  have := h 4 (by decide)
  simp [this]
theorem Env.chg {s : Nat → Prop} {w w' : World} (e : Env w) (h : Chg s w w') (hs : ∀ k, k < 10 → ¬ s k) : Env w' :=
  e.same (fun k hk => h.block k (Nat.lt_of_lt_of_le hk e.big) (hs k hk)) h.size
theorem Env.q {w w' : World} {q : Nat} (e : Env w) (h : Chg (· = q) w w') (hq : 10 ≤ q) : Env w' := e.chg h (fun k hk hkq => by omega)
theorem Env.below {w w' : World} (e : Env w) (h : Below w.heap.size w w') : Env w' := e.chg (s := fun _ => False) (Chg.of_below h) (fun _ _ => id)
theorem Env.drewN {w : World} (e : Env w) (n : Nat) : Env (w.drewN n) := e.same (fun _ _ => rfl) (Nat.le_refl _)
/-! ### Values in memory -/
/-- Texts, one behind the other. -/
def HoldsK (w : World) (F : Nat → Prop) (keys : List Bs) (V : Value) : Prop :=
  (V = .slice none 0 0 ∧ keys = []) ∨ ∃ (ad : Addr) (cap : Nat), V = .slice (some ad) keys.length cap ∧ ∀ i, i < keys.length → F ad.block ∧ w.cell? (ad.add i) = some (.string (str (keys.getD i [])))
mutual
/-- A value's four cells. -/
def HoldsC (w : World) (F : Nat → Prop) : JV → Value → Value → Value → Value → Prop
  | .mk k t items keys, a, b, c, d => a = .int .i64 k ∧ b = .string (str t) ∧ t.length ≤ 281474976710656 ∧ HoldsK w F keys d ∧
      ((c = .slice none 0 0 ∧ items = []) ∨ ∃ (ad : Addr) (cap : Nat), c = .slice (some ad) items.length cap ∧ HoldsR w F items ad 0)
/-- Values, one behind the other, from the i-th one on. -/
def HoldsR (w : World) (F : Nat → Prop) : List JV → Addr → Nat → Prop
  | [], _, _ => True
  | x :: l, ad, i => (∃ a b c d, F ad.block ∧ w.cell? (ad.add (4 * i)) = some a ∧ w.cell? (ad.add (4 * i + 1)) = some b ∧ w.cell? (ad.add (4 * i + 2)) = some c ∧ w.cell? (ad.add (4 * i + 3)) = some d ∧ HoldsC w F x a b c d) ∧ HoldsR w F l ad (i + 1)
end
def HoldsJ (w : World) (F : Nat → Prop) (v : JV) (V : Value) : Prop := ∃ a b c d, V = .agg #[a, b, c, d] ∧ HoldsC w F v a b c d
theorem add_block (a : Addr) (i : Nat) : (a.add i).block = a.block := by unfold Addr.add; split <;> rfl
theorem cell_chg {s : Nat → Prop} {w w' : World} (h : Chg s w w') {a : Addr} {v : Value} (hc : w.cell? a = some v) (hs : ¬ s a.block) : w'.cell? a = some v := by
  have hlt : a.block < w.heap.size := World.block_lt_of_cell? w _ hc
  rw [World.cell?_of_block (w := w) (w' := w') (a := a) (h.block _ hlt hs)]
  exact hc
theorem HoldsK.chg {s F : Nat → Prop} {w w' : World} {keys : List Bs} {V : Value} (h : HoldsK w F keys V) (hc : Chg s w w') (hs : ∀ k, F k → ¬ s k) : HoldsK w' F keys V := by
  rcases h with h | ⟨ad, cap, hv, hk⟩
  · exact .inl h
  · exact .inr ⟨ad, cap, hv, fun i hi => ⟨(hk i hi).1, cell_chg hc (hk i hi).2 (by rw [add_block]; exact hs _ (hk i hi).1)⟩⟩
theorem HoldsK.mono {F G : Nat → Prop} {w : World} {keys : List Bs} {V : Value} (h : HoldsK w F keys V) (hs : ∀ k, F k → k < w.heap.size → G k) : HoldsK w G keys V := by
  rcases h with h | ⟨ad, cap, hv, hk⟩
  · exact .inl h
  · refine .inr ⟨ad, cap, hv, fun i hi => ⟨hs _ (hk i hi).1 ?_, (hk i hi).2⟩⟩
    have := World.block_lt_of_cell? w _ (hk i hi).2
    rwa [add_block] at this
mutual
theorem HoldsC.chg {s F : Nat → Prop} {w w' : World} (hc : Chg s w w') (hs : ∀ k, F k → ¬ s k) : ∀ (v : JV) (a b c d : Value), HoldsC w F v a b c d → HoldsC w' F v a b c d
  | .mk k t items keys, a, b, c, d, h => by
    rw [HoldsC] at h ⊢
    obtain ⟨h1, h2, h3, h4, h5⟩ := h
    refine ⟨h1, h2, h3, h4.chg hc hs, ?_⟩
    rcases h5 with h5 | ⟨ad, cap, h5, h6⟩
    · exact .inl h5
    · exact .inr ⟨ad, cap, h5, HoldsR.chg hc hs items ad 0 h6⟩
theorem HoldsR.chg {s F : Nat → Prop} {w w' : World} (hc : Chg s w w') (hs : ∀ k, F k → ¬ s k) : ∀ (l : List JV) (ad : Addr) (i : Nat), HoldsR w F l ad i → HoldsR w' F l ad i
  | [], _, _, _ => by rw [HoldsR]; trivial
  | x :: l, ad, i, h => by
    rw [HoldsR] at h ⊢
    obtain ⟨⟨a, b, c, d, h0, h1, h2, h3, h4, h5⟩, h6⟩ := h
    exact ⟨⟨a, b, c, d, h0, cell_chg hc h1 (by rw [add_block]; exact hs _ h0), cell_chg hc h2 (by rw [add_block]; exact hs _ h0), cell_chg hc h3 (by rw [add_block]; exact hs _ h0), cell_chg hc h4 (by rw [add_block]; exact hs _ h0), HoldsC.chg hc hs x a b c d h5⟩, HoldsR.chg hc hs l ad (i + 1) h6⟩
end
mutual
theorem HoldsC.mono {F G : Nat → Prop} {w : World} (hs : ∀ k, F k → k < w.heap.size → G k) : ∀ (v : JV) (a b c d : Value), HoldsC w F v a b c d → HoldsC w G v a b c d
  | .mk k t items keys, a, b, c, d, h => by
    rw [HoldsC] at h ⊢
    obtain ⟨h1, h2, h3, h4, h5⟩ := h
    refine ⟨h1, h2, h3, h4.mono hs, ?_⟩
    rcases h5 with h5 | ⟨ad, cap, h5, h6⟩
    · exact .inl h5
    · exact .inr ⟨ad, cap, h5, HoldsR.mono hs items ad 0 h6⟩
theorem HoldsR.mono {F G : Nat → Prop} {w : World} (hs : ∀ k, F k → k < w.heap.size → G k) : ∀ (l : List JV) (ad : Addr) (i : Nat), HoldsR w F l ad i → HoldsR w G l ad i
  | [], _, _, _ => by rw [HoldsR]; trivial
  | x :: l, ad, i, h => by
    rw [HoldsR] at h ⊢
    obtain ⟨⟨a, b, c, d, h0, h1, h2, h3, h4, h5⟩, h6⟩ := h
    have hlt : ad.block < w.heap.size := by
      have := World.block_lt_of_cell? w _ h1
      rwa [add_block] at this
    exact ⟨⟨a, b, c, d, hs _ h0 hlt, h1, h2, h3, h4, HoldsC.mono hs x a b c d h5⟩, HoldsR.mono hs l ad (i + 1) h6⟩
end
theorem HoldsJ.chg {s F : Nat → Prop} {w w' : World} {v : JV} {V : Value} (h : HoldsJ w F v V) (hc : Chg s w w') (hs : ∀ k, F k → ¬ s k) : HoldsJ w' F v V := by
  obtain ⟨a, b, c, d, h1, h2⟩ := h
  exact ⟨a, b, c, d, h1, HoldsC.chg hc hs v a b c d h2⟩
theorem HoldsJ.mono {F G : Nat → Prop} {w : World} {v : JV} {V : Value} (h : HoldsJ w F v V) (hs : ∀ k, F k → k < w.heap.size → G k) : HoldsJ w G v V := by
  obtain ⟨a, b, c, d, h1, h2⟩ := h
  exact ⟨a, b, c, d, h1, HoldsC.mono hs v a b c d h2⟩
/-- The form that the four cells have. -/
theorem HoldsC.form {F : Nat → Prop} {w : World} {v : JV} {a b c d : Value} (h : HoldsC w F v a b c d) : a = .int .i64 v.kind ∧ b = .string (str v.text) ∧ (∃ x cap, c = .slice x v.items.length cap) ∧ ∃ x cap, d = .slice x v.keys.length cap := by
  obtain ⟨k, t, items, keys⟩ := v
  rw [HoldsC] at h
  obtain ⟨h1, h2, _, h4, h5⟩ := h
  refine ⟨h1, h2, ?_, ?_⟩
  · rcases h5 with ⟨h5, h6⟩ | ⟨ad, cap, h5, _⟩
    · exact ⟨none, 0, by rw [h5]; show _ = Value.slice none items.length 0; rw [h6]; rfl⟩
    · exact ⟨some ad, cap, h5⟩
  · rcases h4 with ⟨h5, h6⟩ | ⟨ad, cap, h5, _⟩
    · exact ⟨none, 0, by rw [h5]; show _ = Value.slice none keys.length 0; rw [h6]; rfl⟩
    · exact ⟨some ad, cap, h5⟩
theorem holds_word (w : World) (F : Nat → Prop) (k : Int) : HoldsJ w F (.mk k [] [] []) (.agg #[.int .i64 k, .string ⟨#[]⟩, .slice none 0 0, .slice none 0 0]) :=
  ⟨_, _, _, _, rfl, by rw [HoldsC]; exact ⟨rfl, rfl, by simp, .inl ⟨rfl, rfl⟩, .inl ⟨rfl, rfl⟩⟩⟩
theorem holds_text (w : World) (F : Nat → Prop) (k : Int) {t : Bs} (ht : t.length ≤ 281474976710656) : HoldsJ w F (.mk k t [] []) (.agg #[.int .i64 k, .string (str t), .slice none 0 0, .slice none 0 0]) :=
  ⟨_, _, _, _, rfl, by rw [HoldsC]; exact ⟨rfl, rfl, ht, .inl ⟨rfl, rfl⟩, .inl ⟨rfl, rfl⟩⟩⟩
/-- Four cells that may stand in a block. -/
def four (V : Value) : Prop := ∃ (k : Int) (t : ByteArray) (x1 : Option Addr) (n1 c1 : Nat) (x2 : Option Addr) (n2 c2 : Nat), V = .agg #[.int .i64 k, .string t, .slice x1 n1 c1, .slice x2 n2 c2]
theorem HoldsJ.four {F : Nat → Prop} {w : World} {v : JV} {V : Value} (h : HoldsJ w F v V) : four V := by
  obtain ⟨a, b, c, d, rfl, h2⟩ := h
  obtain ⟨rfl, rfl, ⟨x, cap, rfl⟩, y, cap', rfl⟩ := h2.form
  exact ⟨_, _, _, _, _, _, _, _, rfl⟩
/-- What a reading of a value says of a call that answers it and an error. New blocks hold it. -/
def saysV (w : World) (q : Nat) (S r : Bs) (lev : Nat) (R : Res JV) (e : Ending) (w' : World) : Prop :=
  match R with
  | .ok v x => ∃ V, e = .returned (.tuple #[V, .nilIface]) ∧ HoldsJ w' (fun k => w.heap.size ≤ k ∧ k < w'.heap.size) v V ∧ okP w q S x lev w'
  | .bad code x => ∃ V, e = .returned (.tuple #[V, errAt S code x]) ∧ four V ∧ badP w q S r w'
end Go.Proofs.YtnkencdibniagaaGreatDoor

/- Layer 11: words. -/
namespace Go.Proofs.YtnkencdibniagaaGreatDoor
open Go.RowKit

def zeroV4 : Array Value := #[.int .i64 0, .string ⟨#[]⟩, .slice none 0 0, .slice none 0 0]
def cells4 (k : Int) (t : ByteArray) : Array Value := #[.int .i64 k, .string t, .slice none 0 0, .slice none 0 0]
def row4 (k : Int) (t : ByteArray) (x1 : Option Addr) (n1 c1 : Nat) (x2 : Option Addr) (n2 c2 : Nat) : Array Value := #[.int .i64 k, .string t, .slice x1 n1 c1, .slice x2 n2 c2]
theorem row4_all (k : Int) (t : ByteArray) (x1 : Option Addr) (n1 c1 : Nat) (x2 : Option Addr) (n2 c2 : Nat) : (row4 k t x1 n1 c1 x2 n2 c2).all (·.oneCell') = true := all_oneCell_toArray (fun v hv => by
  rcases List.mem_cons.1 hv with rfl | hv
  · rfl
  rcases List.mem_cons.1 hv with rfl | hv
  · rfl
  rcases List.mem_cons.1 hv with rfl | hv
  · rfl
  rw [List.mem_singleton.1 hv]; rfl)
theorem cells4_all (k : Int) (t : ByteArray) : (cells4 k t).all (·.oneCell') = true := row4_all k t none 0 0 none 0 0
theorem zeroV4_all : zeroV4.all (·.oneCell') = true := cells4_all 0 ⟨#[]⟩
theorem info_V : (Tryz.prog.info? 63).map (·.size) = some 4 := by kernel_rfl
theorem zero_four : four (.agg zeroV4) := ⟨0, ⟨#[]⟩, none, 0, 0, none, 0, 0, rfl⟩
theorem saysV_bad {w w' : World} {q : Nat} {S r x : Bs} {lev code : Nat} {R : Res JV} {V : Value} (hR : R = .bad code x) (hV : four V) (h : badP w q S r w') : saysV w q S r lev R (.returned (.tuple #[V, errAt S code x])) w' := by
  rw [hR]; exact ⟨V, rfl, hV, h⟩
theorem saysV_ok {w w' : World} {q : Nat} {S r x : Bs} {lev : Nat} {R : Res JV} {V : Value} {v : JV} (hR : R = .ok v x) (hV : HoldsJ w' (fun k => w.heap.size ≤ k ∧ k < w'.heap.size) v V) (h : okP w q S x lev w') : saysV w q S r lev R (.returned (.tuple #[V, .nilIface])) w' := by
  rw [hR]; exact ⟨V, rfl, hV, h⟩
theorem word_ne (k : Nat) (hk : k < 3) : ∀ c ∈ wordOf (k : Int), c ≠ 0 := by
  have : k = 0 ∨ k = 1 ∨ k = 2 := by omega
  rcases this with rfl | rfl | rfl <;> decide
theorem word_len (k : Nat) : (wordOf (k : Int)).length ≤ 5 := by
  unfold wordOf
  split
  · decide
  split <;> decide
theorem word_step {W r : Bs} {j : Nat} (hj : j < W.length) : wordP (W.drop j) r = if hd r = W.getD j 0 then wordP (W.drop (j + 1)) r.tail else .bad 10 r := by
  rw [List.drop_eq_getElem_cons hj, wordP, List.getD_eq_getElem?_getD, List.getElem?_eq_getElem hj]
  rfl
set_option maxRecDepth 100000 in
set_option maxHeartbeats 2000000 in
theorem word_any {w : World} {q : Nat} {S r : Bs} {lev : Nat} (hS : okT S) (hE : Env w) (hq : 10 ≤ q) (h : RdAt w q S r lev) (k : Nat) (hk : k < 3) :
    Calls Tryz.prog 133 #[.pointer (some ⟨q, 0, none⟩), .int .i64 (k : Int)] w fun e w' => saysV w q S r lev (mkW (k : Int) (wordOf (k : Int)) r) e w' := by
  have hne := word_ne k hk
  have hlen := word_len k
  have hc0 := hE.words k hk
  obtain ⟨W, hW⟩ : ∃ W, W = wordOf (k : Int) := ⟨_, rfl⟩
  rw [← hW] at hne hlen hc0 ⊢
  have hqw := h.lt
  obtain ⟨W0, hW0⟩ : ∃ W0, W0 = w.alloc (.cells #[.int .i64 0, .string ⟨#[]⟩, .slice none 0 0, .slice none 0 0] 63) := ⟨_, rfl⟩
  have R0 : rowC W0 w.heap.size zeroV4 63 := by rw [hW0]; exact rowC_new w _ _
  have A0 : Chg (· = q) w W0 := by rw [hW0]; exact (Chg.refl _ w).alloc _
  have E0 : Env W0 := hE.q A0 hq
  have H0 : RdAt W0 q S r lev := by rw [hW0]; exact h.below ((Below.refl _ _).alloc (Nat.le_refl _) _)
  have c1 := E0.words k hk
  rw [← hW] at c1
  have HR0 := Lib.hid R0
  have HA0 := Lib.hid A0
  have HE0 := Lib.hid E0
  have HH0 := Lib.hid H0
  have HW := Lib.hid hW
  have HW0 := Lib.hid hW0
  have HI := Lib.hid info_V
  have hsz := str_size W
  clear hW hW0 R0 A0 E0 H0 hE h hc0
  have k0 : (k : Int) < 3 := by omega
  have HK3 := Lib.hid hk
  go_enter Tryz.func133, Tryz.ntmps133
  go_upto_region 1 with (fail)
  rw [← HW0.out]
  go_wp2
  go_loopg [11, 6] 6 (fun g t11 t6 wr => ∃ (j : Nat) (r' : Bs), t11 = .int .i64 (j : Int) ∧ j ≤ W.length ∧ Hid (g = 6 - j) ∧ RdAt wr q S r' lev ∧ Hid (wordP (W.drop j) r' = wordP W r) ∧ Hid (r' <:+ r) ∧ Chg (· = q) W0 wr)
  case atStart => exact ⟨0, r, rfl, Nat.zero_le _, Lib.hid rfl, HH0.out, Lib.hid rfl, Lib.hid (List.suffix_refl r), Chg.refl _ _⟩
  case round =>
    obtain ⟨j, r', rfl, hj, HG, h', HP, HS, hC⟩ := hrel
    have c1' := (HE0.out.q hC hq).words k HK3.out
    rw [← HW.out] at c1'
    have Rr := hC.rowC HR0.out (by omega)
    have HRr := Lib.hid Rr
    clear c1 Rr
    by_cases hlt : j < W.length
    · have hidx := idx_str (str W) j (j : Int) rfl (by rw [str_size]; exact hlt)
      rw [str_toList] at hidx
      have hst := word_step (r := r') hlt
      have hcn : W.getD j 0 ≠ 0 := hne _ (by rw [List.getD_eq_getElem?_getD, List.getElem?_eq_getElem hlt]; exact List.getElem_mem _)
      generalize W.getD j 0 = c at hidx hst hcn
      by_cases hc : hd r' = c
      · rw [if_pos hc] at hst
        have HQ := Lib.hid (hst.symm.trans HP.out)
        have T := take_T (q := q) (lev := lev) hS c _ rfl hcn hc
        clear hst hc hcn
        go_wp2_with (go_at_call 138; ((with_reducible refine (T _ (by assumption)).mono ?_); rintro e w1 ⟨rfl, h1, c2⟩))
        go_roundg (6 - (j + 1))
        case measure => have := HG.out; omega
        case rel => exact ⟨j + 1, r'.tail, by go_num, by omega, Lib.hid rfl, h1, HQ, Lib.hid ((List.tail_suffix r').trans HS.out), hC.two c2⟩
      · rw [if_neg hc] at hst
        have HQ := Lib.hid (show mkW (k : Int) W r = .bad 10 r' by unfold mkW; rw [← HP.out, hst]; rfl)
        have T := take_F (q := q) (lev := lev) hS c _ rfl hcn hc
        generalize hkk : S.length - r'.length = kk at HQ
        have HKK := Lib.hid hkk
        clear hst hc hcn hkk
        go_wp2_with (first
          | (go_at_call 138; ((with_reducible refine (T _ (by assumption)).mono ?_); rintro e w1 ⟨rfl, h1, c2⟩; obtain ⟨_, ck, _⟩ := h1.cell; rw [HKK.out] at ck; have HR1 := Lib.hid (c2.rowC HRr.out (by omega)); have Hh1 := Lib.hid h1))
          | (go_at_call 100; ((with_reducible refine (unfit_any kk _ rfl _).mono ?_); rintro e w2 ⟨rfl, rfl⟩; unfold errV))
          | ((with_reducible show wpList _ _ _ (⟨none, .store _ (.tmp 4) _, _, _, _, _⟩ :: _) _ _); refine wpList_store_row rfl 63 _ _ rfl w.heap.size zeroV4 rfl rfl 63 zeroV4 HR1.out HI.out rfl zeroV4_all ?_))
        refine bodyPost_ret (results_row_tmp rfl _ _ w.heap.size 63 zeroV4 _ rfl (rowC_setRow HR1.out _) Tryz.underlying63 rfl HI.out (errV 10 kk) rfl) rfl ?_
        have := saysV_bad (w := w) (w' := w1.setRow w.heap.size zeroV4) (q := q) (S := S) (r := r) (lev := lev) HQ.out zero_four ⟨⟨r', lev, Hh1.out.chg (s := (· = w.heap.size)) ((Chg.refl _ _).setRow _ _ (.inl rfl)) (by omega), HS.out⟩, ((HA0.out.two hC).two c2).setRow _ _ (.inr (Nat.le_refl _))⟩
        unfold errAt at this
        rw [HKK.out] at this
        exact this
    · obtain rfl : j = W.length := by omega
      have hsz2 : ((W.length : Int) < (W.length : Int)) = False := by simp
      have HQ := Lib.hid (show mkW (k : Int) W r = .ok (.mk (k : Int) [] [] []) r' by unfold mkW; rw [← HP.out, List.drop_length]; rfl)
      clear hsz2 hlt
      go_wp2_with (first
        | ((with_reducible show wpList _ _ _ (⟨none, .store _ (.tmp 4) _, _, _, _, _⟩ :: _) _ _); refine wpList_store_row rfl 63 _ _ rfl w.heap.size (cells4 (k : Int) ⟨#[]⟩) rfl rfl 63 zeroV4 HRr.out HI.out rfl (cells4_all _ _) ?_))
      refine bodyPost_ret (results_row_tmp rfl _ _ w.heap.size 63 (cells4 (k : Int) ⟨#[]⟩) _ rfl (rowC_setRow HRr.out _) Tryz.underlying63 rfl HI.out .nilIface rfl) rfl ?_
      exact saysV_ok HQ.out (holds_word _ _ _) ⟨h'.chg (s := (· = w.heap.size)) ((Chg.refl _ _).setRow _ _ (.inl rfl)) (by omega), (HA0.out.two hC).setRow _ _ (.inr (Nat.le_refl _))⟩
end Go.Proofs.YtnkencdibniagaaGreatDoor

/- Layer 13, the document's own side: a text as a value: may it be, how deep, its text (May, deep, shown, Print of kind 4); q; decimal. -/
namespace Go.Proofs.YtnkencdibniagaaGreatDoor
open Go.RowKit Go.Lib

/-- A text in quotes. -/
def qL (s : Bs) : Bs := 34 :: (s.flatMap quoB ++ [34])
theorem qL_len (s : Bs) : (qL s).length ≤ 6 * s.length + 2 := by
  have h := flat_len s
  unfold qL
  rw [List.length_cons, List.length_append, List.length_singleton]
  omega
theorem info_R4 : (Tryz.prog.info? 80).map (·.size) = some 4 := by kernel_rfl
set_option maxRecDepth 100000 in
set_option maxHeartbeats 2000000 in
theorem rmay4_any (s : Bs) (hs : s.length ≤ 1000000) (w : World) :
    Calls Tryz.prog 128 #[.agg (row4 4 (str s) none 0 0 none 0 0)] w fun e w' => e = .returned (.bool (validD s)) ∧ Below w.heap.size w w' := by
  have CU := fun w => rutf_any s (by omega) w
  obtain ⟨v, hv⟩ : ∃ v, v = validD s := ⟨_, rfl⟩
  rw [← hv] at CU ⊢
  clear hv
  obtain ⟨T, hT⟩ : ∃ T, T = str s := ⟨_, rfl⟩
  rw [← hT] at CU ⊢
  obtain ⟨WA, hWA⟩ : ∃ W, W = w.alloc (.cells (row4 4 T none 0 0 none 0 0) 80) := ⟨_, rfl⟩
  have R0 : rowC WA w.heap.size (row4 4 T none 0 0 none 0 0) 80 := by rw [hWA]; exact rowC_new _ _ _
  have B0 : Below w.heap.size w WA := by rw [hWA]; exact (Below.refl _ _).alloc (Nat.le_refl _) _
  have HR := Lib.hid (fun (W : World) (h : Below WA.heap.size WA W) => rowC_below R0 h (rowC_lt R0))
  have HB := Lib.hid B0
  have k0 : WA.cell? ⟨w.heap.size, 0, none⟩ = some (.int .i64 4) := rowC_cell R0 0
  have k1 : WA.cell? ⟨w.heap.size, 1, none⟩ = some (.string T) := rowC_cell R0 1
  have k2 : WA.cell? ⟨w.heap.size, 2, none⟩ = some (.slice none 0 0) := rowC_cell R0 2
  have k3 : WA.cell? ⟨w.heap.size, 3, none⟩ = some (.slice none 0 0) := rowC_cell R0 3
  have HW := Lib.hid (show w.alloc (.cells #[.int .i64 4, .string T, .slice none 0 0, .slice none 0 0] 80) = WA from hWA.symm)
  clear hWA R0 B0 hT
  show Calls _ _ #[.agg #[.int .i64 4, .string T, .slice none 0 0, .slice none 0 0]] _ _
  go_enter Tryz.func128, Tryz.ntmps128
  go_upto_region 1 with (fail)
  rw [HW.out]
  clear HW
  cases v
  · go_wp2_with (go_at_call 63; (with_reducible refine (CU _).mono ?_); rintro e w2 ⟨rfl, b2⟩; have q0 : w2.cell? ⟨w.heap.size, 0, none⟩ = some (.int .i64 4) := rowC_cell (HR.out _ b2) 0; have q1 : w2.cell? ⟨w.heap.size, 1, none⟩ = some (.string T) := rowC_cell (HR.out _ b2) 1; have q2 : w2.cell? ⟨w.heap.size, 2, none⟩ = some (.slice none 0 0) := rowC_cell (HR.out _ b2) 2; have q3 : w2.cell? ⟨w.heap.size, 3, none⟩ = some (.slice none 0 0) := rowC_cell (HR.out _ b2) 3; have HB2 := Lib.hid (HB.out.trans (b2.mono HB.out.size)); clear b2)
    go_ret
    exact ⟨rfl, HB2.out⟩
  · go_upto_region 6 with (go_at_call 63; (with_reducible refine (CU _).mono ?_); rintro e w2 ⟨rfl, b2⟩; have q0 : w2.cell? ⟨w.heap.size, 0, none⟩ = some (.int .i64 4) := rowC_cell (HR.out _ b2) 0; have q1 : w2.cell? ⟨w.heap.size, 1, none⟩ = some (.string T) := rowC_cell (HR.out _ b2) 1; have q2 : w2.cell? ⟨w.heap.size, 2, none⟩ = some (.slice none 0 0) := rowC_cell (HR.out _ b2) 2; have q3 : w2.cell? ⟨w.heap.size, 3, none⟩ = some (.slice none 0 0) := rowC_cell (HR.out _ b2) 3; have HB2 := Lib.hid (HB.out.trans (b2.mono HB.out.size)); clear b2)
    go_loopw [3] (fun a wr => a = .int .i64 0 ∧ wr = w2) (fun _ _ => 0)
    case atStart => exact ⟨rfl, rfl⟩
    case round =>
      obtain ⟨rfl, rfl⟩ := hrel
      go_wp2
      go_loopw [4] (fun a wr2 => a = .int .i64 0 ∧ wr2 = wr) (fun _ _ => 0)
      case atStart => exact ⟨rfl, rfl⟩
      case round =>
        obtain ⟨rfl, rfl⟩ := hrel
        go_wp2
        go_ret
        exact ⟨rfl, HB2.out⟩
set_option maxRecDepth 100000 in
set_option maxHeartbeats 2000000 in
theorem rdeep4_any (s : Bs) (w : World) :
    Calls Tryz.prog 129 #[.agg (row4 4 (str s) none 0 0 none 0 0)] w fun e w' => e = .returned (.int .i64 0) ∧ Below w.heap.size w w' := by
  obtain ⟨T, hT⟩ : ∃ T, T = str s := ⟨_, rfl⟩
  rw [← hT]
  obtain ⟨WA, hWA⟩ : ∃ W, W = w.alloc (.cells (row4 4 T none 0 0 none 0 0) 80) := ⟨_, rfl⟩
  have R0 : rowC WA w.heap.size (row4 4 T none 0 0 none 0 0) 80 := by rw [hWA]; exact rowC_new _ _ _
  have B0 : Below w.heap.size w WA := by rw [hWA]; exact (Below.refl _ _).alloc (Nat.le_refl _) _
  have HR := Lib.hid (fun (W : World) (h : Below WA.heap.size WA W) => rowC_below R0 h (rowC_lt R0))
  have HB := Lib.hid B0
  have k0 : WA.cell? ⟨w.heap.size, 0, none⟩ = some (.int .i64 4) := rowC_cell R0 0
  have k1 : WA.cell? ⟨w.heap.size, 1, none⟩ = some (.string T) := rowC_cell R0 1
  have k2 : WA.cell? ⟨w.heap.size, 2, none⟩ = some (.slice none 0 0) := rowC_cell R0 2
  have k3 : WA.cell? ⟨w.heap.size, 3, none⟩ = some (.slice none 0 0) := rowC_cell R0 3
  have HW := Lib.hid (show w.alloc (.cells #[.int .i64 4, .string T, .slice none 0 0, .slice none 0 0] 80) = WA from hWA.symm)
  clear hWA R0 B0 hT
  show Calls _ _ #[.agg #[.int .i64 4, .string T, .slice none 0 0, .slice none 0 0]] _ _
  go_enter Tryz.func129, Tryz.ntmps129
  go_upto_region 1 with (fail)
  rw [HW.out]
  clear HW
  go_wp2
  go_loopw [3, 4] (fun n a wr => n = .int .i64 0 ∧ a = .int .i64 0 ∧ wr = WA) (fun _ _ _ => 0)
  case atStart => exact ⟨rfl, rfl, rfl⟩
  case round =>
    obtain ⟨rfl, rfl, rfl⟩ := hrel
    go_wp2
    go_ret
    exact ⟨rfl, HB.out⟩
set_option maxRecDepth 100000 in
set_option maxHeartbeats 2000000 in
theorem rshown4_any (s : Bs) (hs : s.length ≤ 1000000) (w : World) :
    Calls Tryz.prog 130 #[.agg (row4 4 (str s) none 0 0 none 0 0)] w fun e w' => e = .returned (.string (str (qL s))) ∧ Below w.heap.size w w' := by
  have CQ := fun w => rquoted_any s hs w
  obtain ⟨Z, hZ⟩ : ∃ Z, Z = str (qL s) := ⟨_, rfl⟩
  have hZ2 : Z = str (34 :: (s.flatMap quoB ++ [34])) := hZ
  rw [← hZ2] at CQ
  rw [← hZ]
  clear hZ hZ2
  obtain ⟨T, hT⟩ : ∃ T, T = str s := ⟨_, rfl⟩
  rw [← hT] at CQ ⊢
  obtain ⟨WA, hWA⟩ : ∃ W, W = w.alloc (.cells (row4 4 T none 0 0 none 0 0) 80) := ⟨_, rfl⟩
  have R0 : rowC WA w.heap.size (row4 4 T none 0 0 none 0 0) 80 := by rw [hWA]; exact rowC_new _ _ _
  have B0 : Below w.heap.size w WA := by rw [hWA]; exact (Below.refl _ _).alloc (Nat.le_refl _) _
  have HR := Lib.hid (fun (W : World) (h : Below WA.heap.size WA W) => rowC_below R0 h (rowC_lt R0))
  have HB := Lib.hid B0
  have k0 : WA.cell? ⟨w.heap.size, 0, none⟩ = some (.int .i64 4) := rowC_cell R0 0
  have k1 : WA.cell? ⟨w.heap.size, 1, none⟩ = some (.string T) := rowC_cell R0 1
  have k2 : WA.cell? ⟨w.heap.size, 2, none⟩ = some (.slice none 0 0) := rowC_cell R0 2
  have k3 : WA.cell? ⟨w.heap.size, 3, none⟩ = some (.slice none 0 0) := rowC_cell R0 3
  have HW := Lib.hid (show w.alloc (.cells #[.int .i64 4, .string T, .slice none 0 0, .slice none 0 0] 80) = WA from hWA.symm)
  clear hWA R0 B0 hT
  show Calls _ _ #[.agg #[.int .i64 4, .string T, .slice none 0 0, .slice none 0 0]] _ _
  go_enter Tryz.func130, Tryz.ntmps130
  go_upto_region 1 with (fail)
  rw [HW.out]
  clear HW
  go_wp2_with (go_at_call 154; (with_reducible refine (CQ _).mono ?_); rintro e w2 ⟨rfl, b2⟩)
  go_ret
  exact ⟨rfl, HB.out.trans (b2.mono HB.out.size)⟩
set_option maxRecDepth 100000 in
set_option maxHeartbeats 2000000 in
theorem rprint4_any (s : Bs) (hs : s.length ≤ 10000) (hv : validD s = true) (w : World) :
    Calls Tryz.prog 95 #[.agg (row4 4 (str s) none 0 0 none 0 0)] w fun e w' => e = .returned (.tuple #[.string (str (qL s)), .int .i64 0]) ∧ Below w.heap.size w w' := by
  have CM := fun w => rmay4_any s (by omega) w
  have CD := fun w => rdeep4_any s w
  have CS := fun w => rshown4_any s (by omega) w
  rw [hv] at CM
  obtain ⟨Z, hZ⟩ : ∃ Z, Z = str (qL s) := ⟨_, rfl⟩
  have hz : Z.size ≤ 65536 := by
    have := qL_len s
    rw [hZ, str_size]
    omega
  rw [← hZ] at CS ⊢
  clear hZ hv
  obtain ⟨T, hT⟩ : ∃ T, T = str s := ⟨_, rfl⟩
  rw [← hT] at CM CD CS ⊢
  obtain ⟨WA, hWA⟩ : ∃ W, W = w.alloc (.cells (row4 4 T none 0 0 none 0 0) 80) := ⟨_, rfl⟩
  have R0 : rowC WA w.heap.size (row4 4 T none 0 0 none 0 0) 80 := by rw [hWA]; exact rowC_new _ _ _
  have B0 : Below w.heap.size w WA := by rw [hWA]; exact (Below.refl _ _).alloc (Nat.le_refl _) _
  have HR := Lib.hid (fun (W : World) (h : Below WA.heap.size WA W) => rowC_below R0 h (rowC_lt R0))
  have HB := Lib.hid B0
  have HI := Lib.hid info_R4
  have HW := Lib.hid (show w.alloc (.cells #[.int .i64 4, .string T, .slice none 0 0, .slice none 0 0] 80) = WA from hWA.symm)
  clear hWA R0 B0 hT
  show Calls _ _ #[.agg #[.int .i64 4, .string T, .slice none 0 0, .slice none 0 0]] _ _
  go_enter Tryz.func95, Tryz.ntmps95
  go_upto_region 1 with (fail)
  rw [HW.out]
  clear HW
  go_wp2_with (first
    | ((with_reducible show wpList _ _ _ (⟨some 5, .load _ _, _, _, _, _⟩ :: _) _ _); refine wpList_load_row rfl 80 _ rfl w.heap.size rfl 80 (row4 4 T none 0 0 none 0 0) (0, 0) _ (HR.out _ (Below.refl _ _)) Tryz.underlying80 rfl HI.out ?_)
    | (go_at_call 128; (with_reducible refine (CM _).mono ?_); rintro e w2 ⟨rfl, b2⟩; have HB2 := Lib.hid b2; clear b2)
    | ((with_reducible show wpList _ _ _ (⟨some 8, .load _ _, _, _, _, _⟩ :: _) _ _); refine wpList_load_row rfl 80 _ rfl w.heap.size rfl 80 (row4 4 T none 0 0 none 0 0) (0, 0) _ (HR.out _ HB2.out) Tryz.underlying80 rfl HI.out ?_)
    | (go_at_call 129; (with_reducible refine (CD _).mono ?_); rintro e w3 ⟨rfl, b3⟩; have HB3 := Lib.hid (HB2.out.trans (b3.mono HB2.out.size)); clear b3)
    | ((with_reducible show wpList _ _ _ (⟨some 11, .load _ _, _, _, _, _⟩ :: _) _ _); refine wpList_load_row rfl 80 _ rfl w.heap.size rfl 80 (row4 4 T none 0 0 none 0 0) (0, 0) _ (HR.out _ HB3.out) Tryz.underlying80 rfl HI.out ?_)
    | (go_at_call 130; (with_reducible refine (CS _).mono ?_); rintro e w4 ⟨rfl, b4⟩; have HB4 := Lib.hid (HB3.out.trans (b4.mono HB3.out.size)); clear b4))
  go_ret2
  exact ⟨rfl, HB.out.trans (HB4.out.mono HB.out.size)⟩
theorem built_R4 (s : ByteArray) : Tryz.prog.built 80 [(0, .int .i64 4), (1, .string s)] = some (row4 4 s none 0 0 none 0 0) := by kernel_rfl
set_option maxRecDepth 100000 in
theorem rq_any (s : Bs) (hs : s.length ≤ 10000) (hv : validD s = true) (w : World) :
    Calls Tryz.prog 64 #[.string (str s)] w fun e w' => e = .returned (.string (str (qL s))) ∧ Below w.heap.size w w' := by
  have CP := fun w => rprint4_any s hs hv w
  obtain ⟨Z, hZ⟩ : ∃ Z, Z = str (qL s) := ⟨_, rfl⟩
  obtain ⟨T, hT⟩ : ∃ T, T = str s := ⟨_, rfl⟩
  rw [← hT, ← hZ]
  rw [← hT, ← hZ] at CP
  have HBI := Lib.hid (built_R4 T)
  clear hT hZ hv
  go_enter Tryz.func64, Tryz.ntmps64
  go_wp2_with (first
    | ((with_reducible show wpList _ _ _ (⟨some 7, .build _ _, _, _, _, _⟩ :: _) _ _); refine wpList_build_as rfl 80 _ rfl (row4 4 T none 0 0 none 0 0) (Eq.trans ?_ HBI.out) ?_; kernel_rfl)
    | (go_at_call 95; (with_reducible refine (CP _).mono ?_); rintro e w2 ⟨rfl, b2⟩))
  go_ret
  exact ⟨rfl, b2⟩
end Go.Proofs.YtnkencdibniagaaGreatDoor

