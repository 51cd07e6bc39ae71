/- Layer 11: what start-up laid; values in memory; words. -/
import Derived.Test.YtlknngplnimdpaaGreatDoorJtE
import Derived.Test.YtlknngplnimdpaaGreatDoorJsW
namespace Go.Proofs.YtlknngplnimdpaaGreatDoor
open Go.RowKit

/-- What start-up laid, as far as it is read. -/
structure Env (w : World) : Prop where
  words : ∀ i, i < 3 → w.cell? ⟨1, i, none⟩ = some (.string (str (wordOf (i : Int))))
  tabs : Lib.Utf8Tabs 2 3 w
  errT : w.cell? ⟨0, 0, none⟩ = some (.iface 206 (.agg #[.pointer (some ⟨10, 122, none⟩)]))
  syn : ∃ tp p, w.var? Tryz.prog "strconv.ErrSyntax" = some #[.iface tp p]
  big : 10 ≤ w.heap.size
  tz : w.cell? ⟨9, 15, none⟩ = some (.int .u8 4)
theorem cell_same {w w' : World} (h : ∀ k, k < 10 → w'.heap[k]? = w.heap[k]?) (k : Nat) (hk : k < 10) (i : Nat) : w'.cell? ⟨k, i, none⟩ = w.cell? ⟨k, i, none⟩ :=
  World.cell?_of_block (w := w) (w' := w') (a := ⟨k, i, none⟩) (h k hk)
theorem syn_glob : Tryz.prog.globalNamed "strconv.ErrSyntax" = some 4 := by kernel_rfl
theorem Env.same {w w' : World} (e : Env w) (h : ∀ k, k < 10 → w'.heap[k]? = w.heap[k]?) (hs : w.heap.size ≤ w'.heap.size) : Env w' := by
  refine ⟨fun i hi => (cell_same h _ (by decide) i).trans (e.words i hi), ⟨fun c hc => (cell_same h _ (by decide) c).trans (e.tabs.1 c hc), fun i hi => ⟨(cell_same h _ (by decide) _).trans (e.tabs.2 i hi).1, (cell_same h _ (by decide) _).trans (e.tabs.2 i hi).2⟩⟩, (cell_same h _ (by decide) 0).trans e.errT, ?_, Nat.le_trans e.big hs, (cell_same h _ (by decide) 15).trans e.tz⟩
  obtain ⟨tp, p, hv⟩ := e.syn
  refine ⟨tp, p, ?_⟩
  rw [← hv]
  unfold World.var?
  rw [syn_glob]
  have := h 4 (by decide)
  simp [this]
theorem Env.chg {s : Nat → Prop} {w w' : World} (e : Env w) (h : Chg s w w') (hs : ∀ k, k < 10 → ¬ s k) : Env w' :=
  e.same (fun k hk => h.block k (Nat.lt_of_lt_of_le hk e.big) (hs k hk)) h.size
theorem Env.q {w w' : World} {q : Nat} (e : Env w) (h : Chg (· = q) w w') (hq : 10 ≤ q) : Env w' := e.chg h (fun k hk hkq => by omega)
theorem Env.below {w w' : World} (e : Env w) (h : Below w.heap.size w w') : Env w' := e.chg (s := fun _ => False) (Chg.of_below h) (fun _ _ => id)
theorem Env.drewN {w : World} (e : Env w) (n : Nat) : Env (w.drewN n) := e.same (fun _ _ => rfl) (Nat.le_refl _)
/-! ### Values in memory -/
/-- Texts, one behind the other. -/
def HoldsK (w : World) (F : Nat → Prop) (keys : List Bs) (V : Value) : Prop :=
  (V = .slice none 0 0 ∧ keys = []) ∨ ∃ (ad : Addr) (cap : Nat), V = .slice (some ad) keys.length cap ∧ ∀ i, i < keys.length → F ad.block ∧ w.cell? (ad.add i) = some (.string (str (keys.getD i [])))
mutual
/-- A value's four cells. -/
def HoldsC (w : World) (F : Nat → Prop) : JV → Value → Value → Value → Value → Prop
  | .mk k t items keys, a, b, c, d => a = .int .i64 k ∧ b = .string (str t) ∧ t.length ≤ 281474976710656 ∧ HoldsK w F keys d ∧
      ((c = .slice none 0 0 ∧ items = []) ∨ ∃ (ad : Addr) (cap : Nat), c = .slice (some ad) items.length cap ∧ HoldsR w F items ad 0)
/-- Values, one behind the other, from the i-th one on. -/
def HoldsR (w : World) (F : Nat → Prop) : List JV → Addr → Nat → Prop
  | [], _, _ => True
  | x :: l, ad, i => (∃ a b c d, F ad.block ∧ w.cell? (ad.add (4 * i)) = some a ∧ w.cell? (ad.add (4 * i + 1)) = some b ∧ w.cell? (ad.add (4 * i + 2)) = some c ∧ w.cell? (ad.add (4 * i + 3)) = some d ∧ HoldsC w F x a b c d) ∧ HoldsR w F l ad (i + 1)
end
def HoldsJ (w : World) (F : Nat → Prop) (v : JV) (V : Value) : Prop := ∃ a b c d, V = .agg #[a, b, c, d] ∧ HoldsC w F v a b c d
theorem add_block (a : Addr) (i : Nat) : (a.add i).block = a.block := by unfold Addr.add; split <;> rfl
theorem cell_chg {s : Nat → Prop} {w w' : World} (h : Chg s w w') {a : Addr} {v : Value} (hc : w.cell? a = some v) (hs : ¬ s a.block) : w'.cell? a = some v := by
  have hlt : a.block < w.heap.size := World.block_lt_of_cell? w _ hc
  rw [World.cell?_of_block (w := w) (w' := w') (a := a) (h.block _ hlt hs)]
  exact hc
theorem HoldsK.chg {s F : Nat → Prop} {w w' : World} {keys : List Bs} {V : Value} (h : HoldsK w F keys V) (hc : Chg s w w') (hs : ∀ k, F k → ¬ s k) : HoldsK w' F keys V := by
  rcases h with h | ⟨ad, cap, hv, hk⟩
  · exact .inl h
  · exact .inr ⟨ad, cap, hv, fun i hi => ⟨(hk i hi).1, cell_chg hc (hk i hi).2 (by rw [add_block]; exact hs _ (hk i hi).1)⟩⟩
theorem HoldsK.mono {F G : Nat → Prop} {w : World} {keys : List Bs} {V : Value} (h : HoldsK w F keys V) (hs : ∀ k, F k → k < w.heap.size → G k) : HoldsK w G keys V := by
  rcases h with h | ⟨ad, cap, hv, hk⟩
  · exact .inl h
  · refine .inr ⟨ad, cap, hv, fun i hi => ⟨hs _ (hk i hi).1 ?_, (hk i hi).2⟩⟩
    have := World.block_lt_of_cell? w _ (hk i hi).2
    rwa [add_block] at this
mutual
theorem HoldsC.chg {s F : Nat → Prop} {w w' : World} (hc : Chg s w w') (hs : ∀ k, F k → ¬ s k) : ∀ (v : JV) (a b c d : Value), HoldsC w F v a b c d → HoldsC w' F v a b c d
  | .mk k t items keys, a, b, c, d, h => by
    rw [HoldsC] at h ⊢
    obtain ⟨h1, h2, h3, h4, h5⟩ := h
    refine ⟨h1, h2, h3, h4.chg hc hs, ?_⟩
    rcases h5 with h5 | ⟨ad, cap, h5, h6⟩
    · exact .inl h5
    · exact .inr ⟨ad, cap, h5, HoldsR.chg hc hs items ad 0 h6⟩
theorem HoldsR.chg {s F : Nat → Prop} {w w' : World} (hc : Chg s w w') (hs : ∀ k, F k → ¬ s k) : ∀ (l : List JV) (ad : Addr) (i : Nat), HoldsR w F l ad i → HoldsR w' F l ad i
  | [], _, _, _ => by rw [HoldsR]; trivial
  | x :: l, ad, i, h => by
    rw [HoldsR] at h ⊢
    obtain ⟨⟨a, b, c, d, h0, h1, h2, h3, h4, h5⟩, h6⟩ := h
    exact ⟨⟨a, b, c, d, h0, cell_chg hc h1 (by rw [add_block]; exact hs _ h0), cell_chg hc h2 (by rw [add_block]; exact hs _ h0), cell_chg hc h3 (by rw [add_block]; exact hs _ h0), cell_chg hc h4 (by rw [add_block]; exact hs _ h0), HoldsC.chg hc hs x a b c d h5⟩, HoldsR.chg hc hs l ad (i + 1) h6⟩
end
mutual
theorem HoldsC.mono {F G : Nat → Prop} {w : World} (hs : ∀ k, F k → k < w.heap.size → G k) : ∀ (v : JV) (a b c d : Value), HoldsC w F v a b c d → HoldsC w G v a b c d
  | .mk k t items keys, a, b, c, d, h => by
    rw [HoldsC] at h ⊢
    obtain ⟨h1, h2, h3, h4, h5⟩ := h
    refine ⟨h1, h2, h3, h4.mono hs, ?_⟩
    rcases h5 with h5 | ⟨ad, cap, h5, h6⟩
    · exact .inl h5
    · exact .inr ⟨ad, cap, h5, HoldsR.mono hs items ad 0 h6⟩
theorem HoldsR.mono {F G : Nat → Prop} {w : World} (hs : ∀ k, F k → k < w.heap.size → G k) : ∀ (l : List JV) (ad : Addr) (i : Nat), HoldsR w F l ad i → HoldsR w G l ad i
  | [], _, _, _ => by rw [HoldsR]; trivial
  | x :: l, ad, i, h => by
    rw [HoldsR] at h ⊢
    obtain ⟨⟨a, b, c, d, h0, h1, h2, h3, h4, h5⟩, h6⟩ := h
    have hlt : ad.block < w.heap.size := by
      have := World.block_lt_of_cell? w _ h1
      rwa [add_block] at this
    exact ⟨⟨a, b, c, d, hs _ h0 hlt, h1, h2, h3, h4, HoldsC.mono hs x a b c d h5⟩, HoldsR.mono hs l ad (i + 1) h6⟩
end
theorem HoldsJ.chg {s F : Nat → Prop} {w w' : World} {v : JV} {V : Value} (h : HoldsJ w F v V) (hc : Chg s w w') (hs : ∀ k, F k → ¬ s k) : HoldsJ w' F v V := by
  obtain ⟨a, b, c, d, h1, h2⟩ := h
  exact ⟨a, b, c, d, h1, HoldsC.chg hc hs v a b c d h2⟩
theorem HoldsJ.mono {F G : Nat → Prop} {w : World} {v : JV} {V : Value} (h : HoldsJ w F v V) (hs : ∀ k, F k → k < w.heap.size → G k) : HoldsJ w G v V := by
  obtain ⟨a, b, c, d, h1, h2⟩ := h
  exact ⟨a, b, c, d, h1, HoldsC.mono hs v a b c d h2⟩
/-- The form that the four cells have. -/
theorem HoldsC.form {F : Nat → Prop} {w : World} {v : JV} {a b c d : Value} (h : HoldsC w F v a b c d) : a = .int .i64 v.kind ∧ b = .string (str v.text) ∧ (∃ x cap, c = .slice x v.items.length cap) ∧ ∃ x cap, d = .slice x v.keys.length cap := by
  obtain ⟨k, t, items, keys⟩ := v
  rw [HoldsC] at h
  obtain ⟨h1, h2, _, h4, h5⟩ := h
  refine ⟨h1, h2, ?_, ?_⟩
  · rcases h5 with ⟨h5, h6⟩ | ⟨ad, cap, h5, _⟩
    · exact ⟨none, 0, by rw [h5]; show _ = Value.slice none items.length 0; rw [h6]; rfl⟩
    · exact ⟨some ad, cap, h5⟩
  · rcases h4 with ⟨h5, h6⟩ | ⟨ad, cap, h5, _⟩
    · exact ⟨none, 0, by rw [h5]; show _ = Value.slice none keys.length 0; rw [h6]; rfl⟩
    · exact ⟨some ad, cap, h5⟩
theorem holds_word (w : World) (F : Nat → Prop) (k : Int) : HoldsJ w F (.mk k [] [] []) (.agg #[.int .i64 k, .string ⟨#[]⟩, .slice none 0 0, .slice none 0 0]) :=
  ⟨_, _, _, _, rfl, by rw [HoldsC]; exact ⟨rfl, rfl, by simp, .inl ⟨rfl, rfl⟩, .inl ⟨rfl, rfl⟩⟩⟩
theorem holds_text (w : World) (F : Nat → Prop) (k : Int) {t : Bs} (ht : t.length ≤ 281474976710656) : HoldsJ w F (.mk k t [] []) (.agg #[.int .i64 k, .string (str t), .slice none 0 0, .slice none 0 0]) :=
  ⟨_, _, _, _, rfl, by rw [HoldsC]; exact ⟨rfl, rfl, ht, .inl ⟨rfl, rfl⟩, .inl ⟨rfl, rfl⟩⟩⟩
/-- Four cells that may stand in a block. -/
def four (V : Value) : Prop := ∃ (k : Int) (t : ByteArray) (x1 : Option Addr) (n1 c1 : Nat) (x2 : Option Addr) (n2 c2 : Nat), V = .agg #[.int .i64 k, .string t, .slice x1 n1 c1, .slice x2 n2 c2]
theorem HoldsJ.four {F : Nat → Prop} {w : World} {v : JV} {V : Value} (h : HoldsJ w F v V) : four V := by
  obtain ⟨a, b, c, d, rfl, h2⟩ := h
  obtain ⟨rfl, rfl, ⟨x, cap, rfl⟩, y, cap', rfl⟩ := h2.form
  exact ⟨_, _, _, _, _, _, _, _, rfl⟩
/-- What a reading of a value says of a call that answers it and an error. New blocks hold it. -/
def saysV (w : World) (q : Nat) (S r : Bs) (lev : Nat) (R : Res JV) (e : Ending) (w' : World) : Prop :=
  match R with
  | .ok v x => ∃ V, e = .returned (.tuple #[V, .nilIface]) ∧ HoldsJ w' (fun k => w.heap.size ≤ k ∧ k < w'.heap.size) v V ∧ okP w q S x lev w'
  | .bad code x => ∃ V, e = .returned (.tuple #[V, errAt S code x]) ∧ four V ∧ badP w q S r w'
end Go.Proofs.YtlknngplnimdpaaGreatDoor
