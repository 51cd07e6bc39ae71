/- Layer 8: what is asked of the program's map; the chapter's blocks under it. -/
import Derived.Test.YtdngkpdiaeicmaaAlcE
namespace Go.Proofs.Ytdngkpdiaeicmaa
open Go.RowKit

/-- What a call on the program's map leaves: the map L', in blocks that were its own, or are new. -/
def InvPost (Inv : World → Nat → List Bool → (Nat → Prop) → Prop) (w : World) (q : Nat) (o : Nat → Prop) (L' : List Bool) (w' : World) : Prop :=
  ∃ o', Inv w' q L' o' ∧ Chg o w w' ∧ ∀ k, o' k → o k ∨ w.heap.size ≤ k
def isI (n : Int) : Prop := -9223372036854775808 ≤ n ∧ n ≤ 9223372036854775807
/-- The program's map is the document's: Inv w q L o: the map at block q is L, its own blocks are those of o. -/
structure Impl where
  Inv : World → Nat → List Bool → (Nat → Prop) → Prop
  lt : ∀ {w q L o}, Inv w q L o → ∀ k, o k → k < w.heap.size
  ok : ∀ {w q L o}, Inv w q L o → 1 ≤ L.length ∧ L.length ≤ 4096
  chg : ∀ {w w' q L o} {s : Nat → Prop}, Inv w q L o → Chg s w w' → (∀ k, o k → ¬ s k) → Inv w' q L o
  new : ∀ (m : Nat) (w : World), 1 ≤ m → m ≤ 4096 → Calls Try.prog 10 #[.int .i64 (m : Int)] w fun e w' => ∃ q o, e = .returned (.tuple #[.pointer (some ⟨q, 0, none⟩), .int .i64 0]) ∧ Inv w' q (List.replicate m false) o ∧ Below w.heap.size w w' ∧ ∀ k, o k → w.heap.size ≤ k
  newNo : ∀ (n : Int) (w : World), n < 1 ∨ 4096 < n → isI n → Calls Try.prog 10 #[.int .i64 n] w fun e w' => e = .returned (.tuple #[.pointer none, .int .i64 2]) ∧ Below w.heap.size w w'
  of : ∀ (s : ByteArray) (m : Nat) (w : World), 1 ≤ m → m ≤ 4096 → s.size ≤ 100000 → Calls Try.prog 23 #[.string s, .int .i64 (m : Int)] w fun e w' => (ofL s.data.toList m = none ∧ e = .returned (.tuple #[.pointer none, .int .i64 10]) ∧ Below w.heap.size w w') ∨ ∃ L q o, ofL s.data.toList m = some L ∧ e = .returned (.tuple #[.pointer (some ⟨q, 0, none⟩), .int .i64 0]) ∧ Inv w' q L o ∧ Below w.heap.size w w' ∧ ∀ k, o k → w.heap.size ≤ k
  ofNo : ∀ (s : ByteArray) (n : Int) (w : World), n < 1 ∨ 4096 < n → isI n → s.size ≤ 100000 → Calls Try.prog 23 #[.string s, .int .i64 n] w fun e w' => e = .returned (.tuple #[.pointer none, .int .i64 2]) ∧ Below w.heap.size w w'
  take : ∀ {w q L o} (n : Int), Inv w q L o → isI n → Calls Try.prog 15 #[.pointer (some ⟨q, 0, none⟩), .int .i64 n] w fun e w' => ∃ x, e = .returned (.tuple #[x, .bool (takeL L n).2.1]) ∧ OwnsE w' w.heap.size x (takeL L n).1 ∧ ∃ o', Inv w' q (takeL L n).2.2 o' ∧ Chg o w w' ∧ (∀ k, o' k → o k ∨ w.heap.size ≤ k) ∧ ∀ g, x.ownBlock = some g → ¬ o' g
  give : ∀ {w q L o x} {l : List (Int × Int)}, Inv w q L o → ExtAt w x l → extOk l → (∀ ad n cap, x = .slice (some ad) n cap → 0 < n → ¬ o ad.block) → Calls Try.prog 12 #[.pointer (some ⟨q, 0, none⟩), x] w fun e w' => e = .returned (.bool (giveR L l).1) ∧ InvPost Inv w q o (giveR L l).2 w'
  used : ∀ {w q L o}, Inv w q L o → Calls Try.prog 18 #[.pointer (some ⟨q, 0, none⟩)] w fun e w' => e = .returned (.int .i64 (usedL L : Int)) ∧ Below w.heap.size w w'
  bytes : ∀ {w q L o}, Inv w q L o → Calls Try.prog 21 #[.pointer (some ⟨q, 0, none⟩)] w fun e w' => e = .returned (.string (str (packL L))) ∧ Below w.heap.size w w'
  size : ∀ {w q L o}, Inv w q L o → Calls Try.prog 20 #[.pointer (some ⟨q, 0, none⟩)] w fun e w' => e = .returned (.int .i64 (L.length : Int)) ∧ Below w.heap.size w w'
  copy : ∀ {w q L o}, Inv w q L o → Calls Try.prog 14 #[.pointer (some ⟨q, 0, none⟩)] w fun e w' => ∃ q' o', e = .returned (.pointer (some ⟨q', 0, none⟩)) ∧ Inv w' q' L o' ∧ Below w.heap.size w w' ∧ ∀ k, o' k → w.heap.size ≤ k
/-- It stays where only new blocks came. -/
theorem Impl.below (I : Impl) {w w' : World} {q : Nat} {L : List Bool} {o : Nat → Prop} (h : I.Inv w q L o) (hb : Below w.heap.size w w') : I.Inv w' q L o := I.chg (s := fun _ => False) h (Chg.of_below hb) (fun _ _ => id)
/-- A map of the call's own, made behind W. -/
def Impl.Own (I : Impl) (W w : World) (q : Nat) (L : List Bool) : Prop := ∃ o, I.Inv w q L o ∧ Below W.heap.size W w ∧ ∀ k, o k → W.heap.size ≤ k
theorem Impl.Own.below {I : Impl} {W w w' : World} {q : Nat} {L : List Bool} (h : I.Own W w q L) (hb : Below w.heap.size w w') : I.Own W w' q L := by
  obtain ⟨o, h1, h2, h3⟩ := h
  exact ⟨o, I.below h1 hb, h2.trans (hb.mono h2.size), h3⟩
theorem Impl.Own.post {I : Impl} {W w w' : World} {q : Nat} {o : Nat → Prop} {L' : List Bool} (hb : Below W.heap.size W w) (ho : ∀ k, o k → W.heap.size ≤ k) (h : InvPost I.Inv w q o L' w') : I.Own W w' q L' := by
  obtain ⟨o', h1, h2, h3⟩ := h
  refine ⟨o', h1, hb.trans (h2.below hb.size (fun k hk hok => by have := ho k hok; omega)), fun k hk => ?_⟩
  rcases h3 k hk with h | h
  · exact ho k h
  · exact Nat.le_trans hb.size h
/-! ### A map, and rows of extents that it told: what lies in a block that is not the map's stays -/
/-- A map of the call's own, and a row of cells of the call's own (extents), in a block that is not the map's. -/
structure Holds (I : Impl) (W w : World) (q : Nat) (L : List Bool) (xs : List (Value × List (Nat × Nat))) : Prop where
  ex : ∃ o, I.Inv w q L o ∧ (∀ k, o k → W.heap.size ≤ k) ∧ ∀ y ∈ xs, OwnsE w W.heap.size y.1 y.2 ∧ ∀ g, y.1.ownBlock = some g → ¬ o g
  b : Below W.heap.size W w
theorem Holds.start {I : Impl} {W w : World} {q : Nat} {L : List Bool} (h : I.Own W w q L) : Holds I W w q L [] := by
  obtain ⟨o, h1, h2, h3⟩ := h
  exact ⟨⟨o, h1, h3, fun y hy => by simp at hy⟩, h2⟩
theorem owns_chg {s : Nat → Prop} {w w' : World} {base : Nat} {v : Value} {l : List (Nat × Nat)} (h : OwnsE w base v l) (hc : Chg s w w') (hs : ∀ g, v.ownBlock = some g → ¬ s g) : OwnsE w' base v l := hc.owns h hs
theorem owns_up {w : World} {base base' : Nat} {v : Value} {l : List (Nat × Nat)} (h : OwnsE w base v l) (hb : base' ≤ base) : OwnsE w base' v l := by
  refine ⟨h.1, ?_⟩
  rcases h.2 with hn | ⟨g, cap, cur, hv, hg, hrest⟩
  · exact .inl hn
  · exact .inr ⟨g, cap, cur, hv, Nat.le_trans hb hg, hrest⟩
theorem Holds.below {I : Impl} {W w w' : World} {q : Nat} {L : List Bool} {xs : List (Value × List (Nat × Nat))} (h : Holds I W w q L xs) (hb : Below w.heap.size w w') : Holds I W w' q L xs := by
  obtain ⟨o, h1, h2, h3⟩ := h.ex
  exact ⟨⟨o, I.below h1 hb, h2, fun y hy => ⟨owns_chg (h3 y hy).1 (Chg.of_below (s := fun _ => False) hb) (fun _ _ => id), (h3 y hy).2⟩⟩, h.b.trans (hb.mono h.b.size)⟩
theorem holds_take {I : Impl} {W w : World} {q : Nat} {L : List Bool} {xs : List (Value × List (Nat × Nat))} (h : Holds I W w q L xs) (n : Int) (hn : isI n) {l : List (Nat × Nat)} {b : Bool} {M : List Bool} (ht : takeL L n = (l, b, M)) :
    Calls Try.prog 15 #[.pointer (some ⟨q, 0, none⟩), .int .i64 n] w fun e w' => ∃ a cap, e = .returned (.tuple #[.slice a l.length cap, .bool b]) ∧ Holds I W w' q M ((.slice a l.length cap, l) :: xs) := by
  obtain ⟨o, h1, h2, h3⟩ := h.ex
  refine (I.take n h1 hn).mono fun e w' ⟨x, he, hx, o', i1, i2, i3, i4⟩ => ?_
  rw [ht] at he hx i1
  replace hx : OwnsE w' w.heap.size x l := hx
  obtain ⟨a, cap, rfl⟩ := hx.form
  refine ⟨a, cap, he, ⟨⟨o', i1, fun k hk => ?_, fun y hy => ?_⟩, h.b.trans (i2.below h.b.size (fun k hk hok => by have := h2 k hok; omega))⟩⟩
  · rcases i3 k hk with hk | hk
    · exact h2 k hk
    · exact Nat.le_trans h.b.size hk
  · rcases List.mem_cons.1 hy with rfl | hy
    · exact ⟨owns_up hx h.b.size, i4⟩
    · obtain ⟨j1, j2⟩ := h3 y hy
      refine ⟨owns_chg j1 i2 j2, fun g hg ho => ?_⟩
      rcases i3 g ho with hk | hk
      · exact j2 g hg hk
      · have := (j1.lt g hg).2
        omega
theorem toI_ok {l : List (Nat × Nat)} (h : ∀ x ∈ l, x.1 + x.2 ≤ 4096) : extOk (toI l) := by
  intro j hj
  rw [toI_length] at hj
  rw [toI_getD]
  have := h (l.getD j (0, 0)) (by rw [List.getD_eq_getElem?_getD, List.getElem?_eq_getElem hj]; exact List.getElem_mem _)
  constructor <;> constructor <;> simp only <;> omega
theorem holds_give {I : Impl} {W w : World} {q : Nat} {L : List Bool} {xs : List (Value × List (Nat × Nat))} (h : Holds I W w q L xs) {x : Value} {l : List (Nat × Nat)} (hx : (x, l) ∈ xs) (hl : ∀ x ∈ l, x.1 + x.2 ≤ 4096) (hle : l.length ≤ 5000) {b : Bool} {M : List Bool} (ht : giveR L (toI l) = (b, M)) :
    Calls Try.prog 12 #[.pointer (some ⟨q, 0, none⟩), x] w fun e w' => e = .returned (.bool b) ∧ Holds I W w' q M xs := by
  obtain ⟨o, h1, h2, h3⟩ := h.ex
  obtain ⟨hx1, hx2⟩ := h3 _ hx
  replace hx1 : OwnsE w W.heap.size x l := hx1
  replace hx2 : ∀ g, x.ownBlock = some g → ¬ o g := hx2
  refine (I.give h1 (hx1.ext (by unfold maxLen; omega)) (toI_ok hl) (fun ad n cap he hn ho => ?_)).mono fun e w' ⟨he, o', i1, i2, i3⟩ => ?_
  · subst he
    obtain ⟨_, _, hv⟩ := OwnsE.form hx1
    simp only [Value.slice.injEq] at hv
    obtain ⟨g, cap', hv2⟩ := owns_some hx1 (by omega)
    simp only [Value.slice.injEq, Option.some.injEq] at hv2
    obtain ⟨rfl, _⟩ := hv2
    exact hx2 g rfl ho
  · rw [ht] at he i1
    refine ⟨he, ⟨⟨o', i1, fun k hk => ?_, fun y hy => ?_⟩, h.b.trans (i2.below h.b.size (fun k hk hok => by have := h2 k hok; omega))⟩⟩
    · rcases i3 k hk with hk | hk
      · exact h2 k hk
      · exact Nat.le_trans h.b.size hk
    · obtain ⟨j1, j2⟩ := h3 y hy
      refine ⟨owns_chg j1 i2 j2, fun g hg ho => ?_⟩
      rcases i3 g ho with hk | hk
      · exact j2 g hg hk
      · have := (j1.lt g hg).2
        omega
theorem holds_at {I : Impl} {W w : World} {q : Nat} {L : List Bool} {xs : List (Value × List (Nat × Nat))} (h : Holds I W w q L xs) {a : Option Addr} {n cap : Nat} {l : List (Nat × Nat)} (hx : (.slice a n cap, l) ∈ xs) {k : Nat} (hk : k < l.length) :
    ∃ g, a = some ⟨g, 0, none⟩ ∧ w.cell? ⟨g, k * 2, none⟩ = some (.int .i64 ((l.getD k (0, 0)).1 : Int)) ∧ w.cell? ⟨g, k * 2 + 1, none⟩ = some (.int .i64 ((l.getD k (0, 0)).2 : Int)) := by
  obtain ⟨o, _, _, h3⟩ := h.ex
  obtain ⟨g, h1, _, h4, h5⟩ := (h3 _ hx).1.at hk
  exact ⟨g, h1, h4, h5⟩
end Go.Proofs.Ytdngkpdiaeicmaa
