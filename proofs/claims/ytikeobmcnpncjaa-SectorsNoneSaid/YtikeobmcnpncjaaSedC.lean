/- Layer 6: SectorsPlay: what a round leaves. -/
import Derived.Test.YtikeobmcnpncjaaSecR
import Derived.Test.YtikeobmcnpncjaaSedB
namespace Go.Proofs.Ytikeobmcnpncjaa
open Go.RowKit

/-- Both disks are d, in blocks of the call's own, at most k writes loose and k starts; v is a list of bools of the call's own, in a block that is no disk's. -/
structure PlayV (I : Impl) (W w : World) (q p : Nat) (d : RD) (k : Nat) (v : Value) (ks : List Bool) : Prop where
  ex : ∃ vS vL vK o, RefV w p vS vL vK d ∧ I.Inv w q d o ∧ (∀ j, refOwn p vS vL vK j → ¬ o j) ∧ (∀ j, o j → W.heap.size ≤ j) ∧ (∀ j, refOwn p vS vL vK j → W.heap.size ≤ j) ∧ ∀ j, v.ownBlock = some j → ¬ o j ∧ ¬ refOwn p vS vL vK j
  ok : d.ok
  loose : d.loose.length ≤ k
  starts : d.starts ≤ k
  v : w.ownsRow W.heap.size 4 1 v ks.length (ks.map Value.bool)
  b : Below W.heap.size W w
theorem PlayV.few {I : Impl} {W w : World} {q p : Nat} {d : RD} {k : Nat} {v : Value} {ks : List Bool} (h : PlayV I W w q p d k v ks) (hk : k ≤ 1000) : d.few := ⟨Nat.le_trans h.loose (by omega), Nat.le_trans h.starts (by omega)⟩
/-- Without such a list. -/
def PlayM (I : Impl) (W w : World) (q p : Nat) (d : RD) (k : Nat) : Prop := PlayV I W w q p d k (.slice none 0 0) []
theorem PlayV.less {I : Impl} {W w : World} {q p : Nat} {d : RD} {k : Nat} {v : Value} {ks : List Bool} (h : PlayV I W w q p d k v ks) : PlayM I W w q p d k := by
  obtain ⟨vS, vL, vK, o, h1, h2, h3, h4, h5, _⟩ := h.ex
  exact ⟨⟨vS, vL, vK, o, h1, h2, h3, h4, h5, fun j hj => by cases hj⟩, h.ok, h.loose, h.starts, World.ownsRow_nil _ _ _ _, h.b⟩
theorem PlayV.below {I : Impl} {W w w' : World} {q p : Nat} {d : RD} {k : Nat} {v : Value} {ks : List Bool} (h : PlayV I W w q p d k v ks) (hb : Below w.heap.size w w') : PlayV I W w' q p d k v ks := by
  obtain ⟨vS, vL, vK, o, h1, h2, h3⟩ := h.ex
  exact ⟨⟨vS, vL, vK, o, h1.below hb, I.below h2 hb, h3⟩, h.ok, h.loose, h.starts, (Chg.of_below (s := fun _ => False) hb).owns h.v (fun _ _ => id), h.b.trans (hb.mono h.b.size)⟩
/-- A new list of bools. -/
theorem PlayV.list {I : Impl} {W w w' : World} {q p : Nat} {d : RD} {k : Nat} {v v' : Value} {ks ks' : List Bool} (h : PlayV I W w q p d k v ks) (hb : Below w.heap.size w w') (hv : w'.ownsRow w.heap.size 4 1 v' ks'.length (ks'.map Value.bool)) : PlayV I W w' q p d k v' ks' := by
  obtain ⟨vS, vL, vK, o, h1, h2, h3, h4, h5, _⟩ := h.ex
  refine ⟨⟨vS, vL, vK, o, h1.below hb, I.below h2 hb, h3, h4, h5, fun j hj => ⟨fun ho => ?_, fun ho => ?_⟩⟩, h.ok, h.loose, h.starts, ?_, h.b.trans (hb.mono h.b.size)⟩
  · have := (hv.lt j hj).1
    have := I.lt h2 j ho
    omega
  · have := (hv.lt j hj).1
    have := h1.lt j ho
    omega
  · refine ⟨hv.1, ?_⟩
    rcases hv.2 with hn | ⟨g, cap, cur, hv', hg, hrest⟩
    · exact .inl hn
    · exact .inr ⟨g, cap, cur, hv', Nat.le_trans h.b.size hg, hrest⟩
/-- A bool of it is another one. -/
theorem PlayV.put {I : Impl} {W w : World} {q p : Nat} {d : RD} {k g n cap : Nat} {ks : List Bool} (h : PlayV I W w q p d k (.slice (some ⟨g, 0, none⟩) n cap) ks) (hn : n = ks.length) (j : Nat) (b : Bool) : PlayV I W (w.setCell ⟨g, j, none⟩ (.bool b)) q p d k (.slice (some ⟨g, 0, none⟩) n cap) (ks.set j b) := by
  obtain ⟨vS, vL, vK, o, h1, h2, h3, h4, h5, h6⟩ := h.ex
  have hc : Chg (· = g) w (w.setCell ⟨g, j, none⟩ (.bool b)) := (Chg.refl _ _).setCell _ _ (.inl rfl)
  have hg := (h.v.lt g rfl).1
  obtain ⟨g1, g2⟩ := h6 g rfl
  refine ⟨⟨vS, vL, vK, o, h1.chg hc (fun i hi e => g2 (by rw [← e]; exact hi)), I.chg h2 hc (fun i hi e => g1 (by rw [← e]; exact hi)), h3, h4, h5, h6⟩, h.ok, h.loose, h.starts, ?_, h.b.setCell (p := ⟨g, j, none⟩) hg _⟩
  have hv := h.v
  rw [← hn] at hv
  have := (hv.stored j (.bool b)).1
  rw [← List.map_set] at this
  rw [List.length_set, ← hn]
  exact this
/-- An act. -/
theorem PlayV.act {I : Impl} {W w : World} {q p : Nat} {d : RD} {k : Nat} {v : Value} {ks : List Bool} (h : PlayV I W w q p d k v ks) (hk : k ≤ 1000) {kind : Nat} (hkind : kind < 256) (c : UInt8) (n : Int) (s : ByteArray) (hs : s.size ≤ maxLen) (hl : ks.length ≤ 100000) :
    Calls Try.prog 11 #[.agg (actC kind c n s v), .pointer (some ⟨q, 0, none⟩), .pointer (some ⟨p, 0, none⟩)] w fun e w' => e = .returned (.bool true) ∧ PlayV I W w' q p (actD d kind c n s ks) (k + 1) v ks := by
  obtain ⟨vS, vL, vK, o, h1, h2, h3, h4, h5, h6⟩ := h.ex
  have hkeep : ∀ j, keepOwn v j → v.ownBlock = some j := by
    rintro j ⟨ad, m, cap, rfl, _, rfl⟩
    rfl
  refine (do_any ⟨h1, h2, h3, h.ok, h.few hk, owns_keep (owns_base h.v), hl, fun j hj => h6 j (hkeep j hj)⟩ hkind c n s hs).mono fun e w' ⟨he, vS', vL', vK', o', i1, i2, i3, i4, i5⟩ => ⟨he, ?_⟩
  have hf := actD_few d kind c n s ks
  have hW := h.b.size
  have far : ∀ j, (o j ∨ refOwn p vS vL vK j) ∨ w.heap.size ≤ j → W.heap.size ≤ j := fun j hj => by
    rcases hj with (hj | hj) | hj
    · exact h4 j hj
    · exact h5 j hj
    · exact Nat.le_trans hW hj
  have hvo : ∀ j, v.ownBlock = some j → ¬ ((o j ∨ refOwn p vS vL vK j) ∨ w.heap.size ≤ j) := fun j hj hx => by
    rcases hx with (hx | hx) | hx
    · exact (h6 j hj).1 hx
    · exact (h6 j hj).2 hx
    · have := (h.v.lt j hj).2
      omega
  refine ⟨⟨vS', vL', vK', o', i1, i2, i3, fun j hj => far j (i5 j (.inl hj)), fun j hj => far j (i5 j (.inr hj)), fun j hj => ⟨fun ho => hvo j hj (i5 j (.inl ho)), fun ho => hvo j hj (i5 j (.inr ho))⟩⟩, actD_ok h.ok kind c n s ks, ?_, ?_, ?_, ?_⟩
  · have := h.loose; omega
  · have := h.starts; omega
  · exact i4.owns h.v (fun j hj hx => hvo j hj (.inl hx))
  · refine h.b.trans (i4.below h.b.size (fun j hj hx => ?_))
    have := far j (.inl hx)
    omega
theorem PlayV.same {I : Impl} {W w : World} {q p : Nat} {d : RD} {k : Nat} {v : Value} {ks : List Bool} (h : PlayV I W w q p d k v ks) (hk : k ≤ 1000) :
    Calls Try.prog 12 #[.pointer (some ⟨q, 0, none⟩), .pointer (some ⟨p, 0, none⟩)] w fun e w' => e = .returned (.bool true) ∧ PlayM I W w' q p d k := by
  obtain ⟨vS, vL, vK, o, h1, h2, h3, h4, h5, _⟩ := h.ex
  refine (same_any I (W := W) ⟨h1, h2, h.b⟩ h.ok (h.few hk)).mono fun e w' ⟨he, hm⟩ => ⟨he, ?_⟩
  exact ⟨⟨vS, vL, vK, o, hm.r, hm.i, h3, h4, h5, fun j hj => by cases hj⟩, h.ok, h.loose, h.starts, World.ownsRow_nil _ _ _ _, hm.b⟩
end Go.Proofs.Ytikeobmcnpncjaa
