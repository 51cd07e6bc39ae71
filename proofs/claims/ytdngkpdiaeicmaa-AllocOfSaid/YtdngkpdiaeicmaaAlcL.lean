/- Layer 8: AllocPlay: both maps, what was taken, and the acts' boxes. -/
import Derived.Test.YtdngkpdiaeicmaaAlcK
namespace Go.Proofs.Ytdngkpdiaeicmaa
open Go.RowKit

/-- The program's map is LP, the document's LR, in blocks of the call's own, apart; hs: extents that were told; vt: a row of such slices, those of tk; bs: boxes. -/
structure PlayC (I : Impl) (W w : World) (q p : Nat) (LP LR : List Bool) (vt : Value) (tk hs : List (Value × List (Nat × Nat))) (bs : List (Nat × Array Value)) (v : Value) (o : Nat → Prop) : Prop where
  r : RefM w p v LR
  i : I.Inv w q LP o
  x : ∀ j, refOwn p v j → ¬ o j
  oW : ∀ j, o j → W.heap.size ≤ j
  vW : ∀ j, refOwn p v j → W.heap.size ≤ j
  h : ∀ y ∈ hs, OwnsE w W.heap.size y.1 y.2 ∧ ∀ g, y.1.ownBlock = some g → ¬ o g ∧ ¬ refOwn p v g
  tx : ∀ g, vt.ownBlock = some g → ¬ o g ∧ ¬ refOwn p v g
  bx : ∀ y ∈ bs, rowC w y.1 y.2 35 ∧ W.heap.size ≤ y.1 ∧ ¬ o y.1 ∧ ¬ refOwn p v y.1
  t : w.ownsRow W.heap.size 33 1 vt tk.length (tk.map (·.1))
  sub : ∀ y ∈ tk, y ∈ hs
  okh : ∀ y ∈ hs, (∀ x ∈ y.2, x.1 + x.2 ≤ 4096) ∧ y.2.length ≤ 8
  n : 1 ≤ LR.length ∧ LR.length ≤ 4096
  b : Below W.heap.size W w
def PlayI (I : Impl) (W w : World) (q p : Nat) (LP LR : List Bool) (vt : Value) (tk hs : List (Value × List (Nat × Nat))) (bs : List (Nat × Array Value)) : Prop := ∃ v o, PlayC I W w q p LP LR vt tk hs bs v o
theorem Chg.belowW {s : Nat → Prop} {W w w' : World} (hb : Below W.heap.size W w) (hc : Chg s w w') (hs : ∀ j, s j → W.heap.size ≤ j) : Below W.heap.size W w' := hb.trans (hc.below hb.size (fun k hk hok => by have := hs k hok; omega))
section
variable {I : Impl} {W w w' : World} {q p : Nat} {LP LR : List Bool} {vt : Value} {tk hs : List (Value × List (Nat × Nat))} {bs : List (Nat × Array Value)} {v : Value} {o : Nat → Prop}
/-- A call that changed but blocks that are the maps', or new ones. -/
theorem PlayC.step (h : PlayC I W w q p LP LR vt tk hs bs v o) {s : Nat → Prop} (hc : Chg s w w') (hs0 : ∀ j, s j → o j ∨ refOwn p v j) {v' : Value} {o' : Nat → Prop} {LP' LR' : List Bool} (h1 : RefM w' p v' LR') (h2 : I.Inv w' q LP' o')
    (hd : ∀ j, refOwn p v' j → ¬ o' j) (ho : ∀ j, o' j → (o j ∨ refOwn p v j) ∨ w.heap.size ≤ j) (hv : ∀ j, refOwn p v' j → (o j ∨ refOwn p v j) ∨ w.heap.size ≤ j) (hn : LR'.length = LR.length) : PlayC I W w' q p LP' LR' vt tk hs bs v' o' := by
  have far : ∀ j, (o j ∨ refOwn p v j) ∨ w.heap.size ≤ j → W.heap.size ≤ j := fun j hj => by
    rcases hj with (hj | hj) | hj
    · exact h.oW j hj
    · exact h.vW j hj
    · exact Nat.le_trans h.b.size hj
  have out : ∀ g, g < w.heap.size → ¬ o g ∧ ¬ refOwn p v g → ¬ s g ∧ ¬ o' g ∧ ¬ refOwn p v' g := fun g hg hx => by
    refine ⟨fun hj => (hs0 g hj).elim hx.1 hx.2, fun hj => ?_, fun hj => ?_⟩
    · rcases ho g hj with (hj | hj) | hj
      · exact hx.1 hj
      · exact hx.2 hj
      · omega
    · rcases hv g hj with (hj | hj) | hj
      · exact hx.1 hj
      · exact hx.2 hj
      · omega
  refine ⟨h1, h2, hd, fun j hj => far j (ho j hj), fun j hj => far j (hv j hj), fun y hy => ?_, fun g hg => ?_, fun y hy => ?_, ?_, h.sub, h.okh, by rw [hn]; exact h.n, Chg.belowW h.b hc (fun j hj => far j (.inl (hs0 j hj)))⟩
  · obtain ⟨j1, j2⟩ := h.h y hy
    exact ⟨owns_chg j1 hc (fun g hg => (out g (j1.lt g hg).2 (j2 g hg)).1), fun g hg => (out g (j1.lt g hg).2 (j2 g hg)).2⟩
  · exact (out g (h.t.lt g hg).2 (h.tx g hg)).2
  · obtain ⟨j1, j2, j3⟩ := h.bx y hy
    obtain ⟨k1, k2⟩ := out y.1 (rowC_lt j1) j3
    exact ⟨hc.rowC j1 k1, j2, k2⟩
  · exact hc.owns h.t (fun g hg => (out g (h.t.lt g hg).2 (h.tx g hg)).1)
theorem PlayI.below (h : PlayI I W w q p LP LR vt tk hs bs) (hb : Below w.heap.size w w') : PlayI I W w' q p LP LR vt tk hs bs := by
  obtain ⟨v, o, h⟩ := h
  exact ⟨v, o, h.step (Chg.of_below (s := fun _ => False) hb) (fun _ hj => hj.elim) (h.r.below hb) (I.below h.i hb) h.x (fun j hj => .inl (.inl hj)) (fun j hj => .inl (.inr hj)) rfl⟩
/-- One row of extents more, in a new block. -/
theorem PlayC.held (h : PlayC I W w q p LP LR vt tk hs bs v o) {base : Nat} {x : Value} {l : List (Nat × Nat)} (hx : OwnsE w base x l) (hb : W.heap.size ≤ base) (ho : ∀ g, x.ownBlock = some g → ¬ o g ∧ ¬ refOwn p v g) (hl : (∀ y ∈ l, y.1 + y.2 ≤ 4096) ∧ l.length ≤ 8) : PlayC I W w q p LP LR vt tk ((x, l) :: hs) bs v o :=
  ⟨h.r, h.i, h.x, h.oW, h.vW, fun y hy => by
    rcases List.mem_cons.1 hy with rfl | hy
    · exact ⟨owns_up hx hb, ho⟩
    · exact h.h y hy, h.tx, h.bx, h.t, fun y hy => List.mem_cons_of_mem _ (h.sub y hy), fun y hy => by
    rcases List.mem_cons.1 hy with rfl | hy
    · exact hl
    · exact h.okh y hy, h.n, h.b⟩
theorem takeL_small {L : List Bool} {n : Int} {l : List (Nat × Nat)} {b : Bool} {M : List Bool} (hL : L.length ≤ 4096) (ht : takeL L n = (l, b, M)) : (∀ y ∈ l, y.1 + y.2 ≤ 4096) ∧ l.length ≤ 8 := by
  unfold takeL at ht
  split at ht
  · simp only [Prod.mk.injEq] at ht
    rw [← ht.1]; simp
  · split at ht
    · simp only [Prod.mk.injEq] at ht
      rw [← ht.1]; simp
    · simp only [Prod.mk.injEq] at ht
      rw [← ht.1]
      exact ⟨fun y hy => Nat.le_trans (exts_in hy) hL, by omega⟩
theorem play_ptake (h : PlayI I W w q p LP LR vt tk hs bs) (n : Int) (hn : isI n) {l : List (Nat × Nat)} {b : Bool} {M : List Bool} (ht : takeL LP n = (l, b, M)) :
    Calls Try.prog 15 #[.pointer (some ⟨q, 0, none⟩), .int .i64 n] w fun e w' => ∃ a cap, e = .returned (.tuple #[.slice a l.length cap, .bool b]) ∧ PlayI I W w' q p M LR vt tk ((.slice a l.length cap, l) :: hs) bs := by
  obtain ⟨v, o, h⟩ := h
  refine (I.take n h.i hn).mono fun e w' ⟨x, he, hx, o', i1, i2, i3, i4⟩ => ?_
  rw [ht] at he hx i1
  replace hx : OwnsE w' w.heap.size x l := hx
  obtain ⟨a, cap, rfl⟩ := hx.form
  have hr := h.r.chg i2 (fun k hk ho => h.x k hk ho)
  have hx2 : ∀ j, refOwn p v j → ¬ o' j := fun j hj hj' => by
    rcases i3 j hj' with hk | hk
    · exact h.x j hj hk
    · have := h.r.lt j hj; omega
  have hs1 := h.step i2 (fun _ hj => .inl hj) hr i1 hx2 (fun j hj => (i3 j hj).imp .inl id) (fun j hj => .inl (.inr hj)) rfl
  exact ⟨a, cap, he, v, o', hs1.held hx h.b.size (fun g hg => ⟨i4 g hg, fun hj => by have := (hx.lt g hg).1; have := h.r.lt g hj; omega⟩) (takeL_small (I.ok h.i).2 ht)⟩
theorem play_rtake (h : PlayI I W w q p LP LR vt tk hs bs) (n : Int) {l : List (Nat × Nat)} {b : Bool} {M : List Bool} (ht : takeL LR n = (l, b, M)) :
    Calls Try.prog 16 #[.pointer (some ⟨p, 0, none⟩), .int .i64 n] w fun e w' => ∃ a cap, e = .returned (.tuple #[.slice a l.length cap, .bool b]) ∧ PlayI I W w' q p LP M vt tk ((.slice a l.length cap, l) :: hs) bs := by
  obtain ⟨v, o, h⟩ := h
  refine (rtake_any h.r h.n.1 h.n.2 n).mono fun e w' ⟨x, he, hx, i1, i2⟩ => ?_
  have hlen := takeL_length LR n
  rw [ht] at he hx i1 hlen
  replace hx : OwnsE w' w.heap.size x l := hx
  obtain ⟨a, cap, rfl⟩ := hx.form
  have hi := I.chg h.i i2 (fun k hk ho => h.x k (.inr ho) hk)
  have hs1 := h.step i2 (fun _ hj => .inr (.inr hj)) i1 hi h.x (fun j hj => .inl (.inl hj)) (fun j hj => .inl (.inr hj)) hlen
  exact ⟨a, cap, he, v, o, hs1.held hx h.b.size (fun g hg => ⟨fun hj => by have := (hx.lt g hg).1; have := I.lt h.i g hj; omega, fun hj => by have := (hx.lt g hg).1; have := h.r.lt g hj; omega⟩) (takeL_small h.n.2 ht)⟩
/-- Give of what lies in no block of the maps'. -/
theorem play_pgive (h : PlayI I W w q p LP LR vt tk hs bs) {x : Value} {l : List (Int × Int)} (hx : ExtAt w x l) (hl : extOk l) (hxo : ∀ v o, PlayC I W w q p LP LR vt tk hs bs v o → ∀ ad n cap, x = .slice (some ad) n cap → 0 < n → ¬ o ad.block) {b : Bool} {M : List Bool} (ht : giveR LP l = (b, M)) :
    Calls Try.prog 12 #[.pointer (some ⟨q, 0, none⟩), x] w fun e w' => e = .returned (.bool b) ∧ PlayI I W w' q p M LR vt tk hs bs := by
  obtain ⟨v, o, h⟩ := h
  refine (I.give h.i hx hl (hxo v o h)).mono fun e w' ⟨he, o', i1, i2, i3⟩ => ?_
  rw [ht] at he i1
  have hr := h.r.chg i2 (fun k hk ho => h.x k hk ho)
  have hx2 : ∀ j, refOwn p v j → ¬ o' j := fun j hj hj' => by
    rcases i3 j hj' with hk | hk
    · exact h.x j hj hk
    · have := h.r.lt j hj; omega
  exact ⟨he, v, o', h.step i2 (fun _ hj => .inl hj) hr i1 hx2 (fun j hj => (i3 j hj).imp .inl id) (fun j hj => .inl (.inr hj)) rfl⟩
theorem play_rgive (h : PlayI I W w q p LP LR vt tk hs bs) {x : Value} {l : List (Int × Int)} (hx : ExtAt w x l) (hl : extOk l) {b : Bool} {M : List Bool} (ht : giveR LR l = (b, M)) :
    Calls Try.prog 13 #[.pointer (some ⟨p, 0, none⟩), x] w fun e w' => e = .returned (.bool b) ∧ PlayI I W w' q p LP M vt tk hs bs := by
  obtain ⟨v, o, h⟩ := h
  refine (rgive_any h.r h.n.1 h.n.2 hx hl).mono fun e w' ⟨he, v', i1, i2, i3⟩ => ?_
  have hlen := giveR_length LR l
  rw [ht] at he i1 hlen
  have hi := I.chg h.i i2 (fun k hk ho => h.x k (.inl ho) hk)
  have hx2 : ∀ j, refOwn p v' j → ¬ o j := fun j hj hj' => by
    rcases i3 j hj with hk | hk
    · exact h.x j hk hj'
    · have := I.lt h.i j hj'; omega
  exact ⟨he, v', o, h.step i2 (fun _ hj => .inr (.inl hj)) i1 hi hx2 (fun j hj => .inl (.inl hj)) (fun j hj => (i3 j hj).imp .inr id) hlen⟩
/-- What was told lies in no block of the maps'. -/
theorem PlayI.ext (h : PlayI I W w q p LP LR vt tk hs bs) {x : Value} {l : List (Nat × Nat)} (hx : (x, l) ∈ hs) : ExtAt w x (toI l) ∧ extOk (toI l) ∧ ∀ v o, PlayC I W w q p LP LR vt tk hs bs v o → ∀ ad n cap, x = .slice (some ad) n cap → 0 < n → ¬ o ad.block := by
  obtain ⟨v, o, h⟩ := h
  obtain ⟨h1, h2⟩ := h.okh _ hx
  have hx1 : OwnsE w W.heap.size x l := (h.h _ hx).1
  refine ⟨hx1.ext (Nat.le_trans h2 (by decide)), toI_ok h1, fun v o h ad n cap he hn ho => ?_⟩
  subst he
  obtain ⟨_, _, hv⟩ := OwnsE.form hx1
  simp only [Value.slice.injEq] at hv
  obtain ⟨g, cap', hv2⟩ := owns_some hx1 (by omega)
  simp only [Value.slice.injEq, Option.some.injEq] at hv2
  obtain ⟨rfl, _⟩ := hv2
  exact ((h.h _ hx).2 g rfl).1 ho
/-- What came in lies in no block of the maps'. -/
theorem PlayI.came (h : PlayI I W w q p LP LR vt tk hs bs) {x : Value} {l : List (Int × Int)} (hx : ExtAt W x l) : ExtAt w x l ∧ ∀ v o, PlayC I W w q p LP LR vt tk hs bs v o → ∀ ad n cap, x = .slice (some ad) n cap → 0 < n → ¬ o ad.block := by
  obtain ⟨v, o, h⟩ := h
  refine ⟨hx.below h.b, fun v o h ad n cap he hn ho => ?_⟩
  obtain ⟨_, _, hf⟩ := hx.form
  rw [he] at hf hx
  simp only [Value.slice.injEq] at hf
  obtain ⟨ad', ha, hlt, _⟩ := hx.at (k := 0) (by omega)
  obtain rfl := Option.some.inj ha
  have := h.oW _ ho
  omega
theorem play_pused (h : PlayI I W w q p LP LR vt tk hs bs) : Calls Try.prog 18 #[.pointer (some ⟨q, 0, none⟩)] w fun e w' => e = .returned (.int .i64 (usedL LP : Int)) ∧ PlayI I W w' q p LP LR vt tk hs bs := by
  obtain ⟨v, o, h0⟩ := id h
  exact (I.used h0.i).mono fun e w' ⟨he, hb⟩ => ⟨he, h.below hb⟩
theorem play_rused (h : PlayI I W w q p LP LR vt tk hs bs) : Calls Try.prog 19 #[.pointer (some ⟨p, 0, none⟩)] w fun e w' => e = .returned (.int .i64 (usedL LR : Int)) ∧ PlayI I W w' q p LP LR vt tk hs bs := by
  obtain ⟨v, o, h0⟩ := id h
  exact (rused_any h0.r h0.n.1 h0.n.2).mono fun e w' ⟨he, hb⟩ => ⟨he, by rw [← hb]; exact h⟩
theorem play_psize (h : PlayI I W w q p LP LR vt tk hs bs) : Calls Try.prog 20 #[.pointer (some ⟨q, 0, none⟩)] w fun e w' => e = .returned (.int .i64 (LP.length : Int)) ∧ PlayI I W w' q p LP LR vt tk hs bs := by
  obtain ⟨v, o, h0⟩ := id h
  exact (I.size h0.i).mono fun e w' ⟨he, hb⟩ => ⟨he, h.below hb⟩
theorem play_pbytes (h : PlayI I W w q p LP LR vt tk hs bs) : Calls Try.prog 21 #[.pointer (some ⟨q, 0, none⟩)] w fun e w' => e = .returned (.string (str (packL LP))) ∧ PlayI I W w' q p LP LR vt tk hs bs := by
  obtain ⟨v, o, h0⟩ := id h
  exact (I.bytes h0.i).mono fun e w' ⟨he, hb⟩ => ⟨he, h.below hb⟩
theorem play_rbytes (h : PlayI I W w q p LP LR vt tk hs bs) : Calls Try.prog 22 #[.pointer (some ⟨p, 0, none⟩)] w fun e w' => e = .returned (.string (str (packL LR))) ∧ PlayI I W w' q p LP LR vt tk hs bs := by
  obtain ⟨v, o, h0⟩ := id h
  exact (rbytes_any h0.r h0.n.1 h0.n.2).mono fun e w' ⟨he, hb⟩ => ⟨he, h.below hb⟩
theorem play_copy (h : PlayI I W w q p LP LR vt tk hs bs) : Calls Try.prog 14 #[.pointer (some ⟨q, 0, none⟩)] w fun e w' => ∃ q', e = .returned (.pointer (some ⟨q', 0, none⟩)) ∧ I.Own w w' q' LP := by
  obtain ⟨v, o, h0⟩ := id h
  exact (I.copy h0.i).mono fun e w' ⟨q', o', he, h1, h2, h3⟩ => ⟨q', he, o', h1, h2, h3⟩
end
theorem own_take {I : Impl} {W w : World} {q : Nat} {L : List Bool} (h : I.Own W w q L) (n : Int) (hn : isI n) : Calls Try.prog 15 #[.pointer (some ⟨q, 0, none⟩), .int .i64 n] w fun e w' => ∃ x, e = .returned (.tuple #[x, .bool (takeL L n).2.1]) ∧ I.Own W w' q (takeL L n).2.2 := by
  obtain ⟨o, h1, h2, h3⟩ := h
  exact (I.take n h1 hn).mono fun e w' ⟨x, he, _, o', i1, i2, i3, _⟩ => ⟨x, he, Impl.Own.post h2 h3 ⟨o', i1, i2, i3⟩⟩
/-- Give of a list that was written down. -/
theorem own_give1 {I : Impl} {W w : World} {q : Nat} {L : List Bool} (h : I.Own W w q L) : Calls Try.prog 12 #[.pointer (some ⟨q, 0, none⟩), .slice (some ⟨w.heap.size, 0, none⟩) 1 1] (w.alloc (.cells #[.int .i64 0, .int .i64 1] 41)) fun e w' => ∃ b, e = .returned (.bool b) ∧ I.Own W w' q (giveR L [(0, 1)]).2 := by
  obtain ⟨o, h1, h2, h3⟩ := h
  have hb : Below w.heap.size w (w.alloc (.cells #[.int .i64 0, .int .i64 1] 41)) := (Below.refl _ _).alloc (Nat.le_refl _) _
  have hk : ExtAt (w.alloc (.cells #[.int .i64 0, .int .i64 1] 41)) (.slice (some ⟨w.heap.size, 0, none⟩) 1 1) [(0, 1)] :=
    .inr ⟨⟨w.heap.size, 0, none⟩, 1, rfl, by decide, fun j hj => by
      obtain rfl : j = 0 := by simp at hj; exact hj
      exact ⟨rowC_cell (rowC_new w #[.int .i64 0, .int .i64 1] 41) 0, rowC_cell (rowC_new w #[.int .i64 0, .int .i64 1] 41) 1⟩⟩
  have hok : extOk [(0, 1)] := fun j hj => by
    obtain rfl : j = 0 := by simp at hj; exact hj
    decide
  refine (I.give (I.below h1 hb) hk hok (fun ad n cap hv _ hob => ?_)).mono fun e w' ⟨he, hp⟩ => ⟨_, he, Impl.Own.post (h2.trans (hb.mono h2.size)) h3 hp⟩
  simp only [Value.slice.injEq, Option.some.injEq] at hv
  have := I.lt h1 _ hob
  rw [← hv.1] at this
  exact absurd this (Nat.lt_irrefl _)
end Go.Proofs.Ytdngkpdiaeicmaa
