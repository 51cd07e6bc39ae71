/- Layer 6: both disks, an act in its box, and a list of bools, in one memory; what each call makes of them. -/
import Derived.Test.YtikeobmcnpncjaaSecK
namespace Go.Proofs.Ytikeobmcnpncjaa
open Go.RowKit

def actC (k : Nat) (c : UInt8) (n : Int) (s : ByteArray) (v : Value) : Array Value := #[.int .u8 (k : Int), byteV c, .int .i64 n, .string s, v]
/-- The block of a slice. -/
def keepOwn (v : Value) (k : Nat) : Prop := ∃ ad n cap, v = .slice (some ad) n cap ∧ 0 < n ∧ ad.block = k
/-- The program's disk is dq, the document's dp; own0 are the blocks that were theirs at the world W. -/
structure DoM (I : Impl) (W w : World) (own0 : Nat → Prop) (q p : Nat) (dq dp : RD) (b : Nat) (xc : Array Value) (v : Value) (ks : List Bool) : Prop where
  ex : ∃ vS vL vK o, RefV w p vS vL vK dp ∧ I.Inv w q dq o ∧ (∀ k, refOwn p vS vL vK k → ¬ o k) ∧ (¬ o b ∧ ¬ refOwn p vS vL vK b) ∧ (∀ k, keepOwn v k → ¬ o k ∧ ¬ refOwn p vS vL vK k) ∧ (∀ k, o k → own0 k ∨ W.heap.size ≤ k) ∧ (∀ k, refOwn p vS vL vK k → own0 k ∨ W.heap.size ≤ k)
  box : rowC w b xc 34
  keep : KeepAt w v ks
  chg : Chg own0 W w
theorem keepOwn_lt {w : World} {v : Value} {ks : List Bool} (h : KeepAt w v ks) : ∀ k, keepOwn v k → k < w.heap.size := by
  rintro k ⟨ad, n, cap, rfl, hn, rfl⟩
  rcases h with ⟨h, _⟩ | ⟨ad', cap', hv, hc⟩
  · cases h
  · simp only [Value.slice.injEq, Option.some.injEq] at hv
    obtain ⟨rfl, rfl, _⟩ := hv
    have := World.block_lt_of_cell? w _ (hc 0 hn)
    rwa [addr_block] at this
theorem KeepAt.far {w w' : World} {v : Value} {ks : List Bool} (h : KeepAt w v ks) {s : Nat → Prop} (hc : Chg s w w') (hs : ∀ k, keepOwn v k → ¬ s k) : KeepAt w' v ks :=
  h.chg hc (fun ad n cap hv hn => hs ad.block ⟨ad, n, cap, hv, hn, rfl⟩)
/-- Where nothing of it is changed. -/
theorem DoM.below {I : Impl} {W w w' : World} {own0 : Nat → Prop} {q p : Nat} {dq dp : RD} {b : Nat} {xc : Array Value} {v : Value} {ks : List Bool} (h : DoM I W w own0 q p dq dp b xc v ks) (hb : Below w.heap.size w w') : DoM I W w' own0 q p dq dp b xc v ks := by
  obtain ⟨vS, vL, vK, o, h1, h2, h3⟩ := h.ex
  exact ⟨⟨vS, vL, vK, o, h1.below hb, I.below h2 hb, h3⟩, rowC_below h.box hb (rowC_lt h.box), h.keep.keep hb, h.chg.then_below hb⟩
theorem DoM.drew {I : Impl} {W w : World} {own0 : Nat → Prop} {q p : Nat} {dq dp : RD} {b : Nat} {xc : Array Value} {v : Value} {ks : List Bool} (h : DoM I W w own0 q p dq dp b xc v ks) : DoM I W w.drew own0 q p dq dp b xc v ks := h.below (Below.refl _ _).drew
/-- Behind a call on the program's disk. -/
theorem DoM.prog {I : Impl} {W w w' : World} {own0 : Nat → Prop} {q p : Nat} {dq' dp : RD} {b : Nat} {xc : Array Value} {v : Value} {ks : List Bool} (hbox : rowC w b xc 34) (hkeep : KeepAt w v ks) (hchg : Chg own0 W w) {vS vL vK : Value} {o : Nat → Prop}
    (h1 : RefV w p vS vL vK dp) (h3 : ∀ k, refOwn p vS vL vK k → ¬ o k) (h4 : ¬ o b ∧ ¬ refOwn p vS vL vK b) (h5 : ∀ k, keepOwn v k → ¬ o k ∧ ¬ refOwn p vS vL vK k) (h6 : ∀ k, o k → own0 k ∨ W.heap.size ≤ k) (h7 : ∀ k, refOwn p vS vL vK k → own0 k ∨ W.heap.size ≤ k)
    (hp : InvPost I.Inv w q o dq' w') : DoM I W w' own0 q p dq' dp b xc v ks := by
  obtain ⟨o', i1, i2, i3⟩ := hp
  have hW := hchg.size
  refine ⟨⟨vS, vL, vK, o', h1.chg i2 h3, i1, fun k hk ho => ?_, ⟨fun ho => ?_, h4.2⟩, fun k hk => ⟨fun ho => ?_, (h5 k hk).2⟩, fun k hk => ?_, h7⟩, i2.rowC hbox h4.1, hkeep.far i2 (fun k hk => (h5 k hk).1), hchg.trans i2 (fun k hk ho => ?_)⟩
  · rcases i3 k ho with h | h
    · exact h3 k hk h
    · have := h1.lt k hk; omega
  · rcases i3 b ho with h | h
    · exact h4.1 h
    · have := rowC_lt hbox; omega
  · rcases i3 k ho with h | h
    · exact (h5 k hk).1 h
    · have := keepOwn_lt hkeep k hk; omega
  · rcases i3 k hk with h | h
    · exact h6 k h
    · exact .inr (Nat.le_trans hW h)
  · rcases h6 k ho with h | h
    · exact h
    · omega
/-- Behind a call on the document's disk. -/
theorem DoM.ref {I : Impl} {W w w' : World} {own0 : Nat → Prop} {q p : Nat} {dq dp' : RD} {b : Nat} {xc : Array Value} {v : Value} {ks : List Bool} (hbox : rowC w b xc 34) (hkeep : KeepAt w v ks) (hchg : Chg own0 W w) {vS vL vK : Value} {o : Nat → Prop}
    (h2 : I.Inv w q dq o) (h3 : ∀ k, refOwn p vS vL vK k → ¬ o k) (h4 : ¬ o b ∧ ¬ refOwn p vS vL vK b) (h5 : ∀ k, keepOwn v k → ¬ o k ∧ ¬ refOwn p vS vL vK k) (h6 : ∀ k, o k → own0 k ∨ W.heap.size ≤ k) (h7 : ∀ k, refOwn p vS vL vK k → own0 k ∨ W.heap.size ≤ k)
    (hp : RefPost w p vS vL vK dp' w') : DoM I W w' own0 q p dq dp' b xc v ks := by
  obtain ⟨vS', vL', vK', i1, i2, i3⟩ := hp
  have hW := hchg.size
  have hpo : refOwn p vS vL vK p := .inl rfl
  refine ⟨⟨vS', vL', vK', o, i1, I.chg h2 i2 (fun k hk hkp => h3 k (by rw [hkp]; exact hpo) hk), fun k hk ho => ?_, ⟨h4.1, fun ho => ?_⟩, fun k hk => ⟨(h5 k hk).1, fun ho => ?_⟩, h6, fun k hk => ?_⟩, i2.rowC hbox (fun e => h4.2 (by rw [e]; exact hpo)), hkeep.far i2 (fun k hk e => (h5 k hk).2 (by rw [e]; exact hpo)), hchg.trans i2 (fun k hk e => ?_)⟩
  · rcases i3 k hk with h | h
    · exact h3 k h ho
    · have := I.lt h2 k ho; omega
  · rcases i3 b ho with h | h
    · exact h4.2 h
    · have := rowC_lt hbox; omega
  · rcases i3 k ho with h | h
    · exact (h5 k hk).2 h
    · have := keepOwn_lt hkeep k hk; omega
  · rcases i3 k hk with h | h
    · exact h7 k h
    · exact .inr (Nat.le_trans hW h)
  · subst e
    rcases h7 k hpo with h | h
    · exact h
    · omega
section
variable {I : Impl} {W w : World} {own0 : Nat → Prop} {q p : Nat} {dq dp : RD} {b : Nat} {xc : Array Value} {v : Value} {ks : List Bool}
theorem do_write (h : DoM I W w own0 q p dq dp b xc v ks) (hok : dq.ok) (hf : dq.few) (i : Int) (s : ByteArray) (hs : s.size ≤ maxLen) :
    Calls Try.prog 14 #[.pointer (some ⟨q, 0, none⟩), .int .i64 i, .string s] w fun e w' => e = .returned (.int .i64 (dq.write i s).2) ∧ DoM I W w' own0 q p (dq.write i s).1 dp b xc v ks := by
  obtain ⟨vS, vL, vK, o, h1, h2, h3, h4, h5, h6, h7⟩ := h.ex
  exact (I.write i s h2 hok hf hs).mono fun e w' ⟨he, hp⟩ => ⟨he, DoM.prog h.box h.keep h.chg h1 h3 h4 h5 h6 h7 hp⟩
theorem do_flush (h : DoM I W w own0 q p dq dp b xc v ks) (hok : dq.ok) (hf : dq.few) :
    Calls Try.prog 15 #[.pointer (some ⟨q, 0, none⟩)] w fun e w' => e = .returned (.int .i64 dq.flush.2) ∧ DoM I W w' own0 q p dq.flush.1 dp b xc v ks := by
  obtain ⟨vS, vL, vK, o, h1, h2, h3, h4, h5, h6, h7⟩ := h.ex
  exact (I.flush h2 hok hf).mono fun e w' ⟨he, hp⟩ => ⟨he, DoM.prog h.box h.keep h.chg h1 h3 h4 h5 h6 h7 hp⟩
theorem do_start (h : DoM I W w own0 q p dq dp b xc v ks) (hok : dq.ok) (hf : dq.few) :
    Calls Try.prog 17 #[.pointer (some ⟨q, 0, none⟩)] w fun e w' => e = .returned (.int .i64 dq.start.2) ∧ DoM I W w' own0 q p dq.start.1 dp b xc v ks := by
  obtain ⟨vS, vL, vK, o, h1, h2, h3, h4, h5, h6, h7⟩ := h.ex
  exact (I.start h2 hok hf).mono fun e w' ⟨he, hp⟩ => ⟨he, DoM.prog h.box h.keep h.chg h1 h3 h4 h5 h6 h7 hp⟩
theorem do_crash (h : DoM I W w own0 q p dq dp b xc v ks) (hok : dq.ok) (hf : dq.few) (hl : ks.length ≤ 100000) :
    Calls Try.prog 16 #[.pointer (some ⟨q, 0, none⟩), v] w fun e w' => e = .returned (.int .i64 (dq.crash ks).2) ∧ DoM I W w' own0 q p (dq.crash ks).1 dp b xc v ks := by
  obtain ⟨vS, vL, vK, o, h1, h2, h3, h4, h5, h6, h7⟩ := h.ex
  exact (I.crash h2 hok hf h.keep hl (fun ad n cap hv hn => (h5 ad.block ⟨ad, n, cap, hv, hn, rfl⟩).1)).mono fun e w' ⟨he, hp⟩ => ⟨he, DoM.prog h.box h.keep h.chg h1 h3 h4 h5 h6 h7 hp⟩
theorem do_fail (h : DoM I W w own0 q p dq dp b xc v ks) (hok : dq.ok) (hf : dq.few) (hl : ks.length ≤ 100000) (n : Int) (hn : n ≤ 9223372036854775807) :
    Calls Try.prog 18 #[.pointer (some ⟨q, 0, none⟩), .int .i64 n, v] w fun e w' => e = .returned (.int .i64 (dq.fail n ks).2) ∧ DoM I W w' own0 q p (dq.fail n ks).1 dp b xc v ks := by
  obtain ⟨vS, vL, vK, o, h1, h2, h3, h4, h5, h6, h7⟩ := h.ex
  exact (I.fail n h2 hok hf h.keep hl (fun ad n cap hv hn => (h5 ad.block ⟨ad, n, cap, hv, hn, rfl⟩).1) hn).mono fun e w' ⟨he, hp⟩ => ⟨he, DoM.prog h.box h.keep h.chg h1 h3 h4 h5 h6 h7 hp⟩
theorem do_read (h : DoM I W w own0 q p dq dp b xc v ks) (hok : dq.ok) (hf : dq.few) (i : Int) :
    Calls Try.prog 13 #[.pointer (some ⟨q, 0, none⟩), .int .i64 i] w fun e w' => e = .returned (.tuple #[.string (dq.read i).1, .int .i64 (dq.read i).2]) ∧ DoM I W w' own0 q p dq dp b xc v ks := by
  obtain ⟨vS, vL, vK, o, h1, h2, _⟩ := h.ex
  exact (I.read i h2 hok hf).mono fun e w' ⟨he, hb⟩ => ⟨he, h.below hb⟩
theorem do_rwrite (h : DoM I W w own0 q p dq dp b xc v ks) (hok : dp.ok) (hf : dp.few) (i : Int) (s : ByteArray) :
    Calls Try.prog 26 #[.pointer (some ⟨p, 0, none⟩), .int .i64 i, .string s] w fun e w' => e = .returned (.int .i64 (dp.write i s).2) ∧ DoM I W w' own0 q p dq (dp.write i s).1 b xc v ks := by
  obtain ⟨vS, vL, vK, o, h1, h2, h3, h4, h5, h6, h7⟩ := h.ex
  exact (rwrite_any h1 hok i s (by have := hf.loose; omega)).mono fun e w' ⟨he, hp⟩ => ⟨he, DoM.ref h.box h.keep h.chg h2 h3 h4 h5 h6 h7 hp⟩
theorem do_rflush (h : DoM I W w own0 q p dq dp b xc v ks) (hok : dp.ok) (hf : dp.few) :
    Calls Try.prog 27 #[.pointer (some ⟨p, 0, none⟩)] w fun e w' => e = .returned (.int .i64 dp.flush.2) ∧ DoM I W w' own0 q p dq dp.flush.1 b xc v ks := by
  obtain ⟨vS, vL, vK, o, h1, h2, h3, h4, h5, h6, h7⟩ := h.ex
  exact (rflush_any h1 hok (by have := hf.loose; omega)).mono fun e w' ⟨he, hp⟩ => ⟨he, DoM.ref h.box h.keep h.chg h2 h3 h4 h5 h6 h7 hp⟩
theorem do_rstart (h : DoM I W w own0 q p dq dp b xc v ks) (hf : dp.few) :
    Calls Try.prog 29 #[.pointer (some ⟨p, 0, none⟩)] w fun e w' => e = .returned (.int .i64 dp.start.2) ∧ DoM I W w' own0 q p dq dp.start.1 b xc v ks := by
  obtain ⟨vS, vL, vK, o, h1, h2, h3, h4, h5, h6, h7⟩ := h.ex
  exact (rstart_any h1 (by have := hf.starts; omega)).mono fun e w' ⟨he, hp⟩ => ⟨he, DoM.ref h.box h.keep h.chg h2 h3 h4 h5 h6 h7 hp⟩
theorem do_rcrash (h : DoM I W w own0 q p dq dp b xc v ks) (hok : dp.ok) (hf : dp.few) :
    Calls Try.prog 28 #[.pointer (some ⟨p, 0, none⟩), v] w fun e w' => e = .returned (.int .i64 (dp.crash ks).2) ∧ DoM I W w' own0 q p dq (dp.crash ks).1 b xc v ks := by
  obtain ⟨vS, vL, vK, o, h1, h2, h3, h4, h5, h6, h7⟩ := h.ex
  exact (rcrash_any h1 hok h.keep (by have := hf.loose; omega)).mono fun e w' ⟨he, hp⟩ => ⟨he, DoM.ref h.box h.keep h.chg h2 h3 h4 h5 h6 h7 hp⟩
theorem do_rfail (h : DoM I W w own0 q p dq dp b xc v ks) (hl : ks.length ≤ 100000) (n : Int) :
    Calls Try.prog 30 #[.pointer (some ⟨p, 0, none⟩), .int .i64 n, v] w fun e w' => e = .returned (.int .i64 (dp.fail n ks).2) ∧ DoM I W w' own0 q p dq (dp.fail n ks).1 b xc v ks := by
  obtain ⟨vS, vL, vK, o, h1, h2, h3, h4, h5, h6, h7⟩ := h.ex
  exact (rfail_any h1 n h.keep (by omega)).mono fun e w' ⟨he, hp⟩ => ⟨he, DoM.ref h.box h.keep h.chg h2 h3 h4 h5 h6 h7 hp⟩
theorem do_rread (h : DoM I W w own0 q p dq dp b xc v ks) (hok : dp.ok) (hf : dp.few) (i : Int) :
    Calls Try.prog 31 #[.pointer (some ⟨p, 0, none⟩), .int .i64 i] w fun e w' => e = .returned (.tuple #[.string (dp.read i).1, .int .i64 (dp.read i).2]) ∧ DoM I W w' own0 q p dq dp b xc v ks := by
  obtain ⟨vS, vL, vK, o, h1, _⟩ := h.ex
  exact (rread_any h1 hok i (by have := hf.loose; omega)).mono fun e w' ⟨he, hw⟩ => ⟨he, hw ▸ h⟩
theorem do_sector (h : DoM I W w own0 q p dq dp b xc v ks) (c : UInt8) : Calls Try.prog 23 #[byteV c] w fun e w' => e = .returned (.string (secB c)) ∧ DoM I W w' own0 q p dq dp b xc v ks :=
  (sector_any c w).mono fun _ _ ⟨he, hb⟩ => ⟨he, h.below hb⟩
end
end Go.Proofs.Ytikeobmcnpncjaa
