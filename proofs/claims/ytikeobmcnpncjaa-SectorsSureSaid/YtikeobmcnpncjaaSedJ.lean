/- Layer 6: two disks of the call's own; what a failure that is set makes of a disk. -/
import Derived.Test.YtikeobmcnpncjaaSedB
import Derived.Test.YtikeobmcnpncjaaSecR
namespace Go.Proofs.Ytikeobmcnpncjaa
open Go.RowKit

/-- Two disks, in blocks of the call's own, apart. -/
structure Two (I : Impl) (W w : World) (q1 : Nat) (d1 : RD) (q2 : Nat) (d2 : RD) : Prop where
  ex : ∃ o1 o2, I.Inv w q1 d1 o1 ∧ I.Inv w q2 d2 o2 ∧ (∀ j, o1 j → ¬ o2 j) ∧ (∀ j, o1 j → W.heap.size ≤ j) ∧ (∀ j, o2 j → W.heap.size ≤ j)
  b : Below W.heap.size W w
theorem Two.symm {I : Impl} {W w : World} {q1 q2 : Nat} {d1 d2 : RD} (h : Two I W w q1 d1 q2 d2) : Two I W w q2 d2 q1 d1 := by
  obtain ⟨o1, o2, h1, h2, h3, h4, h5⟩ := h.ex
  exact ⟨⟨o2, o1, h2, h1, fun j hj hk => h3 j hk hj, h5, h4⟩, h.b⟩
theorem Two.below {I : Impl} {W w w' : World} {q1 q2 : Nat} {d1 d2 : RD} (h : Two I W w q1 d1 q2 d2) (hb : Below w.heap.size w w') : Two I W w' q1 d1 q2 d2 := by
  obtain ⟨o1, o2, h1, h2, h3⟩ := h.ex
  exact ⟨⟨o1, o2, I.below h1 hb, I.below h2 hb, h3⟩, h.b.trans (hb.mono h.b.size)⟩
theorem Two.post {I : Impl} {W w w' : World} {q1 q2 : Nat} {d1' d2 : RD} {o1 o2 : Nat → Prop} (hb : Below W.heap.size W w) (h2 : I.Inv w q2 d2 o2) (h3 : ∀ j, o1 j → ¬ o2 j) (h4 : ∀ j, o1 j → W.heap.size ≤ j) (h5 : ∀ j, o2 j → W.heap.size ≤ j) (hp : InvPost I.Inv w q1 o1 d1' w') : Two I W w' q1 d1' q2 d2 := by
  obtain ⟨o', i1, i2, i3⟩ := hp
  refine ⟨⟨o', o2, i1, I.chg h2 i2 (fun j hj hk => h3 j hk hj), fun j hj hk => ?_, fun j hj => ?_, h5⟩, hb.trans (i2.below hb.size (fun j hj hk => by have := h4 j hk; omega))⟩
  · rcases i3 j hj with h | h
    · exact h3 j h hk
    · have := I.lt h2 j hk; omega
  · rcases i3 j hj with h | h
    · exact h4 j h
    · exact Nat.le_trans hb.size h
section
variable {I : Impl} {W w : World} {q1 q2 : Nat} {d1 d2 : RD}
theorem two_write (h : Two I W w q1 d1 q2 d2) (hok : d1.ok) (hf : d1.few) (i : Int) (s : ByteArray) (hs : s.size ≤ maxLen) {d' : RD} {r : Int} (hr : d1.write i s = (d', r)) :
    Calls Try.prog 14 #[.pointer (some ⟨q1, 0, none⟩), .int .i64 i, .string s] w fun e w' => e = .returned (.int .i64 r) ∧ Two I W w' q1 d' q2 d2 := by
  obtain ⟨o1, o2, h1, h2, h3, h4, h5⟩ := h.ex
  refine (I.write i s h1 hok hf hs).mono fun e w' ⟨he, hp⟩ => ?_
  rw [hr] at he hp
  exact ⟨he, Two.post h.b h2 h3 h4 h5 hp⟩
theorem two_flush (h : Two I W w q1 d1 q2 d2) (hok : d1.ok) (hf : d1.few) {d' : RD} {r : Int} (hr : d1.flush = (d', r)) :
    Calls Try.prog 15 #[.pointer (some ⟨q1, 0, none⟩)] w fun e w' => e = .returned (.int .i64 r) ∧ Two I W w' q1 d' q2 d2 := by
  obtain ⟨o1, o2, h1, h2, h3, h4, h5⟩ := h.ex
  refine (I.flush h1 hok hf).mono fun e w' ⟨he, hp⟩ => ?_
  rw [hr] at he hp
  exact ⟨he, Two.post h.b h2 h3 h4 h5 hp⟩
theorem two_start (h : Two I W w q1 d1 q2 d2) (hok : d1.ok) (hf : d1.few) {d' : RD} {r : Int} (hr : d1.start = (d', r)) :
    Calls Try.prog 17 #[.pointer (some ⟨q1, 0, none⟩)] w fun e w' => e = .returned (.int .i64 r) ∧ Two I W w' q1 d' q2 d2 := by
  obtain ⟨o1, o2, h1, h2, h3, h4, h5⟩ := h.ex
  refine (I.start h1 hok hf).mono fun e w' ⟨he, hp⟩ => ?_
  rw [hr] at he hp
  exact ⟨he, Two.post h.b h2 h3 h4 h5 hp⟩
/-- A list that came in is no disk's. -/
theorem two_keep {v : Value} {ks : List Bool} (hk : KeepAt W v ks) {o : Nat → Prop} (ho : ∀ j, o j → W.heap.size ≤ j) : ∀ ad n cap, v = .slice (some ad) n cap → 0 < n → ¬ o ad.block := by
  intro ad n cap hv hn hob
  have := keepOwn_lt hk ad.block ⟨ad, n, cap, hv, hn, rfl⟩
  have := ho _ hob
  omega
theorem Two.keep {v : Value} {ks : List Bool} (h : Two I W w q1 d1 q2 d2) (hk : KeepAt W v ks) : KeepAt w v ks := hk.keep h.b
theorem two_crash (h : Two I W w q1 d1 q2 d2) (hok : d1.ok) (hf : d1.few) {v : Value} {ks : List Bool} (hk : KeepAt W v ks) (hl : ks.length ≤ 100000) {d' : RD} {r : Int} (hr : d1.crash ks = (d', r)) :
    Calls Try.prog 16 #[.pointer (some ⟨q1, 0, none⟩), v] w fun e w' => e = .returned (.int .i64 r) ∧ Two I W w' q1 d' q2 d2 := by
  obtain ⟨o1, o2, h1, h2, h3, h4, h5⟩ := h.ex
  refine (I.crash h1 hok hf (h.keep hk) hl (two_keep hk h4)).mono fun e w' ⟨he, hp⟩ => ?_
  rw [hr] at he hp
  exact ⟨he, Two.post h.b h2 h3 h4 h5 hp⟩
theorem two_fail (h : Two I W w q1 d1 q2 d2) (hok : d1.ok) (hf : d1.few) {v : Value} {ks : List Bool} (hk : KeepAt W v ks) (hl : ks.length ≤ 100000) (n : Int) (hn : n ≤ 9223372036854775807) {d' : RD} {r : Int} (hr : d1.fail n ks = (d', r)) :
    Calls Try.prog 18 #[.pointer (some ⟨q1, 0, none⟩), .int .i64 n, v] w fun e w' => e = .returned (.int .i64 r) ∧ Two I W w' q1 d' q2 d2 := by
  obtain ⟨o1, o2, h1, h2, h3, h4, h5⟩ := h.ex
  refine (I.fail n h1 hok hf (h.keep hk) hl (two_keep hk h4) hn).mono fun e w' ⟨he, hp⟩ => ?_
  rw [hr] at he hp
  exact ⟨he, Two.post h.b h2 h3 h4 h5 hp⟩
theorem two_read (h : Two I W w q1 d1 q2 d2) (hok : d1.ok) (hf : d1.few) (i : Int) {s : ByteArray} {r : Int} (hr : d1.read i = (s, r)) :
    Calls Try.prog 13 #[.pointer (some ⟨q1, 0, none⟩), .int .i64 i] w fun e w' => e = .returned (.tuple #[.string s, .int .i64 r]) ∧ Two I W w' q1 d1 q2 d2 := by
  obtain ⟨o1, o2, h1, _⟩ := h.ex
  refine (I.read i h1 hok hf).mono fun e w' ⟨he, hb⟩ => ?_
  rw [hr] at he
  exact ⟨he, h.below hb⟩
theorem two_up (h : Two I W w q1 d1 q2 d2) (hok : d1.ok) {b : Bool} (hb : (!d1.down) = b) : Calls Try.prog 21 #[.pointer (some ⟨q1, 0, none⟩)] w fun e w' => e = .returned (.bool b) ∧ Two I W w' q1 d1 q2 d2 := by
  obtain ⟨o1, o2, h1, _⟩ := h.ex
  refine (I.up h1 hok).mono fun e w' ⟨he, hbl⟩ => ?_
  rw [hb] at he
  exact ⟨he, h.below hbl⟩
theorem two_sector (h : Two I W w q1 d1 q2 d2) (c : UInt8) : Calls Try.prog 23 #[byteV c] w fun e w' => e = .returned (.string (secB c)) ∧ Two I W w' q1 d1 q2 d2 :=
  (sector_any c w).mono fun _ _ ⟨he, hb⟩ => ⟨he, h.below hb⟩
end
/-- Both are new. -/
theorem two_new {I : Impl} {W w1 w2 : World} {q1 q2 : Nat} {d1 d2 : RD} {o1 o2 : Nat → Prop} (h1 : I.Inv w1 q1 d1 o1) (b1 : Below W.heap.size W w1) (k1 : ∀ k, o1 k → W.heap.size ≤ k) (h2 : I.Inv w2 q2 d2 o2) (b2 : Below w1.heap.size w1 w2) (k2 : ∀ k, o2 k → w1.heap.size ≤ k) : Two I W w2 q1 d1 q2 d2 :=
  ⟨⟨o1, o2, I.below h1 b2, h2, fun j hj hk => by have := I.lt h1 j hj; have := k2 j hk; omega, k1, fun j hj => Nat.le_trans b1.size (k2 j hj)⟩, b1.trans (b2.mono b1.size)⟩
/-- A disk that is up, with no failure set, of so many sectors, at most k writes loose. -/
structure RD.calm (d : RD) (k : Nat) : Prop where
  ok : d.ok
  n : d.sure.length = 8
  up : d.down = false
  left : d.left = -1
  loose : d.loose.length ≤ k
  starts : d.starts ≤ 10
theorem RD.calm.few {d : RD} {k : Nat} (h : d.calm k) (hk : k ≤ 1000) : d.few := ⟨Nat.le_trans h.loose (by omega), Nat.le_trans h.starts (by omega)⟩
theorem calm_new : (rdNew 8).calm 0 := ⟨rdNew_ok (by decide) (by decide), by simp [rdNew], rfl, rfl, by simp [rdNew], by simp [rdNew]⟩
/-- .. with a failure set. -/
def RD.armed (d : RD) (z : Int) (ks : List Bool) : RD := { d with left := z, keep := ks }
theorem RD.calm.armed {d : RD} {k : Nat} (h : d.calm k) (hk : k ≤ 1000) {z : Int} (hz : 0 ≤ z) (hz2 : z ≤ 1000) (ks : List Bool) : (d.armed z ks).ok ∧ (d.armed z ks).few :=
  ⟨⟨h.ok.lo, h.ok.hi, h.ok.within, by show -1 ≤ z ∧ z ≤ _; omega⟩, ⟨Nat.le_trans h.loose (by omega), Nat.le_trans h.starts (by omega)⟩⟩
/-- One loose write more. -/
def RD.wrote (d : RD) (n : Nat) (s : ByteArray) : RD := { d with loose := d.loose ++ [(n, s)] }
/-- All of them settled. -/
def RD.flushed (d : RD) : RD := { d with sure := flushN d.sure d.loose d.loose.length, loose := [] }
theorem RD.calm.wrote {d : RD} {k : Nat} (h : d.calm k) {n : Nat} (hn : n < 8) (s : ByteArray) : (d.wrote n s).calm (k + 1) :=
  ⟨⟨h.ok.lo, h.ok.hi, fun p hp => by
    simp only [RD.wrote, List.mem_append, List.mem_singleton] at hp
    rcases hp with hp | rfl
    · exact h.ok.within p hp
    · show n < d.sure.length
      rw [h.n]; exact hn, h.ok.left⟩, h.n, h.up, h.left, by simp [RD.wrote]; exact h.loose, h.starts⟩
theorem RD.calm.flushed {d : RD} {k : Nat} (h : d.calm k) : d.flushed.calm (k + 1) :=
  ⟨⟨by simp only [RD.flushed, flushN_length]; exact h.ok.lo, by simp only [RD.flushed, flushN_length]; exact h.ok.hi, fun p hp => by simp [RD.flushed] at hp, h.ok.left⟩, by simp only [RD.flushed, flushN_length]; exact h.n, h.up, h.left, by simp [RD.flushed], h.starts⟩
theorem calm_write {d : RD} {k : Nat} (h : d.calm k) {n : Nat} (hn : n < 8) {s : ByteArray} (hs : s.size = 512) : d.write (n : Int) s = (d.wrote n s, 0) := by
  have hl := h.left
  unfold RD.write RD.fails RD.less RD.wrote
  rw [h.up, if_neg (by decide), if_neg (by rw [h.n]; omega), Int.toNat_natCast, if_neg (show ¬ 0 < d.left by omega), decide_eq_false (show ¬ d.left = 0 by omega)]
  rfl
theorem calm_flush {d : RD} {k : Nat} (h : d.calm k) : d.flush = (d.flushed, 0) := by
  have hl := h.left
  unfold RD.flush RD.fails RD.less RD.flushed
  rw [h.up, if_neg (by decide), if_neg (show ¬ 0 < d.left by omega), decide_eq_false (show ¬ d.left = 0 by omega)]
  rfl
theorem armed_write {d : RD} {k : Nat} (h : d.calm k) {z : Int} (hz : 0 < z) (ks : List Bool) {n : Nat} (hn : n < 8) {s : ByteArray} (hs : s.size = 512) : (d.armed z ks).write (n : Int) s = ((d.wrote n s).armed (z - 1) ks, 0) := by
  unfold RD.write RD.fails RD.less RD.wrote RD.armed
  rw [h.up, if_neg (by decide), if_neg (by show ¬ (_ ∨ ((d.sure.length : Nat) : Int) ≤ _ ∨ _); rw [h.n]; omega), Int.toNat_natCast]
  simp only [if_pos hz, decide_eq_false (show ¬ z = 0 by omega)]
  rfl
theorem armed_flush {d : RD} {k : Nat} (h : d.calm k) {z : Int} (hz : 0 < z) (ks : List Bool) : (d.armed z ks).flush = (d.flushed.armed (z - 1) ks, 0) := by
  unfold RD.flush RD.fails RD.less RD.flushed RD.armed
  rw [h.up, if_neg (by decide)]
  simp only [if_pos hz, decide_eq_false (show ¬ z = 0 by omega)]
  rfl
theorem fails_write {d : RD} {k : Nat} (h : d.calm k) (ks : List Bool) {n : Nat} (hn : n < 8) {s : ByteArray} (hs : s.size = 512) : (d.armed 0 ks).write (n : Int) s = (((d.wrote n s).armed 0 ks).fall ks, 61) := by
  unfold RD.write RD.fails RD.less RD.wrote RD.armed
  rw [h.up, if_neg (by decide), if_neg (by show ¬ (_ ∨ ((d.sure.length : Nat) : Int) ≤ _ ∨ _); rw [h.n]; omega), Int.toNat_natCast]
  rfl
theorem fails_flush {d : RD} {k : Nat} (h : d.calm k) (ks : List Bool) : (d.armed 0 ks).flush = ((d.armed 0 ks).fall ks, 61) := by
  unfold RD.flush RD.fails RD.less RD.armed
  rw [h.up, if_neg (by decide)]
  rfl
theorem calm_crash {d : RD} {k : Nat} (h : d.calm k) (ks : List Bool) : d.crash ks = (d.fall ks, 0) := by
  unfold RD.crash
  rw [h.up]; rfl
/-- It is up again. -/
def RD.again (d : RD) : RD := { d with down := false, starts := d.starts + 1 }
theorem fall_start (d : RD) (ks : List Bool) : (d.fall ks).start = ((d.fall ks).again, 0) := rfl
theorem fall_ok {d : RD} (h : d.ok) (hs : d.starts ≤ 10) (ks : List Bool) : (d.fall ks).ok ∧ (d.fall ks).few := ⟨h.fall ks, ⟨by simp [RD.fall], by show d.starts ≤ 100000; omega⟩⟩
theorem again_calm {d : RD} (h : d.ok) (hn : d.sure.length = 8) (hs : d.starts ≤ 9) (ks : List Bool) : (d.fall ks).again.calm 0 :=
  ⟨⟨(h.fall ks).lo, (h.fall ks).hi, (h.fall ks).within, (h.fall ks).left⟩, by show (settleN _ _ _ _).length = 8; rw [settleN_length]; exact hn, rfl, rfl, by simp [RD.again, RD.fall], by show d.starts + 1 ≤ 10; omega⟩
theorem again_read {d : RD} (hn : d.sure.length = 8) (ks : List Bool) {k : Nat} (hk : k < 8) : (d.fall ks).again.read (k : Int) = ((d.fall ks).sure.getD k ByteArray.empty, 0) := by
  have hl : (d.fall ks).again.sure.length = 8 := by show (settleN _ _ _ _).length = 8; rw [settleN_length]; exact hn
  unfold RD.read
  rw [show (d.fall ks).again.down = false from rfl, if_neg (by decide), if_neg (by rw [hl]; omega), Int.toNat_natCast]
  rfl
theorem armed_fall (d : RD) (z : Int) (ks ks' : List Bool) : ((d.armed z ks').fall ks).sure = (d.fall ks).sure := rfl
end Go.Proofs.Ytikeobmcnpncjaa
