/- Layer 6: what is asked of the program's disk, and the chapter's disk under it. -/
import Derived.Test.YtikeobmcnpncjaaSecH
namespace Go.Proofs.Ytikeobmcnpncjaa
open Go.RowKit

/-- What a call on the program's disk leaves: the document's disk d', in blocks that were its own, or are new. -/
def InvPost (Inv : World → Nat → RD → (Nat → Prop) → Prop) (w : World) (q : Nat) (o : Nat → Prop) (d' : RD) (w' : World) : Prop :=
  ∃ o', Inv w' q d' o' ∧ Chg o w w' ∧ ∀ k, o' k → o k ∨ w.heap.size ≤ k
/-- How far a disk has come. -/
structure RD.few (d : RD) : Prop where
  loose : d.loose.length ≤ 100000
  starts : d.starts ≤ 100000
/-- The program's disk is the document's: Inv w q d o: the disk at block q is d, its own blocks are those of o. -/
structure Impl where
  Inv : World → Nat → RD → (Nat → Prop) → Prop
  lt : ∀ {w q d o}, Inv w q d o → ∀ k, o k → k < w.heap.size
  chg : ∀ {w w' q d o} {s : Nat → Prop}, Inv w q d o → Chg s w w' → (∀ k, o k → ¬ s k) → Inv w' q d o
  new : ∀ (m : Nat) (w : World), 8 ≤ m → m ≤ 4096 → Calls Try.prog 9 #[.int .i64 (m : Int)] w fun e w' => ∃ q o, e = .returned (.tuple #[.pointer (some ⟨q, 0, none⟩), .int .i64 0]) ∧ Inv w' q (rdNew m) o ∧ Below w.heap.size w w' ∧ ∀ k, o k → w.heap.size ≤ k
  newNo : ∀ (n : Int) (w : World), n < 8 ∨ 4096 < n → Calls Try.prog 9 #[.int .i64 n] w fun e w' => e = .returned (.tuple #[.pointer none, .int .i64 2]) ∧ Below w.heap.size w w'
  write : ∀ {w q d o} (i : Int) (s : ByteArray), Inv w q d o → d.ok → d.few → s.size ≤ maxLen → Calls Try.prog 14 #[.pointer (some ⟨q, 0, none⟩), .int .i64 i, .string s] w fun e w' => e = .returned (.int .i64 (d.write i s).2) ∧ InvPost Inv w q o (d.write i s).1 w'
  flush : ∀ {w q d o}, Inv w q d o → d.ok → d.few → Calls Try.prog 15 #[.pointer (some ⟨q, 0, none⟩)] w fun e w' => e = .returned (.int .i64 d.flush.2) ∧ InvPost Inv w q o d.flush.1 w'
  crash : ∀ {w q d o v} {ks : List Bool}, Inv w q d o → d.ok → d.few → KeepAt w v ks → ks.length ≤ 100000 → (∀ ad n cap, v = .slice (some ad) n cap → 0 < n → ¬ o ad.block) → Calls Try.prog 16 #[.pointer (some ⟨q, 0, none⟩), v] w fun e w' => e = .returned (.int .i64 (d.crash ks).2) ∧ InvPost Inv w q o (d.crash ks).1 w'
  start : ∀ {w q d o}, Inv w q d o → d.ok → d.few → Calls Try.prog 17 #[.pointer (some ⟨q, 0, none⟩)] w fun e w' => e = .returned (.int .i64 d.start.2) ∧ InvPost Inv w q o d.start.1 w'
  fail : ∀ {w q d o v} {ks : List Bool} (n : Int), Inv w q d o → d.ok → d.few → KeepAt w v ks → ks.length ≤ 100000 → (∀ ad n cap, v = .slice (some ad) n cap → 0 < n → ¬ o ad.block) → n ≤ 9223372036854775807 → Calls Try.prog 18 #[.pointer (some ⟨q, 0, none⟩), .int .i64 n, v] w fun e w' => e = .returned (.int .i64 (d.fail n ks).2) ∧ InvPost Inv w q o (d.fail n ks).1 w'
  read : ∀ {w q d o} (i : Int), Inv w q d o → d.ok → d.few → Calls Try.prog 13 #[.pointer (some ⟨q, 0, none⟩), .int .i64 i] w fun e w' => e = .returned (.tuple #[.string (d.read i).1, .int .i64 (d.read i).2]) ∧ Below w.heap.size w w'
  size : ∀ {w q d o}, Inv w q d o → d.ok → Calls Try.prog 19 #[.pointer (some ⟨q, 0, none⟩)] w fun e w' => e = .returned (.int .i64 (d.sure.length : Int)) ∧ Below w.heap.size w w'
  loose : ∀ {w q d o}, Inv w q d o → d.ok → Calls Try.prog 20 #[.pointer (some ⟨q, 0, none⟩)] w fun e w' => e = .returned (.int .i64 (d.loose.length : Int)) ∧ Below w.heap.size w w'
  up : ∀ {w q d o}, Inv w q d o → d.ok → Calls Try.prog 21 #[.pointer (some ⟨q, 0, none⟩)] w fun e w' => e = .returned (.bool !d.down) ∧ Below w.heap.size w w'
  starts : ∀ {w q d o}, Inv w q d o → d.ok → Calls Try.prog 22 #[.pointer (some ⟨q, 0, none⟩)] w fun e w' => e = .returned (.int .i64 (d.starts : Int)) ∧ Below w.heap.size w w'
/-- It stays where only new blocks came. -/
theorem Impl.below (I : Impl) {w w' : World} {q : Nat} {d : RD} {o : Nat → Prop} (h : I.Inv w q d o) (hb : Below w.heap.size w w') : I.Inv w' q d o := I.chg (s := fun _ => False) h (Chg.of_below hb) (fun _ _ => id)
/-- A disk of the call's own, made behind W. -/
def Impl.Own (I : Impl) (W w : World) (q : Nat) (d : RD) : Prop := ∃ o, I.Inv w q d o ∧ Below W.heap.size W w ∧ ∀ k, o k → W.heap.size ≤ k
theorem Impl.Own.below {I : Impl} {W w w' : World} {q : Nat} {d : RD} (h : I.Own W w q d) (hb : Below w.heap.size w w') : I.Own W w' q d := by
  obtain ⟨o, h1, h2, h3⟩ := h
  exact ⟨o, I.below h1 hb, h2.trans (hb.mono h2.size), h3⟩
theorem Impl.Own.post {I : Impl} {W w w' : World} {q : Nat} {o : Nat → Prop} {d' : RD} (hb : Below W.heap.size W w) (ho : ∀ k, o k → W.heap.size ≤ k) (h : InvPost I.Inv w q o d' w') : I.Own W w' q d' := by
  obtain ⟨o', h1, h2, h3⟩ := h
  refine ⟨o', h1, hb.trans (h2.below hb.size (fun k hk hok => by have := ho k hok; omega)), fun k hk => ?_⟩
  rcases h3 k hk with h | h
  · exact ho k h
  · exact Nat.le_trans hb.size h
theorem own_write {I : Impl} {W w : World} {q : Nat} {d : RD} (h : I.Own W w q d) (hok : d.ok) (hf : d.few) (i : Int) (s : ByteArray) (hs : s.size ≤ maxLen) {r : Int} {d' : RD} (hr : d.write i s = (d', r)) : Calls Try.prog 14 #[.pointer (some ⟨q, 0, none⟩), .int .i64 i, .string s] w fun e w' => e = .returned (.int .i64 r) ∧ I.Own W w' q d' := by
  obtain ⟨o, h1, h2, h3⟩ := h
  refine (I.write i s h1 hok hf hs).mono fun e w' ⟨he, hp⟩ => ?_
  rw [hr] at he hp
  exact ⟨he, Impl.Own.post h2 h3 hp⟩
theorem own_flush {I : Impl} {W w : World} {q : Nat} {d : RD} (h : I.Own W w q d) (hok : d.ok) (hf : d.few) {r : Int} {d' : RD} (hr : d.flush = (d', r)) : Calls Try.prog 15 #[.pointer (some ⟨q, 0, none⟩)] w fun e w' => e = .returned (.int .i64 r) ∧ I.Own W w' q d' := by
  obtain ⟨o, h1, h2, h3⟩ := h
  refine (I.flush h1 hok hf).mono fun e w' ⟨he, hp⟩ => ?_
  rw [hr] at he hp
  exact ⟨he, Impl.Own.post h2 h3 hp⟩
theorem own_start {I : Impl} {W w : World} {q : Nat} {d : RD} (h : I.Own W w q d) (hok : d.ok) (hf : d.few) {r : Int} {d' : RD} (hr : d.start = (d', r)) : Calls Try.prog 17 #[.pointer (some ⟨q, 0, none⟩)] w fun e w' => e = .returned (.int .i64 r) ∧ I.Own W w' q d' := by
  obtain ⟨o, h1, h2, h3⟩ := h
  refine (I.start h1 hok hf).mono fun e w' ⟨he, hp⟩ => ?_
  rw [hr] at he hp
  exact ⟨he, Impl.Own.post h2 h3 hp⟩
/-- A list of bools in a block that is not the disk's. -/
theorem own_crash {I : Impl} {W w : World} {q : Nat} {d : RD} (h : I.Own W w q d) (hok : d.ok) (hf : d.few) {v : Value} {ks : List Bool} (hk : KeepAt w v ks) (hl : ks.length ≤ 100000) (hv : ∀ o, I.Inv w q d o → ∀ ad n cap, v = .slice (some ad) n cap → 0 < n → ¬ o ad.block) {r : Int} {d' : RD} (hr : d.crash ks = (d', r)) :
    Calls Try.prog 16 #[.pointer (some ⟨q, 0, none⟩), v] w fun e w' => e = .returned (.int .i64 r) ∧ I.Own W w' q d' := by
  obtain ⟨o, h1, h2, h3⟩ := h
  refine (I.crash h1 hok hf hk hl (hv o h1)).mono fun e w' ⟨he, hp⟩ => ?_
  rw [hr] at he hp
  exact ⟨he, Impl.Own.post h2 h3 hp⟩
theorem own_fail {I : Impl} {W w : World} {q : Nat} {d : RD} (h : I.Own W w q d) (hok : d.ok) (hf : d.few) (n : Int) (hn : n ≤ 9223372036854775807) {v : Value} {ks : List Bool} (hk : KeepAt w v ks) (hl : ks.length ≤ 100000) (hv : ∀ o, I.Inv w q d o → ∀ ad n cap, v = .slice (some ad) n cap → 0 < n → ¬ o ad.block) {r : Int} {d' : RD} (hr : d.fail n ks = (d', r)) :
    Calls Try.prog 18 #[.pointer (some ⟨q, 0, none⟩), .int .i64 n, v] w fun e w' => e = .returned (.int .i64 r) ∧ I.Own W w' q d' := by
  obtain ⟨o, h1, h2, h3⟩ := h
  refine (I.fail n h1 hok hf hk hl (hv o h1) hn).mono fun e w' ⟨he, hp⟩ => ?_
  rw [hr] at he hp
  exact ⟨he, Impl.Own.post h2 h3 hp⟩
theorem own_read {I : Impl} {W w : World} {q : Nat} {d : RD} (h : I.Own W w q d) (hok : d.ok) (hf : d.few) (i : Int) : Calls Try.prog 13 #[.pointer (some ⟨q, 0, none⟩), .int .i64 i] w fun e w' => e = .returned (.tuple #[.string (d.read i).1, .int .i64 (d.read i).2]) ∧ I.Own W w' q d := by
  obtain ⟨o, h1, h2, h3⟩ := h
  exact (I.read i h1 hok hf).mono fun e w' ⟨he, hb⟩ => ⟨he, Impl.Own.below ⟨o, h1, h2, h3⟩ hb⟩
theorem own_up {I : Impl} {W w : World} {q : Nat} {d : RD} (h : I.Own W w q d) (hok : d.ok) : Calls Try.prog 21 #[.pointer (some ⟨q, 0, none⟩)] w fun e w' => e = .returned (.bool !d.down) ∧ I.Own W w' q d := by
  obtain ⟨o, h1, h2, h3⟩ := h
  exact (I.up h1 hok).mono fun e w' ⟨he, hb⟩ => ⟨he, Impl.Own.below ⟨o, h1, h2, h3⟩ hb⟩
theorem own_sector {I : Impl} {W w : World} {q : Nat} {d : RD} (h : I.Own W w q d) (c : UInt8) : Calls Try.prog 23 #[byteV c] w fun e w' => e = .returned (.string (secB c)) ∧ I.Own W w' q d :=
  (sector_any c w).mono fun _ _ ⟨he, hb⟩ => ⟨he, h.below hb⟩
/-! ### The chapter's disk -/
def sp0 : RD := rdNew 8
def sp2 (a b : ByteArray) : RD := { sp0 with loose := [(2, a), (2, b)] }
def sp3 (a : ByteArray) (s : Nat) (dn : Bool) (lf : Int) : RD := { sp0 with sure := (List.replicate 8 (secB 0)).set 2 a, starts := s, down := dn, left := lf }
theorem sp_w1 {a : ByteArray} (ha : a.size = 512) : sp0.write 2 a = ({ sp0 with loose := [(2, a)] }, 0) := by
  simp [RD.write, sp0, rdNew, RD.fails, RD.less, ha]
theorem sp_w2 {a b : ByteArray} (hb : b.size = 512) : RD.write { sp0 with loose := [(2, a)] } 2 b = (sp2 a b, 0) := by
  simp [RD.write, sp0, sp2, rdNew, RD.fails, RD.less, hb]
theorem sp_cr (a b : ByteArray) : (sp2 a b).crash [true] = (sp3 a 0 true (-1), 0) := by
  simp [RD.crash, RD.fall, sp2, sp3, sp0, rdNew, settleN]
theorem sp_st (a : ByteArray) : (sp3 a 0 true (-1)).start = (sp3 a 1 false (-1), 0) := by
  simp [RD.start, sp3, sp0, rdNew]
theorem sp_rd (a : ByteArray) : (sp3 a 1 false (-1)).read 2 = (a, 0) := by
  simp [RD.read, sp3, sp0, rdNew, lookN]
theorem sp_w9 (a b : ByteArray) : (sp3 a 1 false (-1)).write 9 b = (sp3 a 1 false (-1), 2) := by
  simp [RD.write, sp3, sp0, rdNew]
theorem sp_wx (a : ByteArray) : (sp3 a 1 false (-1)).write 1 ⟨#[120]⟩ = (sp3 a 1 false (-1), 2) := by
  have h : (ByteArray.mk #[120]).size = 1 := rfl
  simp [RD.write, sp3, sp0, rdNew, h]
theorem sp_fa (a : ByteArray) : (sp3 a 1 false (-1)).fail 1 [] = (sp3 a 1 false 1, 0) := by
  simp [RD.fail, sp3, sp0, rdNew]
theorem sp_f1 (a : ByteArray) : (sp3 a 1 false 1).flush = (sp3 a 1 false 0, 0) := by
  simp [RD.flush, RD.fails, RD.less, flushN, sp3, sp0, rdNew]
theorem sp_f2 (a : ByteArray) : (sp3 a 1 false 0).flush = (sp3 a 1 true (-1), 61) := by
  simp [RD.flush, RD.fails, RD.less, RD.fall, settleN, sp3, sp0, rdNew]
end Go.Proofs.Ytikeobmcnpncjaa
