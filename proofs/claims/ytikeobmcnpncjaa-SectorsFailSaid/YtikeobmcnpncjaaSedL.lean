/- Layer 6: SectorsFail: what each call is asked, and leaves. -/
import Derived.Test.YtikeobmcnpncjaaSedJ
namespace Go.Proofs.Ytikeobmcnpncjaa
open Go.RowKit

/-- The disk that failed, and the one that crashed. -/
def RD.fell (d : RD) (ks : List Bool) : RD := (d.armed 0 ks).fall ks
structure FailGo (I : Impl) (W : World) (qa qb : Nat) (d : RD) (ks : List Bool) : Prop where
  flusha : ∀ w' (z : Int), 0 < z → z ≤ 1000 → Two I W w' qa (d.armed z ks) qb d → Calls Try.prog 15 #[.pointer (some ⟨qa, 0, none⟩)] w' fun e w'' => e = .returned (.int .i64 0) ∧ Two I W w'' qa (d.flushed.armed (z - 1) ks) qb d
  flushb : ∀ w' (z : Int), Two I W w' qa (d.flushed.armed z ks) qb d → Calls Try.prog 15 #[.pointer (some ⟨qb, 0, none⟩)] w' fun e w'' => e = .returned (.int .i64 0) ∧ Two I W w'' qa (d.flushed.armed z ks) qb d.flushed
  flushf : ∀ w', Two I W w' qa (d.armed 0 ks) qb d → Calls Try.prog 15 #[.pointer (some ⟨qa, 0, none⟩)] w' fun e w'' => e = .returned (.int .i64 61) ∧ Two I W w'' qa (d.fell ks) qb d
  writea : ∀ w' (z : Int) (n : Nat) (s : ByteArray), 0 < z → z ≤ 1000 → n < 8 → s.size = 512 → Two I W w' qa (d.armed z ks) qb d → Calls Try.prog 14 #[.pointer (some ⟨qa, 0, none⟩), .int .i64 (n : Int), .string s] w' fun e w'' => e = .returned (.int .i64 0) ∧ Two I W w'' qa ((d.wrote n s).armed (z - 1) ks) qb d
  writef : ∀ w' (n : Nat) (s : ByteArray), n < 8 → s.size = 512 → Two I W w' qa (d.armed 0 ks) qb d → Calls Try.prog 14 #[.pointer (some ⟨qa, 0, none⟩), .int .i64 (n : Int), .string s] w' fun e w'' => e = .returned (.int .i64 61) ∧ Two I W w'' qa ((d.wrote n s).fell ks) qb d
  writeb : ∀ w' (da : RD) (n : Nat) (s : ByteArray), n < 8 → s.size = 512 → Two I W w' qa da qb d → Calls Try.prog 14 #[.pointer (some ⟨qb, 0, none⟩), .int .i64 (n : Int), .string s] w' fun e w'' => e = .returned (.int .i64 0) ∧ Two I W w'' qa da qb (d.wrote n s)
  up : ∀ w' (z : Int), 0 ≤ z → z ≤ 1000 → Two I W w' qa (d.armed z ks) qb d → Calls Try.prog 21 #[.pointer (some ⟨qa, 0, none⟩)] w' fun e w'' => e = .returned (.bool true) ∧ Two I W w'' qa (d.armed z ks) qb d
theorem sym {I : Impl} {W w : World} {f : FuncId} {args : Array Value} {v : Value} {q1 q2 : Nat} {d1 d2 : RD} (h : Calls Try.prog f args w fun e w' => e = .returned v ∧ Two I W w' q2 d2 q1 d1) : Calls Try.prog f args w fun e w' => e = .returned v ∧ Two I W w' q1 d1 q2 d2 := h.mono fun _ _ ⟨a, b⟩ => ⟨a, b.symm⟩
theorem fail_go (I : Impl) (W : World) (qa qb : Nat) {d : RD} {k : Nat} (h : d.calm k) (hk : k ≤ 900) (ks : List Bool) : FailGo I W qa qb d ks where
  flusha := fun w' z hz hz2 t => two_flush t (h.armed (by omega) (by omega) hz2 ks).1 (h.armed (by omega) (by omega) hz2 ks).2 (armed_flush h hz ks)
  flushb := fun w' z t => sym (two_flush t.symm h.ok (h.few (by omega)) (calm_flush h))
  flushf := fun w' t => two_flush t (h.armed (by omega) (by omega) (by omega) ks).1 (h.armed (by omega) (by omega) (by omega) ks).2 (fails_flush h ks)
  writea := fun w' z n s hz hz2 hn hs t => two_write t (h.armed (by omega) (by omega) hz2 ks).1 (h.armed (by omega) (by omega) hz2 ks).2 n s (by rw [hs]; decide) (armed_write h hz ks hn hs)
  writef := fun w' n s hn hs t => two_write t (h.armed (by omega) (by omega) (by omega) ks).1 (h.armed (by omega) (by omega) (by omega) ks).2 n s (by rw [hs]; decide) (fails_write h ks hn hs)
  writeb := fun w' da n s hn hs t => sym (two_write t.symm h.ok (h.few (by omega)) n s (by rw [hs]; decide) (calm_write h hn hs))
  up := fun w' z hz hz2 t => two_up t (h.armed (by omega) hz hz2 ks).1 (by show (!d.down) = true; rw [h.up]; rfl)
/-- Behind the failure: both are started, read, and the first one is written and flushed. -/
structure FailEnd (I : Impl) (W : World) (qa qb : Nat) (d : RD) (ks : List Bool) (vk : Value) : Prop where
  up : ∀ w', Two I W w' qa (d.fell ks) qb d → Calls Try.prog 21 #[.pointer (some ⟨qa, 0, none⟩)] w' fun e w'' => e = .returned (.bool false) ∧ Two I W w'' qa (d.fell ks) qb d
  crash : ∀ w', Two I W w' qa (d.fell ks) qb d → Calls Try.prog 16 #[.pointer (some ⟨qb, 0, none⟩), vk] w' fun e w'' => e = .returned (.int .i64 0) ∧ Two I W w'' qa (d.fell ks) qb (d.fall ks)
  starta : ∀ w', Two I W w' qa (d.fell ks) qb (d.fall ks) → Calls Try.prog 17 #[.pointer (some ⟨qa, 0, none⟩)] w' fun e w'' => e = .returned (.int .i64 0) ∧ Two I W w'' qa (d.fell ks).again qb (d.fall ks)
  startb : ∀ w', Two I W w' qa (d.fell ks).again qb (d.fall ks) → Calls Try.prog 17 #[.pointer (some ⟨qb, 0, none⟩)] w' fun e w'' => e = .returned (.int .i64 0) ∧ Two I W w'' qa (d.fell ks).again qb (d.fall ks).again
  reada : ∀ w' (k : Nat), k < 8 → Two I W w' qa (d.fell ks).again qb (d.fall ks).again → Calls Try.prog 13 #[.pointer (some ⟨qa, 0, none⟩), .int .i64 (k : Int)] w' fun e w'' => e = .returned (.tuple #[.string ((d.fall ks).sure.getD k ByteArray.empty), .int .i64 0]) ∧ Two I W w'' qa (d.fell ks).again qb (d.fall ks).again
  readb : ∀ w' (k : Nat), k < 8 → Two I W w' qa (d.fell ks).again qb (d.fall ks).again → Calls Try.prog 13 #[.pointer (some ⟨qb, 0, none⟩), .int .i64 (k : Int)] w' fun e w'' => e = .returned (.tuple #[.string ((d.fall ks).sure.getD k ByteArray.empty), .int .i64 0]) ∧ Two I W w'' qa (d.fell ks).again qb (d.fall ks).again
  write : ∀ w' (s : ByteArray), s.size = 512 → Two I W w' qa (d.fell ks).again qb (d.fall ks).again → Calls Try.prog 14 #[.pointer (some ⟨qa, 0, none⟩), .int .i64 0, .string s] w' fun e w'' => e = .returned (.int .i64 0) ∧ Two I W w'' qa ((d.fell ks).again.wrote 0 s) qb (d.fall ks).again
  flush : ∀ w' (s : ByteArray), Two I W w' qa ((d.fell ks).again.wrote 0 s) qb (d.fall ks).again → Calls Try.prog 15 #[.pointer (some ⟨qa, 0, none⟩)] w' fun e w'' => e = .returned (.int .i64 0) ∧ Below W.heap.size W w''
theorem fail_end (I : Impl) (W : World) (qa qb : Nat) {d : RD} {k : Nat} (h : d.calm k) (hk : k ≤ 900) (hs : d.starts ≤ 9) {vk : Value} {ks : List Bool} (hv : KeepAt W vk ks) (hl : ks.length ≤ 60) : FailEnd I W qa qb d ks vk := by
  have ha := (h.armed (by omega) (z := 0) (by omega) (by omega) ks).1
  have fa := fall_ok (d := d.armed 0 ks) ha (by show d.starts ≤ 10; omega) ks
  have fb := fall_ok h.ok (by omega) ks
  have ca := again_calm (d := d.armed 0 ks) ha h.n hs ks
  have cb := again_calm h.ok h.n hs ks
  exact {
    up := fun w' t => two_up t fa.1 rfl
    crash := fun w' t => sym (two_crash t.symm h.ok (h.few (by omega)) hv (by omega) (calm_crash h ks))
    starta := fun w' t => two_start t fa.1 fa.2 (fall_start _ _)
    startb := fun w' t => sym (two_start t.symm fb.1 fb.2 (fall_start _ _))
    reada := fun w' k hk t => two_read t ca.ok (ca.few (by omega)) k (again_read (d := d.armed 0 ks) h.n ks hk)
    readb := fun w' k hk t => sym (two_read t.symm cb.ok (cb.few (by omega)) k (again_read h.n ks hk))
    write := fun w' s hs t => two_write t ca.ok (ca.few (by omega)) 0 s (by rw [hs]; decide) (calm_write ca (n := 0) (by decide) hs)
    flush := fun w' s t => (two_flush t (ca.wrote (by decide) s).ok ((ca.wrote (by decide) s).few (by omega)) (calm_flush (ca.wrote (by decide) s))).mono fun _ _ ⟨a, b⟩ => ⟨a, b.b⟩ }
end Go.Proofs.Ytikeobmcnpncjaa
