/- Layer 6: the document's disk, in plain words. -/
import Init
namespace Go.Proofs.Ytikeobmcnpncjaa

/-- The document's own disk. -/
structure RD where
  sure : List ByteArray
  loose : List (Nat × ByteArray)
  down : Bool
  starts : Nat
  left : Int
  keep : List Bool
/-- A sector of one byte. -/
def secB (c : UInt8) : ByteArray := ⟨(List.replicate 512 c).toArray⟩
theorem secB_size (c : UInt8) : (secB c).size = 512 := by
  show (List.replicate 512 c).toArray.size = 512
  rw [List.size_toArray, List.length_replicate]
def rdNew (n : Nat) : RD := ⟨List.replicate n (secB 0), [], false, 0, -1, []⟩
/-- The last of the first k loose writes of sector n; else s. -/
def lookN (l : List (Nat × ByteArray)) (n : Nat) (s : ByteArray) : Nat → ByteArray
  | 0 => s
  | k + 1 => if (l.getD k (0, ByteArray.empty)).1 = n then (l.getD k (0, ByteArray.empty)).2 else lookN l n s k
/-- What the first k loose writes come to, those that are kept. -/
def settleN (sure : List ByteArray) (l : List (Nat × ByteArray)) (keep : List Bool) : Nat → List ByteArray
  | 0 => sure
  | k + 1 => if keep.getD k false then (settleN sure l keep k).set (l.getD k (0, ByteArray.empty)).1 (l.getD k (0, ByteArray.empty)).2 else settleN sure l keep k
/-- .. all of them. -/
def flushN (sure : List ByteArray) (l : List (Nat × ByteArray)) : Nat → List ByteArray
  | 0 => sure
  | k + 1 => (flushN sure l k).set (l.getD k (0, ByteArray.empty)).1 (l.getD k (0, ByteArray.empty)).2
theorem settleN_length (sure : List ByteArray) (l : List (Nat × ByteArray)) (keep : List Bool) (k : Nat) : (settleN sure l keep k).length = sure.length := by
  induction k with
  | zero => rfl
  | succ k ih =>
    rw [settleN]
    split
    · rw [List.length_set, ih]
    · exact ih
theorem flushN_length (sure : List ByteArray) (l : List (Nat × ByteArray)) (k : Nat) : (flushN sure l k).length = sure.length := by
  induction k with
  | zero => rfl
  | succ k ih => rw [flushN, List.length_set, ih]
def RD.read (d : RD) (i : Int) : ByteArray × Int :=
  if d.down = true then (ByteArray.empty, 61)
  else if i < 0 ∨ (d.sure.length : Int) ≤ i then (ByteArray.empty, 2)
  else (lookN d.loose i.toNat (d.sure.getD i.toNat ByteArray.empty) d.loose.length, 0)
/-- It goes down; which loose writes stay. -/
def RD.fall (d : RD) (keep : List Bool) : RD := { d with sure := settleN d.sure d.loose keep (min d.loose.length keep.length), loose := [], down := true, left := -1 }
def RD.crash (d : RD) (keep : List Bool) : RD × Int := if d.down = true then (d, 61) else (d.fall keep, 0)
/-- One change less until it fails. -/
def RD.less (d : RD) : RD := { d with left := if 0 < d.left then d.left - 1 else d.left }
def RD.fails (d : RD) : Bool := decide (d.left = 0)
def RD.write (d : RD) (i : Int) (s : ByteArray) : RD × Int :=
  if d.down = true then (d, 61)
  else if i < 0 ∨ (d.sure.length : Int) ≤ i ∨ s.size ≠ 512 then (d, 2)
  else
    let e := { d.less with loose := d.loose ++ [(i.toNat, s)] }
    if d.fails = true then (e.fall e.keep, 61) else (e, 0)
def RD.flush (d : RD) : RD × Int :=
  if d.down = true then (d, 61)
  else if d.fails = true then (d.less.fall d.keep, 61)
  else ({ d.less with sure := flushN d.sure d.loose d.loose.length, loose := [] }, 0)
def RD.start (d : RD) : RD × Int := if d.down = true then ({ d with down := false, starts := d.starts + 1 }, 0) else (d, 2)
def RD.fail (d : RD) (n : Int) (keep : List Bool) : RD × Int :=
  if d.down = true then (d, 61)
  else if n < 0 then (d, 2)
  else ({ d with left := n, keep := keep }, 0)
/-- What is so of any disk of the document's. -/
structure RD.ok (d : RD) : Prop where
  lo : 8 ≤ d.sure.length
  hi : d.sure.length ≤ 4096
  within : ∀ p ∈ d.loose, p.1 < d.sure.length
  left : -1 ≤ d.left ∧ d.left ≤ 9223372036854775807
theorem rdNew_ok {n : Nat} (h1 : 8 ≤ n) (h2 : n ≤ 4096) : (rdNew n).ok :=
  ⟨by simp [rdNew]; exact h1, by simp [rdNew]; exact h2, fun p hp => by simp [rdNew] at hp, by simp [rdNew]⟩
theorem RD.ok.fall {d : RD} (h : d.ok) (keep : List Bool) : (d.fall keep).ok :=
  ⟨by simp only [RD.fall, settleN_length]; exact h.lo, by simp only [RD.fall, settleN_length]; exact h.hi, fun p hp => by simp [RD.fall] at hp, by simp [RD.fall]⟩
theorem RD.ok.less {d : RD} (h : d.ok) : d.less.ok :=
  ⟨h.lo, h.hi, h.within, by
    have := h.left
    simp only [RD.less]
    split <;> omega⟩
theorem RD.ok.crash {d : RD} (h : d.ok) (keep : List Bool) : (d.crash keep).1.ok := by
  unfold RD.crash
  split
  · exact h
  · exact h.fall keep
theorem RD.ok.more {d : RD} (h : d.ok) {n : Nat} (hn : n < d.sure.length) (s : ByteArray) : RD.ok { d.less with loose := d.loose ++ [(n, s)] } :=
  ⟨h.less.lo, h.less.hi, fun p hp => by
    simp only [List.mem_append, List.mem_singleton] at hp
    rcases hp with hp | rfl
    · exact h.within p hp
    · exact hn, h.less.left⟩
theorem RD.ok.write {d : RD} (h : d.ok) (i : Int) (s : ByteArray) : (d.write i s).1.ok := by
  unfold RD.write
  split
  · exact h
  · split
    · exact h
    · rename_i hi
      have hm := h.more (n := i.toNat) (by omega) s
      split
      · exact hm.fall _
      · exact hm
theorem RD.ok.flush {d : RD} (h : d.ok) : (d.flush).1.ok := by
  unfold RD.flush
  split
  · exact h
  · split
    · exact h.less.fall _
    · exact ⟨by simp only [flushN_length]; exact h.lo, by simp only [flushN_length]; exact h.hi, fun p hp => by simp at hp, h.less.left⟩
theorem RD.ok.start {d : RD} (h : d.ok) : (d.start).1.ok := by
  unfold RD.start
  split
  · exact ⟨h.lo, h.hi, h.within, h.left⟩
  · exact h
theorem RD.ok.fail {d : RD} (h : d.ok) {n : Int} (hn : n ≤ 9223372036854775807) (keep : List Bool) : (d.fail n keep).1.ok := by
  unfold RD.fail
  split
  · exact h
  · split
    · exact h
    · exact ⟨h.lo, h.hi, h.within, by simp only; omega⟩
end Go.Proofs.Ytikeobmcnpncjaa
