/- Merged: Chg, UvP. -/
import Derived.Test.YtbkpbgcbpakpeaaGreatDoorM01
import Derived.Test.YtbkpbgcbpakpeaaGreatDoorM02
/- What a call changes: new blocks, and of the old ones just some. (Generic: it names nothing of the cut.) -/
namespace Go.Proofs.YtbkpbgcbpakpeaaGreatDoor
open Go.RowKit

/-- w' is w with new blocks, and of the old ones none but those of s is another one. -/
structure Chg (s : Nat → Prop) (w w' : World) : Prop where
  os : w'.os = w.os
  tape : w'.tape = w.tape
  output : w'.output = w.output
  size : w.heap.size ≤ w'.heap.size
  block : ∀ k, k < w.heap.size → ¬ s k → w'.heap[k]? = w.heap[k]?
theorem Chg.refl (s : Nat → Prop) (w : World) : Chg s w w := ⟨rfl, rfl, rfl, Nat.le_refl _, fun _ _ _ => rfl⟩
theorem Chg.trans {s t : Nat → Prop} {a b c : World} (h : Chg s a b) (g : Chg t b c) (ht : ∀ k, k < a.heap.size → t k → s k) : Chg s a c :=
  ⟨g.os.trans h.os, g.tape.trans h.tape, g.output.trans h.output, Nat.le_trans h.size g.size, fun k hk hs => (g.block k (Nat.lt_of_lt_of_le hk h.size) (fun hh => hs (ht k hk hh))).trans (h.block k hk hs)⟩
theorem Chg.of_below {s : Nat → Prop} {w w' : World} (h : Below w.heap.size w w') : Chg s w w' := ⟨h.os, h.tape, h.output, h.size, fun k hk _ => h.block k hk⟩
theorem Chg.below {s : Nat → Prop} {w w' : World} (h : Chg s w w') {B : Nat} (hB : B ≤ w.heap.size) (hs : ∀ k, k < B → ¬ s k) : Below B w w' :=
  ⟨h.os, h.tape, h.output, h.size, fun k hk => h.block k (Nat.lt_of_lt_of_le hk hB) (hs k hk)⟩
theorem Chg.mono {s t : Nat → Prop} {w w' : World} (h : Chg s w w') (hs : ∀ k, k < w.heap.size → s k → t k) : Chg t w w' :=
  ⟨h.os, h.tape, h.output, h.size, fun k hk ht => h.block k hk (fun hh => ht (hs k hk hh))⟩
theorem Chg.then_below {s : Nat → Prop} {a w w' : World} (h : Chg s a w) (g : Below w.heap.size w w') : Chg s a w' := h.trans (t := s) (Chg.of_below g) (fun _ _ h => h)
theorem Chg.alloc {s : Nat → Prop} {a w : World} (h : Chg s a w) (o : Obj) : Chg s a (w.alloc o) := h.then_below ((Below.refl _ _).alloc (Nat.le_refl _) _)
theorem Chg.drew {s : Nat → Prop} {a w : World} (h : Chg s a w) : Chg s a w.drew := ⟨h.os, h.tape, h.output, h.size, h.block⟩
theorem Chg.drewN {s : Nat → Prop} {a w : World} (h : Chg s a w) (n : Nat) : Chg s a (w.drewN n) := ⟨h.os, h.tape, h.output, h.size, h.block⟩
theorem Chg.setCell {s : Nat → Prop} {a w : World} (h : Chg s a w) (p : Addr) (v : Value) (hp : s p.block ∨ a.heap.size ≤ p.block) : Chg s a (w.setCell p v) := by
  refine ⟨h.os, h.tape, h.output, ?_, fun k hk hs => ?_⟩
  · rw [World.size_setCell]; exact h.size
  · rw [heap_setCell_other w p k v (fun e => by subst e; rcases hp with hp | hp; exact hs hp; omega)]
    exact h.block k hk hs
theorem Chg.setRow {s : Nat → Prop} {a w : World} (h : Chg s a w) (g : Nat) (cs : Array Value) (hp : s g ∨ a.heap.size ≤ g) : Chg s a (w.setRow g cs) := by
  refine ⟨h.os, h.tape, h.output, ?_, fun k hk hs => ?_⟩
  · rw [setRow_size]; exact h.size
  · rw [setRow_other w g k cs (fun e => by subst e; rcases hp with hp | hp; exact hs hp; omega)]
    exact h.block k hk hs
theorem Chg.grown {s : Nat → Prop} {a w w' : World} (h : Chg s a w) {row : Option Nat} (g : w.grownBy w' row) (hr : ∀ k, row = some k → s k ∨ a.heap.size ≤ k) : Chg s a w' := by
  refine ⟨g.os.trans h.os, g.tape.trans h.tape, g.output.trans h.output, Nat.le_trans h.size g.size, fun k hk hs => ?_⟩
  rw [g.block k (Nat.lt_of_lt_of_le hk h.size) (fun e => by rcases hr k e.symm with hp | hp; exact hs hp; omega)]
  exact h.block k hk hs
theorem Chg.rowC {s : Nat → Prop} {w w' : World} (h : Chg s w w') {b : Nat} {cs : Array Value} {t : TypeId} (hr : rowC w b cs t) (hs : ¬ s b) : rowC w' b cs t := (h.block b (rowC_lt hr) hs).trans hr
theorem Chg.owns {s : Nat → Prop} {w w' : World} (h : Chg s w w') {base : Nat} {e : TypeId} {size n : Nat} {v : Value} {xs : List Value} (ho : w.ownsRow base e size v n xs) (hs : ∀ g, v.ownBlock = some g → ¬ s g) : w'.ownsRow base e size v n xs := by
  have hl := ho.lt
  refine ⟨ho.1, ?_⟩
  rcases ho.2 with hn | ⟨g, cap, cur, hv, hb, hg, hrest⟩
  · exact .inl hn
  · refine .inr ⟨g, cap, cur, hv, hb, ?_, hrest⟩
    have hlt := (hl g (by rw [hv]; rfl)).2
    exact (h.block g hlt (hs g (by rw [hv]; rfl))).trans hg
theorem owns_form {w : World} {base : Nat} {e : TypeId} {size n : Nat} {v : Value} {xs : List Value} (ho : w.ownsRow base e size v n xs) : ∃ a cap, v = .slice a n cap := by
  rcases ho.2 with ⟨hv, rfl⟩ | ⟨g, cap, cur, hv, _⟩
  · exact ⟨none, 0, hv⟩
  · exact ⟨_, cap, hv⟩
theorem owns_some {w : World} {base : Nat} {e : TypeId} {size n : Nat} {v : Value} {xs : List Value} (ho : w.ownsRow base e size v n xs) (hn : 0 < n) : ∃ g cap, v = .slice (some ⟨g, 0, none⟩) n cap := by
  rcases ho.2 with ⟨hv, rfl⟩ | ⟨g, cap, cur, hv, _⟩
  · omega
  · exact ⟨g, cap, hv⟩
end Go.Proofs.YtbkpbgcbpakpeaaGreatDoor

/- Layer 16: the program's reader of a tree's bytes: take, number. -/
namespace Go.Proofs.YtbkpbgcbpakpeaaGreatDoor
open Go.RowKit

theorem str_take (S : List UInt8) (k : Nat) : (str S).extract 0 k = str (S.take k) := by
  refine bytes_toList ?_
  rw [str_toList]
  simp [str]
theorem str_drop (S : List UInt8) (k : Nat) : (str S).extract k S.length = str (S.drop k) := by
  refine bytes_toList ?_
  rw [str_toList]
  simp only [str, ByteArray.data_extract, Array.toList_extract, List.extract_eq_take_drop]
  exact List.take_of_length_le (by rw [List.length_drop]; exact Nat.le_refl _)
/-- The reader: what is left, and whether they were cut off. -/
def RdrAt (w : World) (B : Nat) (R : List UInt8) (o : Bool) : Prop := rowC w B #[.string (str R), .bool o] 96
def takeV (n : Nat) (R : List UInt8) : List UInt8 := if R.length < n then [] else R.take n
def takeR (n : Nat) (R : List UInt8) : List UInt8 := if R.length < n then R else R.drop n
def takeO (n : Nat) (R : List UInt8) (o : Bool) : Bool := decide (R.length < n) || o
theorem takeV_len (n : Nat) (R : List UInt8) : (takeV n R).length ≤ R.length := by
  unfold takeV
  split
  · exact Nat.zero_le _
  · rw [List.length_take]; omega
theorem takeR_len (n : Nat) (R : List UInt8) : (takeR n R).length ≤ R.length := by
  unfold takeR
  split
  · exact Nat.le_refl _
  · rw [List.length_drop]; omega
set_option maxRecDepth 100000 in
set_option maxHeartbeats 4000000 in
theorem rdtake_any (B : Nat) (R : List UInt8) (o : Bool) (n : Nat) (hn : n < 9223372036854775808) (w : World) (h : RdrAt w B R o) :
    Calls Tryz.prog 67 #[.pointer (some ⟨B, 0, none⟩), .int .i64 (n : Int)] w fun e w' => e = .returned (.string (str (takeV n R))) ∧ RdrAt w' B (takeR n R) (takeO n R o) ∧ Chg (fun j => j = B) w w' := by
  have HH := Lib.hid h
  have hc := Lib.hid (Chg.refl (fun j => j = B) w)
  have e0 : w.cell? ⟨B, 0, none⟩ = some (.string (str R)) := rowC_cell h 0
  have f0 : w.frozen? ⟨B, 0, none⟩ = false := rowC_free h 0
  have f1 : w.frozen? ⟨B, 1, none⟩ = false := rowC_free h 1
  have e1 : w.cell? ⟨B, 1, none⟩ = some (.bool o) := rowC_cell h 1
  have zr := str_size R
  by_cases hlt : R.length < n
  · have HV : Hid (takeV n R = [] ∧ takeR n R = R ∧ takeO n R o = true) := Lib.hid ⟨if_pos hlt, if_pos hlt, by unfold takeO; rw [decide_eq_true hlt]; rfl⟩
    have g : ((str R).size : Int) < (n : Int) := by omega
    have HE : Hid (RdrAt (w.setCell ⟨B, 1, none⟩ (.bool true)) B R true) := Lib.hid (rowC_set h 1 (.bool true))
    clear h hlt hn
    go_enter Tryz.func67, Tryz.ntmps67
    go_wp2
    go_ret
    obtain ⟨h1, h2, h3⟩ := HV.out
    rw [h1, h2, h3]
    exact ⟨rfl, HE.out, hc.out.setCell _ _ (.inl rfl)⟩
  · have HV : Hid (takeV n R = R.take n ∧ takeR n R = R.drop n ∧ takeO n R o = o) := Lib.hid ⟨if_neg hlt, if_neg hlt, by unfold takeO; rw [decide_eq_false hlt]; rfl⟩
    have g : ¬ ((str R).size : Int) < (n : Int) := by omega
    have HE : Hid (RdrAt (w.setCell ⟨B, 0, none⟩ (.string (str (R.drop n)))) B (R.drop n) o) := Lib.hid (rowC_set h 0 _)
    have s1 := str_take R n
    have s2 := str_drop R n
    clear h hlt
    go_enter Tryz.func67, Tryz.ntmps67
    go_wp2
    go_ret
    obtain ⟨h1, h2, h3⟩ := HV.out
    rw [h1, h2, h3]
    exact ⟨rfl, HE.out, hc.out.setCell _ _ (.inl rfl)⟩
theorem wrap_i64_nat {n : Nat} (h : n < 9223372036854775808) : IntKind.i64.wrap (n : Int) = n := by
  rw [IntKind.wrap_i64]; omega
theorem getN_small {l : List UInt8} {k : Nat} (h : l.length ≤ k) (h4 : k ≤ 4) : getN l < 4294967296 := by
  have h1 := getK_lt l (min l.length 8)
  have h2 : 256 ^ (min l.length 8) ≤ 256 ^ 4 := Nat.pow_le_pow_right (by omega) (by omega)
  unfold getN
  exact Nat.lt_of_lt_of_le h1 (by simpa using h2)
theorem takeV_le (n : Nat) (R : List UInt8) : (takeV n R).length ≤ n := by
  unfold takeV
  split
  · exact Nat.zero_le _
  · rw [List.length_take]; omega
set_option maxRecDepth 100000 in
set_option maxHeartbeats 4000000 in
theorem rdnum_any (B : Nat) (R : List UInt8) (o : Bool) (k : Nat) (hk : k ≤ 4) (w : World) (h : RdrAt w B R o) :
    Calls Tryz.prog 52 #[.pointer (some ⟨B, 0, none⟩), .int .i64 (k : Int)] w fun e w' => e = .returned (.int .i64 (getN (takeV k R) : Nat)) ∧ RdrAt w' B (takeR k R) (takeO k R o) ∧ Chg (fun j => j = B) w w' := by
  have CT := rdtake_any B R o k (by omega) w h
  have CG := fun W => bget_any (str (takeV k R)) W (by rw [str_size]; have := takeV_le k R; omega)
  have hs := getN_small (takeV_le k R) hk
  rw [str_toList] at CG
  generalize getN (takeV k R) = G at *
  have gw : IntKind.i64.wrap (G : Int) = (G : Int) := wrap_i64_nat (by omega)
  clear h
  go_enter Tryz.func52, Tryz.ntmps52
  go_wp2_with (first
    | (go_at_call 67; ((with_reducible refine CT.mono ?_); rintro e w1 ⟨rfl, hr1, hc1⟩))
    | (go_at_call 66; ((with_reducible refine (CG _).mono ?_); rintro e w2 ⟨rfl, rfl⟩)))
  go_ret
  exact ⟨rfl, hr1, hc1⟩
end Go.Proofs.YtbkpbgcbpakpeaaGreatDoor

