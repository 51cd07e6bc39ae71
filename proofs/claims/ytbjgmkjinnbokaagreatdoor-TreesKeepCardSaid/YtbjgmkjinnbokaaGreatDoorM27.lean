/- Merged: UvI, UvD. -/
import Derived.Test.YtbjgmkjinnbokaaGreatDoorM25
import Derived.Test.YtbjgmkjinnbokaaGreatDoorM26
import Derived.Test.YtbjgmkjinnbokaaGreatDoorM21
import Derived.Test.YtbjgmkjinnbokaaGreatDoorM23
import Derived.Test.YtbjgmkjinnbokaaGreatDoorM11
import Derived.Test.YtbjgmkjinnbokaaGreatDoorM24
/- Layer 16: a builder; the program's putNumber, putNode. -/
namespace Go.Proofs.YtbjgmkjinnbokaaGreatDoor
open Go.RowKit
attribute [local go_sem] wide_fn round_fn

theorem ownsF_chg {s : Nat → Prop} {w w' : World} (h : Chg s w w') {B : Nat} (hs : ∀ k, B ≤ k → ¬ s k) {e : TypeId} {v : Value} {n : Nat} {xs : List Value} (ho : w.ownsRowF B e 1 v n xs) : w'.ownsRowF B e 1 v n xs := by
  refine ⟨ho.1, ?_⟩
  rcases ho.2 with hn | ⟨g, cap, cur, fz, hv, hb, hg, hrest⟩
  · exact .inl hn
  · exact .inr ⟨g, cap, cur, fz, hv, hb, (h.block g (Array.getElem?_eq_some_iff.1 hg).1 (hs g hb)).trans hg, hrest⟩

/-- A builder's bytes. -/
def BdAt (w : World) (B b : Nat) (l : List UInt8) : Prop := Lib.IsBuilderF 50 5 B b (Lib.byteCells l) w
/-- Behind some writing since w: the printer's bytes, and what stands as it stood. -/
structure BdS (w : World) (B b : Nat) (l : List UInt8) (w' : World) : Prop where
  pr : BdAt w' B b l
  bel : Below B w w'
  oth : Lib.OthersKept 5 (some b) w w'
theorem BdS.start {w : World} {B b : Nat} {l : List UInt8} (h : BdAt w B b l) : BdS w B b l w := ⟨h, Below.refl _ _, Lib.OthersKept.refl _ _ _⟩
theorem BdAt.lt {w : World} {B b : Nat} {l : List UInt8} (h : BdAt w B b l) : B ≤ b ∧ b < w.heap.size := by
  rcases h with h | h
  · exact ⟨h.1, h.lt⟩
  · exact ⟨h.1, h.lt⟩
theorem BdAt.below {w w' : World} {B b : Nat} {l : List UInt8} (h : BdAt w B b l) (hb : Below w.heap.size w w') : BdAt w' B b l := by
  have hc : Chg (fun _ => False) w w' := Chg.of_below hb
  rcases h with ⟨hB, v, hv, ho, hn⟩ | ⟨hB, v, hv, ho, hn⟩
  · exact .inl ⟨hB, v, (hc.block b (Array.getElem?_eq_some_iff.1 hv).1 id).trans hv, ownsF_chg hc (fun _ _ => id) ho, hn⟩
  · exact .inr ⟨hB, v, (hc.block b (Array.getElem?_eq_some_iff.1 hv).1 id).trans hv, ownsF_chg hc (fun _ _ => id) ho, hn⟩
theorem others_belowB {e : TypeId} {b : Option Nat} {a w w' : World} (h : Lib.OthersKept e b a w) (hb : Below w.heap.size w w') : Lib.OthersKept e b a w' := fun k o hk hkb ho => by
  have h1 := h k o hk hkb ho
  rw [hb.block k (Array.getElem?_eq_some_iff.1 h1).1]
  exact h1
theorem BdS.below {w w1 w2 : World} {B b : Nat} {l : List UInt8} (h : BdS w B b l w1) (hB : B ≤ w1.heap.size) (hb : Below w1.heap.size w1 w2) : BdS w B b l w2 :=
  ⟨h.pr.below hb, h.bel.trans (hb.mono hB), others_belowB h.oth hb⟩
theorem BdS.trans {w w1 w2 : World} {B b : Nat} {l m : List UInt8} (h : BdS w B b l w1) (g : BdS w1 B b m w2) : BdS w B b m w2 := ⟨g.pr, h.bel.trans g.bel, h.oth.trans g.oth⟩
/-- A block of other cells stands as it stood. -/
theorem BdS.row {w w' : World} {B b : Nat} {l : List UInt8} (h : BdS w B b l w') {r : Nat} {cs : Array Value} {t : TypeId} (hr : rowC w r cs t) (hb : r ≠ b) (ht : t ≠ 5) : rowC w' r cs t :=
  h.oth r _ hr (fun e => hb (Option.some.inj e)) (fun c fz e => ht (by injection e))
theorem BdS.size {w w' : World} {B b : Nat} {l : List UInt8} (h : BdS w B b l w') : w.heap.size ≤ w'.heap.size := h.bel.size

theorem write_any {w : World} {B b : Nat} {l : List UInt8} (s : List UInt8) (h : BdAt w B b l) (hB : B ≤ w.heap.size) (hs : l.length + s.length ≤ 140737488355328) :
    Calls Tryz.prog 31 #[.pointer (some ⟨b, 0, none⟩), .string (str s)] w fun e w' => e = .returned (.tuple #[.int .i64 (s.length : Int), .nilIface]) ∧ BdS w B b (l ++ s) w' := by
  refine (Tryz.Builder_WriteString_k B b (Lib.byteCells l) (str s) w h (by rw [Lib.byteCells_length, str_size]; exact hs) hB).mono fun e w' ⟨he, h1, h2, h3⟩ => ⟨by rw [he, str_size], ?_, h2, h3⟩
  unfold BdAt
  rw [Lib.byteCells_append]
  exact .inr h1
theorem bd_fresh (w : World) : BdAt (w.alloc (.cells #[.pointer none, .slice none 0 0] 50)) w.heap.size w.heap.size [] := by
  refine .inl ⟨Nat.le_refl _, .slice none 0 0, heap_alloc_new w _, ?_, fun e => by cases e⟩
  exact ⟨rfl, .inl ⟨rfl, rfl⟩⟩
theorem string_any {w : World} {B b : Nat} {l : List UInt8} (h : BdAt w B b l) (hB : B ≤ w.heap.size) : Calls Tryz.prog 20 #[.pointer (some ⟨b, 0, none⟩)] w fun e w' => e = .returned (.string (str l)) ∧ Below B w w' :=
  (Tryz.Builder_String_any_k B b l w h hB).mono fun _ _ ⟨he, _, hb, _⟩ => ⟨he, hb⟩
/-- The builder's count. -/
theorem len_bd {w : World} {B b : Nat} {l : List UInt8} (h : BdAt w B b l) : Calls Tryz.prog 19 #[.pointer (some ⟨b, 0, none⟩)] w fun e w' => e = .returned (.int .i64 (l.length : Int)) ∧ w' = w := by
  have := Tryz.Builder_Len_f B b (Lib.byteCells l) w h
  rwa [Lib.byteCells_length] at this
theorem putV_is (n k : Nat) (h1 : 1 ≤ k) (h8 : k ≤ 8) : putV ((n : Int).toNat) (k : Int) = str (putL n k) := by
  unfold putV
  rw [if_pos (by omega), Int.toNat_natCast, Int.toNat_natCast]
set_option maxRecDepth 100000 in
set_option maxHeartbeats 4000000 in
theorem putNumber_any (B b : Nat) (l : List UInt8) (n k : Nat) (hn : n < 9223372036854775808) (h1 : 1 ≤ k) (h8 : k ≤ 8) (hl : l.length ≤ 1000000000000) (w : World) (hB : B ≤ w.heap.size) (h : BdAt w B b l) :
    Calls Tryz.prog 17 #[.pointer (some ⟨b, 0, none⟩), .int .i64 (n : Int), .int .i64 (k : Int)] w fun e w' => e = .returned (.tuple #[]) ∧ BdS w B b (l ++ putL n k) w' := by
  have gw : IntKind.u64.wrap (n : Int) = (n : Int) := wrap_u64_nat (by omega)
  have CP := bput_any (n : Int) (k : Int) w (by omega) (by omega) (by omega)
  rw [putV_is n k h1 h8] at CP
  have HS := Lib.hid (BdS.start h)
  have HL := Lib.hid hl
  have HPL := Lib.hid (putL_length n k)
  have HK := Lib.hid h8
  clear hl h h1 h8
  go_enter Tryz.func17, Tryz.ntmps17
  go_wp2_with (first
    | (go_at_call 32; ((with_reducible refine CP.mono ?_); rintro e W1 ⟨rfl, hb1⟩; have S1 := Lib.hid (HS.out.below hB hb1); have HB1 : Hid (B ≤ W1.heap.size) := Lib.hid (Nat.le_trans hB hb1.size)))
    | (go_at_call 31; ((with_reducible refine (write_any (putL n k) S1.out.pr HB1.out (by have := HL.out; have := HPL.out; have := HK.out; omega)).mono ?_); rintro e W2 ⟨rfl, s2⟩; have S2 := Lib.hid (S1.out.trans s2))))
  go_end0
  exact ⟨rfl, S2.out⟩
end Go.Proofs.YtbjgmkjinnbokaaGreatDoor

/- Layer 16, the document's own side: Check. -/
namespace Go.Proofs.YtbjgmkjinnbokaaGreatDoor
open Go.RowKit
attribute [local go_sem] wide_fn round_fn

/-- A world behind another. -/
structure AftW (w : World) where
  v : World
  h : Below w.heap.size w v
instance (w : World) : Nonempty (AftW w) := ⟨⟨w, Below.refl _ _⟩⟩
theorem wpQuietIn_load_atN {F : Fence} {n : Nat} {ops : Array Oper} {C : World → Prop} {Q : Act → Prop} {o : Oper} {rest : List Oper} {a : Act} (hF : ∀ f, F.fn f) (hw : Region.wanted o (yielded ops a.tmps) = true) (ty : TypeId) (x : Operand) (ho : o.op = .load ty x)
    (p : Addr) (hx : a.eval x = .pointer (some p)) (cs : List Value) (d : TypeDesc) (hc : ∀ w, C w → ∀ j v, cs[j]? = some v → w.cell? (p.add j) = some v)
    (hu : Tryz.prog.underlying ty = some d) (hd : d.isRow = true) (hi : (Tryz.prog.info? ty).map (·.size) = some cs.length)
    (h : wpQuietIn F n Tryz.prog ops C Q rest (a.put o.dst (.agg cs.toArray))) : wpQuietIn F n Tryz.prog ops C Q (o :: rest) a :=
  wpQuietIn_step (fun _ _ f _ => hF f) (fun K hK => by
    rw [if_pos hw]
    exact ⟨.agg cs.toArray, fun w hC => by
    unfold Oper.quietAtIn execOp
    simp only [ho, hx, Instr.loadAt, Instr.sureAddr, Sem.run_bind, Sem.run_pure, Result.andThen_ok, run_loadVar_at w p ty cs d (hc w hC) hu hd hi]
    exact ⟨rfl, rfl⟩, hK _ h⟩)
end Go.Proofs.YtbjgmkjinnbokaaGreatDoor

