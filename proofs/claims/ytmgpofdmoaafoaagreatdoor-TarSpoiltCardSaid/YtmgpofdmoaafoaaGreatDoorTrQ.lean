/- Layer 15: the program's putPart, putEntry. -/
import Derived.Test.YtmgpofdmoaafoaaGreatDoorTrP
namespace Go.Proofs.YtmgpofdmoaafoaaGreatDoor
open Go.RowKit
attribute [local go_sem] wide_fn round_fn

theorem ownsF_chg {s : Nat → Prop} {w w' : World} (h : Chg s w w') {B : Nat} (hs : ∀ k, B ≤ k → ¬ s k) {e : TypeId} {v : Value} {n : Nat} {xs : List Value} (ho : w.ownsRowF B e 1 v n xs) : w'.ownsRowF B e 1 v n xs := by
  refine ⟨ho.1, ?_⟩
  rcases ho.2 with hn | ⟨g, cap, cur, fz, hv, hb, hg, hrest⟩
  · exact .inl hn
  · exact .inr ⟨g, cap, cur, fz, hv, hb, (h.block g (Array.getElem?_eq_some_iff.1 hg).1 (hs g hb)).trans hg, hrest⟩

/-- A builder's bytes. -/
def BdAt (w : World) (B b : Nat) (l : Bs) : Prop := Lib.IsBuilderF 67 5 B b (Lib.byteCells l) w
/-- Behind some writing since w: the printer's bytes, and what stands as it stood. -/
structure BdS (w : World) (B b : Nat) (l : Bs) (w' : World) : Prop where
  pr : BdAt w' B b l
  bel : Below B w w'
  oth : Lib.OthersKept 5 (some b) w w'
theorem BdS.start {w : World} {B b : Nat} {l : Bs} (h : BdAt w B b l) : BdS w B b l w := ⟨h, Below.refl _ _, Lib.OthersKept.refl _ _ _⟩
theorem BdAt.lt {w : World} {B b : Nat} {l : Bs} (h : BdAt w B b l) : B ≤ b ∧ b < w.heap.size := by
  rcases h with h | h
  · exact ⟨h.1, h.lt⟩
  · exact ⟨h.1, h.lt⟩
theorem BdAt.below {w w' : World} {B b : Nat} {l : Bs} (h : BdAt w B b l) (hb : Below w.heap.size w w') : BdAt w' B b l := by
  have hc : Chg (fun _ => False) w w' := Chg.of_below hb
  rcases h with ⟨hB, v, hv, ho, hn⟩ | ⟨hB, v, hv, ho, hn⟩
  · exact .inl ⟨hB, v, (hc.block b (Array.getElem?_eq_some_iff.1 hv).1 id).trans hv, ownsF_chg hc (fun _ _ => id) ho, hn⟩
  · exact .inr ⟨hB, v, (hc.block b (Array.getElem?_eq_some_iff.1 hv).1 id).trans hv, ownsF_chg hc (fun _ _ => id) ho, hn⟩
theorem others_below {e : TypeId} {b : Option Nat} {a w w' : World} (h : Lib.OthersKept e b a w) (hb : Below w.heap.size w w') : Lib.OthersKept e b a w' := fun k o hk hkb ho => by
  have h1 := h k o hk hkb ho
  rw [hb.block k (Array.getElem?_eq_some_iff.1 h1).1]
  exact h1
theorem BdS.below {w w1 w2 : World} {B b : Nat} {l : Bs} (h : BdS w B b l w1) (hB : B ≤ w1.heap.size) (hb : Below w1.heap.size w1 w2) : BdS w B b l w2 :=
  ⟨h.pr.below hb, h.bel.trans (hb.mono hB), others_below h.oth hb⟩
theorem BdS.trans {w w1 w2 : World} {B b : Nat} {l m : Bs} (h : BdS w B b l w1) (g : BdS w1 B b m w2) : BdS w B b m w2 := ⟨g.pr, h.bel.trans g.bel, h.oth.trans g.oth⟩
/-- A block of other cells stands as it stood. -/
theorem BdS.row {w w' : World} {B b : Nat} {l : Bs} (h : BdS w B b l w') {r : Nat} {cs : Array Value} {t : TypeId} (hr : rowC w r cs t) (hb : r ≠ b) (ht : t ≠ 5) : rowC w' r cs t :=
  h.oth r _ hr (fun e => hb (Option.some.inj e)) (fun c fz e => ht (by injection e))
theorem BdS.size {w w' : World} {B b : Nat} {l : Bs} (h : BdS w B b l w') : w.heap.size ≤ w'.heap.size := h.bel.size

theorem write_any {w : World} {B b : Nat} {l : Bs} (s : Bs) (h : BdAt w B b l) (hB : B ≤ w.heap.size) (hs : l.length + s.length ≤ 140737488355328) :
    Calls Tryz.prog 30 #[.pointer (some ⟨b, 0, none⟩), .string (str s)] w fun e w' => e = .returned (.tuple #[.int .i64 (s.length : Int), .nilIface]) ∧ BdS w B b (l ++ s) w' := by
  refine (Tryz.Builder_WriteString_k B b (Lib.byteCells l) (str s) w h (by rw [Lib.byteCells_length, str_size]; exact hs) hB).mono fun e w' ⟨he, h1, h2, h3⟩ => ⟨by rw [he, str_size], ?_, h2, h3⟩
  unfold BdAt
  rw [Lib.byteCells_append]
  exact .inr h1
theorem repeat_zero (c : Nat) : (⟨(Lib.repeatL (⟨#[0]⟩ : ByteArray).data.toList c).toArray⟩ : ByteArray) = str (zerosL c) := by
  refine bytes_toList ?_
  show Lib.repeatL [0] c = zerosL c
  unfold zerosL
  induction c with
  | zero => rfl
  | succ c ih => rw [List.replicate_succ, ← ih]; rfl
theorem zeros_call (c : Nat) (hc : c ≤ 1000000) (w : World) : Calls Tryz.prog 31 #[.string ⟨#[0]⟩, .int .i64 (c : Int)] w fun e w' => e = .returned (.string (str (zerosL c))) ∧ Below w.heap.size w w' := by
  have h := Tryz.strings_Repeat ⟨#[0]⟩ c w (by omega) (by show 1 * c ≤ _; omega)
  rw [repeat_zero] at h
  exact h
set_option maxRecDepth 100000 in
set_option maxHeartbeats 8000000 in
theorem putPart_any (B b : Nat) (l : Bs) (name link data : Bs) (mode size : Nat) (kind : UInt8) (hm : mode ≤ 1099511627775) (hl : l.length ≤ 1000000000000) (hd : data.length ≤ 1000000000) (w : World) (hB : B ≤ w.heap.size) (h : BdAt w B b l) :
    Calls Tryz.prog 49 #[.pointer (some ⟨b, 0, none⟩), .agg #[.string (str name), .string (str link), .int .i64 (mode : Int), .int .i64 (size : Int), .int .u8 (kind.toNat : Int)], .string (str data)] w fun e w' =>
      e = .returned (.tuple #[]) ∧ BdS w B b (l ++ partW name link mode kind data) w' := by
  have HI := Lib.hid info_hd
  have hz := str_size data
  obtain ⟨N, hN⟩ : ∃ N, N = data.length := ⟨_, rfl⟩
  rw [← hN] at hz hd
  have HCW : Hid (∀ W, Calls Tryz.prog 36 #[.int .i64 (N : Int)] W fun e w' => e = .returned (.int .i64 ((512 * blocksN N : Nat) : Int)) ∧ W = w') := Lib.hid fun W => whole_any N W (by omega)
  have hle := le_blocks N
  have hbl : 512 * blocksN N < N + 512 := by unfold blocksN; omega
  obtain ⟨M, hM⟩ : ∃ M, M = 512 * blocksN N := ⟨_, rfl⟩
  have HCR : Hid (∀ W, Calls Tryz.prog 31 #[.string ⟨#[0]⟩, .int .i64 ((M : Int) - (N : Int))] W fun e w' => e = .returned (.string (str (zerosL (M - N)))) ∧ Below W.heap.size W w') := Lib.hid fun W => by
    have := zeros_call (M - N) (by omega) W
    rwa [show ((M - N : Nat) : Int) = (M : Int) - (N : Int) by omega] at this
  rw [← hM] at HCW hle hbl
  have HF : Hid (fullT data = data ++ zerosL (M - N)) := Lib.hid (by unfold fullT; rw [← hN, ← hM])
  have HPW : Hid (partW name link mode kind data = headW name link mode N kind ++ fullT data) := Lib.hid (by unfold partW; rw [← hN])
  have HN := Lib.hid hN
  have HML := Lib.hid (show M < N + 512 from hbl)
  obtain ⟨W0, hW0⟩ : ∃ W0, W0 = w.alloc (.cells #[.string (str name), .string (str link), .int .i64 (mode : Int), .int .i64 (N : Int), .int .u8 (kind.toNat : Int)] 56) := ⟨_, rfl⟩
  have HW0 := Lib.hid hW0
  have HR0 : Hid (rowC W0 w.heap.size #[.string (str name), .string (str link), .int .i64 (mode : Int), .int .i64 (N : Int), .int .u8 (kind.toNat : Int)] 56) := Lib.hid (by rw [hW0]; exact rowC_new w _ _)
  have HS0 : Hid (BdS w B b l W0) := Lib.hid (by rw [hW0]; exact (BdS.start h).below hB ((Below.refl _ _).alloc (Nat.le_refl _) _))
  have HB0 : Hid (B ≤ W0.heap.size) := Lib.hid (by rw [hW0, size_alloc]; omega)
  have CH := putHead_any ⟨name, link, mode, N, kind⟩ hm (by show N ≤ _; omega) W0
  dsimp only at CH
  have HHL := Lib.hid (headW_len name link mode N kind)
  have HLL := Lib.hid hl
  have HDL := Lib.hid hd
  have hM1 : (M : Int) ≤ 1000001000 := by omega
  have hNM : (N : Int) ≤ (M : Int) := by omega
  clear hW0 hN hM h hl hbl hle
  generalize headW name link mode N kind = HD at *
  go_enter Tryz.func49, Tryz.ntmps49
  go_upto_region 2 with (fail)
  rw [← HW0.out]
  go_upto_region 3 with (first
    | ((with_reducible show wpList _ _ _ (⟨some 10, .load _ (.tmp 4), _, _, _, _⟩ :: _) _ _); refine wpList_load_row rfl 56 _ rfl w.heap.size rfl 56 #[.string (str name), .string (str link), .int .i64 (mode : Int), .int .i64 (N : Int), .int .u8 (kind.toNat : Int)] (0, 0) _ HR0.out Tryz.underlying56 rfl HI.out ?_)
    | (go_at_call 68; ((with_reducible refine CH.mono ?_); rintro e W1 ⟨rfl, hb1⟩; have S1 := HS0.out.below HB0.out hb1))
    | (go_at_call 30; ((with_reducible refine (write_any HD S1.pr (Nat.le_trans HB0.out hb1.size) (by have := HLL.out; have := HHL.out; omega)).mono ?_); rintro e W2 ⟨rfl, s2⟩; have S2 := S1.trans s2)))
  have HS2 := Lib.hid S2
  have HB2 : Hid (B ≤ W2.heap.size) := Lib.hid (by have := S2.size; omega)
  clear S1 s2 S2 hb1 CH
  go_wp2_with (first
    | (go_at_call 30; (first
      | ((with_reducible refine (write_any data HS2.out.pr HB2.out (by have := HLL.out; have := HHL.out; have := HDL.out; have := HN.out; simp only [List.length_append]; omega)).mono ?_); rintro e W3 ⟨rfl, s3⟩; have HS3 := Lib.hid (HS2.out.trans s3); have HB3 : Hid (B ≤ W3.heap.size) := Lib.hid (by have := HB2.out; have := s3.size; omega))
      | ((with_reducible refine (write_any (zerosL (M - N)) HS4.out.pr HB4.out (by have := HLL.out; have := HHL.out; have := HDL.out; have := HN.out; have := HML.out; simp only [List.length_append, zerosL_len]; omega)).mono ?_); rintro e W5 ⟨rfl, s5⟩; have HS5 := Lib.hid (HS4.out.trans s5))))
    | (go_at_call 36; ((with_reducible refine (HCW.out _).mono ?_); rintro e w4 ⟨rfl, rfl⟩))
    | (go_at_call 31; ((with_reducible refine (HCR.out _).mono ?_); rintro e W4 ⟨rfl, hb4⟩; have HS4 := Lib.hid (HS3.out.below HB3.out hb4); have HB4 : Hid (B ≤ W4.heap.size) := Lib.hid (Nat.le_trans HB3.out hb4.size))))
  go_end0
  refine ⟨rfl, ?_⟩
  have := HS5.out
  rw [HPW.out, HF.out]
  simpa [List.append_assoc] using this
end Go.Proofs.YtmgpofdmoaafoaaGreatDoor
