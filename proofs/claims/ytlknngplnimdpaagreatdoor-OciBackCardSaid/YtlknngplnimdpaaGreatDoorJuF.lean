/- Layer 11: a piece, and a string, are written by a printer. -/
import Derived.Test.YtlknngplnimdpaaGreatDoorJuE
import Derived.Test.YtlknngplnimdpaaGreatDoorJtM
namespace Go.Proofs.YtlknngplnimdpaaGreatDoor
open Go.RowKit

/-- Behind some writing since w: the printer's bytes, and what stands as it stood. -/
structure PrS (w : World) (B b : Nat) (l : Bs) (w' : World) : Prop where
  pr : PrAt w' B b l
  bel : Below B w w'
  oth : Lib.OthersKept 5 (some b) w w'
theorem PrS.start {w : World} {B b : Nat} {l : Bs} (h : PrAt w B b l) : PrS w B b l w := ⟨h, Below.refl _ _, Lib.OthersKept.refl _ _ _⟩
theorem PrAt.lt {w : World} {B b : Nat} {l : Bs} (h : PrAt w B b l) : B ≤ b ∧ b < w.heap.size := by
  rcases h with h | h
  · exact ⟨h.1, h.lt⟩
  · exact ⟨h.1, h.lt⟩
theorem PrAt.below {w w' : World} {B b : Nat} {l : Bs} (h : PrAt w B b l) (hb : Below w.heap.size w w') : PrAt w' B b l := by
  have hc : Chg (fun _ => False) w w' := Chg.of_below hb
  rcases h with ⟨hB, v, hv, ho, hn⟩ | ⟨hB, v, hv, ho, hn⟩
  · exact .inl ⟨hB, v, (hc.block b (Array.getElem?_eq_some_iff.1 hv).1 id).trans hv, ownsF_chg hc (fun _ _ => id) ho, hn⟩
  · exact .inr ⟨hB, v, (hc.block b (Array.getElem?_eq_some_iff.1 hv).1 id).trans hv, ownsF_chg hc (fun _ _ => id) ho, hn⟩
theorem others_below {e : TypeId} {b : Option Nat} {a w w' : World} (h : Lib.OthersKept e b a w) (hb : Below w.heap.size w w') : Lib.OthersKept e b a w' := fun k o hk hkb ho => by
  have h1 := h k o hk hkb ho
  rw [hb.block k (Array.getElem?_eq_some_iff.1 h1).1]
  exact h1
theorem PrS.below {w w1 w2 : World} {B b : Nat} {l : Bs} (h : PrS w B b l w1) (hB : B ≤ w1.heap.size) (hb : Below w1.heap.size w1 w2) : PrS w B b l w2 :=
  ⟨h.pr.below hb, h.bel.trans (hb.mono hB), others_below h.oth hb⟩
theorem PrS.trans {w w1 w2 : World} {B b : Nat} {l m : Bs} (h : PrS w B b l w1) (g : PrS w1 B b m w2) : PrS w B b m w2 := ⟨g.pr, h.bel.trans g.bel, h.oth.trans g.oth⟩
/-- A block of other cells stands as it stood. -/
theorem PrS.row {w w' : World} {B b : Nat} {l : Bs} (h : PrS w B b l w') {r : Nat} {cs : Array Value} {t : TypeId} (hr : rowC w r cs t) (hb : r ≠ b) (ht : t ≠ 5) : rowC w' r cs t :=
  h.oth r _ hr (fun e => hb (Option.some.inj e)) (fun c fz e => ht (by injection e))
theorem PrS.size {w w' : World} {B b : Nat} {l : Bs} (h : PrS w B b l w') : w.heap.size ≤ w'.heap.size := h.bel.size
set_option maxHeartbeats 1000000 in
theorem put_any {w : World} {B b : Nat} {l : Bs} (s : Bs) (h : PrAt w B b l) (hB : B ≤ w.heap.size) (hs : s.length ≤ 70368744177664) :
    Calls Tryz.prog 106 #[.pointer (some ⟨b, 0, none⟩), .string (str s)] w fun e w' => e = .returned (.tuple #[]) ∧ PrS w B b (putL l s) w' := by
  have CL := bd_len B b (Lib.byteCells l) w h
  rw [Lib.byteCells_length] at CL
  by_cases hl : l.length ≤ 65536
  · have hp : putL l s = l ++ s := if_pos hl
    rw [hp]
    have CW := bd_write B b (Lib.byteCells l) (str s) w h (by rw [Lib.byteCells_length, str_size]; omega) hB
    have hl' : (l.length : Int) ≤ 65536 := by omega
    clear h hs hp hl
    go_enter Tryz.func106, Tryz.ntmps106
    go_wp2_with (first
      | (go_at_call 71; ((with_reducible refine CL.mono ?_); rintro e w2 ⟨rfl, rfl⟩))
      | (go_at_call 143; ((with_reducible refine CW.mono ?_); rintro e w3 ⟨rfl, hb1, hb2, hb3⟩)))
    go_end0
    refine ⟨rfl, ?_, hb2, hb3⟩
    unfold PrAt
    rw [Lib.byteCells_append]
    exact .inr hb1
  · have hp : putL l s = l := if_neg hl
    rw [hp]
    have hl' : ¬ (l.length : Int) ≤ 65536 := by omega
    have h' := PrS.start h
    clear hs hp hl h
    go_enter Tryz.func106, Tryz.ntmps106
    go_wp2_with (go_at_call 71; ((with_reducible refine CL.mono ?_); rintro e w2 ⟨rfl, rfl⟩))
    go_end0
    exact ⟨rfl, h'⟩
/-! ### Strings -/
theorem runesF_more : ∀ (n m : Nat) (l : Bs), l.length ≤ n → l.length ≤ m → runesF n l = runesF m l
  | 0, m, l, h, _ => by
    obtain rfl : l = [] := List.eq_nil_of_length_eq_zero (by omega)
    cases m <;> rfl
  | n + 1, 0, l, _, h => by
    obtain rfl : l = [] := List.eq_nil_of_length_eq_zero (by omega)
    rfl
  | n + 1, m + 1, l, h, k => by
    rw [runesF, runesF]
    by_cases hl : l = []
    · rw [if_pos hl, if_pos hl]
    · rw [if_neg hl, if_neg hl]
      have hw := Lib.decodeL_width l
      have h0 := List.length_pos_iff.2 hl
      rw [runesF_more n m _ (by rw [List.length_drop]; omega) (by rw [List.length_drop]; omega)]
theorem runesT_cons {l : Bs} (h : l ≠ []) : runesT l = (Lib.decodeL l).1 :: runesT (l.drop (Lib.decodeL l).2) := by
  have h0 := List.length_pos_iff.2 h
  have hw := Lib.decodeL_width l
  unfold runesT
  obtain ⟨n, hn⟩ : ∃ n, l.length = n + 1 := ⟨l.length - 1, by omega⟩
  rw [hn, runesF, if_neg h]
  rw [runesF_more n _ _ (by rw [List.length_drop]; omega) (Nat.le_refl _)]
theorem printed_len (c : Nat) : (printedR c).length ≤ 6 := by
  unfold printedR
  split
  · simp
  split
  · simp
  split
  · simp
  · have := enc_le c; omega
set_option maxRecDepth 100000 in
set_option maxHeartbeats 4000000 in
theorem pquoted_any {w : World} {B b : Nat} {l : Bs} (t : Bs) (h : PrAt w B b l) (hB : B ≤ w.heap.size) (h10 : 10 ≤ B) (tz : w.cell? ⟨9, 15, none⟩ = some (.int .u8 4)) :
    Calls Tryz.prog 107 #[.pointer (some ⟨b, 0, none⟩), .string (str t)] w fun e w' => e = .returned (.tuple #[]) ∧ PrS w B b (putsL l (quoPs t)) w' := by
  have C1 : ∀ (w2 : World) (acc : Bs), PrAt w2 B b acc → B ≤ w2.heap.size → Calls Tryz.prog 106 #[.pointer (some ⟨b, 0, none⟩), .string ⟨#[34]⟩] w2 fun e w' => e = .returned (.tuple #[]) ∧ PrS w2 B b (putL acc [34]) w' := fun w2 acc g hB2 => put_any [34] g hB2 (by decide)
  have CP := fun (w2 : World) (acc : Bs) (s : Bs) (g : PrAt w2 B b acc) (hB2 : B ≤ w2.heap.size) (hs : s.length ≤ 70368744177664) => put_any s g hB2 hs
  have hbB := h.lt
  have HQ : Hid (putsL l (quoPs t) = putL (putsL (putL l [34]) ((runesT t).map printedR)) [34]) := Lib.hid (by
    unfold quoPs
    rw [← List.singleton_append, putsL_app, putsL_app]
    rfl)
  have TZ := Lib.hid tz
  have HBB := Lib.hid hB
  have HBB2 := Lib.hid h10
  have CD := fun (w2 : World) (c : Nat) (hc : scal c) (hb : Below B w w2) => printed_any hc w2 ((hb.cell (show 9 < B by omega)).trans tz)
  have h0 := PrS.start h
  go_enter Tryz.func107, Tryz.ntmps107
  clear tz
  go_wp2_with (go_at_call 106; ((with_reducible refine (C1 _ _ h hB).mono ?_); rintro e w1 ⟨rfl, h1⟩))
  have hs1 := h1.size
  have I1 : PrS w B b (putL l [34]) (w1.alloc (.stringIter (str t) 0)) := h1.below (by omega) ((Below.refl _ _).alloc (Nat.le_refl _) _)
  go_loopg [5] t.length (fun k s5 wr => ∃ pos acc, wr.heap[w1.heap.size]? = some (.stringIter (str t) pos) ∧ Hid (PrS w B b acc wr) ∧ Hid (putsL acc ((runesT (t.drop pos)).map printedR) = putsL (putL l [34]) ((runesT t).map printedR)) ∧ Hid (k = t.length - pos) ∧ Hid (pos ≤ t.length) ∧ Hid (w1.heap.size < wr.heap.size))
  case atStart => exact ⟨0, _, heap_alloc_new w1 _, Lib.hid I1, Lib.hid rfl, Lib.hid rfl, Lib.hid (Nat.zero_le _), Lib.hid (by rw [show (w1.iter (str t) 0) = w1.alloc (.stringIter (str t) 0) from rfl, size_alloc]; omega)⟩
  case round =>
    obtain ⟨pos, acc, hit, HP, HR, HK, HL, HZ⟩ := hrel
    by_cases hpos : pos < t.length
    · have hnx := fun ty => Lib.run_next_any_at (P := Tryz.prog) wr _ _ _ ty hit (by rw [str_size]; exact hpos)
      have hdd := Lib.decodeL_drop (str t) pos
      rw [str_toList] at hdd
      rw [← hdd] at hnx
      have hne : t.drop pos ≠ [] := fun e => by have := congrArg List.length e; simp at this; omega
      have hsc := scal_dec (t.drop pos)
      have hw := Lib.decodeL_width (t.drop pos)
      have hwl := Lib.decodeL_le (t.drop pos) hne
      rw [List.length_drop] at hwl
      have HR2 : Hid (putsL (putL acc (printedR (Lib.decodeL (t.drop pos)).1)) ((runesT (t.drop (pos + (Lib.decodeL (t.drop pos)).2))).map printedR) = putsL (putL l [34]) ((runesT t).map printedR)) := Lib.hid (by
        rw [← HR.out, runesT_cons hne, List.drop_drop]
        rfl)
      generalize (Lib.decodeL (t.drop pos)).1 = c at *
      generalize (Lib.decodeL (t.drop pos)).2 = n at *
      have P2 : PrS w B b acc (wr.iterAt w1.heap.size (str t) (pos + n)) := by
        have hB := HBB.out
        refine ⟨HP.out.pr.iterAt hit _, Lib.below_iterAt HP.out.bel (by omega) _ _, fun k o hk hkb ho => ?_⟩
        have hlt := (Array.getElem?_eq_some_iff.1 hk).1
        rw [Lib.iterAt_other _ _ _ _ _ (by omega)]
        exact HP.out.oth k o hk hkb ho
      have it2 := Lib.iterAt_heap wr w1.heap.size (str t) pos (pos + n) hit
      have sz2 := Lib.iterAt_size wr w1.heap.size (str t) (pos + n)
      generalize wr.iterAt w1.heap.size (str t) (pos + n) = wq at *
      have CD2 := CD wq c hsc P2.bel
      have HP2 := Lib.hid P2
      have hbq : B ≤ wq.heap.size := by have := HBB.out; have := P2.size; omega
      clear P2 hdd hit HP
      go_wp2_with (first
        | (go_at_call 144; ((with_reducible refine CD2.mono ?_); rintro e w3 ⟨rfl, hb3⟩; have P3 := HP2.out.below hbq hb3))
        | (go_at_call 106; ((with_reducible refine (CP _ _ _ P3.pr (Nat.le_trans hbq hb3.size) (Nat.le_trans (printed_len c) (by decide))).mono ?_); rintro e w4 ⟨rfl, h4⟩)))
      go_roundg (t.length - (pos + n))
      case measure => rw [HK.out]; omega
      case rel =>
        have i3 : w3.heap[w1.heap.size]? = some (.stringIter (str t) (pos + n)) := (hb3.block _ (by have := HZ.out; omega)).trans it2
        exact ⟨pos + n, _, h4.oth.iter i3 (by omega), Lib.hid (P3.trans h4), HR2, Lib.hid rfl, Lib.hid (by omega), Lib.hid (by have := HZ.out; have := hb3.size; have := h4.size; omega)⟩
    · have hnx := fun ty => Lib.run_next_end_at (P := Tryz.prog) wr _ _ _ ty hit (by rw [str_size]; exact hpos)
      have hdr : t.drop pos = [] := List.drop_eq_nil_of_le (by omega)
      have HR3 : Hid (acc = putsL (putL l [34]) ((runesT t).map printedR)) := Lib.hid (by
        rw [← HR.out, hdr]; rfl)
      have hbq : B ≤ wr.heap.size := by have := HBB.out; have := HP.out.size; omega
      clear hdr hit HR
      go_wp2_with (go_at_call 106; ((with_reducible refine (C1 _ _ HP.out.pr hbq).mono ?_); rintro e w4 ⟨rfl, h4⟩))
      go_end0
      rw [HQ.out, ← HR3.out]
      exact ⟨rfl, HP.out.trans h4⟩
end Go.Proofs.YtlknngplnimdpaaGreatDoor
