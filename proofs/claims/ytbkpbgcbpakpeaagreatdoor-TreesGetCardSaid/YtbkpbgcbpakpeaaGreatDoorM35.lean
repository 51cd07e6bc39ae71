/- Merged: UvM, UvS. -/
import Derived.Test.YtbkpbgcbpakpeaaGreatDoorM34
import Derived.Test.YtbkpbgcbpakpeaaGreatDoorM30
import Derived.Test.YtbkpbgcbpakpeaaGreatDoorM23
/- Layer 16: TreesTell. -/
namespace Go.Proofs.YtbkpbgcbpakpeaaGreatDoor
open Go.RowKit
attribute [local go_sem] wide_fn round_fn

theorem laidT (w0 : World) : ∀ W, Below w0.heap.size w0 W → Calls Tryz.prog 6 #[] W fun e w' => e = .returned (.bool true) ∧ Below w0.heap.size w0 w' := fun W hb =>
  (laid_any W).mono fun _ _ ⟨he, h⟩ => ⟨he, hb.trans (h.mono hb.size)⟩
theorem on_below {P : Program} {f : FuncId} {args : Array Value} {X : Ending} {w0 : World} (h : ∀ W, Below w0.heap.size w0 W → Calls P f args W fun e w' => e = X ∧ Below W.heap.size W w') :
    ∀ W, Below w0.heap.size w0 W → Calls P f args W fun e w' => e = X ∧ Below w0.heap.size w0 w' := fun W hb =>
  (h W hb).mono fun _ _ ⟨he, h2⟩ => ⟨he, hb.trans (h2.mono hb.size)⟩
theorem sameT {l m : List Nd} {P : Program} {f : FuncId} {args : Array Value} {W : World} (h : Calls P f args W fun e w' => (∃ b, e = .returned (.bool b) ∧ (b = true ↔ l = m)) ∧ Below W.heap.size W w') {b : Bool} (hb : b = true ↔ l = m) :
    Calls P f args W fun e w' => e = .returned (.bool b) ∧ Below W.heap.size W w' :=
  h.mono fun _ _ ⟨⟨b2, he, h2⟩, h3⟩ => ⟨by rw [he, (Bool.eq_iff_iff.2 (h2.trans hb.symm))], h3⟩
theorem row_cells {w : World} {b : Nat} {x : Nd} {t : TypeId} (h : rowC w b (ndA x) t) : ∀ j v, (ndV x)[j]? = some v → w.cell? ((⟨b, 0, none⟩ : Addr).add j) = some v := fun j v hv => by
  rw [show (⟨b, 0, none⟩ : Addr) = (⟨b, 0, none⟩ : Addr).add 0 from (addr_zero _).symm, add_add, Nat.zero_add, rowC_cell h j, ← ndV_arr, List.getElem?_toArray]
  exact hv
set_option maxRecDepth 100000 in
set_option maxHeartbeats 8000000 in
/-- The nodes are more than is gone through, or the path is. -/
theorem tell_great (l m : List Nd) (p : List UInt8) (ad am : Option Addr) (c cm : Nat) (hl : l.length ≤ maxLen) (hm : m.length ≤ maxLen) (w : World) (h1 : NodesAt w ad l) (h2 : NodesAt w am m) (hg : greatN l = true ∨ greatN m = true ∨ 300 < p.length) :
    Calls Tryz.prog 3 #[.slice ad l.length c, .slice am m.length cm, .string (str p)] w fun e w' => e = .returned (.bool true) ∧ Below w.heap.size w w' := by
  have G1 := greatN_any l ad c hl w h1
  have G2 := greatN_any m am cm hm w h2
  have CL := fun W => laid_any W
  have zp := str_size p
  generalize hA : greatN l = A at *
  generalize hB : greatN m = B at *
  generalize l.length = N at *
  generalize m.length = M at *
  obtain ⟨Q, hQ⟩ : ∃ Q, Q = p.length := ⟨_, rfl⟩
  rw [← hQ] at zp hg
  clear h1 h2 hA hB hQ hl hm
  go_enter Tryz.func3, Tryz.ntmps3
  cases A
  · cases B
    · have g : (300 : Int) < (Q : Int) := by
        rcases hg with h | h | h
        · cases h
        · cases h
        · omega
      clear hg
      go_wp2_with (first
        | (go_at_call 5; first
          | ((with_reducible refine G1.mono ?_); rintro e w1 ⟨rfl, rfl⟩)
          | ((with_reducible refine G2.mono ?_); rintro e w1 ⟨rfl, rfl⟩))
        | (go_at_call 6; ((with_reducible refine (CL _).mono ?_); rintro e w2 ⟨rfl, hb2⟩)))
      go_ret
      exact ⟨rfl, hb2⟩
    · clear hg
      go_wp2_with (first
        | (go_at_call 5; first
          | ((with_reducible refine G1.mono ?_); rintro e w1 ⟨rfl, rfl⟩)
          | ((with_reducible refine G2.mono ?_); rintro e w1 ⟨rfl, rfl⟩))
        | (go_at_call 6; ((with_reducible refine (CL _).mono ?_); rintro e w2 ⟨rfl, hb2⟩)))
      go_ret
      exact ⟨rfl, hb2⟩
  · clear hg
    go_wp2_with (first
      | (go_at_call 5; ((with_reducible refine G1.mono ?_); rintro e w1 ⟨rfl, rfl⟩))
      | (go_at_call 6; ((with_reducible refine (CL _).mono ?_); rintro e w2 ⟨rfl, hb2⟩)))
    go_ret
    exact ⟨rfl, hb2⟩
set_option maxRecDepth 100000 in
set_option maxHeartbeats 16000000 in
theorem tell_any (l m : List Nd) (p : List UInt8) (ad am : Option Addr) (c cm : Nat) (hl : l.length ≤ maxLen) (hlc : l.length ≤ c) (hm : m.length ≤ maxLen) (w : World) (h1 : NodesAt w ad l) (h2 : NodesAt w am m) :
    Calls Tryz.prog 3 #[.slice ad l.length c, .slice am m.length cm, .string (str p)] w fun e w' => e = .returned (.bool true) ∧ Below w.heap.size w w' := by
  by_cases hg : greatN l = true ∨ greatN m = true ∨ 300 < p.length
  · exact tell_great l m p ad am c cm hl hm w h1 h2 hg
  have hgl : greatN l = false := by cases h : greatN l <;> simp_all
  have hgm : greatN m = false := by cases h : greatN m <;> simp_all
  have hgp : p.length ≤ 300 := by omega
  clear hg
  obtain ⟨nl, sl⟩ := greatN_no hgl
  obtain ⟨nm, sm⟩ := greatN_no hgm
  have HI := Lib.hid info_nd4
  have HIR := Lib.hid info_rn4
  have G1 := greatN_any l ad c hl w h1
  have G2 := greatN_any m am cm hm w h2
  rw [hgl] at G1
  rw [hgm] at G2
  have D1 := fun (W : World) (hb : Below w.heap.size w W) => doc_any l ad c (by omega) W (h1.below hb)
  have D2 := fun (W : World) (hb : Below w.heap.size w W) => doc_any m am cm (by omega) W (h2.below hb)
  have sl9 : ∀ x ∈ l, x.path.length ≤ 900000 ∧ x.data.length ≤ 900000 := fun x hx => by have := sl x hx; omega
  have HFAM : Hid (∀ (a2 a3 : Option Addr) (c2 c3 : Nat) (W0 : World), Below w.heap.size w W0 → NodesAt W0 a2 l → NodesAt W0 a3 m →
      (∀ W, Below W0.heap.size W0 W → Calls Tryz.prog 8 #[.slice ad l.length c] W fun e w' => e = .returned (.tuple #[.string (str (put16 l).1), .int .i64 (put16 l).2]) ∧ Below W0.heap.size W0 w') ∧
      (∀ W, Below W0.heap.size W0 W → Calls Tryz.prog 9 #[.slice a2 l.length c2] W fun e w' => e = .returned (.tuple #[.string (str (put16 l).1), .int .i64 (put16 l).2]) ∧ Below W0.heap.size W0 w') ∧
      (∀ W, Below W0.heap.size W0 W → Calls Tryz.prog 10 #[.slice ad l.length c, .string (str p)] W fun e w' => e = .returned (.tuple #[.agg (ndA ((findN l p).getD nd0)), .bool (findN l p).isSome]) ∧ Below W0.heap.size W0 w') ∧
      (∀ W, Below W0.heap.size W0 W → Calls Tryz.prog 11 #[.slice a2 l.length c2, .string (str p)] W fun e w' => e = .returned (.tuple #[.agg (ndA ((findN l p).getD nd0)), .bool (findN l p).isSome]) ∧ Below W0.heap.size W0 w') ∧
      (∀ W, Below W0.heap.size W0 W → Calls Tryz.prog 12 #[.slice ad l.length c] W fun e w' => e = .returned (.int .i64 (checkT l)) ∧ Below W0.heap.size W0 w') ∧
      (∀ W, Below W0.heap.size W0 W → Calls Tryz.prog 13 #[.slice a2 l.length c2] W fun e w' => e = .returned (.int .i64 (checkT l)) ∧ Below W0.heap.size W0 w') ∧
      (∀ W, Below W0.heap.size W0 W → Calls Tryz.prog 14 #[.slice ad l.length c] W fun e w' => e = .returned (.int .i64 (bytesN l : Int)) ∧ Below W0.heap.size W0 w') ∧
      (∀ W, Below W0.heap.size W0 W → Calls Tryz.prog 15 #[.slice a2 l.length c2] W fun e w' => e = .returned (.int .i64 (bytesN l : Int)) ∧ Below W0.heap.size W0 w') ∧
      (∀ W, Below W0.heap.size W0 W → Calls Tryz.prog 16 #[.slice ad l.length c, .slice am m.length cm] W fun e w' => e = .returned (.bool (decide (l = m))) ∧ Below W0.heap.size W0 w') ∧
      (∀ W, Below W0.heap.size W0 W → Calls Tryz.prog 17 #[.slice a2 l.length c2, .slice a3 m.length c3] W fun e w' => e = .returned (.bool (decide (l = m))) ∧ Below W0.heap.size W0 w') ∧
      (∀ W, Below W0.heap.size W0 W → Calls Tryz.prog 16 #[.slice ad l.length c, .slice ad l.length c] W fun e w' => e = .returned (.bool true) ∧ Below W0.heap.size W0 w')) := Lib.hid fun a2 a3 c2 c3 W0 hb0 n2 n3 =>
    have q1 : NodesAt W0 ad l := h1.below hb0
    have q2 : NodesAt W0 am m := h2.below hb0
    ⟨on_below fun W hb => put16_any l ad c hl hlc sl9 W (q1.below hb),
     on_below fun W hb => rput16_any l a2 c2 (by omega) sl9 W (n2.below hb),
     on_below fun W hb => find_any l p ad c hl sl9 W (q1.below hb),
     on_below fun W hb => rfind_any l p a2 c2 hl W (n2.below hb),
     on_below fun W hb => check_any l ad c hl hlc (fun x hx => (sl9 x hx).1) W (q1.below hb),
     on_below fun W hb => check16 l a2 c2 (by omega) (fun x hx => (sl9 x hx).1) W (n2.below hb),
     on_below fun W hb => bytesN_any l ad c (by omega) (fun x hx => by have := sl x hx; omega) W (q1.below hb),
     on_below fun W hb => rbytesN_any l a2 c2 (by omega) (fun x hx => by have := sl x hx; omega) W (n2.below hb),
     on_below fun W hb => sameT (sameN_any l m ad am c cm W (q1.below hb) (q2.below hb) (by omega)) decide_eq_true_iff,
     on_below fun W hb => sameT (rsameN_any l m a2 a3 c2 c3 W (n2.below hb) (n3.below hb) (by omega)) decide_eq_true_iff,
     on_below fun W hb => sameT (sameN_any l l ad ad c c W (q1.below hb) (q1.below hb) (by omega)) (by simp)⟩
  have eF : ∀ w, (Op.equalIn 10000 35 (.agg (ndV ((findN l p).getD nd0)).toArray) (.agg (ndV ((findN l p).getD nd0)).toArray)).run Tryz.prog w = .ok true w := fun w => by
    rw [ndV_arr, eq_rn w 9998, (eqNB_iff _ _).2 rfl]
  have zp := str_size p
  have hone := Lib.hid (ndA_one ((findN l p).getD nd0))
  generalize decide (l = m) = DD at *
  generalize checkT l = CT at *
  generalize bytesN l = BT at *
  generalize (put16 l).2 = PE at *
  generalize str (put16 l).1 = PS at *
  generalize (findN l p).isSome = FO at *
  generalize (findN l p).getD nd0 = FN at *
  generalize str p = SP at *
  generalize l.length = N at *
  generalize m.length = M at *
  generalize p.length = Q at *
  have gq : ¬ (300 : Int) < (Q : Int) := by omega
  clear h1 h2 hgl hgm hgp sl sm sl9 hl hm hlc nl nm
  go_enter Tryz.func3, Tryz.ntmps3
  go_upto_region 3 with (go_at_call 5; first
    | ((with_reducible refine G1.mono ?_); rintro e w1 ⟨rfl, rfl⟩)
    | ((with_reducible refine G2.mono ?_); rintro e w1 ⟨rfl, rfl⟩))
  go_upto_region 4 with (go_at_call 7; first
    | ((with_reducible refine (D1 _ (Below.refl _ _)).mono ?_); rintro e w1 ⟨⟨a2, c2, rfl, n2⟩, hb1⟩)
    | ((with_reducible refine (D2 _ hb1).mono ?_); rintro e w2 ⟨⟨a3, c3, rfl, n3⟩, hb2⟩))
  have HB2 := Lib.hid (hb1.trans (hb2.mono hb1.size))
  have HF2 := Lib.hid (HFAM.out a2 a3 c2 c3 w2 HB2.out (n2.below hb2) n3)
  have HN2 := Lib.hid (n2.below hb2)
  have HN3 := Lib.hid n3
  clear G1 G2 D1 D2 hb1 hb2 n2 n3
  obtain ⟨P1, P2, F1, -⟩ := HF2.out
  go_upto_region 5 with (go_at_call 8; ((with_reducible refine (P1 _ (Below.refl _ _)).mono ?_); rintro e w3 ⟨rfl, hb3⟩))
  go_upto_region 6 with (go_at_call 9; ((with_reducible refine (P2 _ hb3).mono ?_); rintro e w4 ⟨rfl, hb4⟩))
  go_upto_region 7 with (first
    | (go_at_call 10; ((with_reducible refine (F1 _ hb4).mono ?_); rintro e w5 ⟨rfl, hb5⟩))
    | ((with_reducible show wpList _ _ _ (⟨none, .store _ (.tmp 13) _, _, _, _, _⟩ :: _) _ _); refine wpList_store_last rfl 32 _ _ rfl w5.heap.size (ndA FN) rfl rfl 32 _ rfl HI.out rfl hone.out ?_; obtain ⟨W5, hW5⟩ : ∃ W5, W5 = w5.alloc (.cells (ndA FN) 32) := ⟨_, rfl⟩; have HW5 := Lib.hid hW5; clear hW5; rw [← HW5.out])
    | go_in)
  have HB5 : Hid (Below w2.heap.size w2 W5) := Lib.hid (by rw [HW5.out]; exact hb5.alloc hb5.size _)
  have HZ5 : Hid (rowC W5 w5.heap.size (ndA FN) 32) := Lib.hid (by rw [HW5.out]; exact rowC_new w5 _ _)
  have HBW5 := Lib.hid (HB2.out.trans (HB5.out.mono HB2.out.size))
  obtain ⟨-, -, -, F2, -⟩ := HFAM.out a2 a3 c2 c3 W5 HBW5.out (HN2.out.below HB5.out) (HN3.out.below HB5.out)
  generalize w5.heap.size = B5 at *
  clear P1 P2 F1 hb3 hb4 hb5 HW5 HF2
  go_upto_region 8 with (first
    | (go_at_call 11; ((with_reducible refine (F2 _ (Below.refl _ _)).mono ?_); rintro e w6 ⟨rfl, hb6⟩))
    | ((with_reducible show wpList _ _ _ (⟨none, .store _ (.tmp 15) _, _, _, _, _⟩ :: _) _ _); refine wpList_store_last rfl 35 _ _ rfl w6.heap.size (ndA FN) rfl rfl 35 _ rfl HIR.out rfl hone.out ?_; obtain ⟨W6, hW6⟩ : ∃ W6, W6 = w6.alloc (.cells (ndA FN) 35) := ⟨_, rfl⟩; have HW6 := Lib.hid hW6; clear hW6; rw [← HW6.out])
    | go_in)
  have HB6 : Hid (Below W5.heap.size W5 W6) := Lib.hid (by rw [HW6.out]; exact hb6.alloc hb6.size _)
  have HZ6 : Hid (rowC W6 w6.heap.size (ndA FN) 35) := Lib.hid (by rw [HW6.out]; exact rowC_new w6 _ _)
  have HZ5b := Lib.hid (rowC_below HZ5.out HB6.out (rowC_lt HZ5.out))
  have HBW6 := Lib.hid (HBW5.out.trans (HB6.out.mono HBW5.out.size))
  have HQ := Lib.hid (HFAM.out a2 a3 c2 c3 W6 HBW6.out ((HN2.out.below HB5.out).below HB6.out) ((HN3.out.below HB5.out).below HB6.out))
  obtain ⟨-, -, -, -, C5, C6, C7, C8, C9, C10, C11⟩ := HQ.out
  have C12 := laidT W6
  generalize w6.heap.size = B6 at *
  have gd := guard_rn
  have hud := Tryz.underlying35
  clear F2 hb6 HW6 HQ HFAM HN2 HN3 HZ5 HB5 HB6
  go_wp2_with (first
    | (go_at_call 12; ((with_reducible refine (C5 _ (Below.refl _ _)).mono ?_); rintro e v1 ⟨rfl, b1⟩))
    | (go_at_call 13; ((with_reducible refine (C6 _ b1).mono ?_); rintro e v2 ⟨rfl, b2⟩))
    | ((with_reducible show wpList _ _ _ (⟨some 71, .load _ _, _, _, _, _⟩ :: _) _ _); refine wpList_load_at rfl 32 _ rfl ⟨B5, 0, none⟩ rfl (ndV FN) _ (row_cells (rowC_below HZ5b.out b2 (rowC_lt HZ5b.out))) Tryz.underlying32 rfl HI.out ?_)
    | ((with_reducible show wpList _ _ _ (⟨some 72, .load _ _, _, _, _, _⟩ :: _) _ _); refine wpList_load_at rfl 35 _ rfl ⟨B6, 0, none⟩ rfl (ndV FN) _ (row_cells (rowC_below HZ6.out b2 (rowC_lt HZ6.out))) Tryz.underlying35 rfl HIR.out ?_)
    | (go_at_call 14; ((with_reducible refine (C7 _ b2).mono ?_); rintro e v3 ⟨rfl, b3⟩))
    | (go_at_call 15; ((with_reducible refine (C8 _ b3).mono ?_); rintro e v4 ⟨rfl, b4⟩))
    | (go_at_call 16; first
      | ((with_reducible refine (C9 _ b4).mono ?_); rintro e v5 ⟨rfl, b5⟩)
      | ((with_reducible refine (C11 _ b6).mono ?_); rintro e v7 ⟨rfl, b7⟩))
    | (go_at_call 17; ((with_reducible refine (C10 _ b5).mono ?_); rintro e v6 ⟨rfl, b6⟩))
    | (go_at_call 6; ((with_reducible refine (C12 _ b7).mono ?_); rintro e v8 ⟨rfl, b8⟩)))
  go_ret
  exact ⟨rfl, HBW6.out.trans (b8.mono HBW6.out.size)⟩
end Go.Proofs.YtbkpbgcbpakpeaaGreatDoor

/- Layer 16: the program's readNodes. -/
namespace Go.Proofs.YtbkpbgcbpakpeaaGreatDoor
open Go.RowKit
attribute [local go_sem] wide_fn round_fn

/-- So many nodes, one behind the other; the last word: were they cut off? -/
def readN : Nat → List UInt8 → List Nd × List UInt8 × Bool
  | 0, R => ([], R, false)
  | n + 1, R => if rO R false then ([], R, true) else (rX R :: (readN n (rR6 R)).1, (readN n (rR6 R)).2)
def joinN (l : List Nd) (p : List Nd × List UInt8 × Bool) : List Nd × List UInt8 × Bool := (l ++ p.1, p.2)
theorem readN_off {n : Nat} {R : List UInt8} (l : List Nd) (h : rO R false = true) : (joinN l (readN (n + 1) R)).2.2 = true := by
  rw [readN, if_pos h]
  rfl
theorem readN_on {n : Nat} {R : List UInt8} (l : List Nd) (h : rO R false = false) : joinN l (readN (n + 1) R) = joinN (l ++ [rX R]) (readN n (rR6 R)) := by
  rw [readN, if_neg (by rw [h]; decide)]
  unfold joinN
  rw [List.append_assoc]
  rfl
/-- What all nodes read come to: none if they are cut off. -/
def readS (s : List UInt8) : Option (List Nd × List UInt8) :=
  if takeO 2 s false then none else if (readN (getN (takeV 2 s)) (takeR 2 s)).2.2 then none else some ((readN (getN (takeV 2 s)) (takeR 2 s)).1, (readN (getN (takeV 2 s)) (takeR 2 s)).2.1)
theorem rdnode_x (B : Nat) (R : List UInt8) (o : Bool) (w : World) (h : RdrAt w B R o) :
    Calls Tryz.prog 53 #[.pointer (some ⟨B, 0, none⟩)] w fun e w' => e = .returned (.agg #[.string (str (rX R).path), .int .i64 (rX R).kind, .int .i64 (rX R).mode, .string (str (rX R).data)]) ∧ RdrAt w' B (rR6 R) (rO R o) ∧ Chg (fun j => j = B) w w' := by
  have := rdnode_any B R o w h
  simp only [rX]
  exact this
theorem info_rdr : (Tryz.prog.info? 96).map (·.size) = some 2 := by kernel_rfl
/-- Behind a node that is read, and its own copy. -/
theorem rn_after {w wr w3 : World} {R6 : List UInt8} {OO : Bool} {x : Nd} {a : Option Addr} {k c : Nat} {l : List Nd} (hB : Below w.heap.size w wr ∧ w.heap.size + 1 ≤ wr.heap.size) (hO : OwnsN wr (w.heap.size + 1) (.slice a k c) l)
    (r3 : RdrAt w3 w.heap.size R6 OO) (c3 : Chg (fun j => j = w.heap.size) wr w3) :
    ∃ W2, W2 = w3.alloc (.cells (ndA x) 32) ∧ Hid (Below w.heap.size w W2 ∧ w.heap.size + 1 ≤ W2.heap.size) ∧ Hid (RdrAt W2 w.heap.size R6 OO) ∧ W2.cell? ⟨w.heap.size, 1, none⟩ = some (.bool OO) ∧ Hid (rowC W2 w3.heap.size (ndA x) 32) ∧ Hid (OwnsN W2 (w.heap.size + 1) (.slice a k c) l) := by
  have h3 : Below w.heap.size w w3 := hB.1.trans (c3.below hB.1.size (fun q hq e => by
    have e' : q = w.heap.size := e
    omega))
  have hs3 : w.heap.size + 1 ≤ w3.heap.size := Nat.le_trans hB.2 c3.size
  have hr : RdrAt (w3.alloc (.cells (ndA x) 32)) w.heap.size R6 OO := rowC_alloc r3 _
  have ho : OwnsN w3 (w.heap.size + 1) (.slice a k c) l := c3.owns hO (fun q hq e => by
    have e' : q = w.heap.size := e
    have := (World.ownsRow.lt hO q hq).1
    omega)
  exact ⟨_, rfl, Lib.hid ⟨h3.alloc h3.size _, by rw [size_alloc]; omega⟩, Lib.hid hr, rowC_cell hr 1, Lib.hid (rowC_new w3 _ _), Lib.hid (World.ownsRow.alloc (show w3.ownsRow _ _ _ _ _ _ from ho) _)⟩
set_option maxRecDepth 100000 in
set_option maxHeartbeats 8000000 in
theorem readNodes_any (s : List UInt8) (w : World) :
    Calls Tryz.prog 34 #[.string (str s)] w fun e w' => ((∃ l R a c, readS s = some (l, R) ∧ e = .returned (.tuple #[.slice a l.length c, .bool true]) ∧ l.length ≤ c ∧ NodesAt w' a l ∧ l.length = getN (takeV 2 s) ∧ l.length < 65536 ∧ ∀ x ∈ l, x.path.length ≤ s.length ∧ x.data.length ≤ s.length) ∨ ∃ v, readS s = none ∧ e = .returned (.tuple #[v, .bool false])) ∧ Below w.heap.size w w' := by
  have HI := Lib.hid info_nd4
  have HIR := Lib.hid info_rdr
  obtain ⟨i0, hi, hz0, hz1, hz2⟩ := info_parts info_nd
  obtain ⟨W0, hW0⟩ : ∃ W0, W0 = w.alloc (.cells #[.string (str s), .bool false] 96) := ⟨_, rfl⟩
  have HW0 := Lib.hid hW0
  have HR0 : Hid (RdrAt W0 w.heap.size s false) := Lib.hid (by rw [hW0]; exact rowC_new w _ _)
  have HB0 : Hid (Below w.heap.size w W0 ∧ w.heap.size + 1 ≤ W0.heap.size) := Lib.hid (by rw [hW0]; exact ⟨(Below.refl _ _).alloc (Nat.le_refl _) _, by rw [size_alloc]; exact Nat.le_refl _⟩)
  have hone : Hid ((#[.string (str s), .bool false] : Array Value).all (·.oneCell') = true) := Lib.hid (by simp [Value.oneCell'])
  have CN := rdn2 w.heap.size s false W0 HR0.out
  have hG := getN_small (takeV_le 2 s) (by decide)
  have HG2 : Hid (getN (takeV 2 s) < 65536) := Lib.hid (by
    have h1 := getK_lt (takeV 2 s) (min (takeV 2 s).length 8)
    have h2 : 256 ^ (min (takeV 2 s).length 8) ≤ 256 ^ 2 := Nat.pow_le_pow_right (by omega) (by have := takeV_le 2 s; omega)
    unfold getN
    exact Nat.lt_of_lt_of_le h1 (by simpa using h2))
  have HS : Hid (readS s = if takeO 2 s false then none else if (readN (getN (takeV 2 s)) (takeR 2 s)).2.2 then none else some ((readN (getN (takeV 2 s)) (takeR 2 s)).1, (readN (getN (takeV 2 s)) (takeR 2 s)).2.1)) := Lib.hid rfl
  have HTL := Lib.hid (takeR_len 2 s)
  have HOZ : Hid (takeO 2 s false = true → getN (takeV 2 s) = 0) := Lib.hid fun h => by
    unfold takeO at h
    rw [Bool.or_false, decide_eq_true_eq] at h
    unfold takeV
    rw [if_pos h]
    rfl
  generalize getN (takeV 2 s) = N at *
  generalize takeR 2 s = R0 at *
  generalize takeO 2 s false = O0 at *
  have hN := HG2.out
  clear hW0 hG
  go_enter Tryz.func34, Tryz.ntmps34
  go_upto_region 3 with (first
    | ((with_reducible show wpList _ _ _ (⟨none, .store _ (.tmp 4) _, _, _, _, _⟩ :: _) _ _); refine wpList_store_last rfl 96 _ _ rfl w.heap.size #[.string (str s), .bool false] rfl rfl 96 _ rfl HIR.out rfl hone.out ?_; rw [← HW0.out])
    | (go_at_call 52; ((with_reducible refine CN.mono ?_); rintro e w1 ⟨rfl, r1, c1⟩))
    | go_in)
  have HR1 := Lib.hid r1
  have HB1 : Hid (Below w.heap.size w w1 ∧ w.heap.size + 1 ≤ w1.heap.size) := Lib.hid ⟨HB0.out.1.trans (c1.below (by have := HB0.out.2; omega) (fun k hk e => by omega)), Nat.le_trans HB0.out.2 c1.size⟩
  clear r1 c1 CN HW0 HR0 HB0
  go_loopw [2, 5, 9] (fun v _ i wr => ∃ (l : List Nd) (R : List UInt8) (a : Option Addr) (c k : Nat), k ≤ N ∧ l.length = k ∧ i = .int .i64 (k : Int) ∧ v = .slice a k c ∧ Hid (OwnsN wr (w.heap.size + 1) (.slice a k c) l) ∧ Hid (RdrAt wr w.heap.size R (O0 && true)) ∧ Hid (Below w.heap.size w wr ∧ w.heap.size + 1 ≤ wr.heap.size) ∧ Hid ((O0 = true → k = N) ∧ readN N R0 = joinN l (readN (N - k) R)) ∧ Hid (R.length ≤ s.length) ∧ Hid (∀ x ∈ l, x.path.length ≤ s.length ∧ x.data.length ≤ s.length)) (fun _ _ i _ => N - (intOf i).toNat)
  case atStart => exact ⟨[], R0, none, 0, 0, Nat.zero_le _, rfl, rfl, rfl, Lib.hid (owns_noneN _ _), Lib.hid (by rw [Bool.and_true]; exact HR1.out), HB1, Lib.hid ⟨fun h => (HOZ.out h).symm, by unfold joinN; rw [Nat.sub_zero]; rfl⟩, HTL, Lib.hid (fun x hx => by cases hx)⟩
  case round =>
    obtain ⟨l, R, a, c, k, hk, hlk, rfl, rfl, hO, hR, hB, hJ, hRL, hX⟩ := hrel
    rw [Bool.and_true] at hR
    by_cases hlt : k < N
    · obtain rfl : O0 = false := by
        cases O0
        · rfl
        · have := hJ.out.1 rfl
          omega
      have g1 : (k : Int) < (N : Int) := by omega
      have CD := rdnode_x w.heap.size R false wr hR.out
      have HON := Lib.hid (fun (h : rO R false = false) => readN_on (n := N - (k + 1)) l h)
      have HOF := Lib.hid (fun (h : rO R false = true) => readN_off (n := N - (k + 1)) l h)
      have HXL := Lib.hid (rX_len R)
      have HRL6 := Lib.hid (rR6_len R)
      rw [show N - (k + 1) + 1 = N - k by omega] at HON HOF
      generalize rX R = x at *
      generalize rO R false = OO at *
      generalize rR6 R = R6 at *
      have HONE := Lib.hid (ndA_one x)
      cases OO
      · have HNX := Lib.hid (hJ.out.2.trans (HON.out rfl))
        clear HON HOF
        go_upto_region 7 with (first
        | (go_at_call 53; ((with_reducible refine CD.mono ?_); rintro e w3 ⟨rfl, r3, c3⟩; obtain ⟨W2, hW2, HB2, HR2, b1, HZ2, HO2⟩ := rn_after (x := x) hB.out hO.out r3 c3; have HW2 := Lib.hid hW2; clear r3 c3 hW2))
        | ((with_reducible show wpList _ _ _ (⟨none, .store _ (.tmp 5) _, _, _, _, _⟩ :: _) _ _); refine wpList_store_last rfl 32 _ _ rfl w3.heap.size (ndA x) rfl rfl 32 _ rfl HI.out rfl HONE.out ?_; rw [← HW2.out])
          | go_in)
        have HO4 : Hid ((W2.alloc (.cells (ndA x) 32)).ownsRow (w.heap.size + 1) 32 4 (.slice a k c) k (rowN l)) := Lib.hid (by
          have h2 := World.ownsRow.alloc (show W2.ownsRow _ _ _ _ _ _ from HO2.out) (.cells (ndA x) 32)
          rwa [hlk] at h2)
        have HNEW : Hid (∀ j u, (ndV x)[j]? = some u → (W2.alloc (.cells (ndA x) 32)).cell? ((⟨W2.heap.size, 0, none⟩ : Addr).add j) = some u) := Lib.hid (row_cells (rowC_new W2 (ndA x) 32))
        have HBA : Hid (Below w.heap.size w (W2.alloc (.cells (ndA x) 32)) ∧ w.heap.size + 1 ≤ (W2.alloc (.cells (ndA x) 32)).heap.size) := Lib.hid ⟨HB2.out.1.alloc HB2.out.1.size _, by rw [size_alloc]; have := HB2.out.2; omega⟩
        clear b1 HW2 HO2
        go_wp2_with (first
          | ((with_reducible show wpList _ _ _ (⟨some 15, .load _ (.tmp 5), _, _, _, _⟩ :: _) _ _); refine wpList_load_row rfl 32 _ rfl w3.heap.size rfl 32 (ndA x) (0, 0) _ HZ2.out Tryz.underlying32 rfl HI.out ?_)
          | ((with_reducible show wpList _ _ _ (⟨some 16, .buildSlice _ _ _, _, _, _, _⟩ :: _) _ _); refine wpList_oneR rfl 22 32 4 _ rfl (ndA x) rfl i0 _ Tryz.underlying22 hi hz0 hz1 rfl (by decide) (by decide) ?_)
          | ((with_reducible show wpList _ _ _ (⟨some 17, .call _, _, _, _, _⟩ :: _) _ _); refine wpList_append_lies _ rfl _ _ 22 rfl (w.heap.size + 1) 32 i0 _ 4 48 Tryz.underlying22 hi hz0 hz1 hz2 rfl (by decide) (.slice a k c) k (rowN l) rfl HO4.out ⟨W2.heap.size, 0, none⟩ 1 1 (ndV x) rfl rfl HNEW.out (ndV_one _) (by decide) (by unfold maxLen; omega) (by omega) HBA.out.2 _ rfl ?_; intro g5 c5 w5 ho5 hg5 _ _)
          | go_in)
        have hown5 := World.ownsRow.lt HO4.out
        have HBF : Hid (Below w.heap.size w w5 ∧ w.heap.size + 1 ≤ w5.heap.size) := Lib.hid ⟨HBA.out.1.grown hg5 HBA.out.1.size (fun j hj => by have := (hown5 j hj).1; omega), Nat.le_trans HBA.out.2 hg5.size⟩
        have HOF5 : Hid (OwnsN w5 (w.heap.size + 1) (.slice (some ⟨g5, 0, none⟩) (k + 1) c5) (l ++ [x])) := Lib.hid (by
          show w5.ownsRow _ _ _ _ _ _
          rw [List.length_append, rowN_app, hlk]
          have e : rowN [x] = ndV x := by simp [rowN]
          rw [e]
          exact ho5)
        have HR5 : Hid (RdrAt w5 w.heap.size R6 (false && true)) := Lib.hid (by
          have h1 : RdrAt (W2.alloc (.cells (ndA x) 32)) w.heap.size R6 false := rowC_alloc HR2.out _
          exact ((Chg.refl (fun q => q ≠ w.heap.size) _).grown hg5 (fun q hq => .inl (by have := (hown5 q hq).1; show q ≠ w.heap.size; omega))).rowC h1 (fun h => h rfl))
        have HJ5 : Hid ((false = true → k + 1 = N) ∧ readN N R0 = joinN (l ++ [x]) (readN (N - (k + 1)) R6)) := Lib.hid ⟨fun h => absurd h (by decide), HNX.out⟩
        have HX5 : Hid (∀ y ∈ l ++ [x], y.path.length ≤ s.length ∧ y.data.length ≤ s.length) := Lib.hid fun y hy => by
          rw [List.mem_append, List.mem_singleton] at hy
          rcases hy with hy | rfl
          · exact hX.out y hy
          · have := HXL.out; have := hRL.out; omega
        have HL5 : Hid (R6.length ≤ s.length) := Lib.hid (by have := HRL6.out; have := hRL.out; omega)
        clear ho5 hg5
        go_roundw
        case rel => exact ⟨l ++ [x], R6, _, c5, k + 1, by omega, by rw [List.length_append, hlk]; rfl, by go_num, rfl, HOF5, HR5, HBF, HJ5, HL5, HX5⟩
        case measure => simp [intOf] <;> omega
      · have HNO : Hid (readS s = none) := Lib.hid (by
          rw [HS.out, if_neg (by decide), if_pos]
          rw [hJ.out.2]
          exact HOF.out rfl)
        clear HON HOF
        go_wp2_with (first
        | (go_at_call 53; ((with_reducible refine CD.mono ?_); rintro e w3 ⟨rfl, r3, c3⟩; obtain ⟨W2, hW2, HB2, HR2, b1, HZ2, HO2⟩ := rn_after (x := x) hB.out hO.out r3 c3; have HW2 := Lib.hid hW2; clear r3 c3 hW2))
        | ((with_reducible show wpList _ _ _ (⟨none, .store _ (.tmp 5) _, _, _, _, _⟩ :: _) _ _); refine wpList_store_last rfl 32 _ _ rfl w3.heap.size (ndA x) rfl rfl 32 _ rfl HI.out rfl HONE.out ?_; rw [← HW2.out])
          | go_in)
        go_ret2
        exact ⟨.inr ⟨_, HNO.out, rfl⟩, HB2.out.1⟩
    · obtain rfl : k = N := by omega
      have HCAP := Lib.hid (owns_cap hO.out)
      have HNA := Lib.hid hO.out.nodes
      rw [Nat.sub_self] at hJ
      have bY := fun y : AftW wr => (show y.v.cell? ⟨w.heap.size, 1, none⟩ = some (.bool O0) from rowC_cell (rowC_below hR.out y.h (rowC_lt hR.out)) 1)
      go_upto_region 9 with (fail)
      refine (wpIn_wide (n := 4)).1 ?_
      refine region_quiet (C := fun w' => ∃ y : AftW wr, w' = y.v) (by kernel_rfl) (by kernel_rfl) (by kernel_rfl) ⟨⟨wr.drew, (Below.refl _ _).drew⟩, rfl⟩ ?_
      iterate 6 (gi_big_quiet_step (fail))
      refine wpQuietIn_nil ?_
      rintro _ ⟨y, rfl⟩
      have HBY := Lib.hid (hB.out.1.trans (y.h.mono hB.out.1.size))
      have HNY := Lib.hid (HNA.out.below y.h)
      clear bY
      cases O0
      · have HR : Hid (readS s = some (l, R)) := Lib.hid (by
          rw [HS.out, if_neg (by decide), hJ.out.2]
          simp [joinN, readN])
        generalize y.v = w9 at *
        gi_wp2
        go_wp2
        go_ret2
        exact ⟨.inl ⟨l, R, a, c, HR.out, by rw [hlk]; rfl, HCAP.out, HNY.out, hlk, by rw [hlk]; exact HG2.out, hX.out⟩, HBY.out⟩
      · have HR : Hid (readS s = none) := Lib.hid (by rw [HS.out, if_pos (by decide)])
        generalize y.v = w9 at *
        gi_wp2
        go_wp2
        go_ret2
        exact ⟨.inr ⟨_, HR.out, rfl⟩, HBY.out⟩
end Go.Proofs.YtbkpbgcbpakpeaaGreatDoor

