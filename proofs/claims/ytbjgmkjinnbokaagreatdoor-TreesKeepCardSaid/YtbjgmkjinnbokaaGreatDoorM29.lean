/- Merged: UvJ, UvQ. -/
import Derived.Test.YtbjgmkjinnbokaaGreatDoorM27
import Derived.Test.YtbjgmkjinnbokaaGreatDoorM28
import Derived.Test.YtbjgmkjinnbokaaGreatDoorM26
/- Layer 16: the program's putNode. -/
namespace Go.Proofs.YtbjgmkjinnbokaaGreatDoor
open Go.RowKit
attribute [local go_sem] wide_fn round_fn

/-- A node's bytes. -/
def nodeW (x : Nd) : List UInt8 := putL x.kind.toNat 1 ++ (putL x.mode.toNat 2 ++ (putL x.path.length 1 ++ (x.path ++ (putL x.data.length 4 ++ x.data))))
theorem nodeW_len (x : Nd) : (nodeW x).length = 8 + x.path.length + x.data.length := by
  unfold nodeW
  simp only [List.length_append, putL_length]
  omega
/-- In the midst of putNode: the builder's bytes; the node's own copy. -/
structure NdS (w : World) (B b : Nat) (x : Nd) (l : List UInt8) (W : World) : Prop where
  bd : BdS w B b l W
  row : rowC W w.heap.size (ndA x) 41
  big : B ≤ W.heap.size
  off : b < w.heap.size
theorem NdS.step {w W W' : World} {B b : Nat} {x : Nd} {l l' : List UInt8} (h : NdS w B b x l W) (s : BdS W B b l' W') : NdS w B b x l' W' :=
  ⟨h.bd.trans s, s.row h.row (by have := h.off; omega) (by decide), Nat.le_trans h.big s.size, h.off⟩
theorem pn1 (B b : Nat) (l : List UInt8) (n : Nat) (hn : n < 9223372036854775808) (hl : l.length ≤ 1000000000000) (w : World) (hB : B ≤ w.heap.size) (h : BdAt w B b l) :
    Calls Tryz.prog 17 #[.pointer (some ⟨b, 0, none⟩), .int .i64 (n : Int), .int .i64 1] w fun e w' => e = .returned (.tuple #[]) ∧ BdS w B b (l ++ putL n 1) w' :=
  putNumber_any B b l n 1 hn (by decide) (by decide) hl w hB h
theorem pn2 (B b : Nat) (l : List UInt8) (n : Nat) (hn : n < 9223372036854775808) (hl : l.length ≤ 1000000000000) (w : World) (hB : B ≤ w.heap.size) (h : BdAt w B b l) :
    Calls Tryz.prog 17 #[.pointer (some ⟨b, 0, none⟩), .int .i64 (n : Int), .int .i64 2] w fun e w' => e = .returned (.tuple #[]) ∧ BdS w B b (l ++ putL n 2) w' :=
  putNumber_any B b l n 2 hn (by decide) (by decide) hl w hB h
theorem pn4 (B b : Nat) (l : List UInt8) (n : Nat) (hn : n < 9223372036854775808) (hl : l.length ≤ 1000000000000) (w : World) (hB : B ≤ w.heap.size) (h : BdAt w B b l) :
    Calls Tryz.prog 17 #[.pointer (some ⟨b, 0, none⟩), .int .i64 (n : Int), .int .i64 4] w fun e w' => e = .returned (.tuple #[]) ∧ BdS w B b (l ++ putL n 4) w' :=
  putNumber_any B b l n 4 hn (by decide) (by decide) hl w hB h
set_option maxRecDepth 100000 in
set_option maxHeartbeats 8000000 in
theorem putNode_any (B b : Nat) (l : List UInt8) (x : Nd) (hk : 0 ≤ x.kind ∧ x.kind ≤ 1000000) (hm : 0 ≤ x.mode ∧ x.mode ≤ 1000000) (hp : x.path.length ≤ 1000000) (hd : x.data.length ≤ 1000000) (hl : l.length ≤ 1000000) (w : World) (hB : B ≤ w.heap.size) (h : BdAt w B b l) :
    Calls Tryz.prog 18 #[.pointer (some ⟨b, 0, none⟩), .agg #[.string (str x.path), .int .i64 x.kind, .int .i64 x.mode, .string (str x.data)]] w fun e w' => e = .returned (.tuple #[]) ∧ BdS w B b (l ++ nodeW x) w' := by
  obtain ⟨K, hK⟩ : ∃ K : Nat, x.kind = K := ⟨x.kind.toNat, by omega⟩
  obtain ⟨M, hM⟩ : ∃ M : Nat, x.mode = M := ⟨x.mode.toNat, by omega⟩
  have HW : Hid (nodeW x = putL K 1 ++ (putL M 2 ++ (putL x.path.length 1 ++ (x.path ++ (putL x.data.length 4 ++ x.data))))) := Lib.hid (by unfold nodeW; rw [hK, hM, Int.toNat_natCast, Int.toNat_natCast])
  have H0 : Hid (NdS w B b x l (w.alloc (.cells #[.string (str x.path), .int .i64 x.kind, .int .i64 x.mode, .string (str x.data)] 41))) := Lib.hid ⟨(BdS.start h).below hB ((Below.refl _ _).alloc (Nat.le_refl _) _), rowC_new w _ _, by rw [size_alloc]; omega, h.lt.2⟩
  have zp := str_size x.path
  have zd := str_size x.data
  have hk1 : K ≤ 1000000 := by omega
  have hm1 : M ≤ 1000000 := by omega
  have c1 : (w.alloc (.cells #[.string (str x.path), .int .i64 x.kind, .int .i64 x.mode, .string (str x.data)] 41)).cell? ⟨w.heap.size, 1, none⟩ = some (.int .i64 (K : Int)) := by rw [← hK]; exact rowC_cell H0.out.row 1
  have HC2 : Hid (∀ l' W, NdS w B b x l' W → W.cell? ⟨w.heap.size, 2, none⟩ = some (.int .i64 (M : Int))) := Lib.hid fun l' W h => by rw [← hM]; exact rowC_cell h.row 2
  have HC0 : Hid (∀ l' W, NdS w B b x l' W → W.cell? ⟨w.heap.size, 0, none⟩ = some (.string (str x.path))) := Lib.hid fun l' W h => rowC_cell h.row 0
  have HC3 : Hid (∀ l' W, NdS w B b x l' W → W.cell? ⟨w.heap.size, 3, none⟩ = some (.string (str x.data))) := Lib.hid fun l' W h => rowC_cell h.row 3
  have HL := Lib.hid hl
  clear hK hM hk hm h hl
  go_enter Tryz.func18, Tryz.ntmps18
  go_upto_region 2 with (go_at_call 17; ((with_reducible refine (pn1 B b l K (by omega) (by have := HL.out; omega) _ H0.out.big H0.out.bd.pr).mono ?_); rintro e W1 ⟨rfl, s1⟩; have H1 := Lib.hid (H0.out.step s1)))
  clear s1 c1 H0
  have c2 := HC2.out _ _ H1.out
  have HL1 := Lib.hid (show (l ++ putL K 1).length ≤ 1000100 by rw [List.length_append, putL_length]; have := HL.out; omega)
  go_upto_region 3 with (go_at_call 17; ((with_reducible refine (pn2 B b (l ++ putL K 1) M (by omega) (by have := HL1.out; omega) _ H1.out.big H1.out.bd.pr).mono ?_); rintro e W2 ⟨rfl, s2⟩; have H2 := Lib.hid (H1.out.step s2)))
  clear s2 c2 H1
  have c3 := HC0.out _ _ H2.out
  have HL2 := Lib.hid (show (l ++ putL K 1 ++ putL M 2).length ≤ 1000200 by rw [List.length_append, putL_length]; have := HL1.out; omega)
  go_upto_region 4 with (go_at_call 17; ((with_reducible refine (pn1 B b (l ++ putL K 1 ++ putL M 2) x.path.length (by omega) (by have := HL2.out; omega) _ H2.out.big H2.out.bd.pr).mono ?_); rintro e W3 ⟨rfl, s3⟩; have H3 := Lib.hid (H2.out.step s3)))
  clear s3 c3 H2
  have c4 := HC0.out _ _ H3.out
  have HL3 := Lib.hid (show (l ++ putL K 1 ++ putL M 2 ++ putL x.path.length 1).length ≤ 1000300 by rw [List.length_append, putL_length]; have := HL2.out; omega)
  go_upto_region 5 with (go_at_call 31; ((with_reducible refine (write_any x.path H3.out.bd.pr H3.out.big (by have := HL3.out; omega)).mono ?_); rintro e W4 ⟨rfl, s4⟩; have H4 := Lib.hid (H3.out.step s4)))
  clear s4 c4 H3
  have c5 := HC3.out _ _ H4.out
  have HL4 := Lib.hid (show (l ++ putL K 1 ++ putL M 2 ++ putL x.path.length 1 ++ x.path).length ≤ 3000300 by rw [List.length_append]; have := HL3.out; omega)
  go_upto_region 6 with (go_at_call 17; ((with_reducible refine (pn4 B b (l ++ putL K 1 ++ putL M 2 ++ putL x.path.length 1 ++ x.path) x.data.length (by omega) (by have := HL4.out; omega) _ H4.out.big H4.out.bd.pr).mono ?_); rintro e W5 ⟨rfl, s5⟩; have H5 := Lib.hid (H4.out.step s5)))
  clear s5 c5 H4
  have c6 := HC3.out _ _ H5.out
  have HL5 := Lib.hid (show (l ++ putL K 1 ++ putL M 2 ++ putL x.path.length 1 ++ x.path ++ putL x.data.length 4).length ≤ 3000400 by rw [List.length_append, putL_length]; have := HL4.out; omega)
  go_wp2_with (go_at_call 31; ((with_reducible refine (write_any x.data H5.out.bd.pr H5.out.big (by have := HL5.out; omega)).mono ?_); rintro e W6 ⟨rfl, s6⟩; have H6 := Lib.hid (H5.out.step s6)))
  go_end0
  refine ⟨rfl, ?_⟩
  have := H6.out.bd
  rw [HW.out]
  simpa [List.append_assoc] using this
end Go.Proofs.YtbjgmkjinnbokaaGreatDoor

/- Layer 16: the program's reader of a tree's bytes: a node. -/
namespace Go.Proofs.YtbjgmkjinnbokaaGreatDoor
open Go.RowKit

abbrev rR1 (R : List UInt8) : List UInt8 := takeR 1 R
abbrev rR2 (R : List UInt8) : List UInt8 := takeR 2 (rR1 R)
abbrev rL (R : List UInt8) : Nat := getN (takeV 1 (rR2 R))
abbrev rR3 (R : List UInt8) : List UInt8 := takeR 1 (rR2 R)
abbrev rR4 (R : List UInt8) : List UInt8 := takeR (rL R) (rR3 R)
abbrev rD (R : List UInt8) : Nat := getN (takeV 4 (rR4 R))
abbrev rR5 (R : List UInt8) : List UInt8 := takeR 4 (rR4 R)
abbrev rR6 (R : List UInt8) : List UInt8 := takeR (rD R) (rR5 R)
def rO (R : List UInt8) (o : Bool) : Bool := takeO (rD R) (rR5 R) (takeO 4 (rR4 R) (takeO (rL R) (rR3 R) (takeO 1 (rR2 R) (takeO 2 (rR1 R) (takeO 1 R o)))))
def rX (R : List UInt8) : Nd := ⟨takeV (rL R) (rR3 R), (getN (takeV 1 R) : Nat), (getN (takeV 2 (rR1 R)) : Nat), takeV (rD R) (rR5 R)⟩
theorem rR6_len (R : List UInt8) : (rR6 R).length ≤ R.length := by
  have h6 : (rR6 R).length ≤ (rR5 R).length := takeR_len (rD R) (rR5 R)
  have h5 : (rR5 R).length ≤ (rR4 R).length := takeR_len (4) (rR4 R)
  have h4 : (rR4 R).length ≤ (rR3 R).length := takeR_len (rL R) (rR3 R)
  have h3 : (rR3 R).length ≤ (rR2 R).length := takeR_len (1) (rR2 R)
  have h2 : (rR2 R).length ≤ (rR1 R).length := takeR_len (2) (rR1 R)
  have h1 : (rR1 R).length ≤ R.length := takeR_len (1) (R)
  omega
theorem rX_path (R : List UInt8) : (rX R).path = takeV (rL R) (rR3 R) := by simp only [rX]
theorem rX_data (R : List UInt8) : (rX R).data = takeV (rD R) (rR5 R) := by simp only [rX]
theorem rX_len (R : List UInt8) : (rX R).path.length ≤ R.length ∧ (rX R).data.length ≤ R.length := by
  rw [rX_path, rX_data]
  have h6 := takeV_len (rD R) (rR5 R)
  have h5 := takeR_len 4 (rR4 R)
  have h4 := takeR_len (rL R) (rR3 R)
  have h4' := takeV_len (rL R) (rR3 R)
  have h3 := takeR_len 1 (rR2 R)
  have h2 := takeR_len 2 (rR1 R)
  have h1 := takeR_len 1 R
  generalize (takeV (rD R) (rR5 R)).length = a6 at *
  generalize (takeV (rL R) (rR3 R)).length = a4 at *
  simp only [rR1, rR2, rR3, rR4, rR5] at *
  omega
theorem rdn1 (B : Nat) (R : List UInt8) (o : Bool) (w : World) (h : RdrAt w B R o) :
    Calls Tryz.prog 33 #[.pointer (some ⟨B, 0, none⟩), .int .i64 1] w fun e w' => e = .returned (.int .i64 (getN (takeV 1 R) : Nat)) ∧ RdrAt w' B (takeR 1 R) (takeO 1 R o) ∧ Chg (fun j => j = B) w w' :=
  rdnum_any B R o 1 (by decide) w h
theorem rdn2 (B : Nat) (R : List UInt8) (o : Bool) (w : World) (h : RdrAt w B R o) :
    Calls Tryz.prog 33 #[.pointer (some ⟨B, 0, none⟩), .int .i64 2] w fun e w' => e = .returned (.int .i64 (getN (takeV 2 R) : Nat)) ∧ RdrAt w' B (takeR 2 R) (takeO 2 R o) ∧ Chg (fun j => j = B) w w' :=
  rdnum_any B R o 2 (by decide) w h
theorem rdn4 (B : Nat) (R : List UInt8) (o : Bool) (w : World) (h : RdrAt w B R o) :
    Calls Tryz.prog 33 #[.pointer (some ⟨B, 0, none⟩), .int .i64 4] w fun e w' => e = .returned (.int .i64 (getN (takeV 4 R) : Nat)) ∧ RdrAt w' B (takeR 4 R) (takeO 4 R o) ∧ Chg (fun j => j = B) w w' :=
  rdnum_any B R o 4 (by decide) w h
/-- In the midst of reading a node: the reader, and the row that is made. -/
structure RdN (w : World) (B B2 : Nat) (R : List UInt8) (o : Bool) (W : World) : Prop where
  rd : RdrAt W B R o
  chg : Chg (fun j => j = B) w W
  row : rowC W B2 #[.string ⟨#[]⟩, .int .i64 0, .int .i64 0, .string ⟨#[]⟩] 41
  ne : B2 ≠ B
theorem RdN.step {w W W' : World} {B B2 : Nat} {R R' : List UInt8} {o o' : Bool} (h : RdN w B B2 R o W) (hr : RdrAt W' B R' o') (hc : Chg (fun j => j = B) W W') : RdN w B B2 R' o' W' :=
  ⟨hr, h.chg.trans hc (fun _ _ e => e), hc.rowC h.row h.ne, h.ne⟩
set_option maxRecDepth 100000 in
set_option maxHeartbeats 8000000 in
theorem rdnode_aux (B : Nat) {R R1 R2 R3 R4 R5 R6 P D : List UInt8} {o o1 o2 o3 o4 o5 o6 : Bool} {K M L N : Nat} (w : World) (h : RdrAt w B R o)
    (C1 : ∀ W, RdrAt W B R o → Calls Tryz.prog 33 #[.pointer (some ⟨B, 0, none⟩), .int .i64 1] W fun e w' => e = .returned (.int .i64 (K : Int)) ∧ RdrAt w' B R1 o1 ∧ Chg (fun j => j = B) W w')
    (C2 : ∀ W, RdrAt W B R1 o1 → Calls Tryz.prog 33 #[.pointer (some ⟨B, 0, none⟩), .int .i64 2] W fun e w' => e = .returned (.int .i64 (M : Int)) ∧ RdrAt w' B R2 o2 ∧ Chg (fun j => j = B) W w')
    (C3 : ∀ W, RdrAt W B R2 o2 → Calls Tryz.prog 33 #[.pointer (some ⟨B, 0, none⟩), .int .i64 1] W fun e w' => e = .returned (.int .i64 (L : Int)) ∧ RdrAt w' B R3 o3 ∧ Chg (fun j => j = B) W w')
    (C4 : ∀ W, RdrAt W B R3 o3 → Calls Tryz.prog 52 #[.pointer (some ⟨B, 0, none⟩), .int .i64 (L : Int)] W fun e w' => e = .returned (.string (str P)) ∧ RdrAt w' B R4 o4 ∧ Chg (fun j => j = B) W w')
    (C5 : ∀ W, RdrAt W B R4 o4 → Calls Tryz.prog 33 #[.pointer (some ⟨B, 0, none⟩), .int .i64 4] W fun e w' => e = .returned (.int .i64 (N : Int)) ∧ RdrAt w' B R5 o5 ∧ Chg (fun j => j = B) W w')
    (C6 : ∀ W, RdrAt W B R5 o5 → Calls Tryz.prog 52 #[.pointer (some ⟨B, 0, none⟩), .int .i64 (N : Int)] W fun e w' => e = .returned (.string (str D)) ∧ RdrAt w' B R6 o6 ∧ Chg (fun j => j = B) W w') :
    Calls Tryz.prog 34 #[.pointer (some ⟨B, 0, none⟩)] w fun e w' => e = .returned (.agg #[.string (str P), .int .i64 (K : Int), .int .i64 (M : Int), .string (str D)]) ∧ RdrAt w' B R6 o6 ∧ Chg (fun j => j = B) w w' := by
  have HI := Lib.hid info_nd4
  have hBw : B < w.heap.size := rowC_lt h
  obtain ⟨W0, hW0⟩ : ∃ W0, W0 = w.alloc (.cells #[.string ⟨#[]⟩, .int .i64 0, .int .i64 0, .string ⟨#[]⟩] 41) := ⟨_, rfl⟩
  have HW0 := Lib.hid hW0
  have H0 : Hid (RdN w B w.heap.size R o W0) := Lib.hid (by rw [hW0]; exact ⟨rowC_alloc h _, (Chg.refl _ _).alloc _, rowC_new _ _ _, by omega⟩)
  have hone : Hid ((#[.string (str P), .int .i64 (K : Int), .int .i64 (M : Int), .string (str D)] : Array Value).all (·.oneCell') = true) := Lib.hid (ndA_one ⟨P, K, M, D⟩)
  clear h hW0
  go_enter Tryz.func34, Tryz.ntmps34
  go_upto_region 1 with (fail)
  rw [← HW0.out]
  go_wp2_with (first
    | (go_at_call 33; first
      | ((with_reducible refine (C5 _ H4.out.rd).mono ?_); rintro e w5 ⟨rfl, r5, c5⟩; have H5 := Lib.hid (H4.out.step r5 c5); clear r5 c5)
      | ((with_reducible refine (C3 _ H2.out.rd).mono ?_); rintro e w3 ⟨rfl, r3, c3⟩; have H3 := Lib.hid (H2.out.step r3 c3); clear r3 c3)
      | ((with_reducible refine (C2 _ H1.out.rd).mono ?_); rintro e w2 ⟨rfl, r2, c2⟩; have H2 := Lib.hid (H1.out.step r2 c2); clear r2 c2)
      | ((with_reducible refine (C1 _ H0.out.rd).mono ?_); rintro e w1 ⟨rfl, r1, c1⟩; have H1 := Lib.hid (H0.out.step r1 c1); clear r1 c1))
    | (go_at_call 52; first
      | ((with_reducible refine (C6 _ H5.out.rd).mono ?_); rintro e w6 ⟨rfl, r6, c6⟩; have H6 := Lib.hid (H5.out.step r6 c6); clear r6 c6)
      | ((with_reducible refine (C4 _ H3.out.rd).mono ?_); rintro e w4 ⟨rfl, r4, c4⟩; have H4 := Lib.hid (H3.out.step r4 c4); clear r4 c4))
    | ((with_reducible show wpList _ _ _ (⟨none, .store _ (.tmp 2) _, _, _, _, _⟩ :: _) _ _); refine wpList_store_row rfl 41 _ _ rfl w.heap.size #[.string (str P), .int .i64 (K : Int), .int .i64 (M : Int), .string (str D)] rfl rfl 41 _ H6.out.row HI.out rfl hone.out ?_)
    | go_in)
  refine bodyPost_ret (results_cell_row rfl _ _ w.heap.size 41 #[.string (str P), .int .i64 (K : Int), .int .i64 (M : Int), .string (str D)] (0, 0) _ rfl (rowC_setRow H6.out.row _) Tryz.underlying41 rfl HI.out) rfl ?_
  exact ⟨rfl, rowC_setRow_other H6.out.rd _ _ (Ne.symm H6.out.ne), H6.out.chg.setRow _ _ (.inr (Nat.le_refl _))⟩
theorem rdnode_any (B : Nat) (R : List UInt8) (o : Bool) (w : World) (h : RdrAt w B R o) :
    Calls Tryz.prog 34 #[.pointer (some ⟨B, 0, none⟩)] w fun e w' => e = .returned (.agg #[.string (str (takeV (rL R) (rR3 R))), .int .i64 (getN (takeV 1 R) : Nat), .int .i64 (getN (takeV 2 (rR1 R)) : Nat), .string (str (takeV (rD R) (rR5 R)))]) ∧ RdrAt w' B (rR6 R) (rO R o) ∧ Chg (fun j => j = B) w w' := by
  have hL : rL R < 4294967296 := getN_small (takeV_le 1 _) (by decide)
  have hD : rD R < 4294967296 := getN_small (takeV_le 4 _) (by decide)
  exact rdnode_aux B w h (fun W => rdn1 B R o W) (fun W => rdn2 B (rR1 R) (takeO 1 R o) W) (fun W => rdn1 B (rR2 R) (takeO 2 (rR1 R) (takeO 1 R o)) W)
    (fun W => rdtake_any B (rR3 R) (takeO 1 (rR2 R) (takeO 2 (rR1 R) (takeO 1 R o))) (rL R) (by omega) W)
    (fun W => rdn4 B (rR4 R) (takeO (rL R) (rR3 R) (takeO 1 (rR2 R) (takeO 2 (rR1 R) (takeO 1 R o)))) W)
    (fun W => rdtake_any B (rR5 R) (takeO 4 (rR4 R) (takeO (rL R) (rR3 R) (takeO 1 (rR2 R) (takeO 2 (rR1 R) (takeO 1 R o))))) (rD R) (by omega) W)
end Go.Proofs.YtbjgmkjinnbokaaGreatDoor

