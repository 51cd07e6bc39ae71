/- Layer 12: the walk of RefsMade. -/
import Derived.Test.YtldbfjcfobdkpaaDoorRfU
import Derived.Test.YtldbfjcfobdkpaaDoorRfV
import Derived.Deep.DeepCutAuto
import Derived.Deep.CutBlock
namespace Go.Proofs.YtldbfjcfobdkpaaDoor
open Go.RowKit

/-- Rows in memory. -/
structure RM (W w : World) (l : List (Nat × Array Value × TypeId)) : Prop where
  b : Below W.heap.size W w
  at_ : ∀ g cs t, (g, cs, t) ∈ l → rowC w g cs t ∧ W.heap.size ≤ g
theorem RM.start (W : World) : RM W W [] := ⟨Below.refl _ _, fun _ _ _ h => by cases h⟩
theorem RM.below {W w w' : World} {l : List (Nat × Array Value × TypeId)} (h : RM W w l) (hb : Below w.heap.size w w') : RM W w' l :=
  ⟨h.b.trans (hb.mono h.b.size), fun g cs t hm => ⟨rowC_below (h.at_ g cs t hm).1 hb (rowC_lt (h.at_ g cs t hm).1), (h.at_ g cs t hm).2⟩⟩
theorem RM.alloc {W w : World} {l : List (Nat × Array Value × TypeId)} (h : RM W w l) (cs : Array Value) (t : TypeId) : RM W (w.alloc (.cells cs t)) ((w.heap.size, cs, t) :: l) := by
  refine ⟨h.b.alloc h.b.size _, fun g ds u hm => ?_⟩
  rcases List.mem_cons.1 hm with e | hm
  · cases e
    exact ⟨rowC_new w _ _, h.b.size⟩
  · exact ⟨rowC_alloc (h.at_ g ds u hm).1 _, (h.at_ g ds u hm).2⟩
theorem RM.sub {W w : World} {l m : List (Nat × Array Value × TypeId)} (h : RM W w l) (hs : ∀ p ∈ m, p ∈ l) : RM W w m := ⟨h.b, fun g cs t hm => h.at_ g cs t (hs _ hm)⟩
/-- A row that was just made, written whole. -/
theorem RM.made {W w v : World} {l : List (Nat × Array Value × TypeId)} {z : Array Value} {t : TypeId} (h : RM W w l) (hv : w.alloc (.cells z t) = v) (d : Array Value) :
    rowC v w.heap.size z t ∧ RM W (v.setRow w.heap.size d) ((w.heap.size, d, t) :: l) := by
  have hz : rowC v w.heap.size z t := by rw [← hv]; exact rowC_new w _ _
  refine ⟨hz, below_setRow (by rw [← hv]; exact h.b.alloc h.b.size _) h.b.size _, fun g x u hm => ?_⟩
  rcases List.mem_cons.1 hm with e | hm
  · cases e
    exact ⟨rowC_setRow hz _, h.b.size⟩
  · have ⟨h1, h2⟩ := h.at_ g x u hm
    have hlt := rowC_lt h1
    exact ⟨rowC_setRow_other (by rw [← hv]; exact rowC_alloc h1 _) _ _ (by omega), h2⟩
/-- One cell of the first row, set. -/
theorem RM.set {W w : World} {l : List (Nat × Array Value × TypeId)} {g : Nat} {cs : Array Value} {t : TypeId} (h : RM W w ((g, cs, t) :: l)) (hn : ∀ p ∈ l, p.1 ≠ g) (i : Nat) (x : Value) :
    RM W (w.setCell ⟨g, i, none⟩ x) ((g, cs.setIfInBounds i x, t) :: l) := by
  have h0 := h.at_ g cs t (List.Mem.head _)
  refine ⟨h.b.setCell (p := ⟨g, i, none⟩) h0.2 _, fun k ds u hm => ?_⟩
  rcases List.mem_cons.1 hm with e | hm
  · cases e
    exact ⟨rowC_set h0.1 i x, h0.2⟩
  · have ⟨h1, h2⟩ := h.at_ k ds u (List.mem_cons_of_mem _ hm)
    exact ⟨rowC_other h1 _ _ (hn _ hm), h2⟩
theorem RM.call {W w' : World} {l : List (Nat × Array Value × TypeId)} {f : FuncId} {args : Array Value} {v : Value} (hc : Calls Tryd.prog f args w' fun e w'' => e = .returned v ∧ Below w'.heap.size w' w'') (m : RM W w' l) :
    Calls Tryd.prog f args w' fun e w'' => e = .returned v ∧ RM W w'' l := hc.mono fun _ _ ⟨h1, h2⟩ => ⟨h1, m.below h2⟩
theorem built_own (p : List UInt8) (g : List UInt8) (hg : g.length = 32) : Tryd.prog.built 26 [(0, .string ⟨#[114, 101, 103, 46, 101, 120, 97, 109, 112, 108, 101, 58, 53, 48, 48, 48]⟩), (1, .string (str p)), (3, .agg (cells8 g)), (4, .bool true)] = some (refC ⟨regB, p, [], g, true⟩) := by
  match g, hg with
  | [a0, a1, a2, a3, a4, a5, a6, a7, a8, a9, b0, b1, b2, b3, b4, b5, b6, b7, b8, b9, c0, c1, c2, c3, c4, c5, c6, c7, c8, c9, d0, d1], _ =>
    show _ = _
    kernel_rfl
theorem conv_one (w : World) (x : UInt8) : (convert 42 9 (.slice (some ⟨w.heap.size, 0, none⟩) 1 1)).run Tryd.prog (w.alloc (.cells #[.int .u8 (x.toNat : Int)] 5)) = .ok (.string (str [x])) (w.alloc (.cells #[.int .u8 (x.toNat : Int)] 5)) := by
  rw [run_convert_bytes_arg _ 42 5 Tryd.underlying42 Tryd.underlying5 w.heap.size 0 1 1 [(x.toNat : Int)] rfl (fun i hi => ?_) 9 Tryd.underlying9]
  · have := str_nums [x]
    rw [List.map_singleton] at this
    rw [this]
  · obtain rfl : i = 0 := by omega
    simp
/-- A list of texts, as cells. -/
def rowT (l : List (List UInt8)) : Array Value := (l.map fun s => Value.string (str s)).toArray
theorem rowT_at {w : World} {b : Nat} {t : TypeId} {l : List (List UInt8)} (h : rowC w b (rowT l) t) {k : Nat} (hk : k < l.length) : w.cell? ⟨b, k, none⟩ = some (.string (str (l.getD k []))) := by
  rw [rowC_cell h]
  unfold rowT
  rw [List.getElem?_toArray, List.getElem?_map, List.getElem?_eq_getElem hk, List.getD_eq_getElem?_getD, List.getElem?_eq_getElem hk]
  rfl
theorem rowT_one (l : List (List UInt8)) : (rowT l).all (·.oneCell') = true := all_oneCell_toArray (fun v hv => by
  obtain ⟨x, _, rfl⟩ := List.mem_map.1 hv
  rfl)
set_option maxRecDepth 100000 in
set_option maxHeartbeats 16000000 in
theorem refsMade_any (I : Impl) (n g : List UInt8) (w : World) (hn : n.length = 3) (hg : g.length = 32) : Calls Tryd.prog 7 #[.agg (cells8 n), .agg (cells8 g)] w fun e w' => e = .returned (.bool true) ∧ Below w.heap.size w w' := by
  have HG := Lib.hid hg
  have s3 : (cells8 n).size = 3 := by rw [cells8_size, hn]
  have s32 : (cells8 g).size = 32 := by rw [cells8_size, hg]
  have M0 := ((RM.start w).alloc (cells8 n) 41)
  obtain ⟨w1, hw1⟩ : ∃ w1, w.alloc (.cells (cells8 n) 41) = w1 := ⟨_, rfl⟩
  rw [hw1] at M0
  have hs1 : w1.heap.size = w.heap.size + 1 := by rw [← hw1, size_alloc]
  have M1 := M0.alloc (cells8 g) 24
  obtain ⟨w2, hw2⟩ : ∃ w2, w1.alloc (.cells (cells8 g) 24) = w2 := ⟨_, rfl⟩
  rw [hw2] at M1
  obtain ⟨x0, hx0⟩ : ∃ x, n.getD 0 0 = x := ⟨_, rfl⟩
  obtain ⟨x1, hx1⟩ : ∃ x, n.getD 1 0 = x := ⟨_, rfl⟩
  obtain ⟨x2, hx2⟩ : ∃ x, n.getD 2 0 = x := ⟨_, rfl⟩
  have key : ∀ {w' : World} {l}, RM w w' l → (w.heap.size, cells8 n, 41) ∈ l → (w'.cell? ⟨w.heap.size, 0, none⟩ = some (.int .u8 (x0.toNat : Int)) ∧ w'.cell? ⟨w.heap.size, 1, none⟩ = some (.int .u8 (x1.toNat : Int)) ∧ w'.cell? ⟨w.heap.size, 2, none⟩ = some (.int .u8 (x2.toNat : Int))) := fun m hm => by
    have h1 := (m.at_ _ _ _ hm).1
    have a0 := cells8_at h1 (k := 0) (by omega)
    have a1 := cells8_at h1 (k := 1) (by omega)
    have a2 := cells8_at h1 (k := 2) (by omega)
    rw [hx0] at a0
    rw [hx1] at a1
    rw [hx2] at a2
    exact ⟨a0, a1, a2⟩
  obtain ⟨c0, c1, c2⟩ := key M1 (by simp)
  have M := Lib.hid M1
  have HK := Lib.hid (fun (w' : World) l (m : RM w w' l) hm => key m hm)
  clear key M0 M1 hx0 hx1 hx2
  obtain ⟨k, hk, hk26⟩ : ∃ k : Nat, x0.toNat % 26 = k ∧ k < 26 := ⟨_, rfl, Nat.mod_lt _ (by decide)⟩
  obtain ⟨d, hd, hd10⟩ : ∃ k : Nat, x1.toNat % 10 = k ∧ k < 10 := ⟨_, rfl, Nat.mod_lt _ (by decide)⟩
  have e0 : (x0.toNat : Int).tmod 26 = (k : Int) := by rw [Int.tmod_eq_emod_of_nonneg (by omega)]; omega
  have e1 : (x1.toNat : Int).tmod 10 = (d : Int) := by rw [Int.tmod_eq_emod_of_nonneg (by omega)]; omega
  have y0 : (x0.toNat : Int) ≤ 255 := by have := x0.toNat_lt; omega
  have y1 : (x1.toNat : Int) ≤ 255 := by have := x1.toNat_lt; omega
  clear hk hd
  obtain ⟨wk, hwk⟩ : ∃ x, x = wordL k := ⟨_, rfl⟩
  obtain ⟨vt, hvt⟩ : ∃ x, x = vL d := ⟨_, rfl⟩
  have lw : wk.length ≤ 26 := by rw [hwk, (word_ok k hk26).1]; omega
  have lv : vt.length = 2 := by rw [hvt]; rfl
  have zw := str_size wk
  have zv := str_size vt
  have hx : (⟨#[97, 98, 99, 100, 101, 102, 103, 104, 105, 106, 107, 108, 109, 110, 111, 112, 113, 114, 115, 116, 117, 118, 119, 120, 121, 122]⟩ : ByteArray).extract 0 (1 + k) = str wk := by
    rw [hwk]
    exact extract_str alphaB 0 (1 + k)
  obtain ⟨ch, hch⟩ : ∃ ch : UInt8, ch = UInt8.ofNat (48 + d) := ⟨_, rfl⟩
  have u8 : (ch.toNat : Int) = 48 + (d : Int) := by
    rw [hch, UInt8.toNat_ofNat']
    omega
  have cv := conv_one w2 ch
  rw [u8] at cv
  have hv0 : (⟨#[118]⟩ : ByteArray) ++ str [ch] = str vt := by
    rw [hvt, hch]
    exact str_append [118] [UInt8.ofNat (48 + d)]
  have hv1 : (str [ch]).size = 1 := rfl
  clear hch
  obtain ⟨C0, hC0⟩ : ∃ x : List UInt8, x = wk ++ [58] := ⟨_, rfl⟩
  obtain ⟨T0, hT0⟩ : ∃ x : List UInt8, x = C0 ++ vt := ⟨_, rfl⟩
  have p0 : str wk ++ ⟨#[58]⟩ = str C0 := by rw [hC0, ← str_append]; rfl
  have p1 : str C0 ++ str vt = str T0 := by rw [hT0, ← str_append]
  obtain ⟨B1, hB1⟩ : ∃ x : List UInt8, x = [108, 105, 98, 114, 97, 114, 121, 47] ++ wk := ⟨_, rfl⟩
  obtain ⟨C1, hC1⟩ : ∃ x : List UInt8, x = B1 ++ [58] := ⟨_, rfl⟩
  obtain ⟨T1, hT1⟩ : ∃ x : List UInt8, x = C1 ++ vt := ⟨_, rfl⟩
  have pb1 : (⟨#[108, 105, 98, 114, 97, 114, 121, 47]⟩ : ByteArray) ++ str wk = str B1 := by rw [hB1, ← str_append]; rfl
  have pc1 : str B1 ++ ⟨#[58]⟩ = str C1 := by rw [hC1, ← str_append]; rfl
  have pt1 : str C1 ++ str vt = str T1 := by rw [hT1, ← str_append]
  obtain ⟨B2, hB2⟩ : ∃ x : List UInt8, x = [100, 111, 99, 107, 101, 114, 46, 105, 111, 47] ++ wk := ⟨_, rfl⟩
  obtain ⟨C2, hC2⟩ : ∃ x : List UInt8, x = B2 ++ [58] := ⟨_, rfl⟩
  obtain ⟨T2, hT2⟩ : ∃ x : List UInt8, x = C2 ++ vt := ⟨_, rfl⟩
  have pb2 : (⟨#[100, 111, 99, 107, 101, 114, 46, 105, 111, 47]⟩ : ByteArray) ++ str wk = str B2 := by rw [hB2, ← str_append]; rfl
  have pc2 : str B2 ++ ⟨#[58]⟩ = str C2 := by rw [hC2, ← str_append]; rfl
  have pt2 : str C2 ++ str vt = str T2 := by rw [hT2, ← str_append]
  obtain ⟨B3, hB3⟩ : ∃ x : List UInt8, x = [100, 111, 99, 107, 101, 114, 46, 105, 111, 47, 108, 105, 98, 114, 97, 114, 121, 47] ++ wk := ⟨_, rfl⟩
  obtain ⟨C3, hC3⟩ : ∃ x : List UInt8, x = B3 ++ [58] := ⟨_, rfl⟩
  obtain ⟨T3, hT3⟩ : ∃ x : List UInt8, x = C3 ++ vt := ⟨_, rfl⟩
  have pb3 : (⟨#[100, 111, 99, 107, 101, 114, 46, 105, 111, 47, 108, 105, 98, 114, 97, 114, 121, 47]⟩ : ByteArray) ++ str wk = str B3 := by rw [hB3, ← str_append]; rfl
  have pc3 : str B3 ++ ⟨#[58]⟩ = str C3 := by rw [hC3, ← str_append]; rfl
  have pt3 : str C3 ++ str vt = str T3 := by rw [hT3, ← str_append]
  obtain ⟨B4, hB4⟩ : ∃ x : List UInt8, x = [105, 110, 100, 101, 120, 46, 100, 111, 99, 107, 101, 114, 46, 105, 111, 47, 108, 105, 98, 114, 97, 114, 121, 47] ++ wk := ⟨_, rfl⟩
  obtain ⟨C4, hC4⟩ : ∃ x : List UInt8, x = B4 ++ [58] := ⟨_, rfl⟩
  obtain ⟨T4, hT4⟩ : ∃ x : List UInt8, x = C4 ++ vt := ⟨_, rfl⟩
  have pb4 : (⟨#[105, 110, 100, 101, 120, 46, 100, 111, 99, 107, 101, 114, 46, 105, 111, 47, 108, 105, 98, 114, 97, 114, 121, 47]⟩ : ByteArray) ++ str wk = str B4 := by rw [hB4, ← str_append]; rfl
  have pc4 : str B4 ++ ⟨#[58]⟩ = str C4 := by rw [hC4, ← str_append]; rfl
  have pt4 : str C4 ++ str vt = str T4 := by rw [hT4, ← str_append]
  have zC0 := str_size C0
  have lC0 : C0.length ≤ 60 := by rw [hC0]; simp only [List.length_append, List.length_cons, List.length_nil]; omega
  have zB1 := str_size B1
  have lB1 : B1.length ≤ 60 := by rw [hB1]; simp only [List.length_append, List.length_cons, List.length_nil]; omega
  have zC1 := str_size C1
  have lC1 : C1.length ≤ 60 := by rw [hC1, hB1]; simp only [List.length_append, List.length_cons, List.length_nil]; omega
  have zB2 := str_size B2
  have lB2 : B2.length ≤ 60 := by rw [hB2]; simp only [List.length_append, List.length_cons, List.length_nil]; omega
  have zC2 := str_size C2
  have lC2 : C2.length ≤ 60 := by rw [hC2, hB2]; simp only [List.length_append, List.length_cons, List.length_nil]; omega
  have zB3 := str_size B3
  have lB3 : B3.length ≤ 60 := by rw [hB3]; simp only [List.length_append, List.length_cons, List.length_nil]; omega
  have zC3 := str_size C3
  have lC3 : C3.length ≤ 60 := by rw [hC3, hB3]; simp only [List.length_append, List.length_cons, List.length_nil]; omega
  have zB4 := str_size B4
  have lB4 : B4.length ≤ 60 := by rw [hB4]; simp only [List.length_append, List.length_cons, List.length_nil]; omega
  have zC4 := str_size C4
  have lC4 : C4.length ≤ 60 := by rw [hC4, hB4]; simp only [List.length_append, List.length_cons, List.length_nil]; omega
  obtain ⟨L, hL⟩ : ∃ L, L = [T0, T1, T2, T3, T4] := ⟨_, rfl⟩
  have HLt := Lib.hid (show ∀ i, i < 5 → L.getD i [] = textM i k d by
    intro i hi
    have h0 : T0 = textM 0 k d := by rw [hT0, hC0, hwk, hvt]; rfl
    have h1 : T1 = textM 1 k d := by rw [hT1, hC1, hB1, hwk, hvt]; rfl
    have h2 : T2 = textM 2 k d := by rw [hT2, hC2, hB2, hwk, hvt]; rfl
    have h3 : T3 = textM 3 k d := by rw [hT3, hC3, hB3, hwk, hvt]; rfl
    have h4 : T4 = textM 4 k d := by rw [hT4, hC4, hB4, hwk, hvt]; rfl
    rw [hL, h0, h1, h2, h3, h4]
    match i, hi with
    | 0, _ | 1, _ | 2, _ | 3, _ | 4, _ => rfl)
  have HLl := Lib.hid (show L.length = 5 by rw [hL]; rfl)
  have HLr := Lib.hid (show rowT L = #[.string (str T0), .string (str T1), .string (str T2), .string (str T3), .string (str T4)] by rw [hL]; rfl)
  have HNm := Lib.hid (show nameM k d = ⟨hubB, B1, vt, zero32, false⟩ by rw [hB1, hwk, hvt]; rfl)
  have HT0 := Lib.hid (show wordL k ++ [58] ++ vL d = T0 by rw [hT0, hC0, hwk, hvt])
  have HW := Lib.hid hwk
  clear hwk hvt hC0 hT0 hB1 hB2 hB3 hB4 hC1 hC2 hC3 hC4 hT1 hT2 hT3 hT4 hL
  have HZ5 := Lib.hid (show (Tryd.prog.info? 43).map (·.size) = some (rowT L).size by rw [HLr.out]; kernel_rfl)
  have M2 := M.out.alloc #[.int .u8 (48 + (d : Int))] 5
  obtain ⟨w3, hw3⟩ : ∃ w3, w2.alloc (.cells #[.int .u8 (48 + (d : Int))] 5) = w3 := ⟨_, rfl⟩
  rw [hw3] at M2 cv
  obtain ⟨w4, hw4⟩ : ∃ w4, w3.alloc (.cells #[.string ⟨#[]⟩, .string ⟨#[]⟩, .string ⟨#[]⟩, .string ⟨#[]⟩, .string ⟨#[]⟩] 43) = w4 := ⟨_, rfl⟩
  obtain ⟨HR4, M4⟩ := M2.made hw4 (rowT L)
  replace HR4 := Lib.hid HR4
  replace M4 := Lib.hid (M4.sub (m := [(w3.heap.size, rowT L, 43), (w1.heap.size, cells8 g, 24), (w.heap.size, cells8 n, 41)]) (by simp))
  clear M M2
  go_enter Tryd.func7, Tryd.ntmps7
  go_wp2_with (first
    | ((with_reducible show wpList _ _ _ (⟨none, .store _ (.tmp 7) _, _, _, _, _⟩ :: _) _ _); refine wpList_store_row rfl 43 _ _ rfl w3.heap.size (rowT L) rfl (by rw [HLr.out]; rfl) 43 _ HR4.out HZ5.out (by rw [HLr.out]; rfl) (rowT_one _) ?_; generalize World.setRow _ _ _ = w5 at *))
  go_loopw [8] (fun v wr => ∃ j : Nat, j ≤ 5 ∧ v = .int .i64 j ∧ Hid (RM w wr [(w3.heap.size, rowT L, 43), (w1.heap.size, cells8 g, 24), (w.heap.size, cells8 n, 41)])) (fun v _ => 5 - (intOf v).toNat)
  case atStart => exact ⟨0, Nat.zero_le _, rfl, M4⟩
  case round =>
    obtain ⟨j, hj, rfl, M⟩ := hrel
    obtain ⟨c0, c1, c2⟩ := HK.out _ _ M.out (by simp)
    have IT := Lib.hid (fun hj5 => rowT_at (k := j) (M.out.at_ _ _ _ (List.Mem.head _)).1 (by rw [HLl.out]; exact hj5))
    by_cases hlt : j < 5
    · have ct := IT.out hlt
      have hjn := HLt.out j hlt
      have hle := textM_le (d := d) hlt hk26
      have hmb := made_back hlt hk26 hd10
      have hms := made_short hk26 hd10
      rw [← hjn] at hle hmb
      generalize L.getD j [] = T at *
      clear hjn IT
      have g1 : (j : Int) < 5 := by omega
      obtain ⟨R0, hR0⟩ : ∃ R, R = nameM k d := ⟨_, rfl⟩
      rw [← hR0] at hmb hms
      have HO0 := Lib.hid (show R0.ok by have := parse_ok T; rw [hmb] at this; exact this)
      have HI0 := Lib.hid (info_ref HO0.out)
      have HS0 := Lib.hid (show (refC zeroR).size = (refC R0).size by rw [refC_size zero_ok, refC_size HO0.out])
      have CP := fun w => I.parse T w (by omega)
      rw [hmb] at CP
      have CS := fun w => I.short R0 w HO0.out
      rw [hms, HT0.out] at CS
      have q1 : ∀ w, (Op.equalIn 10000 26 (.agg (refC R0)) (.agg (refC ⟨hubB, B1, vt, zero32, false⟩))).run Tryd.prog w = .ok true w := fun w => by
        rw [show (⟨hubB, B1, vt, zero32, false⟩ : RR) = R0 by rw [hR0, HNm.out], eq_ref w 9997 HO0.out HO0.out]; simp
      have gd := guard_ref
      clear hmb hms hR0 hle
      go_wp2_with (first
        | (go_at_call 9; ((with_reducible refine (CP _).mono ?_); rintro e w6 ⟨rfl, b6⟩); replace M := Lib.hid (M.out.below b6); clear b6 CP; obtain ⟨v6, hv6⟩ : ∃ v, w6.alloc (.cells #[.string ⟨#[]⟩, .string ⟨#[]⟩, .string ⟨#[]⟩, .int .u8 0, .int .u8 0, .int .u8 0, .int .u8 0, .int .u8 0, .int .u8 0, .int .u8 0, .int .u8 0, .int .u8 0, .int .u8 0, .int .u8 0, .int .u8 0, .int .u8 0, .int .u8 0, .int .u8 0, .int .u8 0, .int .u8 0, .int .u8 0, .int .u8 0, .int .u8 0, .int .u8 0, .int .u8 0, .int .u8 0, .int .u8 0, .int .u8 0, .int .u8 0, .int .u8 0, .int .u8 0, .int .u8 0, .int .u8 0, .int .u8 0, .int .u8 0, .bool false] 26) = v := ⟨_, rfl⟩; obtain ⟨HZ6, HN6⟩ := M.out.made hv6 (refC R0); rw [← zero_lit] at HZ6; replace HZ6 := Lib.hid HZ6; replace M := Lib.hid HN6; clear HN6)
        | ((with_reducible show wpList _ _ _ (⟨none, .store _ (.tmp 9) _, _, _, _, _⟩ :: _) _ _); refine wpList_store_row rfl 26 _ _ rfl w6.heap.size (refC R0) rfl rfl 26 (refC zeroR) HZ6.out HI0.out HS0.out (refC_all _) ?_; generalize World.setRow _ _ _ = w7 at *; clear hv6)
        | ((with_reducible show wpList _ _ _ (⟨some 66, _, _, _, _, _⟩ :: _) _ _); refine wpList_load_rowG rfl 26 _ rfl w6.heap.size rfl 26 (refC R0) _ (M.out.at_ _ _ _ (by repeat (first | exact List.Mem.head _ | apply List.Mem.tail))).1 Tryd.underlying26 rfl HI0.out ?_)
        | ((with_reducible show wpList _ _ _ (⟨some 70, _, _, _, _, _⟩ :: _) _ _); refine wpList_build_asG (o := ⟨some 70, _, _, _, _, _⟩) rfl 26 _ rfl (refC ⟨hubB, B1, vt, zero32, false⟩) ?_ ?_; kernel_rfl)
        | ((with_reducible show wpList _ _ _ (⟨some 74, _, _, _, _, _⟩ :: _) _ _); refine wpList_load_rowG rfl 26 _ rfl w6.heap.size rfl 26 (refC R0) _ (M.out.at_ _ _ _ (by repeat (first | exact List.Mem.head _ | apply List.Mem.tail))).1 Tryd.underlying26 rfl HI0.out ?_)
        | (go_at_call 13; ((with_reducible refine (CS _).mono ?_); rintro e w8 ⟨rfl, b8⟩); replace M := Lib.hid (M.out.below b8); clear b8 CS))
      go_roundw
      case rel => exact ⟨j + 1, by omega, by go_num, Lib.hid (M.out.sub (by simp))⟩
      case measure => simp [intOf]; omega
    · have g2 : ¬ (j : Int) < 5 := by omega
      clear hlt hj IT HLt HNm HT0
      obtain ⟨S1, hS1⟩ : ∃ x : List UInt8, x = wk ++ [47] := ⟨_, rfl⟩
      obtain ⟨S2, hS2⟩ : ∃ x : List UInt8, x = S1 ++ wk := ⟨_, rfl⟩
      have ps1 : str wk ++ ⟨#[47]⟩ = str S1 := by rw [hS1, ← str_append]; rfl
      have ps2 : str S1 ++ str wk = str S2 := by rw [hS2, ← str_append]
      have zs1 := str_size S1
      have ls1 : S1.length ≤ 60 := by rw [hS1]; simp only [List.length_append, List.length_cons, List.length_nil]; omega
      have HOw := Lib.hid (fun b => show (⟨regB, S2, if b = true then latestB else [], g, true⟩ : RR) = ownM k b g by rw [hS2, hS1, HW.out]; rfl)
      have HS2 := Lib.hid (show S2.length ≤ 100 by rw [hS2, hS1]; simp only [List.length_append, List.length_cons, List.length_nil]; omega)
      clear hS1 hS2
      obtain ⟨R0, hR0⟩ : ∃ R : RR, R = ⟨regB, S2, [], g, true⟩ := ⟨_, rfl⟩
      have HBO := Lib.hid (built_own S2 g hg)
      rw [← hR0] at HBO
      have HR0 := Lib.hid hR0
      have HO0 := Lib.hid (show R0.ok by rw [hR0]; exact ⟨by show regB.length ≤ 1000; decide, by have := HS2.out; show S2.length ≤ 1000; omega, Nat.zero_le _, hg⟩)
      clear hR0
      have HI0 := Lib.hid (info_ref HO0.out)
      have HS0 := Lib.hid (show (refC zeroR).size = (refC R0).size by rw [refC_size zero_ok, refC_size HO0.out])
      have HIg := Lib.hid (info_digest hg)
      have D24 := Lib.hid (show rowC wr (w.heap.size + 1) (cells8 g) 24 by rw [← hs1]; exact (M.out.at_ _ _ _ (by simp)).1)
      obtain ⟨v9, hv9⟩ : ∃ v, wr.alloc (.cells #[.string ⟨#[]⟩, .string ⟨#[]⟩, .string ⟨#[]⟩, .int .u8 0, .int .u8 0, .int .u8 0, .int .u8 0, .int .u8 0, .int .u8 0, .int .u8 0, .int .u8 0, .int .u8 0, .int .u8 0, .int .u8 0, .int .u8 0, .int .u8 0, .int .u8 0, .int .u8 0, .int .u8 0, .int .u8 0, .int .u8 0, .int .u8 0, .int .u8 0, .int .u8 0, .int .u8 0, .int .u8 0, .int .u8 0, .int .u8 0, .int .u8 0, .int .u8 0, .int .u8 0, .int .u8 0, .int .u8 0, .int .u8 0, .int .u8 0, .bool false] 26) = v := ⟨_, rfl⟩
      obtain ⟨HZ9, HN9⟩ := M.out.made hv9 (refC R0)
      rw [← zero_lit] at HZ9
      replace HZ9 := Lib.hid HZ9
      have M9 := Lib.hid HN9
      clear HN9 c0 c1 c2
      obtain ⟨m, hm, hm2⟩ : ∃ m : Nat, x2.toNat % 2 = m ∧ m < 2 := ⟨_, rfl, Nat.mod_lt _ (by decide)⟩
      have e2 : (x2.toNat : Int).tmod 2 = (m : Int) := by rw [Int.tmod_eq_emod_of_nonneg (by omega)]; omega
      clear hm hm2
      generalize hb : ((m : Int) == 0) = b at *
      go_upto_if 91 with (first
        | ((with_reducible show wpList _ _ _ (⟨some 86, _, _, _, _, _⟩ :: _) _ _); refine wpList_load_row rfl 24 _ rfl (w.heap.size + 1) rfl 24 (cells8 g) (0, 0) _ D24.out Tryd.underlying24 rfl HIg.out ?_)
        | ((with_reducible show wpList _ _ _ (⟨some 87, _, _, _, _, _⟩ :: _) _ _); refine wpList_build_as (o := ⟨some 87, _, _, _, _, _⟩) rfl 26 _ rfl (refC R0) (Eq.trans ?_ HBO.out) ?_; kernel_rfl)
        | ((with_reducible show wpList _ _ _ (⟨none, .store _ (.tmp 11) _, _, _, _, _⟩ :: _) _ _); refine wpList_store_row rfl 26 _ _ rfl wr.heap.size (refC R0) rfl rfl 26 (refC zeroR) HZ9.out HI0.out HS0.out (refC_all _) ?_; generalize World.setRow _ _ _ = w10 at *; clear hv9; obtain ⟨-, -, c2⟩ := HK.out _ _ M9.out (by simp)))
      have HNE := Lib.hid (fun p (hp : p ∈ [(w3.heap.size, rowT L, 43), (w1.heap.size, cells8 g, 24), (w.heap.size, cells8 n, 41)]) => show p.1 ≠ wr.heap.size by have := rowC_lt (M.out.at_ p.1 p.2.1 p.2.2 hp).1; omega)
      obtain ⟨c3, c4⟩ : w10.cell? ⟨wr.heap.size, 2, none⟩ = some (.string (str R0.tag)) ∧ w10.frozen? ⟨wr.heap.size, 2, none⟩ = false := ⟨(rowC_cell (M9.out.at_ _ _ _ (List.Mem.head _)).1 2).trans (refC_get2 R0), rowC_free (M9.out.at_ _ _ _ (List.Mem.head _)).1 2⟩
      clear hb M
      go_cut [8] from 92 (fun s8 wx => s8 = .int .i64 (j : Int) ∧ Hid (RM w wx ((wr.heap.size, refC (ownM k b g), 26) :: [(w3.heap.size, rowT L, 43), (w1.heap.size, cells8 g, 24), (w.heap.size, cells8 n, 41)])))
      case first =>
        cases b
        · go_wp2
          go_meet
          case rel => exact ⟨rfl, Lib.hid (by
            rw [← HOw.out false]
            have := M9.out
            rw [HR0.out] at this
            exact this)⟩
        · go_wp2
          go_meet
          case rel => exact ⟨rfl, Lib.hid (by
            have := M9.out.set HNE.out 2 (.string (str latestB))
            rw [refC_tag, HR0.out] at this
            rw [← HOw.out true]
            exact this)⟩
      case rest =>
        obtain ⟨rfl, M⟩ := hcut
        clear M9 HNE c2 c3 c4 HBO HR0 HO0 HI0 HS0 HOw HS2
        have hg' := HG.out
        have HMy := Lib.hid (own_may b hk26 hg')
        have hsh := own_short b hk26 hg'
        have hle := own_le b hk26 hg'
        obtain ⟨O, hO⟩ : ∃ O, O = ownM k b g := ⟨_, rfl⟩
        rw [← hO] at M HMy hsh hle
        have hd32 : O.dig.length = 32 := by rw [hO]; exact hg'
        have htb := text_back hd32 HMy.out
        have HO0 := Lib.hid (show O.ok by have := parse_ok (textR O); rw [htb] at this; exact this)
        have HI0 := Lib.hid (info_ref HO0.out)
        have HS0 := Lib.hid (show (refC zeroR).size = (refC O).size by rw [refC_size zero_ok, refC_size HO0.out])
        have CT0 := fun w => I.text O w HO0.out
        have CS0 := fun w => I.short O w HO0.out
        rw [show_yes HMy.out] at CT0
        rw [hsh] at CS0
        generalize textR O = T at *
        have CP := fun w => I.parse T w (by omega)
        rw [htb] at CP
        clear htb hsh hle hd32 hO hg'
        go_upto_region 14 with (first
          | ((with_reducible show wpList _ _ _ (⟨some 94, _, _, _, _, _⟩ :: _) _ _); refine wpList_load_rowG rfl 26 _ rfl wr.heap.size rfl 26 (refC O) _ (M.out.at_ _ _ _ (by repeat (first | exact List.Mem.head _ | apply List.Mem.tail))).1 Tryd.underlying26 rfl HI0.out ?_)
          | (go_at_call 11; ((with_reducible refine (CT0 _).mono ?_); rintro e w11 ⟨rfl, b11⟩); replace M := Lib.hid (M.out.below b11); clear b11)
          | (go_at_call 9; ((with_reducible refine (CP _).mono ?_); rintro e w12 ⟨rfl, b12⟩); replace M := Lib.hid (M.out.below b12); clear b12 CP; obtain ⟨v12, hv12⟩ : ∃ v, w12.alloc (.cells #[.string ⟨#[]⟩, .string ⟨#[]⟩, .string ⟨#[]⟩, .int .u8 0, .int .u8 0, .int .u8 0, .int .u8 0, .int .u8 0, .int .u8 0, .int .u8 0, .int .u8 0, .int .u8 0, .int .u8 0, .int .u8 0, .int .u8 0, .int .u8 0, .int .u8 0, .int .u8 0, .int .u8 0, .int .u8 0, .int .u8 0, .int .u8 0, .int .u8 0, .int .u8 0, .int .u8 0, .int .u8 0, .int .u8 0, .int .u8 0, .int .u8 0, .int .u8 0, .int .u8 0, .int .u8 0, .int .u8 0, .int .u8 0, .int .u8 0, .bool false] 26) = v := ⟨_, rfl⟩; obtain ⟨HZ12, HN12⟩ := M.out.made hv12 (refC O); rw [← zero_lit] at HZ12; replace HZ12 := Lib.hid HZ12; replace M := Lib.hid HN12; clear HN12)
          | ((with_reducible show wpList _ _ _ (⟨none, .store _ (.tmp 12) _, _, _, _, _⟩ :: _) _ _); refine wpList_store_row rfl 26 _ _ rfl w12.heap.size (refC O) rfl rfl 26 (refC zeroR) HZ12.out HI0.out HS0.out (refC_all _) ?_; generalize World.setRow _ _ _ = w13 at *; clear hv12))
        have CT : ∀ w', RM w w' ((w12.heap.size, refC O, 26) :: (wr.heap.size, refC O, 26) :: [(w3.heap.size, rowT L, 43), (w1.heap.size, cells8 g, 24), (w.heap.size, cells8 n, 41)]) → _ := fun w' m => RM.call (CT0 w') m
        have CS : ∀ w', RM w w' ((w12.heap.size, refC O, 26) :: (wr.heap.size, refC O, 26) :: [(w3.heap.size, rowT L, 43), (w1.heap.size, cells8 g, 24), (w.heap.size, cells8 n, 41)]) → _ := fun w' m => RM.call (CS0 w') m
        have CN : ∀ w', RM w w' ((w12.heap.size, refC O, 26) :: (wr.heap.size, refC O, 26) :: [(w3.heap.size, rowT L, 43), (w1.heap.size, cells8 g, 24), (w.heap.size, cells8 n, 41)]) → _ := fun w' m => RM.call (named_any I w') m
        have q1 : ∀ w, (Op.equalIn 10000 26 (.agg (refC O)) (.agg (refC O))).run Tryd.prog w = .ok true w := fun w => by
          rw [eq_ref w 9997 HO0.out HO0.out]; simp
        have gd := guard_ref
        have hu := Tryd.underlying26
        have hA := info_refL HO0.out
        have R1 : ∀ w', RM w w' ((w12.heap.size, refC O, 26) :: (wr.heap.size, refC O, 26) :: [(w3.heap.size, rowT L, 43), (w1.heap.size, cells8 g, 24), (w.heap.size, cells8 n, 41)]) → w'.rangeAt wr.heap.size 0 (refL O) := fun w' m => range_ref (m.at_ _ _ _ (by repeat (first | exact List.Mem.head _ | apply List.Mem.tail))).1
        have R2 : ∀ w', RM w w' ((w12.heap.size, refC O, 26) :: (wr.heap.size, refC O, 26) :: [(w3.heap.size, rowT L, 43), (w1.heap.size, cells8 g, 24), (w.heap.size, cells8 n, 41)]) → w'.rangeAt w12.heap.size 0 (refL O) := fun w' m => range_ref (m.at_ _ _ _ (by repeat (first | exact List.Mem.head _ | apply List.Mem.tail))).1
        unfold refC at q1 CT CS ⊢
        have md := M.out.below (Below.refl w13.heap.size w13).drew
        obtain ⟨LMM, hM⟩ : ∃ LMM : World → Prop, LMM = fun w' => RM w w' ((w12.heap.size, refC O, 26) :: (wr.heap.size, refC O, 26) :: [(w3.heap.size, rowT L, 43), (w1.heap.size, cells8 g, 24), (w.heap.size, cells8 n, 41)]) := ⟨_, rfl⟩
        have MT : ∀ w', LMM w' → RM w w' ((w12.heap.size, refC O, 26) :: (wr.heap.size, refC O, 26) :: [(w3.heap.size, rowT L, 43), (w1.heap.size, cells8 g, 24), (w.heap.size, cells8 n, 41)]) := fun w' h => by rw [hM] at h; exact h
        have TM : ∀ w', RM w w' ((w12.heap.size, refC O, 26) :: (wr.heap.size, refC O, 26) :: [(w3.heap.size, rowT L, 43), (w1.heap.size, cells8 g, 24), (w.heap.size, cells8 n, 41)]) → LMM w' := fun w' h => by rw [hM]; exact h
        replace md := TM _ md
        have ML : ∀ w', LMM w' → Below w.heap.size w w' := fun w' h => (MT w' h).b
        have TM' : ∀ {f args v} w', LMM w' → (RM w w' ((w12.heap.size, refC O, 26) :: (wr.heap.size, refC O, 26) :: [(w3.heap.size, rowT L, 43), (w1.heap.size, cells8 g, 24), (w.heap.size, cells8 n, 41)]) → Calls Tryd.prog f args w' fun e w'' => e = .returned v ∧ RM w w'' ((w12.heap.size, refC O, 26) :: (wr.heap.size, refC O, 26) :: [(w3.heap.size, rowT L, 43), (w1.heap.size, cells8 g, 24), (w.heap.size, cells8 n, 41)])) → Calls Tryd.prog f args w' fun e w'' => e = .returned v ∧ LMM w'' :=
          fun w' h hc => (hc (MT w' h)).mono fun _ _ ⟨h1, h2⟩ => ⟨h1, TM _ h2⟩
        replace CT := fun w' (h : LMM w') => TM' w' h (CT w')
        replace CS := fun w' (h : LMM w') => TM' w' h (CS w')
        replace CN := fun w' (h : LMM w') => TM' w' h (CN w')
        replace R1 := fun w' (h : LMM w') => R1 w' (MT w' h)
        replace R2 := fun w' (h : LMM w') => R2 w' (MT w' h)
        clear MT TM TM' hM M HI0 HS0 HO0 CT0 CS0
        generalize refL O = NA at *
        generalize wr.heap.size = g1 at *
        generalize w12.heap.size = g2 at *
        obtain ⟨SS, hSS⟩ : ∃ SS : World → Prop, SS = fun w' => LMM w' ∧ w'.rangeAt g1 0 NA ∧ w'.rangeAt g2 0 NA := ⟨_, rfl⟩
        have SO : ∀ w', LMM w' → SS w' := fun w' m => by rw [hSS]; exact ⟨m, R1 w' m, R2 w' m⟩
        have OS : ∀ w', SS w' → LMM w' ∧ w'.rangeAt g1 0 NA ∧ w'.rangeAt g2 0 NA := fun w' h => by rw [hSS] at h; exact h
        clear hSS R1 R2
        refine wp_region_noPanic ?_
        refine wp_region_held_drew (S := SS) (by kernel_rfl) (SO _ md) (fun hHeld => ?_)
        refine wpAnyH_take (i := 0) (oi := { dst := some 99, op := Op.move (Operand.tmp 13), type := 27, pos := "outright.go:49", after := #[], guard := none }) (v := ?_) rfl (by kernel_rfl) (by kernel_rfl) (by kernel_rfl) (fun _ _ _ h => h) (Or.inl ⟨by rfl, ?_⟩) (by assumption) ?_
        rotate_left
        · intro w hSw
          skip
          clear hSw
          go_simp
          try with_reducible rfl
        try simp only [Act.put, List.setIfInBounds_toArray, List.set_cons_zero, List.set_cons_succ]
        refine wpAnyH_take (i := 1) (oi := { dst := some 100, op := Op.binOp BinOp.eql 27 (Operand.tmp 99) (Operand.const (Value.int IntKind.i64 0)) 27, type := 4, pos := "outright.go:49", after := #[{ on := 0, ground := Ground.data }], guard := none }) (v := ?_) rfl (by kernel_rfl) (by kernel_rfl) (by kernel_rfl) (fun _ _ _ h => h) (Or.inl ⟨by rfl, ?_⟩) (by assumption) ?_
        rotate_left
        · intro w hSw
          skip
          clear hSw
          go_simp
          try with_reducible rfl
        try simp only [Act.put, List.setIfInBounds_toArray, List.set_cons_zero, List.set_cons_succ]
        refine wpAnyH_take (i := 2) (oi := { dst := some 101, op := Op.move (Operand.tmp 100), type := 4, pos := "outright.go:49", after := #[{ on := 1, ground := Ground.data }], guard := none }) (v := ?_) rfl (by kernel_rfl) (by kernel_rfl) (by kernel_rfl) (fun _ _ _ h => h) (Or.inl ⟨by rfl, ?_⟩) (by assumption) ?_
        rotate_left
        · intro w hSw
          skip
          clear hSw
          go_simp
          try with_reducible rfl
        try simp only [Act.put, List.setIfInBounds_toArray, List.set_cons_zero, List.set_cons_succ]
        refine wpAnyH_take (i := 3) (oi := { dst := some 102, op := Op.load 26 (Operand.tmp 12), type := 26, pos := "outright.go:49", after := #[{ on := 2, ground := Ground.guard }], guard := some (2, true) }) (v := _) rfl (by kernel_rfl) (by kernel_rfl) (by kernel_rfl) (fun _ _ _ h => h) (yieldsIf_load_mid (by rfl) _ _ rfl _ _ rfl _ _ (by intro w hSw; have hSw := OS _ hSw; go_split_ands; assumption) (by assumption) rfl (by assumption)) (by assumption) ?_
        try simp only [Act.put, List.setIfInBounds_toArray, List.set_cons_zero, List.set_cons_succ]
        refine wpAnyH_take (i := 4) (oi := { dst := some 103, op := Op.load 26 (Operand.tmp 11), type := 26, pos := "outright.go:49", after := #[{ on := 2, ground := Ground.guard }], guard := some (2, true) }) (v := _) rfl (by kernel_rfl) (by kernel_rfl) (by kernel_rfl) (fun _ _ _ h => h) (yieldsIf_load_mid (by rfl) _ _ rfl _ _ rfl _ _ (by intro w hSw; have hSw := OS _ hSw; go_split_ands; assumption) (by assumption) rfl (by assumption)) (by assumption) ?_
        try simp only [Act.put, List.setIfInBounds_toArray, List.set_cons_zero, List.set_cons_succ]
        refine wpAnyH_take (i := 5) (oi := { dst := some 104, op := Op.binOp BinOp.eql 26 (Operand.tmp 102) (Operand.tmp 103) 26, type := 4, pos := "outright.go:49", after := #[{ on := 3, ground := Ground.data }, { on := 4, ground := Ground.data }, { on := 2, ground := Ground.guard }], guard := some (2, true) }) (v := ?_) rfl (by kernel_rfl) (by kernel_rfl) (by kernel_rfl) (fun _ _ _ h => h) (Or.inl ⟨by rfl, ?_⟩) (by assumption) ?_
        rotate_left
        · intro w hSw
          skip
          clear hSw
          go_simp
          try with_reducible rfl
        try simp only [Act.put, List.setIfInBounds_toArray, List.set_cons_zero, List.set_cons_succ]
        refine wpAnyH_take (i := 6) (oi := { dst := some 105, op := Op.pick (Operand.tmp 101) (Operand.tmp 104) (Operand.const (Value.bool false)), type := 4, pos := "outright.go:49", after := #[{ on := 2, ground := Ground.data }, { on := 5, ground := Ground.data }], guard := none }) (v := ?_) rfl (by kernel_rfl) (by kernel_rfl) (by kernel_rfl) (fun _ _ _ h => h) (Or.inl ⟨by rfl, ?_⟩) (by assumption) ?_
        rotate_left
        · intro w hSw
          skip
          clear hSw
          go_simp
          try with_reducible rfl
        try simp only [Act.put, List.setIfInBounds_toArray, List.set_cons_zero, List.set_cons_succ]
        refine wpAnyH_take (i := 7) (oi := { dst := some 106, op := Op.move (Operand.tmp 105), type := 4, pos := "outright.go:49", after := #[{ on := 6, ground := Ground.data }, { on := 2, ground := Ground.chain }], guard := none }) (v := ?_) rfl (by kernel_rfl) (by kernel_rfl) (by kernel_rfl) (fun _ _ _ h => h) (Or.inl ⟨by rfl, ?_⟩) (by assumption) ?_
        rotate_left
        · intro w hSw
          skip
          clear hSw
          go_simp
          try with_reducible rfl
        try simp only [Act.put, List.setIfInBounds_toArray, List.set_cons_zero, List.set_cons_succ]
        refine wpAnyH_take (i := 8) (oi := { dst := some 107, op := Op.load 26 (Operand.tmp 11), type := 26, pos := "outright.go:49", after := #[{ on := 7, ground := Ground.guard }], guard := some (7, true) }) (v := _) rfl (by kernel_rfl) (by kernel_rfl) (by kernel_rfl) (fun _ _ _ h => h) (yieldsIf_load_mid (by rfl) _ _ rfl _ _ rfl _ _ (by intro w hSw; have hSw := OS _ hSw; go_split_ands; assumption) (by assumption) rfl (by assumption)) (by assumption) ?_
        try simp only [Act.put, List.setIfInBounds_toArray, List.set_cons_zero, List.set_cons_succ]
        refine wpAnyH_take (i := 10) (oi := { dst := some 109, op := Op.load 26 (Operand.tmp 11), type := 26, pos := "outright.go:49", after := #[{ on := 7, ground := Ground.guard }], guard := some (7, true) }) (v := _) rfl (by kernel_rfl) (by kernel_rfl) (by kernel_rfl) (fun _ _ _ h => h) (yieldsIf_load_mid (by rfl) _ _ rfl _ _ rfl _ _ (by intro w hSw; have hSw := OS _ hSw; go_split_ands; assumption) (by assumption) rfl (by assumption)) (by assumption) ?_
        try simp only [Act.put, List.setIfInBounds_toArray, List.set_cons_zero, List.set_cons_succ]
        refine wpAnyH_ready (rs := [9]) (by kernel_rfl) (by simp) ?_
        refine (AllReadyH.cons (o := { dst := some 108, op := Op.call { callee := Callee.value (Operand.func 13), args := #[Operand.tmp 107], argTypes := #[26] }, type := 9, pos := "outright.go:49", after := #[{ on := 8, ground := Ground.data }, { on := 7, ground := Ground.chain }, { on := 7, ground := Ground.guard }], guard := some (7, true) }) rfl (fun K hK => ?_) AllReadyH.nil)
        go_simp
        refine (CS _ (by assumption)).mono ?_
        rintro e w9' ⟨rfl, m9'⟩
        refine hK.out _ _ (SO _ (by assumption)) (fun hHeld => ?_)
        clear hK K
        try simp only [Act.put, List.setIfInBounds_toArray, List.set_cons_zero, List.set_cons_succ]
        refine wpAnyH_ready (rs := [11]) (by kernel_rfl) (by simp) ?_
        refine (AllReadyH.cons (o := { dst := some 110, op := Op.call { callee := Callee.value (Operand.func 11), args := #[Operand.tmp 109], argTypes := #[26] }, type := 9, pos := "outright.go:49", after := #[{ on := 10, ground := Ground.data }, { on := 9, ground := Ground.chain }, { on := 7, ground := Ground.guard }], guard := some (7, true) }) rfl (fun K hK => ?_) AllReadyH.nil)
        go_simp
        refine (CT _ (by assumption)).mono ?_
        rintro e w11' ⟨rfl, m11'⟩
        refine hK.out _ _ (SO _ (by assumption)) (fun hHeld => ?_)
        clear hK K
        try simp only [Act.put, List.setIfInBounds_toArray, List.set_cons_zero, List.set_cons_succ]
        refine wpAnyH_take (i := 12) (oi := { dst := some 111, op := Op.binOp BinOp.eql 9 (Operand.tmp 108) (Operand.tmp 110) 9, type := 4, pos := "outright.go:49", after := #[{ on := 9, ground := Ground.data }, { on := 11, ground := Ground.data }, { on := 7, ground := Ground.guard }], guard := some (7, true) }) (v := ?_) rfl (by kernel_rfl) (by kernel_rfl) (by kernel_rfl) (fun _ _ _ h => h) (Or.inl ⟨by rfl, ?_⟩) (by assumption) ?_
        rotate_left
        · intro w hSw
          skip
          clear hSw
          go_simp
          try with_reducible rfl
        try simp only [Act.put, List.setIfInBounds_toArray, List.set_cons_zero, List.set_cons_succ]
        refine wpAnyH_take (i := 13) (oi := { dst := some 112, op := Op.pick (Operand.tmp 106) (Operand.tmp 111) (Operand.const (Value.bool false)), type := 4, pos := "outright.go:49", after := #[{ on := 7, ground := Ground.data }, { on := 12, ground := Ground.data }], guard := none }) (v := ?_) rfl (by kernel_rfl) (by kernel_rfl) (by kernel_rfl) (fun _ _ _ h => h) (Or.inl ⟨by rfl, ?_⟩) (by assumption) ?_
        rotate_left
        · intro w hSw
          skip
          clear hSw
          go_simp
          try with_reducible rfl
        try simp only [Act.put, List.setIfInBounds_toArray, List.set_cons_zero, List.set_cons_succ]
        refine wpAnyH_take (i := 14) (oi := { dst := some 113, op := Op.move (Operand.tmp 112), type := 4, pos := "outright.go:49", after := #[{ on := 13, ground := Ground.data }, { on := 11, ground := Ground.chain }], guard := none }) (v := ?_) rfl (by kernel_rfl) (by kernel_rfl) (by kernel_rfl) (fun _ _ _ h => h) (Or.inl ⟨by rfl, ?_⟩) (by assumption) ?_
        rotate_left
        · intro w hSw
          skip
          clear hSw
          go_simp
          try with_reducible rfl
        try simp only [Act.put, List.setIfInBounds_toArray, List.set_cons_zero, List.set_cons_succ]
        refine wpAnyH_ready (rs := [15]) (by kernel_rfl) (by simp) ?_
        refine (AllReadyH.cons (o := { dst := some 114, op := Op.call { callee := Callee.value (Operand.func 8), args := #[], argTypes := #[] }, type := 4, pos := "outright.go:49", after := #[{ on := 14, ground := Ground.chain }, { on := 14, ground := Ground.guard }], guard := some (14, true) }) rfl (fun K hK => ?_) AllReadyH.nil)
        go_simp
        refine (CN _ (by assumption)).mono ?_
        rintro e w15' ⟨rfl, m15'⟩
        refine hK.out _ _ (SO _ (by assumption)) (fun hHeld => ?_)
        clear hK K
        try simp only [Act.put, List.setIfInBounds_toArray, List.set_cons_zero, List.set_cons_succ]
        refine wpAnyH_take (i := 16) (oi := { dst := some 115, op := Op.pick (Operand.tmp 113) (Operand.tmp 114) (Operand.const (Value.bool false)), type := 4, pos := "outright.go:49", after := #[{ on := 14, ground := Ground.data }, { on := 15, ground := Ground.data }], guard := none }) (v := ?_) rfl (by kernel_rfl) (by kernel_rfl) (by kernel_rfl) (fun _ _ _ h => h) (Or.inl ⟨by rfl, ?_⟩) (by assumption) ?_
        rotate_left
        · intro w hSw
          skip
          clear hSw
          go_simp
          try with_reducible rfl
        try simp only [Act.put, List.setIfInBounds_toArray, List.set_cons_zero, List.set_cons_succ]
        refine wpAnyH_take (i := 17) (oi := { dst := some 4, op := Op.assign (Operand.tmp 115), type := 4, pos := "outright.go:49", after := #[{ on := 16, ground := Ground.data }, { on := 15, ground := Ground.chain }, { on := 0, ground := Ground.phase }, { on := 1, ground := Ground.phase }, { on := 2, ground := Ground.phase }, { on := 3, ground := Ground.phase }, { on := 4, ground := Ground.phase }, { on := 5, ground := Ground.phase }, { on := 6, ground := Ground.phase }, { on := 7, ground := Ground.phase }, { on := 8, ground := Ground.phase }, { on := 9, ground := Ground.phase }, { on := 10, ground := Ground.phase }, { on := 11, ground := Ground.phase }, { on := 12, ground := Ground.phase }, { on := 13, ground := Ground.phase }, { on := 14, ground := Ground.phase }, { on := 15, ground := Ground.phase }, { on := 16, ground := Ground.phase }], guard := none }) (v := ?_) rfl (by kernel_rfl) (by kernel_rfl) (by kernel_rfl) (fun _ _ _ h => h) (Or.inl ⟨by rfl, ?_⟩) (by assumption) ?_
        rotate_left
        · intro w hSw
          skip
          clear hSw
          go_simp
          try with_reducible rfl
        try simp only [Act.put, List.setIfInBounds_toArray, List.set_cons_zero, List.set_cons_succ]
        refine wpAnyH_done (by kernel_rfl) ?_ _
        refine NoPanic.normal ?_
        go_wp2
        go_ret
        exact ⟨rfl, ML _ (by assumption)⟩
theorem made_walk (I : Impl) (a0 a1 : List UInt8) (W : World) (h0 : a0.length = 3) (h1 : a1.length = 32) :
    Calls Tryd.prog 7 #[.agg (cells8 a0), .agg (cells8 a1)] W fun e w' => e = .returned (.bool true) ∧ Below W.heap.size W w' := refsMade_any I a0 a1 W h0 h1
end Go.Proofs.YtldbfjcfobdkpaaDoor
