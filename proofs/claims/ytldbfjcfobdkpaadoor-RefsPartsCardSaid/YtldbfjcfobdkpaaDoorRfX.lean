/- Layer 12: the walk of RefsParts. -/
import Derived.Test.YtldbfjcfobdkpaaDoorRfW
import Derived.BigQuiet
namespace Go.Proofs.YtldbfjcfobdkpaaDoor
open Go.RowKit

/-- A digest in the middle of the first row, set. -/
theorem RM.mid {W w : World} {l : List (Nat × Array Value × TypeId)} {g : Nat} {r : RR} (h : RM W w ((g, refC r, 26) :: l)) (hn : ∀ p ∈ l, p.1 ≠ g) (hr : r.dig.length = 32) (d : List UInt8) (hd : d.length = 32) :
    RM W (w.setCells g 3 (d.map byteV)) ((g, refC { r with dig := d }, 26) :: l) := by
  have h0 := h.at_ g (refC r) 26 (List.Mem.head _)
  refine ⟨below_setCells h0.2 _ _ h.b, fun k ds u hm => ?_⟩
  rcases List.mem_cons.1 hm with e | hm
  · cases e
    refine ⟨?_, h0.2⟩
    unfold refC
    rw [← refL_dig r d hr hd]
    exact rowC_setCells _ 3 h0.1 (by unfold refL; simp [hr, hd])
  · have ⟨h1, h2⟩ := h.at_ k ds u (List.mem_cons_of_mem _ hm)
    exact ⟨rowC_setCells_other (hn _ hm) _ _ h1, h2⟩
theorem RM.cells {W w : World} {l : List (Nat × Array Value × TypeId)} {g : Nat} {r : RR} (h : RM W w ((g, refC r, 26) :: l)) (ho : r.ok) :
    (w.cell? ⟨g, 0, none⟩ = some (.string (str r.dom)) ∧ w.cell? ⟨g, 1, none⟩ = some (.string (str r.path)) ∧ w.cell? ⟨g, 2, none⟩ = some (.string (str r.tag)) ∧ w.cell? ⟨g, 35, none⟩ = some (.bool r.pin)) ∧
    (w.frozen? ⟨g, 0, none⟩ = false ∧ w.frozen? ⟨g, 1, none⟩ = false ∧ w.frozen? ⟨g, 2, none⟩ = false ∧ w.frozen? ⟨g, 35, none⟩ = false) := by
  have h1 := (h.at_ g (refC r) 26 (List.Mem.head _)).1
  exact ⟨⟨(rowC_cell h1 0).trans (refC_get0 r), (rowC_cell h1 1).trans (refC_get1 r), (rowC_cell h1 2).trans (refC_get2 r), (rowC_cell h1 35).trans (refC_get35 ho)⟩, rowC_free h1 0, rowC_free h1 1, rowC_free h1 2, rowC_free h1 35⟩
theorem RM.there {W w : World} {l : List (Nat × Array Value × TypeId)} {g : Nat} {r : RR} (h : RM W w ((g, refC r, 26) :: l)) (ho : r.ok) : w.there g 3 32 := fun j hj => by
  have h1 := (h.at_ g (refC r) 26 (List.Mem.head _)).1
  refine ⟨?_, rowC_free h1 _⟩
  rw [rowC_cell h1 (3 + j), Array.getElem?_eq_getElem (by rw [refC_size ho]; omega)]
  rfl
def domsL : List (List UInt8) := [[], [100, 111, 99, 107, 101, 114, 46, 105, 111, 47], [105, 110, 100, 101, 120, 46, 100, 111, 99, 107, 101, 114, 46, 105, 111, 47], [108, 111, 99, 97, 108, 104, 111, 115, 116, 47], [108, 111, 99, 97, 108, 104, 111, 115, 116, 58, 53, 48, 48, 48, 47], [97, 45, 98, 46, 67, 47], [45, 97, 46, 98, 47], [97, 46, 98, 58, 49, 50, 51, 52, 53, 54, 47], [114, 101, 103, 105, 115, 116, 114, 121, 47], [97, 46, 46, 98, 47]]
def pathsL : List (List UInt8) := [[97], [108, 105, 98, 114, 97, 114, 121, 47, 97], [97, 47, 98], [97, 46, 98, 47, 99], [97, 95, 95, 98], [97, 95, 95, 95, 98], [97, 45, 45, 98], [97, 45], [97, 46, 95, 98], [48, 47, 49, 47, 50], [65], []]
def tagsL : List (List UInt8) := [[], [58, 108, 97, 116, 101, 115, 116], [58, 49, 46, 48], [58, 95, 120], [58, 46, 120], [58, 45, 120], [58], [58, 48, 49, 50, 51, 52, 53, 54, 55, 56, 57, 48, 49, 50, 51, 52, 53, 54, 55, 56, 57, 48, 49, 50, 51, 52, 53, 54, 55, 56, 57, 48, 49, 50, 51]]
theorem doms_le : ∀ k, k < 10 → (domsL.getD k []).length ≤ 20 := by decide
theorem paths_le : ∀ k, k < 12 → (pathsL.getD k []).length ≤ 20 := by decide
theorem tags_le : ∀ k, k < 8 → (tagsL.getD k []).length ≤ 40 := by decide
theorem built_dig (g : List UInt8) (hg : g.length = 32) : Tryd.prog.built 26 [(3, .agg (cells8 g)), (4, .bool true)] = some (refC ⟨[], [], [], g, true⟩) := by
  match g, hg with
  | [a0, a1, a2, a3, a4, a5, a6, a7, a8, a9, b0, b1, b2, b3, b4, b5, b6, b7, b8, b9, c0, c1, c2, c3, c4, c5, c6, c7, c8, c9, d0, d1], _ =>
    show _ = _
    kernel_rfl
theorem built_xyz (g : List UInt8) (hg : g.length = 32) : Tryd.prog.built 26 [(0, .string ⟨#[120, 46, 121]⟩), (1, .string ⟨#[122]⟩), (3, .agg (cells8 g)), (4, .bool true)] = some (refC ⟨[120, 46, 121], [122], [], g, true⟩) := by
  match g, hg with
  | [a0, a1, a2, a3, a4, a5, a6, a7, a8, a9, b0, b1, b2, b3, b4, b5, b6, b7, b8, b9, c0, c1, c2, c3, c4, c5, c6, c7, c8, c9, d0, d1], _ =>
    show _ = _
    kernel_rfl
/-- The name that the digest's text is taken from. -/
theorem xyz_show {g : List UInt8} (hg : g.length = 32) : (showR ⟨[120, 46, 121], [122], [], g, true⟩).length = 77 := by
  have ht : (textL g).length = 71 := by rw [textL_length, hg]
  have hl : (textR ⟨[120, 46, 121], [122], [], g, true⟩).length = 77 := by
    rw [textR_full]
    unfold tailT tailD
    simp only [if_true, List.length_append, List.length_cons, List.length_nil]
    omega
  have e1 : placeOk ⟨[120, 46, 121], [122], [], g, true⟩ = true := by
    have d1 : placeOk ⟨[120, 46, 121], [122], [], [], true⟩ = true := by decide +kernel
    exact d1
  have e3 : sizeOk ⟨[120, 46, 121], [122], [], g, true⟩ = true := by
    unfold sizeOk
    rw [Bool.and_eq_true, decide_eq_true_eq, hl]
    exact ⟨rfl, by decide⟩
  have hm : mayR ⟨[120, 46, 121], [122], [], g, true⟩ = true := by
    unfold mayR
    rw [e1, e3]
    rfl
  rw [show_yes hm, hl]
set_option maxRecDepth 100000 in
set_option maxHeartbeats 16000000 in
theorem refsParts_any (I : Impl) (n g : List UInt8) (w : World) (hn : n.length = 6) (hg : g.length = 32) : Calls Tryd.prog 5 #[.agg (cells8 n), .agg (cells8 g)] w fun e w' => e = .returned (.bool true) ∧ Below w.heap.size w w' := by
  have HG := Lib.hid hg
  have s3 : (cells8 n).size = 6 := by rw [cells8_size, hn]
  have s32 : (cells8 g).size = 32 := by rw [cells8_size, hg]
  have M0 := ((RM.start w).alloc (cells8 n) 34)
  obtain ⟨w1, hw1⟩ : ∃ w1, w.alloc (.cells (cells8 n) 34) = w1 := ⟨_, rfl⟩
  rw [hw1] at M0
  have hs1 : w1.heap.size = w.heap.size + 1 := by rw [← hw1, size_alloc]
  have M1 := M0.alloc (cells8 g) 24
  obtain ⟨w2, hw2⟩ : ∃ w2, w1.alloc (.cells (cells8 g) 24) = w2 := ⟨_, rfl⟩
  rw [hw2] at M1
  obtain ⟨x, hx⟩ : ∃ x : Nat → UInt8, ∀ i, n.getD i 0 = x i := ⟨fun i => n.getD i 0, fun _ => rfl⟩
  have key : ∀ {w' : World} {l}, RM w w' l → (w.heap.size, cells8 n, 34) ∈ l → ∀ i, i < 6 → w'.cell? ⟨w.heap.size, i, none⟩ = some (.int .u8 ((x i).toNat : Int)) := fun m hm i hi => by
    have a0 := cells8_at (m.at_ _ _ _ hm).1 (k := i) (by omega)
    rw [hx i] at a0
    exact a0
  have HK := Lib.hid (fun (w' : World) l (m : RM w w' l) hm => key m hm)
  have M := Lib.hid M1
  clear key M0 M1 hx
  have emod : ∀ (i k : Nat), 0 < k → ((x i).toNat : Int).tmod (k : Int) = (((x i).toNat % k : Nat) : Int) := fun i k hk => by
    rw [Int.tmod_eq_emod_of_nonneg (by omega)]
    omega
  obtain ⟨k0, h0, l0⟩ : ∃ k, (x 0).toNat % 10 = k ∧ k < 10 := ⟨_, rfl, Nat.mod_lt _ (by decide)⟩
  obtain ⟨k1, h1, l1⟩ : ∃ k, (x 1).toNat % 12 = k ∧ k < 12 := ⟨_, rfl, Nat.mod_lt _ (by decide)⟩
  obtain ⟨k2, h2, l2⟩ : ∃ k, (x 2).toNat % 8 = k ∧ k < 8 := ⟨_, rfl, Nat.mod_lt _ (by decide)⟩
  obtain ⟨k3, h3, l3⟩ : ∃ k, (x 3).toNat % 8 = k ∧ k < 8 := ⟨_, rfl, Nat.mod_lt _ (by decide)⟩
  obtain ⟨k4, h4, l4⟩ : ∃ k, (x 4).toNat % 12 = k ∧ k < 12 := ⟨_, rfl, Nat.mod_lt _ (by decide)⟩
  obtain ⟨k5, h5, l5⟩ : ∃ k, (x 5).toNat % 2 = k ∧ k < 2 := ⟨_, rfl, Nat.mod_lt _ (by decide)⟩
  have e0 : ((x 0).toNat : Int).tmod 10 = (k0 : Int) := by rw [← h0]; exact emod 0 10 (by decide)
  have e1 : ((x 1).toNat : Int).tmod 12 = (k1 : Int) := by rw [← h1]; exact emod 1 12 (by decide)
  have e2 : ((x 2).toNat : Int).tmod 8 = (k2 : Int) := by rw [← h2]; exact emod 2 8 (by decide)
  have e3 : ((x 3).toNat : Int).tmod 8 = (k3 : Int) := by rw [← h3]; exact emod 3 8 (by decide)
  have e4 : ((x 4).toNat : Int).tmod 12 = (k4 : Int) := by rw [← h4]; exact emod 4 12 (by decide)
  have e5 : ((x 5).toNat : Int).tmod 2 = (k5 : Int) := by rw [← h5]; exact emod 5 2 (by decide)
  clear h0 h1 h2 h3 h4 h5 emod
  have HIg := Lib.hid (info_digest hg)
  have HBd := Lib.hid (built_dig g hg)
  have HO8 := Lib.hid (show (⟨[], [], [], g, true⟩ : RR).ok from ⟨Nat.zero_le _, Nat.zero_le _, Nat.zero_le _, hg⟩)
  have HI8 := Lib.hid (info_ref HO8.out)
  have HS8 := Lib.hid (show (refC zeroR).size = (refC ⟨[], [], [], g, true⟩).size by rw [refC_size zero_ok, refC_size HO8.out])
  obtain ⟨v5, hv5⟩ : ∃ v, w2.alloc (.cells #[.string ⟨#[]⟩, .string ⟨#[]⟩, .string ⟨#[]⟩, .string ⟨#[]⟩, .string ⟨#[]⟩, .string ⟨#[]⟩, .string ⟨#[]⟩, .string ⟨#[]⟩, .string ⟨#[]⟩, .string ⟨#[]⟩] 35) = v := ⟨_, rfl⟩
  obtain ⟨HR5, HN5⟩ := M.out.made hv5 (rowT domsL)
  replace HR5 := Lib.hid HR5
  replace M := Lib.hid HN5
  clear HN5
  go_enter Tryd.func5, Tryd.ntmps5
  go_upto_region 5 with (first
    | ((with_reducible show wpList _ _ _ (⟨none, .store _ (.tmp 5) _, _, _, _, _⟩ :: _) _ _); refine wpList_store_row rfl 35 _ _ rfl w2.heap.size (rowT domsL) rfl (by kernel_rfl) 35 _ HR5.out (by kernel_rfl) (by kernel_rfl) (rowT_one _) ?_; generalize World.setRow _ _ _ = y5 at *; obtain ⟨v6, hv6⟩ : ∃ v, y5.alloc (.cells #[.string ⟨#[]⟩, .string ⟨#[]⟩, .string ⟨#[]⟩, .string ⟨#[]⟩, .string ⟨#[]⟩, .string ⟨#[]⟩, .string ⟨#[]⟩, .string ⟨#[]⟩, .string ⟨#[]⟩, .string ⟨#[]⟩, .string ⟨#[]⟩, .string ⟨#[]⟩] 36) = v := ⟨_, rfl⟩; obtain ⟨HR6, HN6⟩ := M.out.made hv6 (rowT pathsL); replace HR6 := Lib.hid HR6; replace M := Lib.hid HN6; clear HN6)
    | ((with_reducible show wpList _ _ _ (⟨none, .store _ (.tmp 6) _, _, _, _, _⟩ :: _) _ _); refine wpList_store_row rfl 36 _ _ rfl y5.heap.size (rowT pathsL) rfl (by kernel_rfl) 36 _ HR6.out (by kernel_rfl) (by kernel_rfl) (rowT_one _) ?_; generalize World.setRow _ _ _ = y6 at *; obtain ⟨v7, hv7⟩ : ∃ v, y6.alloc (.cells #[.string ⟨#[]⟩, .string ⟨#[]⟩, .string ⟨#[]⟩, .string ⟨#[]⟩, .string ⟨#[]⟩, .string ⟨#[]⟩, .string ⟨#[]⟩, .string ⟨#[]⟩] 37) = v := ⟨_, rfl⟩; obtain ⟨HR7, HN7⟩ := M.out.made hv7 (rowT tagsL); replace HR7 := Lib.hid HR7; replace M := Lib.hid HN7; clear HN7)
    | ((with_reducible show wpList _ _ _ (⟨none, .store _ (.tmp 7) _, _, _, _, _⟩ :: _) _ _); refine wpList_store_row rfl 37 _ _ rfl y6.heap.size (rowT tagsL) rfl (by kernel_rfl) 37 _ HR7.out (by kernel_rfl) (by kernel_rfl) (rowT_one _) ?_; generalize World.setRow _ _ _ = y7 at *; obtain ⟨v8, hv8⟩ : ∃ v, y7.alloc (.cells #[.string ⟨#[]⟩, .string ⟨#[]⟩, .string ⟨#[]⟩, .int .u8 0, .int .u8 0, .int .u8 0, .int .u8 0, .int .u8 0, .int .u8 0, .int .u8 0, .int .u8 0, .int .u8 0, .int .u8 0, .int .u8 0, .int .u8 0, .int .u8 0, .int .u8 0, .int .u8 0, .int .u8 0, .int .u8 0, .int .u8 0, .int .u8 0, .int .u8 0, .int .u8 0, .int .u8 0, .int .u8 0, .int .u8 0, .int .u8 0, .int .u8 0, .int .u8 0, .int .u8 0, .int .u8 0, .int .u8 0, .int .u8 0, .int .u8 0, .bool false] 26) = v := ⟨_, rfl⟩; have MB7 := M; obtain ⟨HR8, HN8⟩ := M.out.made hv8 (refC ⟨[], [], [], g, true⟩); replace HR8 := Lib.hid HR8; replace M := Lib.hid HN8; clear HN8; rw [← zero_lit] at HR8; have D24 := Lib.hid (show rowC y7 (w.heap.size + 1) (cells8 g) 24 by rw [← hs1]; exact (MB7.out.at_ _ _ _ (by simp)).1))
    | ((with_reducible show wpList _ _ _ (⟨some 20, _, _, _, _, _⟩ :: _) _ _); refine wpList_load_row rfl 24 _ rfl (w.heap.size + 1) rfl 24 (cells8 g) (0, 0) _ D24.out Tryd.underlying24 rfl HIg.out ?_)
    | ((with_reducible show wpList _ _ _ (⟨some 21, _, _, _, _, _⟩ :: _) _ _); refine wpList_build_as (o := ⟨some 21, _, _, _, _, _⟩) rfl 26 _ rfl (refC ⟨[], [], [], g, true⟩) (Eq.trans ?_ HBd.out) ?_; kernel_rfl)
    | ((with_reducible show wpList _ _ _ (⟨none, .store _ (.tmp 8) _, _, _, _, _⟩ :: _) _ _); refine wpList_store_row rfl 26 _ _ rfl y7.heap.size (refC ⟨[], [], [], g, true⟩) rfl rfl 26 (refC zeroR) HR8.out HI8.out HS8.out (refC_all _) ?_; generalize World.setRow _ _ _ = y8 at *))
  simp only [Act.put]
  have HNE := Lib.hid (fun p (hp : p ∈ [(y6.heap.size, rowT tagsL, 37), (y5.heap.size, rowT pathsL, 36), (w2.heap.size, rowT domsL, 35), (w1.heap.size, cells8 g, 24), (w.heap.size, cells8 n, 34)]) => show p.1 ≠ y7.heap.size by have := rowC_lt (MB7.out.at_ p.1 p.2.1 p.2.2 hp).1; omega)
  clear hv5 hv6 hv7 hv8 HR5 HR6 HR7 HR8 MB7 D24 HI8 HS8 HBd HIg
  obtain ⟨D, hD⟩ : ∃ D, domsL.getD k0 [] = D := ⟨_, rfl⟩
  obtain ⟨P, hP⟩ : ∃ P, pathsL.getD k1 [] = P := ⟨_, rfl⟩
  obtain ⟨T, hT⟩ : ∃ T, tagsL.getD k2 [] = T := ⟨_, rfl⟩
  obtain ⟨T3, hT3⟩ : ∃ T, tagsL.getD k3 [] = T := ⟨_, rfl⟩
  obtain ⟨P4, hP4⟩ : ∃ T, pathsL.getD k4 [] = T := ⟨_, rfl⟩
  have lD := doms_le k0 l0
  have lP := paths_le k1 l1
  have lT := tags_le k2 l2
  have lT3 := tags_le k3 l3
  have lP4 := paths_le k4 l4
  rw [hD] at lD
  rw [hP] at lP
  rw [hT] at lT
  rw [hT3] at lT3
  rw [hP4] at lP4
  have HDD := Lib.hid (fun w' (m : RM w w' [(y7.heap.size, refC ⟨[], [], [], g, true⟩, 26), (y6.heap.size, rowT tagsL, 37), (y5.heap.size, rowT pathsL, 36), (w2.heap.size, rowT domsL, 35), (w1.heap.size, cells8 g, 24), (w.heap.size, cells8 n, 34)]) => by
    have a0 := rowT_at (k := k0) (m.at_ (w2.heap.size) (rowT domsL) 35 (by simp)).1 l0
    rw [hD] at a0
    exact a0)
  have HDP := Lib.hid (fun w' (m : RM w w' [(y7.heap.size, refC ⟨[], [], [], g, true⟩, 26), (y6.heap.size, rowT tagsL, 37), (y5.heap.size, rowT pathsL, 36), (w2.heap.size, rowT domsL, 35), (w1.heap.size, cells8 g, 24), (w.heap.size, cells8 n, 34)]) => by
    have a0 := rowT_at (k := k1) (m.at_ (y5.heap.size) (rowT pathsL) 36 (by simp)).1 l1
    rw [hP] at a0
    exact a0)
  have HDT := Lib.hid (fun w' (m : RM w w' [(y7.heap.size, refC ⟨[], [], [], g, true⟩, 26), (y6.heap.size, rowT tagsL, 37), (y5.heap.size, rowT pathsL, 36), (w2.heap.size, rowT domsL, 35), (w1.heap.size, cells8 g, 24), (w.heap.size, cells8 n, 34)]) => by
    have a0 := rowT_at (k := k2) (m.at_ (y6.heap.size) (rowT tagsL) 37 (by simp)).1 l2
    rw [hT] at a0
    exact a0)
  have HDT3 := Lib.hid (fun w' l (m : RM w w' l) (hm : (y6.heap.size, rowT tagsL, 37) ∈ l) => by
    have a0 := rowT_at (k := k3) (m.at_ (y6.heap.size) (rowT tagsL) 37 hm).1 l3
    rw [hT3] at a0
    exact a0)
  have HDP4 := Lib.hid (fun w' l (m : RM w w' l) (hm : (y5.heap.size, rowT pathsL, 36) ∈ l) => by
    have a0 := rowT_at (k := k4) (m.at_ (y5.heap.size) (rowT pathsL) 36 hm).1 l4
    rw [hP4] at a0
    exact a0)
  clear hD hP hT hT3 hP4
  have zD := str_size D
  have zP := str_size P
  have zT := str_size T
  have zT3 := str_size T3
  obtain ⟨DP, hDP⟩ : ∃ x : List UInt8, x = D ++ P := ⟨_, rfl⟩
  obtain ⟨SX, hSX⟩ : ∃ x : List UInt8, x = DP ++ T := ⟨_, rfl⟩
  have p1 : str D ++ str P = str DP := by rw [hDP, ← str_append]
  have p2 : str DP ++ str T = str SX := by rw [hSX, ← str_append]
  have zDP := str_size DP
  have lDP : DP.length ≤ 40 := by rw [hDP, List.length_append]; omega
  have zSX := str_size SX
  have lSX : SX.length ≤ 80 := by rw [hSX, List.length_append]; omega
  clear hDP hSX
  go_cut [9] from 17 (fun s9 wx => s9 = .string (str SX) ∧ Hid (RM w wx [(y7.heap.size, refC ⟨[], [], [], g, true⟩, 26), (y6.heap.size, rowT tagsL, 37), (y5.heap.size, rowT pathsL, 36), (w2.heap.size, rowT domsL, 35), (w1.heap.size, cells8 g, 24), (w.heap.size, cells8 n, 34)]))
  case first =>
    have c0 := HK.out _ _ M.out (by simp) 0 (by decide)
    have c1 := HK.out _ _ M.out (by simp) 1 (by decide)
    have c2 := HK.out _ _ M.out (by simp) 2 (by decide)
    have d0 := HDD.out _ M.out
    have d1 := HDP.out _ M.out
    have d2 := HDT.out _ M.out
    go_quiet (fail)
    go_wp2_with (fail)
    go_meet
    case rel => exact ⟨rfl, Lib.hid (M.out.below (below_drewN (Below.refl _ _) _))⟩
  case rest =>
    obtain ⟨rfl, M1⟩ := hcut
    clear M p1 p2 zD zP zT zDP lD lP lT lDP HDD HDP HDT
    have M := M1
    clear M1
    obtain ⟨Y, hY⟩ : ∃ Y, showR ⟨[120, 46, 121], [122], [], g, true⟩ = Y := ⟨_, rfl⟩
    have HOz := Lib.hid (show (⟨[120, 46, 121], [122], [], g, true⟩ : RR).ok from ⟨by show ([120, 46, 121] : List UInt8).length ≤ 1000; decide, by show ([122] : List UInt8).length ≤ 1000; decide, Nat.zero_le _, HG.out⟩)
    have CY := fun w => rshow_any ⟨[120, 46, 121], [122], [], g, true⟩ w HOz.out
    rw [hY] at CY
    have zY : (str Y).size = 77 := by rw [str_size, ← hY]; exact xyz_show HG.out
    have HYl := Lib.hid (show Y.length = 77 by rw [← hY]; exact xyz_show HG.out)
    clear hY
    have HIg := Lib.hid (info_digest HG.out)
    have HBx := Lib.hid (built_xyz g HG.out)
    have D24 := Lib.hid (show rowC wc (w.heap.size + 1) (cells8 g) 24 by rw [← hs1]; exact (M.out.at_ _ _ _ (by simp)).1)
    go_upto_region 7 with (first
      | ((with_reducible show wpList _ _ _ (⟨some 39, _, _, _, _, _⟩ :: _) _ _); refine wpList_load_row rfl 24 _ rfl (w.heap.size + 1) rfl 24 (cells8 g) (0, 0) _ D24.out Tryd.underlying24 rfl HIg.out ?_)
      | ((with_reducible show wpList _ _ _ (⟨some 40, _, _, _, _, _⟩ :: _) _ _); refine wpList_build_as (o := ⟨some 40, _, _, _, _, _⟩) rfl 26 _ rfl (refC ⟨[120, 46, 121], [122], [], g, true⟩) (Eq.trans ?_ HBx.out) ?_; kernel_rfl)
      | (go_at_call 12; ((with_reducible refine (CY _).mono ?_); rintro e wy ⟨rfl, by_⟩); replace M := Lib.hid (M.out.below by_); clear by_))
    clear CY HBx D24 HOz
    obtain ⟨Y5, hY5⟩ : ∃ x, (Y.take 77).drop 5 = x := ⟨_, rfl⟩
    obtain ⟨Y6, hY6⟩ : ∃ x, (Y.take 76).drop 5 = x := ⟨_, rfl⟩
    have x5 := extract_str Y 5 77
    have x6 := extract_str Y 5 76
    rw [hY5] at x5
    rw [hY6] at x6
    have l5' : Y5.length ≤ 80 := by rw [← hY5, List.length_drop, List.length_take]; omega
    have l6' : Y6.length ≤ 80 := by rw [← hY6, List.length_drop, List.length_take]; omega
    have z5 := str_size Y5
    have z6 := str_size Y6
    clear hY5 hY6
    obtain ⟨Q1, hQ1⟩ : ∃ x : List UInt8, x = SX ++ Y5 := ⟨_, rfl⟩
    obtain ⟨Q2, hQ2⟩ : ∃ x : List UInt8, x = SX ++ Y6 := ⟨_, rfl⟩
    obtain ⟨SA, hSA⟩ : ∃ x : List UInt8, x = SX ++ [64] := ⟨_, rfl⟩
    obtain ⟨Q3, hQ3⟩ : ∃ x : List UInt8, x = SA ++ T3 := ⟨_, rfl⟩
    have p1 : str SX ++ str Y5 = str Q1 := by rw [hQ1, ← str_append]
    have p2 : str SX ++ str Y6 = str Q2 := by rw [hQ2, ← str_append]
    have p3 : str SX ++ ⟨#[64]⟩ = str SA := by rw [hSA, ← str_append]; rfl
    have p4 : str SA ++ str T3 = str Q3 := by rw [hQ3, ← str_append]
    have zSA := str_size SA
    have lSA : SA.length ≤ 100 := by rw [hSA, List.length_append, List.length_singleton]; omega
    have q1 : Q1.length ≤ 200 := by rw [hQ1, List.length_append]; omega
    have q2 : Q2.length ≤ 200 := by rw [hQ2, List.length_append]; omega
    have q3 : Q3.length ≤ 200 := by rw [hQ3, List.length_append]; omega
    clear hQ1 hQ2 hSA hQ3
    obtain ⟨LT, hLT⟩ : ∃ L, L = [SX, Q1, Q2, Q3] := ⟨_, rfl⟩
    have HLl := Lib.hid (show LT.length = 4 by rw [hLT]; rfl)
    have HLe := Lib.hid (show ∀ i, (LT.getD i []).length ≤ 200 by
      intro i
      rw [hLT]
      match i with
      | 0 => exact Nat.le_trans lSX (by decide)
      | 1 => exact q1
      | 2 => exact q2
      | 3 => exact q3
      | _ + 4 => exact Nat.zero_le _)
    have HLr := Lib.hid (show rowT LT = #[.string (str SX), .string (str Q1), .string (str Q2), .string (str Q3)] by rw [hLT]; rfl)
    clear hLT q1 q2 q3
    go_cut [11] from 17 (fun s11 wx => ∃ gB, s11 = .pointer (some ⟨gB, 0, none⟩) ∧ Hid (RM w wx ((gB, rowT LT, 38) :: [(y7.heap.size, refC ⟨[], [], [], g, true⟩, 26), (y6.heap.size, rowT tagsL, 37), (y5.heap.size, rowT pathsL, 36), (w2.heap.size, rowT domsL, 35), (w1.heap.size, cells8 g, 24), (w.heap.size, cells8 n, 34)])))
    case first =>
      have n1 : ¬ 9223372036854775807 < SX.length + Y5.length := by omega
      have n2 : ¬ 9223372036854775807 < SX.length + Y6.length := by omega
      have n3 : ¬ 9223372036854775807 < SX.length + 1 := by omega
      have n4 : ¬ 9223372036854775807 < SA.length + T3.length := by omega
      have i3 : (k3 : Int) < 8 := by omega
      have w76 : IntKind.i64.wrap 76 = 76 := by rw [IntWalk.i64_in _ (by omega)]
      have md := M.out.below (Below.refl wy.heap.size wy).drew
      have HI4 := Lib.hid (show (Tryd.prog.info? 38).map (·.size) = some (rowT LT).size by rw [HLr.out]; kernel_rfl)
      have c3 := HK.out _ _ md (by simp) 3 (by decide)
      have d3 := HDT3.out _ _ md (by simp)
      obtain ⟨SS, hSS⟩ : ∃ SS : World → Prop, SS = fun w' => w'.cell? ⟨w.heap.size, 3, none⟩ = some (.int .u8 ((x 3).toNat : Int)) ∧ w'.cell? ⟨y6.heap.size, k3, none⟩ = some (.string (str T3)) := ⟨_, rfl⟩
      have SO : ∀ w', w'.cell? ⟨w.heap.size, 3, none⟩ = some (.int .u8 ((x 3).toNat : Int)) ∧ w'.cell? ⟨y6.heap.size, k3, none⟩ = some (.string (str T3)) → SS w' := fun w' m => by rw [hSS]; exact m
      have OS : ∀ w', SS w' → w'.cell? ⟨w.heap.size, 3, none⟩ = some (.int .u8 ((x 3).toNat : Int)) ∧ w'.cell? ⟨y6.heap.size, k3, none⟩ = some (.string (str T3)) := fun w' h => by rw [hSS] at h; exact h
      clear hSS
      have ma := md.alloc #[.string ⟨#[]⟩, .string ⟨#[]⟩, .string ⟨#[]⟩, .string ⟨#[]⟩] 38
      have K1 := And.intro (HK.out _ _ ma (by simp) 3 (by decide)) (HDT3.out _ _ ma (by simp))
      obtain ⟨HR4, HN4⟩ := md.made rfl (z := #[.string ⟨#[]⟩, .string ⟨#[]⟩, .string ⟨#[]⟩, .string ⟨#[]⟩]) (t := 38) (rowT LT)
      have K2 := And.intro (HK.out _ _ HN4 (by simp) 3 (by decide)) (HDT3.out _ _ HN4 (by simp))
      replace HR4 := Lib.hid HR4
      have M4 := Lib.hid HN4
      clear HN4 ma M
      refine wp_region_noPanic ?_
      refine wp_region_held_drew (S := SS) (by kernel_rfl) (SO _ ⟨c3, d3⟩) (fun hHeld => ?_)
      clear c3 d3
      generalize wy.drew = wd at *
      refine wpAnyH_take (i := 0) (oi := { dst := some 42, op := Op.move (Operand.tmp 9), type := 9, pos := "law.go:53", after := #[], guard := none }) (v := ?_) rfl (by kernel_rfl) (by kernel_rfl) (by kernel_rfl) (fun _ _ _ h => h) (Or.inl ⟨by rfl, ?_⟩) (by assumption) ?_
      rotate_left
      · intro w hSw
        skip
        clear hSw
        go_simp
        try with_reducible rfl
      try simp only [Act.put, List.setIfInBounds_toArray, List.set_cons_zero, List.set_cons_succ]
      refine wpAnyH_take (i := 1) (oi := { dst := some 43, op := Op.move (Operand.tmp 9), type := 9, pos := "law.go:53", after := #[], guard := none }) (v := ?_) rfl (by kernel_rfl) (by kernel_rfl) (by kernel_rfl) (fun _ _ _ h => h) (Or.inl ⟨by rfl, ?_⟩) (by assumption) ?_
      rotate_left
      · intro w hSw
        skip
        clear hSw
        go_simp
        try with_reducible rfl
      try simp only [Act.put, List.setIfInBounds_toArray, List.set_cons_zero, List.set_cons_succ]
      refine wpAnyH_take (i := 2) (oi := { dst := some 44, op := Op.move (Operand.tmp 10), type := 9, pos := "law.go:53", after := #[], guard := none }) (v := ?_) rfl (by kernel_rfl) (by kernel_rfl) (by kernel_rfl) (fun _ _ _ h => h) (Or.inl ⟨by rfl, ?_⟩) (by assumption) ?_
      rotate_left
      · intro w hSw
        skip
        clear hSw
        go_simp
        try with_reducible rfl
      try simp only [Act.put, List.setIfInBounds_toArray, List.set_cons_zero, List.set_cons_succ]
      refine wpAnyH_take (i := 3) (oi := { dst := some 45, op := Op.slice 9 (Operand.tmp 44) (some (Operand.const (Value.int IntKind.i64 5))) none none, type := 9, pos := "law.go:53", after := #[{ on := 2, ground := Ground.data }], guard := none }) (v := ?_) rfl (by kernel_rfl) (by kernel_rfl) (by kernel_rfl) (fun _ _ _ h => h) (Or.inl ⟨by rfl, ?_⟩) (by assumption) ?_
      rotate_left
      · intro w hSw
        skip
        clear hSw
        go_simp
        try with_reducible rfl
      try simp only [Act.put, List.setIfInBounds_toArray, List.set_cons_zero, List.set_cons_succ]
      refine wpAnyH_take (i := 4) (oi := { dst := some 46, op := Op.binOp BinOp.add 9 (Operand.tmp 43) (Operand.tmp 45) 9, type := 9, pos := "law.go:53", after := #[{ on := 1, ground := Ground.data }, { on := 3, ground := Ground.data }], guard := none }) (v := ?_) rfl (by kernel_rfl) (by kernel_rfl) (by kernel_rfl) (fun _ _ _ h => h) (Or.inl ⟨by rfl, ?_⟩) (by assumption) ?_
      rotate_left
      · intro w hSw
        skip
        clear hSw
        go_simp
        try with_reducible rfl
      try simp only [Act.put, List.setIfInBounds_toArray, List.set_cons_zero, List.set_cons_succ]
      refine wpAnyH_take (i := 5) (oi := { dst := some 47, op := Op.move (Operand.tmp 9), type := 9, pos := "law.go:53", after := #[], guard := none }) (v := ?_) rfl (by kernel_rfl) (by kernel_rfl) (by kernel_rfl) (fun _ _ _ h => h) (Or.inl ⟨by rfl, ?_⟩) (by assumption) ?_
      rotate_left
      · intro w hSw
        skip
        clear hSw
        go_simp
        try with_reducible rfl
      try simp only [Act.put, List.setIfInBounds_toArray, List.set_cons_zero, List.set_cons_succ]
      refine wpAnyH_take (i := 6) (oi := { dst := some 48, op := Op.move (Operand.tmp 10), type := 9, pos := "law.go:53", after := #[], guard := none }) (v := ?_) rfl (by kernel_rfl) (by kernel_rfl) (by kernel_rfl) (fun _ _ _ h => h) (Or.inl ⟨by rfl, ?_⟩) (by assumption) ?_
      rotate_left
      · intro w hSw
        skip
        clear hSw
        go_simp
        try with_reducible rfl
      try simp only [Act.put, List.setIfInBounds_toArray, List.set_cons_zero, List.set_cons_succ]
      refine wpAnyH_take (i := 7) (oi := { dst := some 49, op := Op.move (Operand.tmp 10), type := 9, pos := "law.go:53", after := #[], guard := none }) (v := ?_) rfl (by kernel_rfl) (by kernel_rfl) (by kernel_rfl) (fun _ _ _ h => h) (Or.inl ⟨by rfl, ?_⟩) (by assumption) ?_
      rotate_left
      · intro w hSw
        skip
        clear hSw
        go_simp
        try with_reducible rfl
      try simp only [Act.put, List.setIfInBounds_toArray, List.set_cons_zero, List.set_cons_succ]
      refine wpAnyH_take (i := 8) (oi := { dst := some 50, op := Op.call { callee := Callee.builtin Builtin.len, args := #[Operand.tmp 49], argTypes := #[9] }, type := 3, pos := "law.go:53", after := #[{ on := 7, ground := Ground.data }], guard := none }) (v := ?_) rfl (by kernel_rfl) (by kernel_rfl) (by kernel_rfl) (fun _ _ _ h => h) (Or.inl ⟨by rfl, ?_⟩) (by assumption) ?_
      rotate_left
      · intro w hSw
        skip
        clear hSw
        go_simp
        try with_reducible rfl
      try simp only [Act.put, List.setIfInBounds_toArray, List.set_cons_zero, List.set_cons_succ]
      refine wpAnyH_take (i := 9) (oi := { dst := some 51, op := Op.binOp BinOp.sub 3 (Operand.tmp 50) (Operand.const (Value.int IntKind.i64 1)) 3, type := 3, pos := "law.go:53", after := #[{ on := 8, ground := Ground.data }], guard := none }) (v := ?_) rfl (by kernel_rfl) (by kernel_rfl) (by kernel_rfl) (fun _ _ _ h => h) (Or.inl ⟨by rfl, ?_⟩) (by assumption) ?_
      rotate_left
      · intro w hSw
        skip
        clear hSw
        go_simp
        try with_reducible rfl
      try simp only [Act.put, List.setIfInBounds_toArray, List.set_cons_zero, List.set_cons_succ]
      refine wpAnyH_take (i := 10) (oi := { dst := some 52, op := Op.slice 9 (Operand.tmp 48) (some (Operand.const (Value.int IntKind.i64 5))) (some (Operand.tmp 51)) none, type := 9, pos := "law.go:53", after := #[{ on := 6, ground := Ground.data }, { on := 9, ground := Ground.data }], guard := none }) (v := ?_) rfl (by kernel_rfl) (by kernel_rfl) (by kernel_rfl) (fun _ _ _ h => h) (Or.inl ⟨by rfl, ?_⟩) (by assumption) ?_
      rotate_left
      · intro w hSw
        skip
        clear hSw
        go_simp
        try with_reducible rfl
      try simp only [Act.put, List.setIfInBounds_toArray, List.set_cons_zero, List.set_cons_succ]
      refine wpAnyH_take (i := 11) (oi := { dst := some 53, op := Op.binOp BinOp.add 9 (Operand.tmp 47) (Operand.tmp 52) 9, type := 9, pos := "law.go:53", after := #[{ on := 5, ground := Ground.data }, { on := 10, ground := Ground.data }], guard := none }) (v := ?_) rfl (by kernel_rfl) (by kernel_rfl) (by kernel_rfl) (fun _ _ _ h => h) (Or.inl ⟨by rfl, ?_⟩) (by assumption) ?_
      rotate_left
      · intro w hSw
        skip
        clear hSw
        go_simp
        try with_reducible rfl
      try simp only [Act.put, List.setIfInBounds_toArray, List.set_cons_zero, List.set_cons_succ]
      refine wpAnyH_take (i := 12) (oi := { dst := some 54, op := Op.move (Operand.tmp 9), type := 9, pos := "law.go:53", after := #[], guard := none }) (v := ?_) rfl (by kernel_rfl) (by kernel_rfl) (by kernel_rfl) (fun _ _ _ h => h) (Or.inl ⟨by rfl, ?_⟩) (by assumption) ?_
      rotate_left
      · intro w hSw
        skip
        clear hSw
        go_simp
        try with_reducible rfl
      try simp only [Act.put, List.setIfInBounds_toArray, List.set_cons_zero, List.set_cons_succ]
      refine wpAnyH_take (i := 13) (oi := { dst := some 55, op := Op.binOp BinOp.add 9 (Operand.tmp 54) (Operand.const (Value.string { data := #[64] })) 9, type := 9, pos := "law.go:53", after := #[{ on := 12, ground := Ground.data }], guard := none }) (v := ?_) rfl (by kernel_rfl) (by kernel_rfl) (by kernel_rfl) (fun _ _ _ h => h) (Or.inl ⟨by rfl, ?_⟩) (by assumption) ?_
      rotate_left
      · intro w hSw
        skip
        clear hSw
        go_simp
        try with_reducible rfl
      try simp only [Act.put, List.setIfInBounds_toArray, List.set_cons_zero, List.set_cons_succ]
      refine wpAnyH_take (i := 14) (oi := { dst := some 56, op := Op.indexAddr 34 (Operand.tmp 2) (Operand.const (Value.int IntKind.i64 3)), type := 0, pos := "law.go:53", after := #[], guard := none }) (v := ?_) rfl (by kernel_rfl) (by kernel_rfl) (by kernel_rfl) (fun _ _ _ h => h) (Or.inl ⟨by rfl, ?_⟩) (by assumption) ?_
      rotate_left
      · intro w hSw
        skip
        clear hSw
        go_simp
        try with_reducible rfl
      try simp only [Act.put, List.setIfInBounds_toArray, List.set_cons_zero, List.set_cons_succ]
      refine wpAnyH_take (i := 15) (oi := { dst := some 57, op := Op.load 5 (Operand.tmp 56), type := 5, pos := "law.go:53", after := #[{ on := 14, ground := Ground.data }], guard := none }) (v := ?_) rfl (by kernel_rfl) (by kernel_rfl) (by kernel_rfl) (fun _ _ _ h => h) (Or.inl ⟨by rfl, ?_⟩) (by assumption) ?_
      rotate_left
      · intro w hSw
        have hSw := OS _ hSw
        go_simp
        try with_reducible rfl
      try simp only [Act.put, List.setIfInBounds_toArray, List.set_cons_zero, List.set_cons_succ]
      refine wpAnyH_take (i := 16) (oi := { dst := some 58, op := Op.binOp BinOp.rem 5 (Operand.tmp 57) (Operand.const (Value.int IntKind.u8 8)) 5, type := 5, pos := "law.go:53", after := #[{ on := 15, ground := Ground.data }], guard := none }) (v := ?_) rfl (by kernel_rfl) (by kernel_rfl) (by kernel_rfl) (fun _ _ _ h => h) (Or.inl ⟨by rfl, ?_⟩) (by assumption) ?_
      rotate_left
      · intro w hSw
        skip
        clear hSw
        go_simp
        try with_reducible rfl
      try simp only [Act.put, List.setIfInBounds_toArray, List.set_cons_zero, List.set_cons_succ]
      refine wpAnyH_take (i := 17) (oi := { dst := some 59, op := Op.indexAddr 37 (Operand.tmp 7) (Operand.tmp 58), type := 0, pos := "law.go:53", after := #[{ on := 16, ground := Ground.data }], guard := none }) (v := ?_) rfl (by kernel_rfl) (by kernel_rfl) (by kernel_rfl) (fun _ _ _ h => h) (Or.inl ⟨by rfl, ?_⟩) (by assumption) ?_
      rotate_left
      · intro w hSw
        skip
        clear hSw
        go_simp
        try with_reducible rfl
      try simp only [Act.put, List.setIfInBounds_toArray, List.set_cons_zero, List.set_cons_succ]
      refine wpAnyH_take (i := 18) (oi := { dst := some 60, op := Op.load 9 (Operand.tmp 59), type := 9, pos := "law.go:53", after := #[{ on := 17, ground := Ground.data }], guard := none }) (v := ?_) rfl (by kernel_rfl) (by kernel_rfl) (by kernel_rfl) (fun _ _ _ h => h) (Or.inl ⟨by rfl, ?_⟩) (by assumption) ?_
      rotate_left
      · intro w hSw
        have hSw := OS _ hSw
        go_simp
        try with_reducible rfl
      try simp only [Act.put, List.setIfInBounds_toArray, List.set_cons_zero, List.set_cons_succ]
      refine wpAnyH_take (i := 19) (oi := { dst := some 61, op := Op.binOp BinOp.add 9 (Operand.tmp 55) (Operand.tmp 60) 9, type := 9, pos := "law.go:53", after := #[{ on := 13, ground := Ground.data }, { on := 18, ground := Ground.data }], guard := none }) (v := ?_) rfl (by kernel_rfl) (by kernel_rfl) (by kernel_rfl) (fun _ _ _ h => h) (Or.inl ⟨by rfl, ?_⟩) (by assumption) ?_
      rotate_left
      · intro w hSw
        skip
        clear hSw
        go_simp
        try with_reducible rfl
      try simp only [Act.put, List.setIfInBounds_toArray, List.set_cons_zero, List.set_cons_succ]
      refine wpAnyH_take (i := 20) (oi := { dst := some 62, op := Op.build 38 #[(0, Operand.tmp 42), (1, Operand.tmp 46), (2, Operand.tmp 53), (3, Operand.tmp 61)], type := 38, pos := "law.go:53", after := #[{ on := 0, ground := Ground.data }, { on := 4, ground := Ground.data }, { on := 11, ground := Ground.data }, { on := 19, ground := Ground.data }], guard := none }) (v := ?_) rfl (by kernel_rfl) (by kernel_rfl) (by kernel_rfl) (fun _ _ _ h => h) (Or.inl ⟨by rfl, ?_⟩) (by assumption) ?_
      rotate_left
      · intro w hSw
        skip
        clear hSw
        go_simp
        try with_reducible rfl
      try simp only [Act.put, List.setIfInBounds_toArray, List.set_cons_zero, List.set_cons_succ]
      refine wpAnyH_ready (rs := [21]) (by kernel_rfl) (by simp) ?_
      refine (AllReadyH.cons (o := { dst := some 11, op := Op.alloc 38, type := 0, pos := "law.go:53", after := #[], guard := none }) rfl (fun K hK => ?_) AllReadyH.nil)
      skip
      go_simp
      refine hK.out _ _ (SO _ (by first | exact K1 | exact K2)) (fun hHeld => ?_)
      clear hK K
      try simp only [Act.put, List.setIfInBounds_toArray, List.set_cons_zero, List.set_cons_succ]
      refine wpAnyH_ready (rs := [22]) (by kernel_rfl) (by simp) ?_
      refine (AllReadyH.cons (o := { dst := none, op := Op.store 38 (Operand.tmp 11) (Operand.tmp 62), type := 0, pos := "law.go:53", after := #[{ on := 21, ground := Ground.data }, { on := 20, ground := Ground.data }, { on := 0, ground := Ground.phase }, { on := 1, ground := Ground.phase }, { on := 2, ground := Ground.phase }, { on := 3, ground := Ground.phase }, { on := 4, ground := Ground.phase }, { on := 5, ground := Ground.phase }, { on := 6, ground := Ground.phase }, { on := 7, ground := Ground.phase }, { on := 8, ground := Ground.phase }, { on := 9, ground := Ground.phase }, { on := 10, ground := Ground.phase }, { on := 11, ground := Ground.phase }, { on := 12, ground := Ground.phase }, { on := 13, ground := Ground.phase }, { on := 14, ground := Ground.phase }, { on := 15, ground := Ground.phase }, { on := 16, ground := Ground.phase }, { on := 17, ground := Ground.phase }, { on := 18, ground := Ground.phase }, { on := 19, ground := Ground.phase }, { on := 20, ground := Ground.phase }, { on := 21, ground := Ground.phase }], guard := none }) rfl (fun K hK => ?_) AllReadyH.nil)
      rw [if_pos (show Region.wanted _ _ = true from rfl)]
      refine wp_store_row 38 (.tmp 11) (.tmp 62) rfl wd.heap.size (rowT LT) rfl (by rw [HLr.out]; rfl) 38 _ HR4.out HI4.out (by rw [HLr.out]; rfl) (rowT_one _) ?_
      refine hK.out _ _ (SO _ (by first | exact K1 | exact K2)) (fun hHeld => ?_)
      clear hK K
      try simp only [Act.put]
      refine wpAnyH_done (by kernel_rfl) ?_ _
      refine NoPanic.normal ?_
      go_wp2_with (fail)
      go_meet
      case rel => exact ⟨_, rfl, M4⟩
    case rest =>
      obtain ⟨gB, rfl, M1⟩ := hcut
      clear M x5 x6 l5' l6' z5 z6 p1 p2 p3 p4 zSA lSA zY HYl HIg HLr zSX lSX zT3 lT3 HDT3
      have M := M1
      clear M1
      have Ie4 : (k4 : Int) < 12 := by omega
      generalize hb : ((k5 : Int) == 0) = b at *
      go_wp2
      go_loopw [12] (fun v wr => ∃ j : Nat, j ≤ 4 ∧ v = .int .i64 j ∧ Hid (RM w wr ((gB, rowT LT, 38) :: [(y7.heap.size, refC ⟨[], [], [], g, true⟩, 26), (y6.heap.size, rowT tagsL, 37), (y5.heap.size, rowT pathsL, 36), (w2.heap.size, rowT domsL, 35), (w1.heap.size, cells8 g, 24), (w.heap.size, cells8 n, 34)]))) (fun v _ => 4 - (intOf v).toNat)
      case atStart => exact ⟨0, Nat.zero_le _, rfl, M⟩
      case round =>
        clear M
        obtain ⟨j, hj, rfl, M⟩ := hrel
        have IT := Lib.hid (fun hj4 => rowT_at (k := j) (M.out.at_ _ _ _ (List.Mem.head _)).1 (by rw [HLl.out]; exact hj4))
        by_cases hlt : j < 4
        · have ct := IT.out hlt
          have HCT := Lib.hid (fun (w' : World) l (m : RM w w' l) (hm : (gB, rowT LT, 38) ∈ l) => rowT_at (k := j) (m.at_ _ _ _ hm).1 (by rw [HLl.out]; exact hlt))
          have hle := HLe.out j
          generalize LT.getD j [] = TT at *
          clear IT
          have g1 : (j : Int) < 4 := by omega
          have CP := fun w => I.parse TT w (by omega)
          have CQ := fun w => rread_any TT w (by omega)
          have HOA := Lib.hid (parse_ok TT)
          clear hle
          generalize (parseR TT).1 = A at *
          generalize (parseR TT).2 = E at *
          have HIA := Lib.hid (info_ref HOA.out)
          have hA := info_refL HOA.out
          have HSA := Lib.hid (show (refC zeroR).size = (refC A).size by rw [refC_size zero_ok, refC_size HOA.out])
          go_upto_region 13 with (first
            | (go_at_call 9; ((with_reducible refine (CP _).mono ?_); rintro e u1 ⟨rfl, b1⟩); replace M := Lib.hid (M.out.below b1); clear b1 CP; obtain ⟨v1, hv1⟩ : ∃ v, u1.alloc (.cells #[.string ⟨#[]⟩, .string ⟨#[]⟩, .string ⟨#[]⟩, .int .u8 0, .int .u8 0, .int .u8 0, .int .u8 0, .int .u8 0, .int .u8 0, .int .u8 0, .int .u8 0, .int .u8 0, .int .u8 0, .int .u8 0, .int .u8 0, .int .u8 0, .int .u8 0, .int .u8 0, .int .u8 0, .int .u8 0, .int .u8 0, .int .u8 0, .int .u8 0, .int .u8 0, .int .u8 0, .int .u8 0, .int .u8 0, .int .u8 0, .int .u8 0, .int .u8 0, .int .u8 0, .int .u8 0, .int .u8 0, .int .u8 0, .int .u8 0, .bool false] 26) = v := ⟨_, rfl⟩; obtain ⟨HZ1, HN1⟩ := M.out.made hv1 (refC A); rw [← zero_lit] at HZ1; replace HZ1 := Lib.hid HZ1; replace M := Lib.hid HN1; clear HN1)
            | ((with_reducible show wpList _ _ _ (⟨none, .store _ (.tmp 13) _, _, _, _, _⟩ :: _) _ _); refine wpList_store_row rfl 26 _ _ rfl u1.heap.size (refC A) rfl rfl 26 (refC zeroR) HZ1.out HIA.out HSA.out (refC_all _) ?_; generalize World.setRow _ _ _ = t1 at *; clear hv1; have ct1 := HCT.out _ _ M.out (List.Mem.tail _ (List.Mem.head _)))
            | (go_at_call 10; ((with_reducible refine (CQ _).mono ?_); rintro e u2 ⟨rfl, b2⟩); replace M := Lib.hid (M.out.below b2); clear b2 CQ; obtain ⟨v2, hv2⟩ : ∃ v, u2.alloc (.cells #[.string ⟨#[]⟩, .string ⟨#[]⟩, .string ⟨#[]⟩, .int .u8 0, .int .u8 0, .int .u8 0, .int .u8 0, .int .u8 0, .int .u8 0, .int .u8 0, .int .u8 0, .int .u8 0, .int .u8 0, .int .u8 0, .int .u8 0, .int .u8 0, .int .u8 0, .int .u8 0, .int .u8 0, .int .u8 0, .int .u8 0, .int .u8 0, .int .u8 0, .int .u8 0, .int .u8 0, .int .u8 0, .int .u8 0, .int .u8 0, .int .u8 0, .int .u8 0, .int .u8 0, .int .u8 0, .int .u8 0, .int .u8 0, .int .u8 0, .bool false] 26) = v := ⟨_, rfl⟩; obtain ⟨HZ2, HN2⟩ := M.out.made hv2 (refC A); rw [← zero_lit] at HZ2; replace HZ2 := Lib.hid HZ2; replace M := Lib.hid HN2; clear HN2)
            | ((with_reducible show wpList _ _ _ (⟨none, .store _ (.tmp 15) _, _, _, _, _⟩ :: _) _ _); refine wpList_store_row rfl 26 _ _ rfl u2.heap.size (refC A) rfl rfl 26 (refC zeroR) HZ2.out HIA.out HSA.out (refC_all _) ?_; generalize World.setRow _ _ _ = t2 at *; clear hv2))
          have CT : ∀ w', RM w w' ((u2.heap.size, refC A, 26) :: (u1.heap.size, refC A, 26) :: (gB, rowT LT, 38) :: [(y7.heap.size, refC ⟨[], [], [], g, true⟩, 26), (y6.heap.size, rowT tagsL, 37), (y5.heap.size, rowT pathsL, 36), (w2.heap.size, rowT domsL, 35), (w1.heap.size, cells8 g, 24), (w.heap.size, cells8 n, 34)]) → _ := fun w' m => RM.call (I.text A w' HOA.out) m
          have CRT : ∀ w', RM w w' ((u2.heap.size, refC A, 26) :: (u1.heap.size, refC A, 26) :: (gB, rowT LT, 38) :: [(y7.heap.size, refC ⟨[], [], [], g, true⟩, 26), (y6.heap.size, rowT tagsL, 37), (y5.heap.size, rowT pathsL, 36), (w2.heap.size, rowT domsL, 35), (w1.heap.size, cells8 g, 24), (w.heap.size, cells8 n, 34)]) → _ := fun w' m => RM.call (rshow_any A w' HOA.out) m
          have CS : ∀ w', RM w w' ((u2.heap.size, refC A, 26) :: (u1.heap.size, refC A, 26) :: (gB, rowT LT, 38) :: [(y7.heap.size, refC ⟨[], [], [], g, true⟩, 26), (y6.heap.size, rowT tagsL, 37), (y5.heap.size, rowT pathsL, 36), (w2.heap.size, rowT domsL, 35), (w1.heap.size, cells8 g, 24), (w.heap.size, cells8 n, 34)]) → _ := fun w' m => RM.call (I.short A w' HOA.out) m
          have CRS : ∀ w', RM w w' ((u2.heap.size, refC A, 26) :: (u1.heap.size, refC A, 26) :: (gB, rowT LT, 38) :: [(y7.heap.size, refC ⟨[], [], [], g, true⟩, 26), (y6.heap.size, rowT tagsL, 37), (y5.heap.size, rowT pathsL, 36), (w2.heap.size, rowT domsL, 35), (w1.heap.size, cells8 g, 24), (w.heap.size, cells8 n, 34)]) → _ := fun w' m => RM.call (rbrief_any A w' HOA.out) m
          have q1 : ∀ w, (Op.equalIn 10000 26 (.agg (refC A)) (.agg (refC A))).run Tryd.prog w = .ok true w := fun w => by
            rw [eq_ref w 9997 HOA.out HOA.out]; simp
          obtain ⟨X3, hX3⟩ : ∃ x, x = str (showR A) := ⟨_, rfl⟩
          obtain ⟨X4, hX4⟩ : ∃ x, x = str (shortR A) := ⟨_, rfl⟩
          rw [← hX3] at CT CRT
          rw [← hX4] at CS CRS
          clear hX3 hX4
          have gd := guard_ref
          have hu := Tryd.underlying26
          have R1 : ∀ w', RM w w' ((u2.heap.size, refC A, 26) :: (u1.heap.size, refC A, 26) :: (gB, rowT LT, 38) :: [(y7.heap.size, refC ⟨[], [], [], g, true⟩, 26), (y6.heap.size, rowT tagsL, 37), (y5.heap.size, rowT pathsL, 36), (w2.heap.size, rowT domsL, 35), (w1.heap.size, cells8 g, 24), (w.heap.size, cells8 n, 34)]) → w'.rangeAt u1.heap.size 0 (refL A) := fun w' m => range_ref (m.at_ _ _ _ (by repeat (first | exact List.Mem.head _ | apply List.Mem.tail))).1
          have R2 : ∀ w', RM w w' ((u2.heap.size, refC A, 26) :: (u1.heap.size, refC A, 26) :: (gB, rowT LT, 38) :: [(y7.heap.size, refC ⟨[], [], [], g, true⟩, 26), (y6.heap.size, rowT tagsL, 37), (y5.heap.size, rowT pathsL, 36), (w2.heap.size, rowT domsL, 35), (w1.heap.size, cells8 g, 24), (w.heap.size, cells8 n, 34)]) → w'.rangeAt u2.heap.size 0 (refL A) := fun w' m => range_ref (m.at_ _ _ _ (by repeat (first | exact List.Mem.head _ | apply List.Mem.tail))).1
          unfold refC at q1 CT CRT CS CRS ⊢
          have md := M.out.below (Below.refl t2.heap.size t2).drew
          obtain ⟨LMM, hM⟩ : ∃ LMM : World → Prop, LMM = fun w' => RM w w' ((u2.heap.size, refC A, 26) :: (u1.heap.size, refC A, 26) :: (gB, rowT LT, 38) :: [(y7.heap.size, refC ⟨[], [], [], g, true⟩, 26), (y6.heap.size, rowT tagsL, 37), (y5.heap.size, rowT pathsL, 36), (w2.heap.size, rowT domsL, 35), (w1.heap.size, cells8 g, 24), (w.heap.size, cells8 n, 34)]) := ⟨_, rfl⟩
          have MT : ∀ w', LMM w' → RM w w' ((u2.heap.size, refC A, 26) :: (u1.heap.size, refC A, 26) :: (gB, rowT LT, 38) :: [(y7.heap.size, refC ⟨[], [], [], g, true⟩, 26), (y6.heap.size, rowT tagsL, 37), (y5.heap.size, rowT pathsL, 36), (w2.heap.size, rowT domsL, 35), (w1.heap.size, cells8 g, 24), (w.heap.size, cells8 n, 34)]) := fun w' h => by rw [hM] at h; exact h
          have TM : ∀ w', RM w w' ((u2.heap.size, refC A, 26) :: (u1.heap.size, refC A, 26) :: (gB, rowT LT, 38) :: [(y7.heap.size, refC ⟨[], [], [], g, true⟩, 26), (y6.heap.size, rowT tagsL, 37), (y5.heap.size, rowT pathsL, 36), (w2.heap.size, rowT domsL, 35), (w1.heap.size, cells8 g, 24), (w.heap.size, cells8 n, 34)]) → LMM w' := fun w' h => by rw [hM]; exact h
          replace md := TM _ md
          have HMT := Lib.hid MT
          have TM' : ∀ {f args v} w', LMM w' → (RM w w' ((u2.heap.size, refC A, 26) :: (u1.heap.size, refC A, 26) :: (gB, rowT LT, 38) :: [(y7.heap.size, refC ⟨[], [], [], g, true⟩, 26), (y6.heap.size, rowT tagsL, 37), (y5.heap.size, rowT pathsL, 36), (w2.heap.size, rowT domsL, 35), (w1.heap.size, cells8 g, 24), (w.heap.size, cells8 n, 34)]) → Calls Tryd.prog f args w' fun e w'' => e = .returned v ∧ RM w w'' ((u2.heap.size, refC A, 26) :: (u1.heap.size, refC A, 26) :: (gB, rowT LT, 38) :: [(y7.heap.size, refC ⟨[], [], [], g, true⟩, 26), (y6.heap.size, rowT tagsL, 37), (y5.heap.size, rowT pathsL, 36), (w2.heap.size, rowT domsL, 35), (w1.heap.size, cells8 g, 24), (w.heap.size, cells8 n, 34)])) → Calls Tryd.prog f args w' fun e w'' => e = .returned v ∧ LMM w'' := fun w' h hc => (hc (MT w' h)).mono fun _ _ ⟨h1, h2⟩ => ⟨h1, TM _ h2⟩
          replace CT := fun w' (h : LMM w') => TM' w' h (CT w')
          replace CRT := fun w' (h : LMM w') => TM' w' h (CRT w')
          replace CS := fun w' (h : LMM w') => TM' w' h (CS w')
          replace CRS := fun w' (h : LMM w') => TM' w' h (CRS w')
          replace R1 := fun w' (h : LMM w') => R1 w' (MT w' h)
          replace R2 := fun w' (h : LMM w') => R2 w' (MT w' h)
          clear MT TM TM' hM M
          generalize hNA : refL A = NA0 at *
          clear hNA
          obtain ⟨SS, hSS⟩ : ∃ SS : World → Prop, SS = fun w' => LMM w' ∧ w'.rangeAt u1.heap.size 0 NA0 ∧ w'.rangeAt u2.heap.size 0 NA0 := ⟨_, rfl⟩
          have SO : ∀ w', LMM w' → SS w' := fun w' m => by rw [hSS]; exact ⟨m, R1 w' m, R2 w' m⟩
          have OS : ∀ w', SS w' → LMM w' ∧ w'.rangeAt u1.heap.size 0 NA0 ∧ w'.rangeAt u2.heap.size 0 NA0 := fun w' h => by rw [hSS] at h; exact h
          clear hSS R1 R2
          refine wp_region_noPanic ?_
          refine wp_region_held_drew (S := SS) (by kernel_rfl) (SO _ md) (fun hHeld => ?_)
          refine wpAnyH_take (i := 0) (oi := { dst := some 81, op := Op.load 26 (Operand.tmp 13), type := 26, pos := "law.go:57", after := #[], guard := none }) (v := _) rfl (by kernel_rfl) (by kernel_rfl) (by kernel_rfl) (fun _ _ _ h => h) (yieldsIf_load_mid (by rfl) _ _ rfl _ _ rfl _ _ (by intro w hSw; have hSw := OS _ hSw; go_split_ands; assumption) (by assumption) rfl (by assumption)) (by assumption) ?_
          try simp only [Act.put, List.setIfInBounds_toArray, List.set_cons_zero, List.set_cons_succ]
          refine wpAnyH_take (i := 1) (oi := { dst := some 82, op := Op.load 26 (Operand.tmp 15), type := 26, pos := "law.go:57", after := #[], guard := none }) (v := _) rfl (by kernel_rfl) (by kernel_rfl) (by kernel_rfl) (fun _ _ _ h => h) (yieldsIf_load_mid (by rfl) _ _ rfl _ _ rfl _ _ (by intro w hSw; have hSw := OS _ hSw; go_split_ands; assumption) (by assumption) rfl (by assumption)) (by assumption) ?_
          try simp only [Act.put, List.setIfInBounds_toArray, List.set_cons_zero, List.set_cons_succ]
          refine wpAnyH_take (i := 2) (oi := { dst := some 83, op := Op.binOp BinOp.neq 26 (Operand.tmp 81) (Operand.tmp 82) 26, type := 4, pos := "law.go:57", after := #[{ on := 0, ground := Ground.data }, { on := 1, ground := Ground.data }], guard := none }) (v := ?_) rfl (by kernel_rfl) (by kernel_rfl) (by kernel_rfl) (fun _ _ _ h => h) (Or.inl ⟨by rfl, ?_⟩) (by assumption) ?_
          rotate_left
          · intro w hSw
            skip
            clear hSw
            go_simp
            try with_reducible rfl
          try simp only [Act.put, List.setIfInBounds_toArray, List.set_cons_zero, List.set_cons_succ]
          refine wpAnyH_take (i := 3) (oi := { dst := some 84, op := Op.move (Operand.tmp 83), type := 4, pos := "law.go:57", after := #[{ on := 2, ground := Ground.data }], guard := none }) (v := ?_) rfl (by kernel_rfl) (by kernel_rfl) (by kernel_rfl) (fun _ _ _ h => h) (Or.inl ⟨by rfl, ?_⟩) (by assumption) ?_
          rotate_left
          · intro w hSw
            skip
            clear hSw
            go_simp
            try with_reducible rfl
          try simp only [Act.put, List.setIfInBounds_toArray, List.set_cons_zero, List.set_cons_succ]
          refine wpAnyH_take (i := 4) (oi := { dst := some 85, op := Op.move (Operand.tmp 14), type := 27, pos := "law.go:57", after := #[{ on := 3, ground := Ground.guard }], guard := some (3, false) }) (v := ?_) rfl (by kernel_rfl) (by kernel_rfl) (by kernel_rfl) (fun _ _ _ h => h) (Or.inl ⟨by rfl, ?_⟩) (by assumption) ?_
          rotate_left
          · intro w hSw
            skip
            clear hSw
            go_simp
            try with_reducible rfl
          try simp only [Act.put, List.setIfInBounds_toArray, List.set_cons_zero, List.set_cons_succ]
          refine wpAnyH_take (i := 5) (oi := { dst := some 86, op := Op.move (Operand.tmp 16), type := 27, pos := "law.go:57", after := #[{ on := 3, ground := Ground.guard }], guard := some (3, false) }) (v := ?_) rfl (by kernel_rfl) (by kernel_rfl) (by kernel_rfl) (fun _ _ _ h => h) (Or.inl ⟨by rfl, ?_⟩) (by assumption) ?_
          rotate_left
          · intro w hSw
            skip
            clear hSw
            go_simp
            try with_reducible rfl
          try simp only [Act.put, List.setIfInBounds_toArray, List.set_cons_zero, List.set_cons_succ]
          refine wpAnyH_take (i := 6) (oi := { dst := some 87, op := Op.binOp BinOp.neq 27 (Operand.tmp 85) (Operand.tmp 86) 27, type := 4, pos := "law.go:57", after := #[{ on := 4, ground := Ground.data }, { on := 5, ground := Ground.data }, { on := 3, ground := Ground.guard }], guard := some (3, false) }) (v := ?_) rfl (by kernel_rfl) (by kernel_rfl) (by kernel_rfl) (fun _ _ _ h => h) (Or.inl ⟨by rfl, ?_⟩) (by assumption) ?_
          rotate_left
          · intro w hSw
            skip
            clear hSw
            go_simp
            try with_reducible rfl
          try simp only [Act.put, List.setIfInBounds_toArray, List.set_cons_zero, List.set_cons_succ]
          refine wpAnyH_take (i := 7) (oi := { dst := some 88, op := Op.pick (Operand.tmp 84) (Operand.const (Value.bool true)) (Operand.tmp 87), type := 4, pos := "law.go:57", after := #[{ on := 3, ground := Ground.data }, { on := 6, ground := Ground.data }], guard := none }) (v := ?_) rfl (by kernel_rfl) (by kernel_rfl) (by kernel_rfl) (fun _ _ _ h => h) (Or.inl ⟨by rfl, ?_⟩) (by assumption) ?_
          rotate_left
          · intro w hSw
            skip
            clear hSw
            go_simp
            try with_reducible rfl
          try simp only [Act.put, List.setIfInBounds_toArray, List.set_cons_zero, List.set_cons_succ]
          refine wpAnyH_take (i := 8) (oi := { dst := some 89, op := Op.move (Operand.tmp 88), type := 4, pos := "law.go:57", after := #[{ on := 7, ground := Ground.data }, { on := 3, ground := Ground.chain }], guard := none }) (v := ?_) rfl (by kernel_rfl) (by kernel_rfl) (by kernel_rfl) (fun _ _ _ h => h) (Or.inl ⟨by rfl, ?_⟩) (by assumption) ?_
          rotate_left
          · intro w hSw
            skip
            clear hSw
            go_simp
            try with_reducible rfl
          try simp only [Act.put, List.setIfInBounds_toArray, List.set_cons_zero, List.set_cons_succ]
          refine wpAnyH_take (i := 9) (oi := { dst := some 90, op := Op.load 26 (Operand.tmp 13), type := 26, pos := "law.go:57", after := #[{ on := 8, ground := Ground.guard }], guard := some (8, false) }) (v := _) rfl (by kernel_rfl) (by kernel_rfl) (by kernel_rfl) (fun _ _ _ h => h) (yieldsIf_load_mid (by rfl) _ _ rfl _ _ rfl _ _ (by intro w hSw; have hSw := OS _ hSw; go_split_ands; assumption) (by assumption) rfl (by assumption)) (by assumption) ?_
          try simp only [Act.put, List.setIfInBounds_toArray, List.set_cons_zero, List.set_cons_succ]
          refine wpAnyH_take (i := 11) (oi := { dst := some 92, op := Op.load 26 (Operand.tmp 15), type := 26, pos := "law.go:57", after := #[{ on := 8, ground := Ground.guard }], guard := some (8, false) }) (v := _) rfl (by kernel_rfl) (by kernel_rfl) (by kernel_rfl) (fun _ _ _ h => h) (yieldsIf_load_mid (by rfl) _ _ rfl _ _ rfl _ _ (by intro w hSw; have hSw := OS _ hSw; go_split_ands; assumption) (by assumption) rfl (by assumption)) (by assumption) ?_
          try simp only [Act.put, List.setIfInBounds_toArray, List.set_cons_zero, List.set_cons_succ]
          refine wpAnyH_ready (rs := [10]) (by kernel_rfl) (by simp) ?_
          refine (AllReadyH.cons (o := { dst := some 91, op := Op.call { callee := Callee.value (Operand.func 11), args := #[Operand.tmp 90], argTypes := #[26] }, type := 9, pos := "law.go:57", after := #[{ on := 9, ground := Ground.data }, { on := 8, ground := Ground.chain }, { on := 8, ground := Ground.guard }], guard := some (8, false) }) rfl (fun K hK => ?_) AllReadyH.nil)
          go_simp
          refine (CT _ (by assumption)).mono ?_
          rintro e w10' ⟨rfl, m10'⟩
          refine hK.out _ _ (SO _ (by assumption)) (fun hHeld => ?_)
          clear hK K
          try simp only [Act.put, List.setIfInBounds_toArray, List.set_cons_zero, List.set_cons_succ]
          refine wpAnyH_ready (rs := [12]) (by kernel_rfl) (by simp) ?_
          refine (AllReadyH.cons (o := { dst := some 93, op := Op.call { callee := Callee.value (Operand.func 12), args := #[Operand.tmp 92], argTypes := #[26] }, type := 9, pos := "law.go:57", after := #[{ on := 11, ground := Ground.data }, { on := 10, ground := Ground.chain }, { on := 8, ground := Ground.guard }], guard := some (8, false) }) rfl (fun K hK => ?_) AllReadyH.nil)
          go_simp
          refine (CRT _ (by assumption)).mono ?_
          rintro e w12' ⟨rfl, m12'⟩
          refine hK.out _ _ (SO _ (by assumption)) (fun hHeld => ?_)
          clear hK K
          try simp only [Act.put, List.setIfInBounds_toArray, List.set_cons_zero, List.set_cons_succ]
          refine wpAnyH_take (i := 13) (oi := { dst := some 94, op := Op.binOp BinOp.neq 9 (Operand.tmp 91) (Operand.tmp 93) 9, type := 4, pos := "law.go:57", after := #[{ on := 10, ground := Ground.data }, { on := 12, ground := Ground.data }, { on := 8, ground := Ground.guard }], guard := some (8, false) }) (v := ?_) rfl (by kernel_rfl) (by kernel_rfl) (by kernel_rfl) (fun _ _ _ h => h) (Or.inl ⟨by rfl, ?_⟩) (by assumption) ?_
          rotate_left
          · intro w hSw
            skip
            clear hSw
            go_simp
            try with_reducible rfl
          try simp only [Act.put, List.setIfInBounds_toArray, List.set_cons_zero, List.set_cons_succ]
          refine wpAnyH_take (i := 14) (oi := { dst := some 95, op := Op.pick (Operand.tmp 89) (Operand.const (Value.bool true)) (Operand.tmp 94), type := 4, pos := "law.go:57", after := #[{ on := 8, ground := Ground.data }, { on := 13, ground := Ground.data }], guard := none }) (v := ?_) rfl (by kernel_rfl) (by kernel_rfl) (by kernel_rfl) (fun _ _ _ h => h) (Or.inl ⟨by rfl, ?_⟩) (by assumption) ?_
          rotate_left
          · intro w hSw
            skip
            clear hSw
            go_simp
            try with_reducible rfl
          try simp only [Act.put, List.setIfInBounds_toArray, List.set_cons_zero, List.set_cons_succ]
          refine wpAnyH_take (i := 15) (oi := { dst := some 96, op := Op.move (Operand.tmp 95), type := 4, pos := "law.go:57", after := #[{ on := 14, ground := Ground.data }, { on := 12, ground := Ground.chain }], guard := none }) (v := ?_) rfl (by kernel_rfl) (by kernel_rfl) (by kernel_rfl) (fun _ _ _ h => h) (Or.inl ⟨by rfl, ?_⟩) (by assumption) ?_
          rotate_left
          · intro w hSw
            skip
            clear hSw
            go_simp
            try with_reducible rfl
          try simp only [Act.put, List.setIfInBounds_toArray, List.set_cons_zero, List.set_cons_succ]
          refine wpAnyH_take (i := 16) (oi := { dst := some 97, op := Op.load 26 (Operand.tmp 13), type := 26, pos := "law.go:57", after := #[{ on := 15, ground := Ground.guard }], guard := some (15, false) }) (v := _) rfl (by kernel_rfl) (by kernel_rfl) (by kernel_rfl) (fun _ _ _ h => h) (yieldsIf_load_mid (by rfl) _ _ rfl _ _ rfl _ _ (by intro w hSw; have hSw := OS _ hSw; go_split_ands; assumption) (by assumption) rfl (by assumption)) (by assumption) ?_
          try simp only [Act.put, List.setIfInBounds_toArray, List.set_cons_zero, List.set_cons_succ]
          refine wpAnyH_take (i := 18) (oi := { dst := some 99, op := Op.load 26 (Operand.tmp 15), type := 26, pos := "law.go:57", after := #[{ on := 15, ground := Ground.guard }], guard := some (15, false) }) (v := _) rfl (by kernel_rfl) (by kernel_rfl) (by kernel_rfl) (fun _ _ _ h => h) (yieldsIf_load_mid (by rfl) _ _ rfl _ _ rfl _ _ (by intro w hSw; have hSw := OS _ hSw; go_split_ands; assumption) (by assumption) rfl (by assumption)) (by assumption) ?_
          try simp only [Act.put, List.setIfInBounds_toArray, List.set_cons_zero, List.set_cons_succ]
          refine wpAnyH_ready (rs := [17]) (by kernel_rfl) (by simp) ?_
          refine (AllReadyH.cons (o := { dst := some 98, op := Op.call { callee := Callee.value (Operand.func 13), args := #[Operand.tmp 97], argTypes := #[26] }, type := 9, pos := "law.go:57", after := #[{ on := 16, ground := Ground.data }, { on := 15, ground := Ground.chain }, { on := 15, ground := Ground.guard }], guard := some (15, false) }) rfl (fun K hK => ?_) AllReadyH.nil)
          go_simp
          refine (CS _ (by assumption)).mono ?_
          rintro e w17' ⟨rfl, m17'⟩
          refine hK.out _ _ (SO _ (by assumption)) (fun hHeld => ?_)
          clear hK K
          try simp only [Act.put, List.setIfInBounds_toArray, List.set_cons_zero, List.set_cons_succ]
          refine wpAnyH_ready (rs := [19]) (by kernel_rfl) (by simp) ?_
          refine (AllReadyH.cons (o := { dst := some 100, op := Op.call { callee := Callee.value (Operand.func 14), args := #[Operand.tmp 99], argTypes := #[26] }, type := 9, pos := "law.go:57", after := #[{ on := 18, ground := Ground.data }, { on := 17, ground := Ground.chain }, { on := 15, ground := Ground.guard }], guard := some (15, false) }) rfl (fun K hK => ?_) AllReadyH.nil)
          go_simp
          refine (CRS _ (by assumption)).mono ?_
          rintro e w19' ⟨rfl, m19'⟩
          refine hK.out _ _ (SO _ (by assumption)) (fun hHeld => ?_)
          clear hK K
          try simp only [Act.put, List.setIfInBounds_toArray, List.set_cons_zero, List.set_cons_succ]
          refine wpAnyH_take (i := 20) (oi := { dst := some 101, op := Op.binOp BinOp.neq 9 (Operand.tmp 98) (Operand.tmp 100) 9, type := 4, pos := "law.go:57", after := #[{ on := 17, ground := Ground.data }, { on := 19, ground := Ground.data }, { on := 15, ground := Ground.guard }], guard := some (15, false) }) (v := ?_) rfl (by kernel_rfl) (by kernel_rfl) (by kernel_rfl) (fun _ _ _ h => h) (Or.inl ⟨by rfl, ?_⟩) (by assumption) ?_
          rotate_left
          · intro w hSw
            skip
            clear hSw
            go_simp
            try with_reducible rfl
          try simp only [Act.put, List.setIfInBounds_toArray, List.set_cons_zero, List.set_cons_succ]
          refine wpAnyH_take (i := 21) (oi := { dst := some 102, op := Op.pick (Operand.tmp 96) (Operand.const (Value.bool true)) (Operand.tmp 101), type := 4, pos := "law.go:57", after := #[{ on := 15, ground := Ground.data }, { on := 20, ground := Ground.data }], guard := none }) (v := ?_) rfl (by kernel_rfl) (by kernel_rfl) (by kernel_rfl) (fun _ _ _ h => h) (Or.inl ⟨by rfl, ?_⟩) (by assumption) ?_
          rotate_left
          · intro w hSw
            skip
            clear hSw
            go_simp
            try with_reducible rfl
          try simp only [Act.put, List.setIfInBounds_toArray, List.set_cons_zero, List.set_cons_succ]
          refine wpAnyH_done (by kernel_rfl) ?_ _
          refine NoPanic.normal ?_
          go_wp2
          go_roundw
          case rel => exact ⟨j + 1, by omega, by go_num, Lib.hid ((HMT.out _ (by assumption)).sub (by simp))⟩
          case measure => simp [intOf]; omega
        · have g2 : ¬ (j : Int) < 4 := by omega
          clear hlt hj IT HLe HLl
          have M := Lib.hid (M.out.sub (m := [(y7.heap.size, refC ⟨[], [], [], g, true⟩, 26), (y6.heap.size, rowT tagsL, 37), (y5.heap.size, rowT pathsL, 36), (w2.heap.size, rowT domsL, 35), (w1.heap.size, cells8 g, 24), (w.heap.size, cells8 n, 34)]) (by simp))
          have HDg := Lib.hid HG.out
          go_upto_region 15 with (fail)
          go_cut [8] from 17 (fun s8 wx => s8 = .pointer (some ⟨y7.heap.size, 0, none⟩) ∧ Hid (RM w (wx) ((y7.heap.size, refC ⟨hubB, P4, latestB, g, b⟩, 26) :: [(y6.heap.size, rowT tagsL, 37), (y5.heap.size, rowT pathsL, 36), (w2.heap.size, rowT domsL, 35), (w1.heap.size, cells8 g, 24), (w.heap.size, cells8 n, 34)])))
          case first =>
            have md := M.out.below (Below.refl wr.heap.size wr).drew
            have HF := Lib.hid (fun w' l (m : RM w w' l) (h1 : (w.heap.size, cells8 n, 34) ∈ l) (h2 : (y5.heap.size, rowT pathsL, 36) ∈ l) => And.intro (HK.out _ _ m h1 4 (by decide)) (And.intro (HK.out _ _ m h1 5 (by decide)) (HDP4.out _ _ m h2)))
            obtain ⟨SS, hSS⟩ : ∃ SS : World → Prop, SS = fun w' => w'.cell? ⟨w.heap.size, 4, none⟩ = some (.int .u8 ((x 4).toNat : Int)) ∧ w'.cell? ⟨w.heap.size, 5, none⟩ = some (.int .u8 ((x 5).toNat : Int)) ∧ w'.cell? ⟨y5.heap.size, k4, none⟩ = some (.string (str P4)) := ⟨_, rfl⟩
            have SO : ∀ w', w'.cell? ⟨w.heap.size, 4, none⟩ = some (.int .u8 ((x 4).toNat : Int)) ∧ w'.cell? ⟨w.heap.size, 5, none⟩ = some (.int .u8 ((x 5).toNat : Int)) ∧ w'.cell? ⟨y5.heap.size, k4, none⟩ = some (.string (str P4)) → SS w' := fun w' m => by rw [hSS]; exact m
            have OS : ∀ w', SS w' → w'.cell? ⟨w.heap.size, 4, none⟩ = some (.int .u8 ((x 4).toNat : Int)) ∧ w'.cell? ⟨w.heap.size, 5, none⟩ = some (.int .u8 ((x 5).toNat : Int)) ∧ w'.cell? ⟨y5.heap.size, k4, none⟩ = some (.string (str P4)) := fun w' h => by rw [hSS] at h; exact h
            clear hSS
            refine wp_region_noPanic ?_
            refine wp_region_held_drew (S := SS) (by kernel_rfl) (SO _ (HF.out _ _ md (by simp) (by simp))) (fun hHeld => ?_)
            generalize wr.drew = xd at *
            have m1 : RM w (xd.setCell ⟨y7.heap.size, 0, none⟩ (.string ⟨#[100, 111, 99, 107, 101, 114, 46, 105, 111]⟩)) ((y7.heap.size, refC ⟨hubB, [], [], g, true⟩, 26) :: [(y6.heap.size, rowT tagsL, 37), (y5.heap.size, rowT pathsL, 36), (w2.heap.size, rowT domsL, 35), (w1.heap.size, cells8 g, 24), (w.heap.size, cells8 n, 34)]) := by
              have := md.set HNE.out 0 (.string (str hubB))
              rw [refC_dom] at this
              exact this
            have m2 : RM w ((xd.setCell ⟨y7.heap.size, 0, none⟩ (.string ⟨#[100, 111, 99, 107, 101, 114, 46, 105, 111]⟩)).setCell ⟨y7.heap.size, 1, none⟩ (.string (str P4))) ((y7.heap.size, refC ⟨hubB, P4, [], g, true⟩, 26) :: [(y6.heap.size, rowT tagsL, 37), (y5.heap.size, rowT pathsL, 36), (w2.heap.size, rowT domsL, 35), (w1.heap.size, cells8 g, 24), (w.heap.size, cells8 n, 34)]) := by
              have := m1.set HNE.out 1 (.string (str P4))
              rw [refC_path] at this
              exact this
            have m3 : RM w (((xd.setCell ⟨y7.heap.size, 0, none⟩ (.string ⟨#[100, 111, 99, 107, 101, 114, 46, 105, 111]⟩)).setCell ⟨y7.heap.size, 1, none⟩ (.string (str P4))).setCell ⟨y7.heap.size, 2, none⟩ (.string ⟨#[108, 97, 116, 101, 115, 116]⟩)) ((y7.heap.size, refC ⟨hubB, P4, latestB, g, true⟩, 26) :: [(y6.heap.size, rowT tagsL, 37), (y5.heap.size, rowT pathsL, 36), (w2.heap.size, rowT domsL, 35), (w1.heap.size, cells8 g, 24), (w.heap.size, cells8 n, 34)]) := by
              have := m2.set HNE.out 2 (.string (str latestB))
              rw [refC_tag] at this
              exact this
            have m4 : RM w ((((xd.setCell ⟨y7.heap.size, 0, none⟩ (.string ⟨#[100, 111, 99, 107, 101, 114, 46, 105, 111]⟩)).setCell ⟨y7.heap.size, 1, none⟩ (.string (str P4))).setCell ⟨y7.heap.size, 2, none⟩ (.string ⟨#[108, 97, 116, 101, 115, 116]⟩)).setCell ⟨y7.heap.size, 35, none⟩ (.bool b)) ((y7.heap.size, refC ⟨hubB, P4, latestB, g, b⟩, 26) :: [(y6.heap.size, rowT tagsL, 37), (y5.heap.size, rowT pathsL, 36), (w2.heap.size, rowT domsL, 35), (w1.heap.size, cells8 g, 24), (w.heap.size, cells8 n, 34)]) := by
              have := m3.set HNE.out 35 (.bool b)
              rw [refC_pin _ _ HDg.out] at this
              exact this
            have K1 := HF.out _ _ m1 (by simp) (by simp)
            have K2 := HF.out _ _ m2 (by simp) (by simp)
            have K3 := HF.out _ _ m3 (by simp) (by simp)
            have K4 := HF.out _ _ m4 (by simp) (by simp)
            have HM4 := Lib.hid m4
            obtain ⟨⟨k00, -, -, -⟩, ⟨l00, -, -, -⟩⟩ := md.cells ⟨Nat.zero_le _, Nat.zero_le _, Nat.zero_le _, HDg.out⟩
            obtain ⟨⟨-, k11, -, -⟩, ⟨-, l11, -, -⟩⟩ := m1.cells ⟨by show hubB.length ≤ 1000; decide, Nat.zero_le _, Nat.zero_le _, HDg.out⟩
            obtain ⟨⟨-, -, k22, -⟩, ⟨-, -, l22, -⟩⟩ := m2.cells ⟨by show hubB.length ≤ 1000; decide, by show P4.length ≤ 1000; omega, Nat.zero_le _, HDg.out⟩
            obtain ⟨⟨-, -, -, k33⟩, ⟨-, -, -, l33⟩⟩ := m3.cells ⟨by show hubB.length ≤ 1000; decide, by show P4.length ≤ 1000; omega, by show latestB.length ≤ 1000; decide, HDg.out⟩
            clear md m1 m2 m3 m4 HF
            refine wpAnyH_take (i := 0) (oi := { dst := some 103, op := Op.indexAddr 34 (Operand.tmp 2) (Operand.const (Value.int IntKind.i64 4)), type := 0, pos := "law.go:61", after := #[{ on := 10, ground := Ground.gcOnly Departure.lateStores }], guard := none }) (v := ?_) rfl (by kernel_rfl) (by kernel_rfl) (by kernel_rfl) (fun _ _ _ h => h) (Or.inl ⟨by rfl, ?_⟩) (by assumption) ?_
            rotate_left
            · intro w hSw
              skip
              clear hSw
              go_simp
              try with_reducible rfl
            try simp only [Act.put, List.setIfInBounds_toArray, List.set_cons_zero, List.set_cons_succ]
            refine wpAnyH_take (i := 5) (oi := { dst := some 108, op := Op.indexAddr 34 (Operand.tmp 2) (Operand.const (Value.int IntKind.i64 5)), type := 0, pos := "law.go:61", after := #[{ on := 14, ground := Ground.gcOnly Departure.lateStores }], guard := none }) (v := ?_) rfl (by kernel_rfl) (by kernel_rfl) (by kernel_rfl) (fun _ _ _ h => h) (Or.inl ⟨by rfl, ?_⟩) (by assumption) ?_
            rotate_left
            · intro w hSw
              skip
              clear hSw
              go_simp
              try with_reducible rfl
            try simp only [Act.put, List.setIfInBounds_toArray, List.set_cons_zero, List.set_cons_succ]
            refine wpAnyH_take (i := 9) (oi := { dst := some 112, op := Op.fieldAddr 26 (Operand.tmp 8) 0, type := 0, pos := "law.go:61", after := #[{ on := 0, ground := Ground.textOnly Departure.lateStores }, { on := 1, ground := Ground.textOnly Departure.lateStores }, { on := 2, ground := Ground.textOnly Departure.lateStores }, { on := 3, ground := Ground.textOnly Departure.lateStores }, { on := 4, ground := Ground.textOnly Departure.lateStores }, { on := 5, ground := Ground.textOnly Departure.lateStores }, { on := 6, ground := Ground.textOnly Departure.lateStores }, { on := 7, ground := Ground.textOnly Departure.lateStores }, { on := 8, ground := Ground.textOnly Departure.lateStores }], guard := none }) (v := ?_) rfl (by kernel_rfl) (by kernel_rfl) (by kernel_rfl) (fun _ _ _ h => h) (Or.inl ⟨by rfl, ?_⟩) (by assumption) ?_
            rotate_left
            · intro w hSw
              skip
              clear hSw
              go_simp
              try with_reducible rfl
            try simp only [Act.put, List.setIfInBounds_toArray, List.set_cons_zero, List.set_cons_succ]
            refine wpAnyH_take (i := 1) (oi := { dst := some 104, op := Op.load 5 (Operand.tmp 103), type := 5, pos := "law.go:61", after := #[{ on := 0, ground := Ground.data }, { on := 10, ground := Ground.gcOnly Departure.lateStores }], guard := none }) (v := ?_) rfl (by kernel_rfl) (by kernel_rfl) (by kernel_rfl) (fun _ _ _ h => h) (Or.inl ⟨by rfl, ?_⟩) (by assumption) ?_
            rotate_left
            · intro w hSw
              have hSw := OS _ hSw
              go_simp
              try with_reducible rfl
            try simp only [Act.put, List.setIfInBounds_toArray, List.set_cons_zero, List.set_cons_succ]
            refine wpAnyH_take (i := 2) (oi := { dst := some 105, op := Op.binOp BinOp.rem 5 (Operand.tmp 104) (Operand.const (Value.int IntKind.u8 12)) 5, type := 5, pos := "law.go:61", after := #[{ on := 1, ground := Ground.data }, { on := 10, ground := Ground.gcOnly Departure.lateStores }], guard := none }) (v := ?_) rfl (by kernel_rfl) (by kernel_rfl) (by kernel_rfl) (fun _ _ _ h => h) (Or.inl ⟨by rfl, ?_⟩) (by assumption) ?_
            rotate_left
            · intro w hSw
              skip
              clear hSw
              go_simp
              try with_reducible rfl
            try simp only [Act.put, List.setIfInBounds_toArray, List.set_cons_zero, List.set_cons_succ]
            refine wpAnyH_take (i := 3) (oi := { dst := some 106, op := Op.indexAddr 36 (Operand.tmp 6) (Operand.tmp 105), type := 0, pos := "law.go:61", after := #[{ on := 2, ground := Ground.data }, { on := 10, ground := Ground.gcOnly Departure.lateStores }], guard := none }) (v := ?_) rfl (by kernel_rfl) (by kernel_rfl) (by kernel_rfl) (fun _ _ _ h => h) (Or.inl ⟨by rfl, ?_⟩) (by assumption) ?_
            rotate_left
            · intro w hSw
              skip
              clear hSw
              go_simp
              try with_reducible rfl
            try simp only [Act.put, List.setIfInBounds_toArray, List.set_cons_zero, List.set_cons_succ]
            refine wpAnyH_take (i := 4) (oi := { dst := some 107, op := Op.load 9 (Operand.tmp 106), type := 9, pos := "law.go:61", after := #[{ on := 3, ground := Ground.data }, { on := 10, ground := Ground.gcOnly Departure.lateStores }], guard := none }) (v := ?_) rfl (by kernel_rfl) (by kernel_rfl) (by kernel_rfl) (fun _ _ _ h => h) (Or.inl ⟨by rfl, ?_⟩) (by assumption) ?_
            rotate_left
            · intro w hSw
              have hSw := OS _ hSw
              go_simp
              try with_reducible rfl
            try simp only [Act.put, List.setIfInBounds_toArray, List.set_cons_zero, List.set_cons_succ]
            refine wpAnyH_take (i := 6) (oi := { dst := some 109, op := Op.load 5 (Operand.tmp 108), type := 5, pos := "law.go:61", after := #[{ on := 5, ground := Ground.data }, { on := 14, ground := Ground.gcOnly Departure.lateStores }], guard := none }) (v := ?_) rfl (by kernel_rfl) (by kernel_rfl) (by kernel_rfl) (fun _ _ _ h => h) (Or.inl ⟨by rfl, ?_⟩) (by assumption) ?_
            rotate_left
            · intro w hSw
              have hSw := OS _ hSw
              go_simp
              try with_reducible rfl
            try simp only [Act.put, List.setIfInBounds_toArray, List.set_cons_zero, List.set_cons_succ]
            refine wpAnyH_take (i := 7) (oi := { dst := some 110, op := Op.binOp BinOp.rem 5 (Operand.tmp 109) (Operand.const (Value.int IntKind.u8 2)) 5, type := 5, pos := "law.go:61", after := #[{ on := 6, ground := Ground.data }, { on := 14, ground := Ground.gcOnly Departure.lateStores }], guard := none }) (v := ?_) rfl (by kernel_rfl) (by kernel_rfl) (by kernel_rfl) (fun _ _ _ h => h) (Or.inl ⟨by rfl, ?_⟩) (by assumption) ?_
            rotate_left
            · intro w hSw
              skip
              clear hSw
              go_simp
              try with_reducible rfl
            try simp only [Act.put, List.setIfInBounds_toArray, List.set_cons_zero, List.set_cons_succ]
            refine wpAnyH_take (i := 8) (oi := { dst := some 111, op := Op.binOp BinOp.eql 5 (Operand.tmp 110) (Operand.const (Value.int IntKind.u8 0)) 5, type := 4, pos := "law.go:61", after := #[{ on := 7, ground := Ground.data }, { on := 14, ground := Ground.gcOnly Departure.lateStores }], guard := none }) (v := ?_) rfl (by kernel_rfl) (by kernel_rfl) (by kernel_rfl) (fun _ _ _ h => h) (Or.inl ⟨by rfl, ?_⟩) (by assumption) ?_
            rotate_left
            · intro w hSw
              skip
              clear hSw
              go_simp
              try with_reducible rfl
            try simp only [Act.put, List.setIfInBounds_toArray, List.set_cons_zero, List.set_cons_succ]
            refine wpAnyH_ready (rs := [10]) (by kernel_rfl) (by simp) ?_
            refine (AllReadyH.cons (o := { dst := none, op := Op.store 9 (Operand.tmp 112) (Operand.const (Value.string { data := #[100, 111, 99, 107, 101, 114, 46, 105, 111] })), type := 0, pos := "law.go:61", after := #[{ on := 9, ground := Ground.data }, { on := 0, ground := Ground.textOnly Departure.lateStores }, { on := 1, ground := Ground.textOnly Departure.lateStores }, { on := 2, ground := Ground.textOnly Departure.lateStores }, { on := 3, ground := Ground.textOnly Departure.lateStores }, { on := 4, ground := Ground.textOnly Departure.lateStores }, { on := 5, ground := Ground.textOnly Departure.lateStores }, { on := 6, ground := Ground.textOnly Departure.lateStores }, { on := 7, ground := Ground.textOnly Departure.lateStores }, { on := 8, ground := Ground.textOnly Departure.lateStores }], guard := none }) rfl (fun K hK => ?_) AllReadyH.nil)
            skip
            go_simp
            refine hK.out _ _ (SO _ (by first | exact K1 | exact K2 | exact K3 | exact K4)) (fun hHeld => ?_)
            clear hK K
            try simp only [Act.put]
            refine wpAnyH_take (i := 11) (oi := { dst := some 113, op := Op.fieldAddr 26 (Operand.tmp 8) 1, type := 0, pos := "law.go:61", after := #[{ on := 0, ground := Ground.phase }, { on := 1, ground := Ground.phase }, { on := 2, ground := Ground.phase }, { on := 3, ground := Ground.phase }, { on := 4, ground := Ground.phase }, { on := 5, ground := Ground.textOnly Departure.lateStores }, { on := 6, ground := Ground.textOnly Departure.lateStores }, { on := 7, ground := Ground.textOnly Departure.lateStores }, { on := 8, ground := Ground.textOnly Departure.lateStores }, { on := 9, ground := Ground.phase }, { on := 10, ground := Ground.phase }], guard := none }) (v := ?_) rfl (by kernel_rfl) (by kernel_rfl) (by kernel_rfl) (fun _ _ _ h => h) (Or.inl ⟨by rfl, ?_⟩) (by assumption) ?_
            rotate_left
            · intro w hSw
              skip
              clear hSw
              go_simp
              try with_reducible rfl
            try simp only [Act.put, List.setIfInBounds_toArray, List.set_cons_zero, List.set_cons_succ]
            refine wpAnyH_ready (rs := [12]) (by kernel_rfl) (by simp) ?_
            refine (AllReadyH.cons (o := { dst := none, op := Op.store 9 (Operand.tmp 113) (Operand.tmp 107), type := 0, pos := "law.go:61", after := #[{ on := 11, ground := Ground.data }, { on := 4, ground := Ground.data }, { on := 10, ground := Ground.chain }, { on := 0, ground := Ground.phase }, { on := 1, ground := Ground.phase }, { on := 2, ground := Ground.phase }, { on := 3, ground := Ground.phase }, { on := 4, ground := Ground.phase }, { on := 5, ground := Ground.textOnly Departure.lateStores }, { on := 6, ground := Ground.textOnly Departure.lateStores }, { on := 7, ground := Ground.textOnly Departure.lateStores }, { on := 8, ground := Ground.textOnly Departure.lateStores }, { on := 9, ground := Ground.phase }, { on := 10, ground := Ground.phase }], guard := none }) rfl (fun K hK => ?_) AllReadyH.nil)
            skip
            go_simp
            refine hK.out _ _ (SO _ (by first | exact K1 | exact K2 | exact K3 | exact K4)) (fun hHeld => ?_)
            clear hK K
            try simp only [Act.put]
            refine wpAnyH_take (i := 13) (oi := { dst := some 114, op := Op.fieldAddr 26 (Operand.tmp 8) 2, type := 0, pos := "law.go:61", after := #[{ on := 0, ground := Ground.phase }, { on := 1, ground := Ground.phase }, { on := 2, ground := Ground.phase }, { on := 3, ground := Ground.phase }, { on := 4, ground := Ground.phase }, { on := 5, ground := Ground.textOnly Departure.lateStores }, { on := 6, ground := Ground.textOnly Departure.lateStores }, { on := 7, ground := Ground.textOnly Departure.lateStores }, { on := 8, ground := Ground.textOnly Departure.lateStores }, { on := 9, ground := Ground.phase }, { on := 10, ground := Ground.phase }, { on := 11, ground := Ground.phase }, { on := 12, ground := Ground.phase }], guard := none }) (v := ?_) rfl (by kernel_rfl) (by kernel_rfl) (by kernel_rfl) (fun _ _ _ h => h) (Or.inl ⟨by rfl, ?_⟩) (by assumption) ?_
            rotate_left
            · intro w hSw
              skip
              clear hSw
              go_simp
              try with_reducible rfl
            try simp only [Act.put, List.setIfInBounds_toArray, List.set_cons_zero, List.set_cons_succ]
            refine wpAnyH_ready (rs := [14]) (by kernel_rfl) (by simp) ?_
            refine (AllReadyH.cons (o := { dst := none, op := Op.store 9 (Operand.tmp 114) (Operand.const (Value.string { data := #[108, 97, 116, 101, 115, 116] })), type := 0, pos := "law.go:61", after := #[{ on := 13, ground := Ground.data }, { on := 12, ground := Ground.chain }, { on := 0, ground := Ground.phase }, { on := 1, ground := Ground.phase }, { on := 2, ground := Ground.phase }, { on := 3, ground := Ground.phase }, { on := 4, ground := Ground.phase }, { on := 5, ground := Ground.textOnly Departure.lateStores }, { on := 6, ground := Ground.textOnly Departure.lateStores }, { on := 7, ground := Ground.textOnly Departure.lateStores }, { on := 8, ground := Ground.textOnly Departure.lateStores }, { on := 9, ground := Ground.phase }, { on := 10, ground := Ground.phase }, { on := 11, ground := Ground.phase }, { on := 12, ground := Ground.phase }], guard := none }) rfl (fun K hK => ?_) AllReadyH.nil)
            skip
            go_simp
            refine hK.out _ _ (SO _ (by first | exact K1 | exact K2 | exact K3 | exact K4)) (fun hHeld => ?_)
            clear hK K
            try simp only [Act.put]
            refine wpAnyH_take (i := 15) (oi := { dst := some 115, op := Op.fieldAddr 26 (Operand.tmp 8) 4, type := 0, pos := "law.go:61", after := #[{ on := 0, ground := Ground.phase }, { on := 1, ground := Ground.phase }, { on := 2, ground := Ground.phase }, { on := 3, ground := Ground.phase }, { on := 4, ground := Ground.phase }, { on := 5, ground := Ground.phase }, { on := 6, ground := Ground.phase }, { on := 7, ground := Ground.phase }, { on := 8, ground := Ground.phase }, { on := 9, ground := Ground.phase }, { on := 10, ground := Ground.phase }, { on := 11, ground := Ground.phase }, { on := 12, ground := Ground.phase }, { on := 13, ground := Ground.phase }, { on := 14, ground := Ground.phase }], guard := none }) (v := ?_) rfl (by kernel_rfl) (by kernel_rfl) (by kernel_rfl) (fun _ _ _ h => h) (Or.inl ⟨by rfl, ?_⟩) (by assumption) ?_
            rotate_left
            · intro w hSw
              skip
              clear hSw
              go_simp
              try with_reducible rfl
            try simp only [Act.put, List.setIfInBounds_toArray, List.set_cons_zero, List.set_cons_succ]
            refine wpAnyH_ready (rs := [16]) (by kernel_rfl) (by simp) ?_
            refine (AllReadyH.cons (o := { dst := none, op := Op.store 4 (Operand.tmp 115) (Operand.tmp 111), type := 0, pos := "law.go:61", after := #[{ on := 15, ground := Ground.data }, { on := 8, ground := Ground.data }, { on := 14, ground := Ground.chain }, { on := 0, ground := Ground.phase }, { on := 1, ground := Ground.phase }, { on := 2, ground := Ground.phase }, { on := 3, ground := Ground.phase }, { on := 4, ground := Ground.phase }, { on := 5, ground := Ground.phase }, { on := 6, ground := Ground.phase }, { on := 7, ground := Ground.phase }, { on := 8, ground := Ground.phase }, { on := 9, ground := Ground.phase }, { on := 10, ground := Ground.phase }, { on := 11, ground := Ground.phase }, { on := 12, ground := Ground.phase }, { on := 13, ground := Ground.phase }, { on := 14, ground := Ground.phase }], guard := none }) rfl (fun K hK => ?_) AllReadyH.nil)
            skip
            go_simp
            refine hK.out _ _ (SO _ (by first | exact K1 | exact K2 | exact K3 | exact K4)) (fun hHeld => ?_)
            clear hK K
            try simp only [Act.put]
            refine wpAnyH_done (by kernel_rfl) ?_ _
            refine NoPanic.normal ?_
            go_wp2_with (fail)
            go_meet
            case rel => exact ⟨rfl, HM4⟩
          case rest =>
            obtain ⟨rfl, M9⟩ := hcut
            clear M
            have HO9 := Lib.hid (show (⟨hubB, P4, latestB, g, b⟩ : RR).ok from ⟨by show hubB.length ≤ 1000; decide, by show P4.length ≤ 1000; omega, by show latestB.length ≤ 1000; decide, HDg.out⟩)
            obtain ⟨⟨k0', k1', k2', k3'⟩, ⟨l0', l1', l2', l3'⟩⟩ := M9.out.cells HO9.out
            have HIz := Lib.hid (info_digest (l := zero32) rfl)
            have HSz := Lib.hid (show (cells8 zero32).size = 32 by rw [cells8_size]; rfl)
            have HTH := Lib.hid (M9.out.there HO9.out)
            go_upto_if 118 with (fail)
            go_cut [8] from 116 (fun s8 wx => s8 = .pointer (some ⟨y7.heap.size, 0, none⟩) ∧ Hid (RM w (wx) ((y7.heap.size, refC ⟨hubB, P4, latestB, if b = true then g else zero32, b⟩, 26) :: [(y6.heap.size, rowT tagsL, 37), (y5.heap.size, rowT pathsL, 36), (w2.heap.size, rowT domsL, 35), (w1.heap.size, cells8 g, 24), (w.heap.size, cells8 n, 34)])))
            case first =>
              cases b
              · go_wp2_with (first
                  | ((with_reducible show wpList _ _ _ (⟨some 119, _, _, _, _, _⟩ :: _) _ _); refine wpList_build_as (o := ⟨some 119, _, _, _, _, _⟩) rfl 24 _ rfl (cells8 zero32) ?_ ?_; kernel_rfl)
                  | ((with_reducible show wpList _ _ _ (⟨none, .store _ (.tmp 120) _, _, _, _, _⟩ :: _) _ _); refine wpList_store_mid rfl 24 _ _ rfl y7.heap.size 3 (cells8 zero32) rfl rfl (by rw [HSz.out]; exact HTH.out) HIz.out (cells8_one _) ?_))
                go_meet
                case rel => exact ⟨rfl, Lib.hid (M9.out.mid HNE.out HDg.out zero32 rfl)⟩
              · go_wp2
                go_meet
                case rel => exact ⟨rfl, M9⟩
            case rest =>
              obtain ⟨rfl, M⟩ := hcut
              clear M9 HTH HO9 k0' k1' k2' k3' l0' l1' l2' l3'
              obtain ⟨R0, hR0⟩ : ∃ R : RR, R = ⟨hubB, P4, latestB, if b = true then g else zero32, b⟩ := ⟨_, rfl⟩
              rw [← hR0] at M
              have HO0 := Lib.hid (show R0.ok by
                rw [hR0]
                refine ⟨by show hubB.length ≤ 1000; decide, by show P4.length ≤ 1000; omega, by show latestB.length ≤ 1000; decide, ?_⟩
                show (if b = true then g else zero32).length = 32
                split
                · exact HDg.out
                · rfl)
              clear hR0
              have hA := info_refL HO0.out
              go_upto_region 18 with (fail)
              have CS : ∀ w', RM w w' ((y7.heap.size, refC R0, 26) :: [(y6.heap.size, rowT tagsL, 37), (y5.heap.size, rowT pathsL, 36), (w2.heap.size, rowT domsL, 35), (w1.heap.size, cells8 g, 24), (w.heap.size, cells8 n, 34)]) → _ := fun w' m => RM.call (I.short R0 w' HO0.out) m
              have CRS : ∀ w', RM w w' ((y7.heap.size, refC R0, 26) :: [(y6.heap.size, rowT tagsL, 37), (y5.heap.size, rowT pathsL, 36), (w2.heap.size, rowT domsL, 35), (w1.heap.size, cells8 g, 24), (w.heap.size, cells8 n, 34)]) → _ := fun w' m => RM.call (rbrief_any R0 w' HO0.out) m
              have CC : ∀ w', RM w w' ((y7.heap.size, refC R0, 26) :: [(y6.heap.size, rowT tagsL, 37), (y5.heap.size, rowT pathsL, 36), (w2.heap.size, rowT domsL, 35), (w1.heap.size, cells8 g, 24), (w.heap.size, cells8 n, 34)]) → _ := fun w' m => RM.call (I.check R0 w' HO0.out) m
              have CRC : ∀ w', RM w w' ((y7.heap.size, refC R0, 26) :: [(y6.heap.size, rowT tagsL, 37), (y5.heap.size, rowT pathsL, 36), (w2.heap.size, rowT domsL, 35), (w1.heap.size, cells8 g, 24), (w.heap.size, cells8 n, 34)]) → _ := fun w' m => RM.call (rcheck_any R0 w' HO0.out) m
              have CN : ∀ w', RM w w' ((y7.heap.size, refC R0, 26) :: [(y6.heap.size, rowT tagsL, 37), (y5.heap.size, rowT pathsL, 36), (w2.heap.size, rowT domsL, 35), (w1.heap.size, cells8 g, 24), (w.heap.size, cells8 n, 34)]) → _ := fun w' m => RM.call (named_any I w') m
              obtain ⟨X2, hX2⟩ : ∃ x, x = checkR R0 := ⟨_, rfl⟩
              obtain ⟨X4, hX4⟩ : ∃ x, x = str (shortR R0) := ⟨_, rfl⟩
              rw [← hX2] at CC CRC
              rw [← hX4] at CS CRS
              clear hX2 hX4
              have gd := guard_ref
              have hu := Tryd.underlying26
              have R1 : ∀ w', RM w w' ((y7.heap.size, refC R0, 26) :: [(y6.heap.size, rowT tagsL, 37), (y5.heap.size, rowT pathsL, 36), (w2.heap.size, rowT domsL, 35), (w1.heap.size, cells8 g, 24), (w.heap.size, cells8 n, 34)]) → w'.rangeAt y7.heap.size 0 (refL R0) := fun w' m => range_ref (m.at_ _ _ _ (by repeat (first | exact List.Mem.head _ | apply List.Mem.tail))).1
              unfold refC at CS CRS CC CRC
              have md := M.out.below (Below.refl wc.heap.size wc).drew
              obtain ⟨LMM, hM⟩ : ∃ LMM : World → Prop, LMM = fun w' => RM w w' ((y7.heap.size, refC R0, 26) :: [(y6.heap.size, rowT tagsL, 37), (y5.heap.size, rowT pathsL, 36), (w2.heap.size, rowT domsL, 35), (w1.heap.size, cells8 g, 24), (w.heap.size, cells8 n, 34)]) := ⟨_, rfl⟩
              have MT : ∀ w', LMM w' → RM w w' ((y7.heap.size, refC R0, 26) :: [(y6.heap.size, rowT tagsL, 37), (y5.heap.size, rowT pathsL, 36), (w2.heap.size, rowT domsL, 35), (w1.heap.size, cells8 g, 24), (w.heap.size, cells8 n, 34)]) := fun w' h => by rw [hM] at h; exact h
              have TM : ∀ w', RM w w' ((y7.heap.size, refC R0, 26) :: [(y6.heap.size, rowT tagsL, 37), (y5.heap.size, rowT pathsL, 36), (w2.heap.size, rowT domsL, 35), (w1.heap.size, cells8 g, 24), (w.heap.size, cells8 n, 34)]) → LMM w' := fun w' h => by rw [hM]; exact h
              replace md := TM _ md
              have HMT := Lib.hid MT
              have TM' : ∀ {f args v} w', LMM w' → (RM w w' ((y7.heap.size, refC R0, 26) :: [(y6.heap.size, rowT tagsL, 37), (y5.heap.size, rowT pathsL, 36), (w2.heap.size, rowT domsL, 35), (w1.heap.size, cells8 g, 24), (w.heap.size, cells8 n, 34)]) → Calls Tryd.prog f args w' fun e w'' => e = .returned v ∧ RM w w'' ((y7.heap.size, refC R0, 26) :: [(y6.heap.size, rowT tagsL, 37), (y5.heap.size, rowT pathsL, 36), (w2.heap.size, rowT domsL, 35), (w1.heap.size, cells8 g, 24), (w.heap.size, cells8 n, 34)])) → Calls Tryd.prog f args w' fun e w'' => e = .returned v ∧ LMM w'' := fun w' h hc => (hc (MT w' h)).mono fun _ _ ⟨h1, h2⟩ => ⟨h1, TM _ h2⟩
              replace CS := fun w' (h : LMM w') => TM' w' h (CS w')
              replace CRS := fun w' (h : LMM w') => TM' w' h (CRS w')
              replace CC := fun w' (h : LMM w') => TM' w' h (CC w')
              replace CRC := fun w' (h : LMM w') => TM' w' h (CRC w')
              replace CN := fun w' (h : LMM w') => TM' w' h (CN w')
              replace R1 := fun w' (h : LMM w') => R1 w' (MT w' h)
              clear MT TM TM' hM M
              generalize hNA : refL R0 = NA0 at *
              clear hNA
              obtain ⟨SS, hSS⟩ : ∃ SS : World → Prop, SS = fun w' => LMM w' ∧ w'.rangeAt y7.heap.size 0 NA0 := ⟨_, rfl⟩
              have SO : ∀ w', LMM w' → SS w' := fun w' m => by rw [hSS]; exact ⟨m, R1 w' m⟩
              have OS : ∀ w', SS w' → LMM w' ∧ w'.rangeAt y7.heap.size 0 NA0 := fun w' h => by rw [hSS] at h; exact h
              clear hSS R1
              refine wp_region_noPanic ?_
              refine wp_region_held_drew (S := SS) (by kernel_rfl) (SO _ md) (fun hHeld => ?_)
              refine wpAnyH_take (i := 0) (oi := { dst := some 121, op := Op.load 26 (Operand.tmp 8), type := 26, pos := "law.go:65", after := #[], guard := none }) (v := _) rfl (by kernel_rfl) (by kernel_rfl) (by kernel_rfl) (fun _ _ _ h => h) (yieldsIf_load_mid (by rfl) _ _ rfl _ _ rfl _ _ (by intro w hSw; have hSw := OS _ hSw; go_split_ands; assumption) (by assumption) rfl (by assumption)) (by assumption) ?_
              try simp only [Act.put, List.setIfInBounds_toArray, List.set_cons_zero, List.set_cons_succ]
              refine wpAnyH_take (i := 2) (oi := { dst := some 123, op := Op.load 26 (Operand.tmp 8), type := 26, pos := "law.go:65", after := #[], guard := none }) (v := _) rfl (by kernel_rfl) (by kernel_rfl) (by kernel_rfl) (fun _ _ _ h => h) (yieldsIf_load_mid (by rfl) _ _ rfl _ _ rfl _ _ (by intro w hSw; have hSw := OS _ hSw; go_split_ands; assumption) (by assumption) rfl (by assumption)) (by assumption) ?_
              try simp only [Act.put, List.setIfInBounds_toArray, List.set_cons_zero, List.set_cons_succ]
              refine wpAnyH_ready (rs := [1]) (by kernel_rfl) (by simp) ?_
              refine (AllReadyH.cons (o := { dst := some 122, op := Op.call { callee := Callee.value (Operand.func 13), args := #[Operand.tmp 121], argTypes := #[26] }, type := 9, pos := "law.go:65", after := #[{ on := 0, ground := Ground.data }], guard := none }) rfl (fun K hK => ?_) AllReadyH.nil)
              go_simp
              refine (CS _ (by assumption)).mono ?_
              rintro e w1' ⟨rfl, m1'⟩
              refine hK.out _ _ (SO _ (by assumption)) (fun hHeld => ?_)
              clear hK K
              try simp only [Act.put, List.setIfInBounds_toArray, List.set_cons_zero, List.set_cons_succ]
              refine wpAnyH_ready (rs := [3]) (by kernel_rfl) (by simp) ?_
              refine (AllReadyH.cons (o := { dst := some 124, op := Op.call { callee := Callee.value (Operand.func 14), args := #[Operand.tmp 123], argTypes := #[26] }, type := 9, pos := "law.go:65", after := #[{ on := 2, ground := Ground.data }, { on := 1, ground := Ground.chain }], guard := none }) rfl (fun K hK => ?_) AllReadyH.nil)
              go_simp
              refine (CRS _ (by assumption)).mono ?_
              rintro e w3' ⟨rfl, m3'⟩
              refine hK.out _ _ (SO _ (by assumption)) (fun hHeld => ?_)
              clear hK K
              try simp only [Act.put, List.setIfInBounds_toArray, List.set_cons_zero, List.set_cons_succ]
              refine wpAnyH_take (i := 4) (oi := { dst := some 125, op := Op.binOp BinOp.eql 9 (Operand.tmp 122) (Operand.tmp 124) 9, type := 4, pos := "law.go:65", after := #[{ on := 1, ground := Ground.data }, { on := 3, ground := Ground.data }], guard := none }) (v := ?_) rfl (by kernel_rfl) (by kernel_rfl) (by kernel_rfl) (fun _ _ _ h => h) (Or.inl ⟨by rfl, ?_⟩) (by assumption) ?_
              rotate_left
              · intro w hSw
                skip
                clear hSw
                go_simp
                try with_reducible rfl
              try simp only [Act.put, List.setIfInBounds_toArray, List.set_cons_zero, List.set_cons_succ]
              refine wpAnyH_take (i := 5) (oi := { dst := some 126, op := Op.move (Operand.tmp 125), type := 4, pos := "law.go:65", after := #[{ on := 4, ground := Ground.data }, { on := 3, ground := Ground.chain }], guard := none }) (v := ?_) rfl (by kernel_rfl) (by kernel_rfl) (by kernel_rfl) (fun _ _ _ h => h) (Or.inl ⟨by rfl, ?_⟩) (by assumption) ?_
              rotate_left
              · intro w hSw
                skip
                clear hSw
                go_simp
                try with_reducible rfl
              try simp only [Act.put, List.setIfInBounds_toArray, List.set_cons_zero, List.set_cons_succ]
              refine wpAnyH_take (i := 6) (oi := { dst := some 127, op := Op.load 26 (Operand.tmp 8), type := 26, pos := "law.go:65", after := #[{ on := 5, ground := Ground.guard }], guard := some (5, true) }) (v := _) rfl (by kernel_rfl) (by kernel_rfl) (by kernel_rfl) (fun _ _ _ h => h) (yieldsIf_load_mid (by rfl) _ _ rfl _ _ rfl _ _ (by intro w hSw; have hSw := OS _ hSw; go_split_ands; assumption) (by assumption) rfl (by assumption)) (by assumption) ?_
              try simp only [Act.put, List.setIfInBounds_toArray, List.set_cons_zero, List.set_cons_succ]
              refine wpAnyH_take (i := 8) (oi := { dst := some 129, op := Op.load 26 (Operand.tmp 8), type := 26, pos := "law.go:65", after := #[{ on := 5, ground := Ground.guard }], guard := some (5, true) }) (v := _) rfl (by kernel_rfl) (by kernel_rfl) (by kernel_rfl) (fun _ _ _ h => h) (yieldsIf_load_mid (by rfl) _ _ rfl _ _ rfl _ _ (by intro w hSw; have hSw := OS _ hSw; go_split_ands; assumption) (by assumption) rfl (by assumption)) (by assumption) ?_
              try simp only [Act.put, List.setIfInBounds_toArray, List.set_cons_zero, List.set_cons_succ]
              refine wpAnyH_ready (rs := [7]) (by kernel_rfl) (by simp) ?_
              refine (AllReadyH.cons (o := { dst := some 128, op := Op.call { callee := Callee.value (Operand.func 15), args := #[Operand.tmp 127], argTypes := #[26] }, type := 27, pos := "law.go:65", after := #[{ on := 6, ground := Ground.data }, { on := 5, ground := Ground.chain }, { on := 5, ground := Ground.guard }], guard := some (5, true) }) rfl (fun K hK => ?_) AllReadyH.nil)
              go_simp
              refine (CC _ (by assumption)).mono ?_
              rintro e w7' ⟨rfl, m7'⟩
              refine hK.out _ _ (SO _ (by assumption)) (fun hHeld => ?_)
              clear hK K
              try simp only [Act.put, List.setIfInBounds_toArray, List.set_cons_zero, List.set_cons_succ]
              refine wpAnyH_ready (rs := [9]) (by kernel_rfl) (by simp) ?_
              refine (AllReadyH.cons (o := { dst := some 130, op := Op.call { callee := Callee.value (Operand.func 16), args := #[Operand.tmp 129], argTypes := #[26] }, type := 27, pos := "law.go:65", after := #[{ on := 8, ground := Ground.data }, { on := 7, ground := Ground.chain }, { on := 5, ground := Ground.guard }], guard := some (5, true) }) rfl (fun K hK => ?_) AllReadyH.nil)
              go_simp
              refine (CRC _ (by assumption)).mono ?_
              rintro e w9' ⟨rfl, m9'⟩
              refine hK.out _ _ (SO _ (by assumption)) (fun hHeld => ?_)
              clear hK K
              try simp only [Act.put, List.setIfInBounds_toArray, List.set_cons_zero, List.set_cons_succ]
              refine wpAnyH_take (i := 10) (oi := { dst := some 131, op := Op.binOp BinOp.eql 27 (Operand.tmp 128) (Operand.tmp 130) 27, type := 4, pos := "law.go:65", after := #[{ on := 7, ground := Ground.data }, { on := 9, ground := Ground.data }, { on := 5, ground := Ground.guard }], guard := some (5, true) }) (v := ?_) rfl (by kernel_rfl) (by kernel_rfl) (by kernel_rfl) (fun _ _ _ h => h) (Or.inl ⟨by rfl, ?_⟩) (by assumption) ?_
              rotate_left
              · intro w hSw
                skip
                clear hSw
                go_simp
                try with_reducible rfl
              try simp only [Act.put, List.setIfInBounds_toArray, List.set_cons_zero, List.set_cons_succ]
              refine wpAnyH_take (i := 11) (oi := { dst := some 132, op := Op.pick (Operand.tmp 126) (Operand.tmp 131) (Operand.const (Value.bool false)), type := 4, pos := "law.go:65", after := #[{ on := 5, ground := Ground.data }, { on := 10, ground := Ground.data }], guard := none }) (v := ?_) rfl (by kernel_rfl) (by kernel_rfl) (by kernel_rfl) (fun _ _ _ h => h) (Or.inl ⟨by rfl, ?_⟩) (by assumption) ?_
              rotate_left
              · intro w hSw
                skip
                clear hSw
                go_simp
                try with_reducible rfl
              try simp only [Act.put, List.setIfInBounds_toArray, List.set_cons_zero, List.set_cons_succ]
              refine wpAnyH_take (i := 12) (oi := { dst := some 133, op := Op.move (Operand.tmp 132), type := 4, pos := "law.go:65", after := #[{ on := 11, ground := Ground.data }, { on := 9, ground := Ground.chain }], guard := none }) (v := ?_) rfl (by kernel_rfl) (by kernel_rfl) (by kernel_rfl) (fun _ _ _ h => h) (Or.inl ⟨by rfl, ?_⟩) (by assumption) ?_
              rotate_left
              · intro w hSw
                skip
                clear hSw
                go_simp
                try with_reducible rfl
              try simp only [Act.put, List.setIfInBounds_toArray, List.set_cons_zero, List.set_cons_succ]
              refine wpAnyH_ready (rs := [13]) (by kernel_rfl) (by simp) ?_
              refine (AllReadyH.cons (o := { dst := some 134, op := Op.call { callee := Callee.value (Operand.func 8), args := #[], argTypes := #[] }, type := 4, pos := "law.go:65", after := #[{ on := 12, ground := Ground.chain }, { on := 12, ground := Ground.guard }], guard := some (12, true) }) rfl (fun K hK => ?_) AllReadyH.nil)
              go_simp
              refine (CN _ (by assumption)).mono ?_
              rintro e w13' ⟨rfl, m13'⟩
              refine hK.out _ _ (SO _ (by assumption)) (fun hHeld => ?_)
              clear hK K
              try simp only [Act.put, List.setIfInBounds_toArray, List.set_cons_zero, List.set_cons_succ]
              refine wpAnyH_take (i := 14) (oi := { dst := some 135, op := Op.pick (Operand.tmp 133) (Operand.tmp 134) (Operand.const (Value.bool false)), type := 4, pos := "law.go:65", after := #[{ on := 12, ground := Ground.data }, { on := 13, ground := Ground.data }], guard := none }) (v := ?_) rfl (by kernel_rfl) (by kernel_rfl) (by kernel_rfl) (fun _ _ _ h => h) (Or.inl ⟨by rfl, ?_⟩) (by assumption) ?_
              rotate_left
              · intro w hSw
                skip
                clear hSw
                go_simp
                try with_reducible rfl
              try simp only [Act.put, List.setIfInBounds_toArray, List.set_cons_zero, List.set_cons_succ]
              refine wpAnyH_take (i := 15) (oi := { dst := some 4, op := Op.assign (Operand.tmp 135), type := 4, pos := "law.go:65", after := #[{ on := 14, ground := Ground.data }, { on := 13, ground := Ground.chain }, { on := 0, ground := Ground.phase }, { on := 1, ground := Ground.phase }, { on := 2, ground := Ground.phase }, { on := 3, ground := Ground.phase }, { on := 4, ground := Ground.phase }, { on := 5, ground := Ground.phase }, { on := 6, ground := Ground.phase }, { on := 7, ground := Ground.phase }, { on := 8, ground := Ground.phase }, { on := 9, ground := Ground.phase }, { on := 10, ground := Ground.phase }, { on := 11, ground := Ground.phase }, { on := 12, ground := Ground.phase }, { on := 13, ground := Ground.phase }, { on := 14, ground := Ground.phase }], guard := none }) (v := ?_) rfl (by kernel_rfl) (by kernel_rfl) (by kernel_rfl) (fun _ _ _ h => h) (Or.inl ⟨by rfl, ?_⟩) (by assumption) ?_
              rotate_left
              · intro w hSw
                skip
                clear hSw
                go_simp
                try with_reducible rfl
              try simp only [Act.put, List.setIfInBounds_toArray, List.set_cons_zero, List.set_cons_succ]
              refine wpAnyH_done (by kernel_rfl) ?_ _
              refine NoPanic.normal ?_
              go_wp2
              go_ret
              exact ⟨rfl, (HMT.out _ (by assumption)).b⟩
theorem parts_walk (I : Impl) (a0 a1 : List UInt8) (W : World) (h0 : a0.length = 6) (h1 : a1.length = 32) :
    Calls Tryd.prog 5 #[.agg (cells8 a0), .agg (cells8 a1)] W fun e w' => e = .returned (.bool true) ∧ Below W.heap.size W w' := refsParts_any I a0 a1 W h0 h1
end Go.Proofs.YtldbfjcfobdkpaaDoor
