/- Layer 6: the program's disk: New. -/
import Derived.Laws.CopyOwn
import Derived.Deep.RegionLaw
import Derived.Test.YtikeobmcnpncjaaSecX
namespace Go.Proofs.Ytikeobmcnpncjaa
open Go.RowKit

/-- A row of which the first k cells are filled. -/
def filled (z : Value) (c k : Nat) : List Value := List.replicate k z ++ List.replicate (c - k) (.string ⟨#[]⟩)
theorem filled_length (z : Value) {c k : Nat} (h : k ≤ c) : (filled z c k).length = c := by simp [filled]; omega
theorem filled_splice (z : Value) {c k m : Nat} (h : k + m ≤ c) : splice (filled z c k) k (List.replicate m z) = filled z c (k + m) := by
  unfold splice filled
  rw [List.take_append_of_le_length (by simp), List.take_of_length_le (by simp), List.length_replicate, List.drop_append, List.drop_eq_nil_of_le (by simp), List.nil_append, List.length_replicate, List.drop_replicate, ← List.append_assoc, List.replicate_append_replicate, show c - k - (k + m - k) = c - (k + m) by omega]
/-- A row that 'make' made. -/
theorem made_row {w w0 : World} {b c : Nat} {z : ByteArray} (h : w0.ownsRow w.heap.size 9 1 (.slice (some ⟨w.heap.size, 0, none⟩) c c) c (madeCells (Value.string ⟨#[]⟩).cells (c * 1)).toList) (hg : w.grownBy w0 none) (hb : w.cell? ⟨b, 0, none⟩ = some (.string z)) :
    Below w.heap.size w w0 ∧ w0.heap[w.heap.size]? = some (.cells (filled (.string z) c 0).toArray 9 (0, 0)) ∧
      (0 < [Value.string z].length → some (⟨w.heap.size, 0, none⟩ : Addr) = some ⟨w.heap.size, 0, none⟩ ∧ ∃ ad, some (⟨b, 0, none⟩ : Addr) = some ad ∧ ∀ j v, [Value.string z][j]? = some v → w0.cell? (ad.add j) = some v) := by
  have hb0 : Below w.heap.size w w0 := (Below.refl _ _).grown hg (Nat.le_refl _) (fun j hj => by cases hj)
  have hcb := (hb0.cell (p := ⟨b, 0, none⟩) (World.block_lt_of_cell? w _ hb)).trans hb
  rw [show (madeCells (Value.string ⟨#[]⟩).cells (c * 1)).toList = List.replicate c (.string ⟨#[]⟩) by rw [Nat.mul_one]; exact toList_madeCells_one _ _] at h
  refine ⟨hb0, ?_, fun _ => ⟨rfl, _, rfl, fun j v hj => by
    match j, hj with
    | 0, hj => simp at hj; subst hj; exact hcb⟩⟩
  rcases h.2 with ⟨hv, _⟩ | ⟨g, cap, cur, hv, _, hg, _, _, hcs, htake⟩
  · cases hv
  · simp only [Value.slice.injEq, Option.some.injEq, Addr.mk.injEq, true_and, and_true] at hv
    obtain ⟨rfl, rfl⟩ := hv
    rw [hg]
    have : cur.toList = List.replicate c (.string ⟨#[]⟩) := by
      rw [← htake, List.take_of_length_le]
      rw [Array.length_toList, hcs]
      exact Nat.le_refl _
    simp only [filled, List.replicate_zero, List.nil_append, Nat.sub_zero, ← this]
def SrcOk (W : World) (g k : Nat) (cs : List Value) : Prop := 0 < cs.length → some (⟨g, k, none⟩ : Addr) = some ⟨g, k, none⟩ ∧ ∃ ad, some (⟨g, 0, none⟩ : Addr) = some ad ∧ ∀ j v, cs[j]? = some v → W.cell? (ad.add j) = some v
set_option maxRecDepth 100000 in
set_option maxHeartbeats 2000000 in
theorem repeat_any {w : World} {b c : Nat} {z : ByteArray} (hb : w.cell? ⟨b, 0, none⟩ = some (.string z)) (h1 : 1 ≤ c) (h2 : c ≤ 4096) :
    Calls Try.prog 25 #[.slice (some ⟨b, 0, none⟩) 1 1, .int .i64 (c : Int)] w fun e w' => e = .returned (.slice (some ⟨w.heap.size, 0, none⟩) c c) ∧ w'.ownsRow w.heap.size 9 1 (.slice (some ⟨w.heap.size, 0, none⟩) c c) c (List.replicate c (.string z)) ∧ Below w.heap.size w w' := by
  obtain ⟨j0, ji, jz0, jz1, jz2⟩ := info_parts info_string
  have CM := Try.bits_Mul 1 c (by omega) (by omega) w
  rw [show 1 * c / 18446744073709551616 = 0 by omega, show 1 * c % 18446744073709551616 = c by omega] at CM
  replace CM : Calls Try.prog 42 #[.int .u64 1, .int .u64 (c : Int)] w fun e w' => e = .returned (.tuple #[.int .u64 0, .int .u64 (c : Int)]) ∧ w = w' := CM.mono fun _ _ ⟨h, h'⟩ => ⟨h, h'.symm⟩
  have hsz : (Try.prog.info? 9).map (·.size) = some 1 := by kernel_rfl
  have HSZ := Lib.hid hsz
  clear hsz
  go_enter Try.func25, Try.ntmps25
  have F1 := Lib.hid (show [Value.string z].length = Nat.min 1 c by show 1 = min 1 c; omega)
  have F3 := Lib.hid (show 0 + [Value.string z].length ≤ (filled (.string z) c 0).length by rw [filled_length _ (Nat.zero_le _)]; show 0 + 1 ≤ c; omega)
  have F4 := Lib.hid (show ∀ v ∈ [Value.string z], v.oneCell' = true by intro v hv; simp at hv; subst hv; rfl)
  go_wp2_with (first
    | (go_at_call 42; ((with_reducible refine (CM).mono ?_); rintro e w1 ⟨rfl, rfl⟩))
    | (at_make; refine wpList_make_full _ rfl _ _ 58 rfl w.heap.size 9 j0 (.string ⟨#[]⟩) 1 Try.underlying58 ji jz0 jz1 .i64 .i64 _ _ c rfl rfl rfl rfl (by rw [jz2]; omega) (by unfold maxLen; omega) (Nat.le_refl _) ?_; intro w0 hown0 hgrow0; obtain ⟨HB', HR', HS'⟩ := made_row hown0 hgrow0 hb; have HB := Lib.hid HB'; have HR := Lib.hid HR'; have F2 := Lib.hid HS'; clear hown0 hgrow0 HB' HR' HS' CM hb)
    | ((with_reducible show wpList _ _ _ (⟨some 33, _, _, _, _, _⟩ :: _) _ _); refine wpList_copy_splice rfl (.tmp 31) (.tmp 32) 58 58 rfl 9 Try.underlying58 HSZ.out _ _ c c 1 1 rfl rfl w.heap.size 0 (filled (.string z) c 0) 9 HR.out [.string z] F1.out F2.out F3.out F4.out w.heap.size w HB.out (Nat.le_refl _) ?_; intro w2 hg2 hb2; have HB2 := Lib.hid hb2; clear hb2))
  clear F1 F3 HB HR F2
  have HG2 := Lib.hid (show w2.heap[w.heap.size]? = some (.cells (filled (.string z) c 1).toArray 9 (0, 0)) by
    have := hg2.out
    rw [show [Value.string z] = List.replicate 1 (.string z) from rfl, filled_splice _ (by omega)] at this
    exact this)
  clear hg2
  go_loopw [8] (fun v wr => ∃ k : Nat, 1 ≤ k ∧ k ≤ c ∧ v = .int .i64 k ∧ Hid (wr.heap[w.heap.size]? = some (.cells (filled (.string z) c k).toArray 9 (0, 0))) ∧ Hid (Below w.heap.size w wr)) (fun v _ => c - (intOf v).toNat)
  case atStart => exact ⟨1, Nat.le_refl _, h1, rfl, HG2, HB2⟩
  case round =>
    obtain ⟨k, hk1, hk2, rfl, HG, HB⟩ := hrel
    clear HG2 HB2
    by_cases hlt : k < c
    · have g1 : (k : Int) < (c : Int) := by omega
      have g2 : (k : Int) ≤ (c : Int) := by omega
      have g0 : (0 : Int) ≤ (k : Int) := by omega
      have hne : ¬ c = k := by omega
      obtain ⟨m, hm⟩ : ∃ m, m = min k (c - k) := ⟨_, rfl⟩
      have hm1 : k + m ≤ c := by omega
      have hm2 : 1 ≤ m := by omega
      have HM := Lib.hid hm
      have P1 := Lib.hid (show (List.replicate m (Value.string z)).length = Nat.min k (c - k) by rw [List.length_replicate, HM.out])
      have P2 := Lib.hid (show SrcOk wr.drew w.heap.size k (List.replicate m (Value.string z)) from fun _ => ⟨rfl, _, rfl, fun j v hj => by
        have hj2 : j < m := by have := (List.getElem?_eq_some_iff.1 hj).1; rwa [List.length_replicate] at this
        rw [List.getElem?_replicate, if_pos hj2] at hj
        rw [Go.WideShapes.add_plain, Nat.zero_add]
        show wr.cell? _ = _
        rw [cell_of_row wr _ j _ _ _ HG.out, ← hj, List.getElem?_toArray, filled, List.getElem?_append_left (by rw [List.length_replicate]; omega), List.getElem?_replicate, if_pos (by omega)]⟩)
      have P3 := Lib.hid (show k + (List.replicate m (Value.string z)).length ≤ (filled (.string z) c k).length by rw [filled_length _ hk2, List.length_replicate]; omega)
      have P4 := Lib.hid (show ∀ v ∈ List.replicate m (Value.string z), v.oneCell' = true by intro v hv; obtain ⟨_, rfl⟩ := List.mem_replicate.1 hv; rfl)
      clear hm
      have hwr : IntKind.i64.wrap ((k : Int) + (m : Int)) = (k : Int) + (m : Int) := IntWalk.i64_in _ (by omega)
      go_wp2
      go_region_law? (refine step_copy_splice rfl (.tmp 41) (.tmp 44) 58 58 rfl 9 Try.underlying58 HSZ.out (some ⟨w.heap.size, k, none⟩) (some ⟨w.heap.size, 0, none⟩) (c - k) (c - k) k c (by simp [Act.eval, Act.put]) (by simp [Act.eval, Act.put]) w.heap.size k (filled (.string z) c k) 9 HG.out (List.replicate m (.string z)) P1.out P2.out P3.out P4.out w.heap.size w HB.out.drew (Nat.le_refl _) ?_; intro w4 hg4 hb4)
      have HB4 := Lib.hid hb4
      have HG4 := Lib.hid (show w4.heap[w.heap.size]? = some (.cells (filled (.string z) c (k + m)).toArray 9 (0, 0)) by
        have := hg4.out
        rw [filled_splice _ hm1] at this
        exact this)
      clear P1 P2 P3 P4 hg4 hb4 HG HB
      simp only [List.getElem_toArray, List.getElem_cons_succ, List.getElem_cons_zero, Act.put, List.setIfInBounds_toArray, List.set_cons_zero, List.set_cons_succ]
      go_wp2
      go_roundw
      case rel => exact ⟨k + m, by omega, hm1, by go_num, HG4, HB4⟩
      case measure => simp [intOf]; omega
    · obtain rfl : k = c := by omega
      have HO := Lib.hid (show wr.ownsRow w.heap.size 9 1 (.slice (some ⟨w.heap.size, 0, none⟩) k k) k (List.replicate k (.string z)) from by
        have hg := HG.out
        rw [show filled (.string z) k k = List.replicate k (.string z) by unfold filled; rw [Nat.sub_self, List.replicate_zero, List.append_nil]] at hg
        exact ⟨by simp, .inr ⟨_, k, _, rfl, Nat.le_refl _, hg, Nat.le_refl _, by unfold maxLen; omega, by simp, by simp⟩⟩)
      clear HG
      go_wp2
      go_ret
      exact ⟨rfl, HO.out, HB.out⟩
theorem repeatL_one (k : Nat) : (⟨(Lib.repeatL [0] k).toArray⟩ : ByteArray) = ⟨(List.replicate k 0).toArray⟩ := by
  have : Lib.repeatL [0] k = List.replicate k 0 := by
    induction k with
    | zero => rfl
    | succ k ih => rw [Lib.repeatL, ih, List.replicate_succ]; rfl
  rw [this]
set_option maxRecDepth 100000 in
set_option maxHeartbeats 2000000 in
theorem new_any (m : Nat) (w : World) (h1 : 8 ≤ m) (h2 : m ≤ 4096) : Calls Try.prog 9 #[.int .i64 (m : Int)] w fun e w' => ∃ q o, e = .returned (.tuple #[.pointer (some ⟨q, 0, none⟩), .int .i64 0]) ∧ ImpInv w' q (rdNew m) o ∧ Below w.heap.size w w' ∧ ∀ k, o k → w.heap.size ≤ k := by
  have CS := (Try.strings_Repeat ⟨#[0]⟩ 512 w (by decide) (by decide))
  rw [show (⟨(Lib.repeatL (ByteArray.mk #[0]).data.toList 512).toArray⟩ : ByteArray) = secB 0 from repeatL_one 512] at CS
  replace CS : Calls Try.prog 24 #[.string ⟨#[0]⟩, .int .i64 512] w fun e w' => e = .returned (.string (secB 0)) ∧ Below w.heap.size w w' := CS
  obtain ⟨z, hz⟩ : ∃ z, z = secB 0 := ⟨_, rfl⟩
  have HZ := Lib.hid hz
  rw [← hz] at CS
  clear hz
  have CR := Lib.hid (fun (w1 : World) => repeat_any (w := w1.alloc (.cells #[.string z] 9)) (b := w1.heap.size) (c := m) (rowC_cell (rowC_new w1 #[.string z] 9) 0) (by omega) h2)
  go_enter Try.func9, Try.ntmps9
  go_wp2_with (first
    | (go_at_call 24; ((with_reducible refine (CS).mono ?_); rintro e w1 ⟨rfl, b1⟩); have HB1 := Lib.hid b1; clear b1)
    | (go_at_call 25; ((with_reducible refine (CR.out _).mono ?_); rintro e w2 ⟨rfl, o2, b2⟩); have HO := Lib.hid o2; have HB2 := Lib.hid b2; clear o2 b2))
  rw [size_alloc] at HO HB2
  have hs1 := HB1.out.size
  have hs2 := HB2.out.size
  rw [size_alloc] at hs2
  have hb : Below w.heap.size w w2 := (HB1.out.alloc HB1.out.size _).trans (HB2.out.mono (by omega))
  have b4 : Below w.heap.size w ((w2.alloc (.cells #[.slice (some ⟨w1.heap.size + 1, 0, none⟩) m m, .slice none 0 0, .bool true, .int .i64 0, .bool false, .int .i64 0, .slice none 0 0] 64)).alloc (.cells #[.pointer (some ⟨w2.heap.size, 0, none⟩)] 46)) := (hb.alloc hb.size _).alloc (by rw [size_alloc]; omega) _
  have c1 := rowC_alloc (rowC_new w2 #[.slice (some ⟨w1.heap.size + 1, 0, none⟩) m m, .slice none 0 0, .bool true, .int .i64 0, .bool false, .int .i64 0, .slice none 0 0] 64) (.cells #[.pointer (some ⟨w2.heap.size, 0, none⟩)] 46)
  have c2 := rowC_new (w2.alloc (.cells #[.slice (some ⟨w1.heap.size + 1, 0, none⟩) m m, .slice none 0 0, .bool true, .int .i64 0, .bool false, .int .i64 0, .slice none 0 0] 64)) #[.pointer (some ⟨w2.heap.size, 0, none⟩)] 46
  rw [size_alloc] at c2
  have ho := owns_base ((HO.out.alloc (.cells #[.slice (some ⟨w1.heap.size + 1, 0, none⟩) m m, .slice none 0 0, .bool true, .int .i64 0, .bool false, .int .i64 0, .slice none 0 0] 64)).alloc (.cells #[.pointer (some ⟨w2.heap.size, 0, none⟩)] 46))
  have HI := Lib.hid (show ImpV _ (w2.heap.size + 1) w2.heap.size (.slice (some ⟨w1.heap.size + 1, 0, none⟩) m m) (.slice none 0 0) (.slice none 0 0) (rdNew m) from ⟨c2, c1, by
      rw [show (rdNew m).sure.length = m by simp [rdNew], show (rdNew m).sure.map Value.string = List.replicate m (Value.string z) by rw [HZ.out]; simp [rdNew]]
      exact ho, World.ownsRow_nil _ _ _ _, World.ownsRow_nil _ _ _ _⟩)
  have H4 := Lib.hid b4
  clear c1 c2 ho b4 hb
  go_ret2
  refine ⟨_, _, rfl, ⟨_, _, _, _, HI.out, rfl⟩, H4.out, fun k hk => ?_⟩
  rcases hk with rfl | rfl | hk | hk | hk
  · omega
  · omega
  · simp [Value.ownBlock] at hk
    omega
  · cases hk
  · cases hk
set_option maxHeartbeats 400000 in
theorem new_no (n : Int) (w : World) (h : n < 8 ∨ 4096 < n) : Calls Try.prog 9 #[.int .i64 n] w fun e w' => e = .returned (.tuple #[.pointer none, .int .i64 2]) ∧ Below w.heap.size w w' := by
  rcases h with h | h
  · have d1 : decide (n < 8) = true := decide_eq_true h
    go_enter Try.func9, Try.ntmps9
    go_wp2
    go_ret2
    exact ⟨rfl, Below.refl _ _⟩
  · have d1 : decide (n < 8) = false := decide_eq_false (by omega)
    have d2 : decide (4096 < n) = true := decide_eq_true h
    go_enter Try.func9, Try.ntmps9
    go_wp2
    go_ret2
    exact ⟨rfl, Below.refl _ _⟩
end Go.Proofs.Ytikeobmcnpncjaa
