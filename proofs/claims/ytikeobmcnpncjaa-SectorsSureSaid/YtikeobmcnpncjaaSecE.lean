/- Layer 6: the document's disk: New. -/
import Derived.Test.YtikeobmcnpncjaaSecD
namespace Go.Proofs.Ytikeobmcnpncjaa
open Go.RowKit

theorem info_string : (Try.prog.info? 9).map (fun i => (i.zero, i.size, i.bytes)) = some (some (.string ⟨#[]⟩), 1, 16) := by kernel_rfl
def newC (v : Value) : Array Value := #[v, .slice none 0 0, .bool false, .int .i64 0, .int .i64 (-1), .slice none 0 0]
theorem newC_set (v x : Value) : (newC v).setIfInBounds 0 x = newC x := rfl
theorem zeros_snoc (s : ByteArray) (k : Nat) : (List.replicate k s).map Value.string ++ [Value.string s] = (List.replicate (k + 1) s).map Value.string := by
  rw [List.replicate_succ', List.map_append]; rfl
theorem zeros_conv {w : World} {base g : Nat} (h : w.ownsRow base 5 1 (.slice (some ⟨g, 0, none⟩) 512 512) 512 (madeCells (Value.int IntKind.u8 0).cells (512 * 1)).toList) :
    (convert 55 9 (.slice (some ⟨g, 0, none⟩) 512 512)).run Try.prog w = .ok (.string (secB 0)) w := by
  rw [show (madeCells (Value.int IntKind.u8 0).cells (512 * 1)).toList = (List.replicate 512 (0 : UInt8)).map byteV from by rw [List.map_replicate]; exact toList_madeCells_one _ _] at h
  obtain ⟨a, cap, hv, hcv⟩ := conv_own h (List.length_replicate)
  simp only [Value.slice.injEq, true_and] at hv
  obtain ⟨rfl, rfl⟩ := hv
  exact hcv
theorem row_grown {w w1 : World} {p : Nat} {cs : Array Value} {t : TypeId} {o : Obj} {row : Option Nat} (hr : rowC w p cs t) (hg : (w.alloc o).grownBy w1 row) (hv : ∀ g, row = some g → g ≠ p) : rowC w1 p cs t :=
  ((Chg.refl (fun k => row = some k) (w.alloc o)).grown hg (fun _ hk => .inl hk)).rowC (rowC_alloc hr o) (fun h => hv p h rfl)
/-- What New leaves: a new disk. -/
def RefNew (w : World) (m : Nat) (e : Ending) (w' : World) : Prop :=
  ∃ p vS vL vK, e = .returned (.tuple #[.pointer (some ⟨p, 0, none⟩), .int .i64 0]) ∧ RefV w' p vS vL vK (rdNew m) ∧ Below w.heap.size w w' ∧ ∀ k, refOwn p vS vL vK k → w.heap.size ≤ k
set_option maxHeartbeats 400000 in
theorem rnew_no (n : Int) (w : World) (h : n < 8 ∨ 4096 < n) :
    Calls Try.prog 10 #[.int .i64 n] w fun e w' => e = .returned (.tuple #[.pointer none, .int .i64 2]) ∧ w = w' := by
  by_cases h1 : n < 8
  · clear h
    go_enter Try.func10, Try.ntmps10
    go_wp2
    go_ret2
    exact ⟨rfl, rfl⟩
  · have h2 : (4096 : Int) < n := by omega
    clear h
    go_enter Try.func10, Try.ntmps10
    go_wp2
    go_ret2
    exact ⟨rfl, rfl⟩
set_option maxRecDepth 100000 in
set_option maxHeartbeats 2000000 in
theorem rnew_any (m : Nat) (w : World) (h1 : 8 ≤ m) (h2 : m ≤ 4096) :
    Calls Try.prog 10 #[.int .i64 (m : Int)] w (RefNew w m) := by
  obtain ⟨i0, hi, hz0, hz1, hz2⟩ := info_parts info_u8
  obtain ⟨j0, ji, jz0, jz1, jz2⟩ := info_parts info_string
  have g1 : (8 : Int) ≤ (m : Int) := by omega
  have g2 : (m : Int) ≤ 4096 := by omega
  go_enter Try.func10, Try.ntmps10
  go_wp2_with (at_make; refine wpList_make_full _ rfl _ _ 55 rfl (w.heap.size + 1) 5 i0 (.int .u8 0) 1 Try.underlying55 hi hz0 hz1 .i64 .i64 _ _ 512 rfl rfl rfl rfl (by rw [hz2]; omega) (by unfold maxLen; omega) (by simp) ?_; intro w0 hown0 hgrow0; have hcv := zeros_conv hown0; simp only [size_alloc] at hcv)
  have hp0 : rowC (w.alloc (.cells (newC (.slice none 0 0)) 66)) w.heap.size (newC (.slice none 0 0)) 66 := rowC_new w _ _
  have hc0 : Chg (fun _ => False) (w.alloc (.cells (newC (.slice none 0 0)) 66)) w0 := (Chg.refl _ _).grown hgrow0 (fun k hk => by cases hk)
  have hp1 := hc0.rowC hp0 id
  have hb1 : Below w.heap.size w w0 := ((Below.refl _ _).alloc (Nat.le_refl _) _).trans ((hc0.below (Nat.le_refl _) (fun _ _ => id)).mono (by simp))
  have P1 := Lib.hid hp1
  have B1 := Lib.hid hb1
  clear hgrow0 hown0 hp0 hc0 hp1 hb1 hcv
  obtain ⟨z, hz⟩ : ∃ z, z = secB 0 := ⟨_, rfl⟩
  rw [← hz]
  have HZ := Lib.hid hz
  clear hz
  go_loopw [6] (fun i wr => ∃ k : Nat, k ≤ m ∧ i = .int .i64 k ∧ (∃ v, rowC wr w.heap.size (newC v) 66 ∧ wr.ownsRow (w.heap.size + 1) 9 1 v k ((List.replicate k z).map Value.string)) ∧ Below w.heap.size w wr) (fun i _ => m - (intOf i).toNat)
  case atStart => exact ⟨0, Nat.zero_le _, rfl, ⟨_, P1.out, World.ownsRow_nil _ _ _ _⟩, B1.out⟩
  case round =>
    obtain ⟨k, hk, rfl, ⟨v, hr, hown⟩, hnx⟩ := hrel
    clear P1 B1
    obtain ⟨a, cap, rfl⟩ := owns_form hown
    by_cases hlt : k < m
    · have c0 : wr.cell? ⟨w.heap.size, 0, none⟩ = some (.slice a k cap) := rowC_cell hr 0
      have hkm : (k : Int) < (m : Int) := by omega
      have hpl := rowC_lt hr
      have HR := Lib.hid hr
      have HX := Lib.hid hnx
      clear hr hnx
      go_wp2_with (at_builtin; refine wpList_append_lies _ rfl _ _ 58 rfl (w.heap.size + 1) 9 j0 (.string ⟨#[]⟩) 1 16 Try.underlying58 ji jz0 jz1 jz2 rfl (by decide) _ k _ rfl (hown.alloc _) _ 1 1 [.string z] rfl rfl (World.news_of_block (heap_alloc_new wr _)) (fun u hu => by simp at hu; subst hu; rfl) (by decide) (by unfold maxLen; omega) (by omega) (by simp; omega) (wr.heap.size + 1) (by simp) ?_; intro g cap' w1 hown1 hgrow hat hgl; have R1 := row_grown HR.out hgrow (fun g hg => by have := (hown.lt g hg).1; omega); have cw : w1.cell? ⟨w.heap.size, 0, none⟩ = some (.slice a k cap) := rowC_cell R1 0; have fw := rowC_free R1 0)
      have R2 := rowC_set R1 0 (.slice (some ⟨g, 0, none⟩) (k + 1) cap')
      rw [newC_set] at R2
      have hb1 : Below w.heap.size w w1 := (HX.out.alloc HX.out.size _).grown hgrow (by simp; omega) (fun j hj => by have := (hown.lt j hj).1; omega)
      have hgp : w.heap.size + 1 ≤ g := (hown1.lt g rfl).1
      have hown2 : (w1.setCell ⟨w.heap.size, 0, none⟩ (.slice (some ⟨g, 0, none⟩) (k + 1) cap')).ownsRow (w.heap.size + 1) 9 1 (.slice (some ⟨g, 0, none⟩) (k + 1) cap') (k + 1) ((List.replicate (k + 1) z).map Value.string) := by
        rw [← zeros_snoc]
        exact ((Chg.refl (· = w.heap.size) w1).setCell _ _ (.inl rfl)).owns hown1 (fun j hj hjp => by simp [Value.ownBlock] at hj; omega)
      go_roundw
      case rel => exact ⟨k + 1, by omega, by go_num, ⟨_, R2, hown2⟩, hb1.setCell (p := ⟨w.heap.size, 0, none⟩) (Nat.le_refl _) _⟩
      case measure => simp [intOf]; omega
    · obtain rfl : k = m := by omega
      have HR := Lib.hid hr
      have HO := Lib.hid hown
      have HX := Lib.hid hnx
      clear hr hown hnx
      go_wp2
      go_ret2
      refine ⟨w.heap.size, .slice a k cap, .slice none 0 0, .slice none 0 0, rfl, ?_, HX.out, fun j hj => ?_⟩
      · have hz := HZ.out
        subst hz
        exact ⟨HR.out, by rw [show (rdNew k).sure.length = k from List.length_replicate]; exact owns_base HO.out, World.ownsRow_nil _ _ _ _, World.ownsRow_nil _ _ _ _⟩
      · rcases hj with rfl | hj | hj | hj
        · exact Nat.le_refl _
        · have := (HO.out.lt j hj).1
          omega
        · cases hj
        · cases hj
end Go.Proofs.Ytikeobmcnpncjaa
