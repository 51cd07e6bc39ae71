/- Layer 5: the walk of DigestsForm. -/
import Derived.Test.YtndpdbfkpbflgaaDigG
namespace Go.Proofs.Ytndpdbfkpbflgaa
open Go.RowKit

set_option maxRecDepth 100000 in
set_option maxHeartbeats 1000000 in
theorem digestsForm_walk (s : ByteArray) (w : World) (ws : s.size ≤ maxLen) :
    Calls Try.prog 5 #[.string s] w fun e w' => e = .returned (.bool true) ∧ Below w.heap.size w w' := by
  unfold maxLen at ws
  obtain ⟨S, hS⟩ : ∃ S, s = str S := ⟨s.data.toList, (str_list s).symm⟩
  subst hS
  have CN := named_any
  by_cases hlt : (str S).size ≤ 200
  · have CP := fun w => parse_any S w
    have h1 : ((str S).size : Int) ≤ 200 := by omega
    have q : ∀ w, (Op.equalIn 10000 23 (.agg (cells8 zero32)) (.agg (cells8 zero32))).run Try.prog w = .ok true w := fun w => by
      rw [eq_digest w 9998 (l := zero32) (m := zero32) rfl rfl]; simp
    have gd := guard_digest
    by_cases hT : isText S = true
    · have hE : errL S = 0 := by unfold errL; rw [if_pos hT]
      obtain ⟨D, hD⟩ : ∃ D, D = digL S := ⟨_, rfl⟩
      have hDl : D.length = 32 := by rw [hD]; exact digL_length S
      have CT := fun w => text_any D w hDl
      have he : textL D = S := by rw [hD]; exact textL_digL hT
      rw [he] at CT
      rw [← hD, hE] at CP
      have HI := Lib.hid (info_digest hDl)
      have HO := Lib.hid (show (cells8 zero32).size = (cells8 D).size by rw [cells8_size, cells8_size, hDl]; rfl)
      clear hT hE hD hDl he q
      go_enter Try.func5, Try.ntmps5
      go_wp2_with (first
        | (go_at_call 7; ((with_reducible refine (CP _).mono ?_); rintro e w2 ⟨rfl, hb2⟩))
        | (refine wpList_store_row rfl 23 _ _ rfl w2.heap.size (cells8 D) rfl rfl 23 (cells8 zero32) (rowC_new w2 _ _) HI.out HO.out (cells8_one _) ?_)
        | (refine wpList_load_row rfl 23 _ rfl w2.heap.size rfl 23 (cells8 D) (0, 0) _ (rowC_setRow (rowC_new w2 (cells8 zero32) 23) (cells8 D)) Try.underlying23 rfl HI.out ?_)
        | (go_at_call 9; ((with_reducible refine (CT _).mono ?_); rintro e w3 ⟨rfl, hb3⟩))
        | (go_at_call 6; ((with_reducible refine (CN _).mono ?_); rintro e w4 ⟨rfl, hb4⟩)))
      go_ret
      have s2 := hb2.size
      have b3 := below_setRow (hb2.alloc s2 (.cells (cells8 zero32) 23)) s2 (cells8 D)
      have b4 := b3.trans (hb3.mono b3.size)
      exact ⟨rfl, b4.trans (hb4.mono b4.size)⟩
    · have hE : errL S = 10 := by unfold errL; rw [if_neg hT]
      have hD : digL S = zero32 := by unfold digL; rw [if_neg hT]
      rw [hD, hE] at CP
      have HZ := Lib.hid (info_digest (l := zero32) rfl)
      clear hT hE hD
      go_enter Try.func5, Try.ntmps5
      go_wp2_with (first
        | (go_at_call 7; ((with_reducible refine (CP _).mono ?_); rintro e w2 ⟨rfl, hb2⟩))
        | (refine wpList_store_row rfl 23 _ _ rfl w2.heap.size (cells8 zero32) rfl rfl 23 (cells8 zero32) (rowC_new w2 _ _) HZ.out rfl (cells8_one _) ?_)
        | (refine wpList_load_rowG rfl 23 _ rfl w2.heap.size rfl 23 (cells8 zero32) _ (rowC_setRow (rowC_new w2 (cells8 zero32) 23) (cells8 zero32)) Try.underlying23 rfl HZ.out ?_)
        | (refine wpList_build_asG (o := ⟨some 27, _, _, _, _, _⟩) rfl 23 _ rfl (cells8 zero32) ?_ ?_; kernel_rfl)
        | (go_at_call 6; ((with_reducible refine (CN _).mono ?_); rintro e w4 ⟨rfl, hb4⟩)))
      go_ret
      have s2 := hb2.size
      have b3 := below_setRow (hb2.alloc s2 (.cells (cells8 zero32) 23)) s2 (cells8 zero32)
      exact ⟨rfl, b3.trans (hb4.mono b3.size)⟩
  · have h1 : (200 : Int) < ((str S).size : Int) := by omega
    clear hlt
    go_enter Try.func5, Try.ntmps5
    go_wp2_with (go_at_call 6; ((with_reducible refine (CN _).mono ?_); rintro e w4 ⟨rfl, hb4⟩))
    go_ret
    exact ⟨rfl, hb4⟩
end Go.Proofs.Ytndpdbfkpbflgaa
