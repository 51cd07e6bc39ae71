/- Layer 12: the walk of RefsBack. -/
import Derived.Test.YtldbfjcfobdkpaaDoorRfT
namespace Go.Proofs.YtldbfjcfobdkpaaDoor
open Go.RowKit

set_option maxRecDepth 100000 in
set_option maxHeartbeats 16000000 in
theorem refsBack_any (I : Impl) (r : RR) (s : List UInt8) (w : World) (hd : r.dig.length = 32) : Calls Tryd.prog 6 #[.agg (refC r), .string (str s)] w fun e w' => e = .returned (.bool true) ∧ Below w.heap.size w w' := by
  have z0 := str_size r.dom
  have z1 := str_size r.path
  have z2 := str_size r.tag
  have z3 := str_size s
  have CN := fun w => named_any I w
  have hsz : (refC r).size = 36 := by unfold refC refL; simp [hd]
  have r0 : refAt (w.alloc (.cells (refC r) 26)) w.heap.size r := rowC_new w _ _
  have al : Below w.heap.size w (w.alloc (.cells (refC r) 26)) := (Below.refl _ _).alloc (Nat.le_refl _) _
  obtain ⟨w0, hw0⟩ : ∃ w0, w.alloc (.cells (refC r) 26) = w0 := ⟨_, rfl⟩
  rw [hw0] at r0 al
  have HB := Lib.hid al
  have HR := Lib.hid r0
  obtain ⟨c0, c1, c2⟩ := r0.cells'
  clear al r0
  by_cases h0 : 300 < r.dom.length
  · have q0 : (300 : Int) < (r.dom.length : Int) := by omega
    clear hd
    go_enter Tryd.func6, Tryd.ntmps6
    go_wp2_with (first
      | (go_at_call 8; ((with_reducible refine (CN _).mono ?_); rintro e w1 ⟨rfl, b1⟩); have B1 := Lib.hid (HB.out.trans (b1.mono HB.out.size)); clear b1))
    go_ret
    exact ⟨rfl, B1.out⟩
  have q0 : ¬ (300 : Int) < (r.dom.length : Int) := by omega
  by_cases h1 : 300 < r.path.length
  · have q1 : (300 : Int) < (r.path.length : Int) := by omega
    clear hd
    go_enter Tryd.func6, Tryd.ntmps6
    go_wp2_with (first
      | (go_at_call 8; ((with_reducible refine (CN _).mono ?_); rintro e w1 ⟨rfl, b1⟩); have B1 := Lib.hid (HB.out.trans (b1.mono HB.out.size)); clear b1))
    go_ret
    exact ⟨rfl, B1.out⟩
  have q1 : ¬ (300 : Int) < (r.path.length : Int) := by omega
  by_cases h2 : 300 < r.tag.length
  · have q2 : (300 : Int) < (r.tag.length : Int) := by omega
    clear hd
    go_enter Tryd.func6, Tryd.ntmps6
    go_wp2_with (first
      | (go_at_call 8; ((with_reducible refine (CN _).mono ?_); rintro e w1 ⟨rfl, b1⟩); have B1 := Lib.hid (HB.out.trans (b1.mono HB.out.size)); clear b1))
    go_ret
    exact ⟨rfl, B1.out⟩
  have q2 : ¬ (300 : Int) < (r.tag.length : Int) := by omega
  by_cases h3 : 300 < s.length
  · have q3 : (300 : Int) < (s.length : Int) := by omega
    clear hd
    go_enter Tryd.func6, Tryd.ntmps6
    go_wp2_with (first
      | (go_at_call 8; ((with_reducible refine (CN _).mono ?_); rintro e w1 ⟨rfl, b1⟩); have B1 := Lib.hid (HB.out.trans (b1.mono HB.out.size)); clear b1))
    go_ret
    exact ⟨rfl, B1.out⟩
  have q3 : ¬ (300 : Int) < (s.length : Int) := by omega
  have HO := Lib.hid (show r.ok from ⟨by omega, by omega, by omega, hd⟩)
  have M := Lib.hid (show LM w w0 [(w.heap.size, r)] from ⟨HB.out, fun g x hm => by
    rcases List.mem_cons.1 hm with e | hm
    · cases e
      exact ⟨HR.out, Nat.le_refl _⟩
    · cases hm⟩)
  clear hd h0 h1 h2 HB HR
  have HI := Lib.hid (info_ref HO.out)
  have CC := fun w => I.check r w HO.out
  have CP := fun w => I.parse s w (by omega)
  go_enter Tryd.func6, Tryd.ntmps6
  go_upto_region 3 with (fail)
  go_cut [4, 51] from 29 to 51 (fun s4 c wx => s4 = .bool false ∧ c = .bool false ∧ Hid (LM w wx [(w.heap.size, r)]))
  case first =>
    clear CP CN
    by_cases hm : mayR r = true
    · rw [check_yes hm] at CC
      have CB := fun w => back_any I r w HO.out hm
      clear hm
      go_wp2_with (first
        | ((with_reducible show wpList _ _ _ (⟨some 29, _, _, _, _, _⟩ :: _) _ _); refine wpList_load_rowG rfl 26 _ rfl w.heap.size rfl 26 (refC r) _ (M.out.at_ _ _ (by repeat (first | exact List.Mem.head _ | apply List.Mem.tail))).1 Tryd.underlying26 rfl HI.out ?_)
        | ((with_reducible show wpList _ _ _ (⟨some 33, _, _, _, _, _⟩ :: _) _ _); refine wpList_load_rowG rfl 26 _ rfl w.heap.size rfl 26 (refC r) _ (M.out.at_ _ _ (by repeat (first | exact List.Mem.head _ | apply List.Mem.tail))).1 Tryd.underlying26 rfl HI.out ?_)
        | ((with_reducible show wpList _ _ _ (⟨some 38, _, _, _, _, _⟩ :: _) _ _); refine wpList_load_rowG rfl 26 _ rfl w.heap.size rfl 26 (refC r) _ (M.out.at_ _ _ (by repeat (first | exact List.Mem.head _ | apply List.Mem.tail))).1 Tryd.underlying26 rfl HI.out ?_)
        | (go_at_call 15; ((with_reducible refine (CC _).mono ?_); rintro e wc1 ⟨rfl, bc1⟩); replace M := Lib.hid (M.out.below bc1); clear bc1)
        | (go_at_call 17; ((with_reducible refine (CB _).mono ?_); rintro e wc2 ⟨rfl, bc2⟩); replace M := Lib.hid (M.out.below bc2); clear bc2))
      go_meet
      case rel => exact ⟨rfl, rfl, M⟩
    · have hn := Bool.eq_false_iff.2 hm
      rw [check_no hn] at CC
      have CT := fun w => I.text r w HO.out
      have CS := fun w => I.short r w HO.out
      rw [(show_no hn).1] at CT
      rw [(show_no hn).2] at CS
      have e0 : str [] = ⟨#[]⟩ := rfl
      rw [e0] at CT CS
      clear hm hn e0
      go_wp2_with (first
        | ((with_reducible show wpList _ _ _ (⟨some 29, _, _, _, _, _⟩ :: _) _ _); refine wpList_load_rowG rfl 26 _ rfl w.heap.size rfl 26 (refC r) _ (M.out.at_ _ _ (by repeat (first | exact List.Mem.head _ | apply List.Mem.tail))).1 Tryd.underlying26 rfl HI.out ?_)
        | ((with_reducible show wpList _ _ _ (⟨some 38, _, _, _, _, _⟩ :: _) _ _); refine wpList_load_rowG rfl 26 _ rfl w.heap.size rfl 26 (refC r) _ (M.out.at_ _ _ (by repeat (first | exact List.Mem.head _ | apply List.Mem.tail))).1 Tryd.underlying26 rfl HI.out ?_)
        | ((with_reducible show wpList _ _ _ (⟨some 42, _, _, _, _, _⟩ :: _) _ _); refine wpList_load_rowG rfl 26 _ rfl w.heap.size rfl 26 (refC r) _ (M.out.at_ _ _ (by repeat (first | exact List.Mem.head _ | apply List.Mem.tail))).1 Tryd.underlying26 rfl HI.out ?_)
        | ((with_reducible show wpList _ _ _ (⟨some 46, _, _, _, _, _⟩ :: _) _ _); refine wpList_load_rowG rfl 26 _ rfl w.heap.size rfl 26 (refC r) _ (M.out.at_ _ _ (by repeat (first | exact List.Mem.head _ | apply List.Mem.tail))).1 Tryd.underlying26 rfl HI.out ?_)
        | (go_at_call 15; ((with_reducible refine (CC _).mono ?_); rintro e wc1 ⟨rfl, bc1⟩); replace M := Lib.hid (M.out.below bc1); clear bc1)
        | (go_at_call 11; ((with_reducible refine (CT _).mono ?_); rintro e wc2 ⟨rfl, bc2⟩); replace M := Lib.hid (M.out.below bc2); clear bc2)
        | (go_at_call 13; ((with_reducible refine (CS _).mono ?_); rintro e wc3 ⟨rfl, bc3⟩); replace M := Lib.hid (M.out.below bc3); clear bc3))
      go_meet
      case rel => exact ⟨rfl, rfl, M⟩
  case rest =>
    obtain ⟨rfl, rfl, M1⟩ := hcut
    clear M CC HI HO c0 c1 c2 z0 z1 z2
    have M := M1
    clear M1
    rcases parse_kind s with ⟨x, hx, hm⟩ | ⟨hx, hl⟩ | ⟨hx, hl⟩
    · have HOx := Lib.hid (show x.ok by have := parse_ok s; rw [hx] at this; exact this)
      rw [hx] at CP
      have HIx := Lib.hid (info_ref HOx.out)
      have HSx := Lib.hid (show (refC zeroR).size = (refC x).size by rw [refC_size zero_ok, refC_size HOx.out])
      have CC := fun w => I.check x w HOx.out
      rw [check_yes hm] at CC
      have CB := fun w => back_any I x w HOx.out hm
      clear hx hm
      go_wp2_with (first
        | (go_at_call 9; ((with_reducible refine (CP _).mono ?_); rintro e w1 ⟨rfl, b1⟩); replace M := Lib.hid (M.out.below b1); clear b1 CP; obtain ⟨v1, hv1⟩ : ∃ v, w1.alloc (.cells #[.string ⟨#[]⟩, .string ⟨#[]⟩, .string ⟨#[]⟩, .int .u8 0, .int .u8 0, .int .u8 0, .int .u8 0, .int .u8 0, .int .u8 0, .int .u8 0, .int .u8 0, .int .u8 0, .int .u8 0, .int .u8 0, .int .u8 0, .int .u8 0, .int .u8 0, .int .u8 0, .int .u8 0, .int .u8 0, .int .u8 0, .int .u8 0, .int .u8 0, .int .u8 0, .int .u8 0, .int .u8 0, .int .u8 0, .int .u8 0, .int .u8 0, .int .u8 0, .int .u8 0, .int .u8 0, .int .u8 0, .int .u8 0, .int .u8 0, .bool false] 26) = v := ⟨_, rfl⟩; obtain ⟨HZ1, HN1⟩ := M.out.made hv1 x; replace HZ1 := Lib.hid HZ1; replace M := Lib.hid HN1; clear HN1)
        | ((with_reducible show wpList _ _ _ (⟨none, .store _ (.tmp 5) _, _, _, _, _⟩ :: _) _ _); refine wpList_store_row rfl 26 _ _ rfl w1.heap.size (refC x) rfl rfl 26 (refC zeroR) HZ1.out HIx.out HSx.out (refC_all _) ?_; generalize World.setRow _ _ _ = x1 at *; clear hv1)
        | ((with_reducible show wpList _ _ _ (⟨some 83, _, _, _, _, _⟩ :: _) _ _); refine wpList_load_rowG rfl 26 _ rfl w1.heap.size rfl 26 (refC x) _ (M.out.at_ _ _ (by repeat (first | exact List.Mem.head _ | apply List.Mem.tail))).1 Tryd.underlying26 rfl HIx.out ?_)
        | ((with_reducible show wpList _ _ _ (⟨some 87, _, _, _, _, _⟩ :: _) _ _); refine wpList_load_rowG rfl 26 _ rfl w1.heap.size rfl 26 (refC x) _ (M.out.at_ _ _ (by repeat (first | exact List.Mem.head _ | apply List.Mem.tail))).1 Tryd.underlying26 rfl HIx.out ?_)
        | (go_at_call 15; ((with_reducible refine (CC _).mono ?_); rintro e wc1 ⟨rfl, bc1⟩); replace M := Lib.hid (M.out.below bc1); clear bc1)
        | (go_at_call 17; ((with_reducible refine (CB _).mono ?_); rintro e wc2 ⟨rfl, bc2⟩); replace M := Lib.hid (M.out.below bc2); clear bc2)
        | (go_at_call 8; ((with_reducible refine (CN _).mono ?_); rintro e wc3 ⟨rfl, bc3⟩); replace M := Lib.hid (M.out.below bc3); clear bc3))
      go_ret
      exact ⟨rfl, M.out.b⟩
    all_goals
      rw [hx] at CP
      obtain ⟨x, hxz⟩ : ∃ x, x = zeroR := ⟨_, rfl⟩
      have qz : ∀ w, (Op.equalIn 10000 26 (.agg (refC x)) (.agg (refC zeroR))).run Tryd.prog w = .ok true w := fun w => by
        rw [hxz, eq_ref w 9997 zero_ok zero_ok]; simp
      have HOx := Lib.hid (show x.ok by rw [hxz]; exact zero_ok)
      have HIx := Lib.hid (info_ref HOx.out)
      have HSx := Lib.hid (show (refC zeroR).size = (refC x).size by rw [refC_size zero_ok, refC_size HOx.out])
      have gd := guard_ref
      have hlz : decide ((200 : Int) < (s.length : Int)) = decide (200 < s.length) := by rw [decide_eq_decide]; omega
      have hly : decide ((s.length : Int) ≤ 200) = decide (s.length ≤ 200) := by rw [decide_eq_decide]; omega
      have q5 : (200 : Int) < (s.length : Int) ∨ (s.length : Int) ≤ 200 := by omega
      simp only [← hxz] at CP
      clear hx hxz hlz hly q5
    · have q4 : (s.length : Int) ≤ 200 := by omega
      clear hl
      go_wp2_with (first
        | (go_at_call 9; ((with_reducible refine (CP _).mono ?_); rintro e w1 ⟨rfl, b1⟩); replace M := Lib.hid (M.out.below b1); clear b1 CP; obtain ⟨v1, hv1⟩ : ∃ v, w1.alloc (.cells #[.string ⟨#[]⟩, .string ⟨#[]⟩, .string ⟨#[]⟩, .int .u8 0, .int .u8 0, .int .u8 0, .int .u8 0, .int .u8 0, .int .u8 0, .int .u8 0, .int .u8 0, .int .u8 0, .int .u8 0, .int .u8 0, .int .u8 0, .int .u8 0, .int .u8 0, .int .u8 0, .int .u8 0, .int .u8 0, .int .u8 0, .int .u8 0, .int .u8 0, .int .u8 0, .int .u8 0, .int .u8 0, .int .u8 0, .int .u8 0, .int .u8 0, .int .u8 0, .int .u8 0, .int .u8 0, .int .u8 0, .int .u8 0, .int .u8 0, .bool false] 26) = v := ⟨_, rfl⟩; obtain ⟨HZ1, HN1⟩ := M.out.made hv1 x; replace HZ1 := Lib.hid HZ1; replace M := Lib.hid HN1; clear HN1)
        | ((with_reducible show wpList _ _ _ (⟨none, .store _ (.tmp 5) _, _, _, _, _⟩ :: _) _ _); refine wpList_store_row rfl 26 _ _ rfl w1.heap.size (refC x) rfl rfl 26 (refC zeroR) HZ1.out HIx.out HSx.out (refC_all _) ?_; generalize World.setRow _ _ _ = x1 at *; clear hv1)
        | ((with_reducible show wpList _ _ _ (⟨some 76, _, _, _, _, _⟩ :: _) _ _); refine wpList_load_rowG rfl 26 _ rfl w1.heap.size rfl 26 (refC x) _ (M.out.at_ _ _ (by repeat (first | exact List.Mem.head _ | apply List.Mem.tail))).1 Tryd.underlying26 rfl HIx.out ?_)
        | ((with_reducible show wpList _ _ _ (⟨some 77, _, _, _, _, _⟩ :: _) _ _); refine wpList_build_asG (o := ⟨some 77, _, _, _, _, _⟩) rfl 26 _ rfl (refC zeroR) ?_ ?_; kernel_rfl)
        | (go_at_call 8; ((with_reducible refine (CN _).mono ?_); rintro e wc3 ⟨rfl, bc3⟩); replace M := Lib.hid (M.out.below bc3); clear bc3))
      go_ret
      exact ⟨rfl, M.out.b⟩
    · have q4 : (200 : Int) < (s.length : Int) := by omega
      clear hl
      go_wp2_with (first
        | (go_at_call 9; ((with_reducible refine (CP _).mono ?_); rintro e w1 ⟨rfl, b1⟩); replace M := Lib.hid (M.out.below b1); clear b1 CP; obtain ⟨v1, hv1⟩ : ∃ v, w1.alloc (.cells #[.string ⟨#[]⟩, .string ⟨#[]⟩, .string ⟨#[]⟩, .int .u8 0, .int .u8 0, .int .u8 0, .int .u8 0, .int .u8 0, .int .u8 0, .int .u8 0, .int .u8 0, .int .u8 0, .int .u8 0, .int .u8 0, .int .u8 0, .int .u8 0, .int .u8 0, .int .u8 0, .int .u8 0, .int .u8 0, .int .u8 0, .int .u8 0, .int .u8 0, .int .u8 0, .int .u8 0, .int .u8 0, .int .u8 0, .int .u8 0, .int .u8 0, .int .u8 0, .int .u8 0, .int .u8 0, .int .u8 0, .int .u8 0, .int .u8 0, .bool false] 26) = v := ⟨_, rfl⟩; obtain ⟨HZ1, HN1⟩ := M.out.made hv1 x; replace HZ1 := Lib.hid HZ1; replace M := Lib.hid HN1; clear HN1)
        | ((with_reducible show wpList _ _ _ (⟨none, .store _ (.tmp 5) _, _, _, _, _⟩ :: _) _ _); refine wpList_store_row rfl 26 _ _ rfl w1.heap.size (refC x) rfl rfl 26 (refC zeroR) HZ1.out HIx.out HSx.out (refC_all _) ?_; generalize World.setRow _ _ _ = x1 at *; clear hv1)
        | ((with_reducible show wpList _ _ _ (⟨some 76, _, _, _, _, _⟩ :: _) _ _); refine wpList_load_rowG rfl 26 _ rfl w1.heap.size rfl 26 (refC x) _ (M.out.at_ _ _ (by repeat (first | exact List.Mem.head _ | apply List.Mem.tail))).1 Tryd.underlying26 rfl HIx.out ?_)
        | ((with_reducible show wpList _ _ _ (⟨some 77, _, _, _, _, _⟩ :: _) _ _); refine wpList_build_asG (o := ⟨some 77, _, _, _, _, _⟩) rfl 26 _ rfl (refC zeroR) ?_ ?_; kernel_rfl)
        | (go_at_call 8; ((with_reducible refine (CN _).mono ?_); rintro e wc3 ⟨rfl, bc3⟩); replace M := Lib.hid (M.out.below bc3); clear bc3))
      go_ret
      exact ⟨rfl, M.out.b⟩
theorem back_walk (I : Impl) {H : Type} {enc : TypeId × Value → H} {base : Nat} {sp : Nat → Bool} {held : Bool} {d : DataW H} {p : List MemPlace} (v0 : Value) (a1 : ByteArray) (W : World)
    (k0 : DataW.Trod enc Tryd.prog W base sp held 26 v0 d p) (_w1 : a1.size ≤ maxLen) :
    Calls Tryd.prog 6 #[v0, .string a1] W fun e w' => e = .returned (.bool true) ∧ Below W.heap.size W w' := by
  obtain ⟨r, hr, rfl⟩ := open_ref k0
  exact refsBack_any I r a1.data.toList W hr
end Go.Proofs.YtldbfjcfobdkpaaDoor
