/- Layer 2's With (out of BitsE). -/
import Derived.Test.YtdngkpdiaeicmaaBtA
namespace Go.Proofs.Ytdngkpdiaeicmaa
open Go.RowKit

/-- A text with one bit set, or clear. -/
def withV (s : ByteArray) (i : Int) (on : Bool) : ByteArray := if inT s i then str (putB s.data.toList i.toNat on) else s
theorem u8_is {x : Int} (h : ∃ n : Nat, x = n ∧ n < 256) : ∃ b : UInt8, (b.toNat : Int) = x := by
  obtain ⟨n, rfl, h⟩ := h
  exact ⟨UInt8.ofNat n, by rw [UInt8.toNat_ofNat_of_lt' (by simpa using h)]⟩
theorem wei_nat (j : Nat) : wei (j : Int) = ((2 ^ (j % 8) : Nat) : Int) ∧ 2 ^ (j % 8) < 256 := by
  have h8 : j % 8 < 8 := by omega
  have h3 : 2 ^ (j % 8) < 2 ^ 8 := Nat.pow_lt_pow_right (by omega) h8
  refine ⟨?_, by simpa using h3⟩
  unfold wei
  rw [show ((j : Int) % 8).toNat = j % 8 by omega]
  have h2 : ((2 : Int) ^ (j % 8)) = ((2 ^ (j % 8) : Nat) : Int) := by simp
  rw [h2]
  generalize 2 ^ (j % 8) = p at *
  omega
theorem not_wei (b : UInt8) (j : Nat) : ∃ c : UInt8, bits BinOp.andNot IntKind.u8 (b.toNat : Int) (wei (j : Int)) = c.toNat ∧ c.toNat = setN b.toNat (j % 8) false := by
  obtain ⟨h1, h2⟩ := wei_nat j
  rw [h1, u8_andNot_nat _ _ (UInt8.toNat_lt _) h2]
  have h := setN_lt (b := b.toNat) (k := j % 8) false (UInt8.toNat_lt _) (by omega)
  refine ⟨UInt8.ofNat (setN b.toNat (j % 8) false), ?_, UInt8.toNat_ofNat_of_lt' (by simpa using h)⟩
  rw [UInt8.toNat_ofNat_of_lt' (by simpa using h)]
  rfl
theorem or_wei (b c : UInt8) (j : Nat) (hc : c.toNat = setN b.toNat (j % 8) false) : ∃ d : UInt8, bits BinOp.or IntKind.u8 (c.toNat : Int) (wei (j : Int)) = d.toNat ∧ d.toNat = setN b.toNat (j % 8) true := by
  obtain ⟨h1, h2⟩ := wei_nat j
  rw [h1, u8_or_nat _ _ (UInt8.toNat_lt _) h2]
  have h := setN_lt (b := b.toNat) (k := j % 8) true (UInt8.toNat_lt _) (by omega)
  refine ⟨UInt8.ofNat (setN b.toNat (j % 8) true), ?_, UInt8.toNat_ofNat_of_lt' (by simpa using h)⟩
  rw [UInt8.toNat_ofNat_of_lt' (by simpa using h), hc]
  rfl
theorem with_text {s : ByteArray} {j : Nat} (h : j / 8 < s.size) {b : UInt8} {on : Bool} (hb : b.toNat = setN (s[j / 8]).toNat (j % 8) on) :
    s.extract 0 (j / 8) ++ str [b] ++ s.extract (j / 8 + 1) s.size = str (putB s.data.toList j on) := by
  have h' : j / 8 < s.data.toList.length := by simpa using h
  have e : UInt8.ofNat (setN (s.data.toList.getD (j / 8) 0).toNat (j % 8) on) = b := by
    have e2 : s.data.toList.getD (j / 8) 0 = s[j / 8] := by simp only [List.getD, List.getElem?_eq_getElem h', Option.getD_some]; rfl
    rw [e2, ← hb]; simp
  refine bytes_toList ?_
  unfold putB
  rw [e, List.set_eq_take_append_cons_drop, if_pos h']
  have hl : s.data.toList.length = s.size := by simp
  simp only [ByteArray.data_append, ByteArray.data_extract, Array.toList_append, Array.toList_extract, str, List.extract_eq_take_drop]
  rw [show s.size - (j / 8 + 1) = (s.data.toList.drop (j / 8 + 1)).length by rw [List.length_drop, hl], List.take_length]
  simp
theorem conv_one (w : World) (b : UInt8) : (convert 53 9 (.slice (some ⟨w.heap.size, 0, none⟩) 1 1)).run Try.prog (w.alloc (.cells #[.int .u8 (b.toNat : Int)] 5)) = .ok (.string (str [b])) (w.alloc (.cells #[.int .u8 (b.toNat : Int)] 5)) := by
  rw [run_convert_bytes_arg _ 53 5 Try.underlying53 Try.underlying5 w.heap.size 0 1 1 [(b.toNat : Int)] rfl (fun i hi => ?_) 9 Try.underlying9]
  · have := str_nums [b]
    rw [List.map_singleton] at this
    rw [this]
  · obtain rfl : i = 0 := by omega
    simp
set_option maxHeartbeats 1000000 in
theorem with_any (s : ByteArray) (i : Int) (on : Bool) (w : World) (hs : s.size ≤ 1000000) (hi : i ≤ 9223372036854775807) :
    Calls Try.prog 33 #[.string s, .int .i64 i, .bool on] w fun e w' => e = .returned (.string (withV s i on)) ∧ Below w.heap.size w w' := by
  have cw := fun w => within_any s i w hi
  by_cases h : inT s i = true
  · obtain ⟨h0, h1⟩ := inT_iff.1 h
    rw [h] at cw
    obtain ⟨j, rfl⟩ : ∃ j : Nat, i = j := ⟨i.toNat, by omega⟩
    have hres := Lib.hid (show withV s j on = str (putB s.data.toList j on) by unfold withV; rw [if_pos h, Int.toNat_natCast])
    clear h
    have cg := fun w => weight_any j w (by omega) hi
    have h2 : j / 8 < s.size := by omega
    have h3 : IntKind.i64.wrap ((j : Int) / 8) = (j : Int) / 8 := IntWalk.i64_in _ (by omega)
    have h4 : 0 ≤ (j : Int) / 8 := by omega
    have h5 : ((j : Int) / 8).toNat = j / 8 := by omega
    obtain ⟨b, hb, HB⟩ := not_wei s[j / 8] j
    obtain ⟨c, hc, HC⟩ := or_wei s[j / 8] b j HB
    have HB' := Lib.hid HB
    have HC' := Lib.hid HC
    clear HB HC
    cases on
    · go_enter Try.func33, Try.ntmps33
      go_wp2_with (go_at_call 48; ((with_reducible refine (cw _).mono ?_); rintro e w' ⟨rfl, rfl⟩))
      go_quiet ((go_at_call 49; exact qs (cg _)))
      go_wp2
      have hcv : ∀ n, (convert 53 9 (.slice (some ⟨w.heap.size, 0, none⟩) 1 1)).run Try.prog ((w.drewN n).alloc (.cells #[.int .u8 (b.toNat : Int)] 5)) = .ok (.string (str [b])) ((w.drewN n).alloc (.cells #[.int .u8 (b.toNat : Int)] 5)) := fun n => conv_one (w.drewN n) b
      have hz : (str [b]).size = 1 := rfl
      have hm : min (j / 8) s.size = j / 8 := by omega
      go_region
      go_wp2
      go_ret
      exact ⟨retStr (by rw [hres.out]; exact with_text h2 HB'.out), (below_drewN (Below.refl _ _) _).alloc (Nat.le_refl _) _⟩
    · go_enter Try.func33, Try.ntmps33
      go_wp2_with (go_at_call 48; ((with_reducible refine (cw _).mono ?_); rintro e w' ⟨rfl, rfl⟩))
      go_quiet ((go_at_call 49; exact qs (cg _)))
      go_wp2_with (go_at_call 49; ((with_reducible refine (cg _).mono ?_); rintro e w' ⟨rfl, rfl⟩))
      have hcv : ∀ n, (convert 53 9 (.slice (some ⟨w.heap.size, 0, none⟩) 1 1)).run Try.prog ((w.drewN n).alloc (.cells #[.int .u8 (c.toNat : Int)] 5)) = .ok (.string (str [c])) ((w.drewN n).alloc (.cells #[.int .u8 (c.toNat : Int)] 5)) := fun n => conv_one (w.drewN n) c
      have hz : (str [c]).size = 1 := rfl
      have hm : min (j / 8) s.size = j / 8 := by omega
      go_region
      go_wp2
      go_ret
      exact ⟨retStr (by rw [hres.out]; exact with_text h2 HC'.out), (below_drewN (Below.refl _ _) _).alloc (Nat.le_refl _) _⟩
  · have h' : inT s i = false := by simpa using h
    rw [h'] at cw
    have hres := Lib.hid (show withV s i on = s by unfold withV; rw [if_neg h])
    clear h h'
    go_enter Try.func33, Try.ntmps33
    go_wp2_with (go_at_call 48; ((with_reducible refine (cw _).mono ?_); rintro e w' ⟨rfl, rfl⟩))
    go_ret
    exact ⟨retStr hres.out.symm, Below.refl _ _⟩
end Go.Proofs.Ytdngkpdiaeicmaa
