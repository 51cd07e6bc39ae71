/- Merged: RpO, RpQ, DpA, DpB, RpR, RpS, RpU. -/
import Derived.Test.YtldbfjcfobdkpaaDoorM02
import Derived.Test.YtldbfjcfobdkpaaDoorRfS
import Derived.Test.YtldbfjcfobdkpaaDoorDxE
import Derived.Test.YtldbfjcfobdkpaaDoorRfG
/- Layer 12: the program's domain, tag and place of a text; what lies in the library. -/
namespace Go.Proofs.YtldbfjcfobdkpaaDoor
open Go.RowKit

set_option maxHeartbeats 1000000 in
theorem cutDomain_any (s : List UInt8) (hl : s.length ≤ 1000000) (w : World) :
    Calls Tryd.prog 27 #[.string (str s)] w fun e w' => e = .returned (.tuple #[.string (str (frontR s)), .string (str (restR s)), .bool (!decide (frontR s = []))]) ∧ Below w.heap.size w w' := by
  by_cases hm : (47 : UInt8) ∈ s
  · obtain ⟨a, b, hs, hn⟩ := cut_first hm
    have CC : ∀ w, Calls Tryd.prog 33 #[.string (str s), .string ⟨#[47]⟩] w fun e w' => e = .returned (.tuple #[.string (str a), .string (str b), .bool true]) ∧ Below w.heap.size w w' := by rw [hs] at hl ⊢; exact fun w => cut_hit a b 47 hn hl w
    have CS := fun w => standsOut_any a (by rw [hs, List.length_append] at hl; omega) w
    cases hst : standsB a
    · have HF : frontR s = [] := by rw [hs]; exact front_not b hn hst
      have HR : restR s = s := by unfold restR; rw [if_pos HF]
      rw [hst] at CS
      rw [HF, HR, decide_eq_true rfl]
      clear HF HR hst hs hn hm
      go_enter Tryd.func27, Tryd.ntmps27
      go_wp2_with (first
        | (go_at_call 33; ((with_reducible refine (CC _).mono ?_); rintro e w1 ⟨rfl, b1⟩))
        | (go_at_call 47; ((with_reducible refine (CS _).mono ?_); rintro e w2 ⟨rfl, b2⟩)))
      go_ret3
      exact ⟨rfl, b1.trans (b2.mono b1.size)⟩
    · have HF : frontR s = a := by rw [hs]; exact front_yes b hn hst
      have hne : a ≠ [] := stands_ne hst
      have HR : restR s = b := by
        unfold restR
        rw [HF, if_neg hne, hs, show a ++ 47 :: b = (a ++ [47]) ++ b by simp, show a.length + 1 = (a ++ [47]).length by simp, List.drop_left]
      rw [hst] at CS
      rw [HF, HR, decide_eq_false hne]
      clear HF HR hst hs hn hm hne
      go_enter Tryd.func27, Tryd.ntmps27
      go_wp2_with (first
        | (go_at_call 33; ((with_reducible refine (CC _).mono ?_); rintro e w1 ⟨rfl, b1⟩))
        | (go_at_call 47; ((with_reducible refine (CS _).mono ?_); rintro e w2 ⟨rfl, b2⟩)))
      go_ret3
      exact ⟨rfl, b1.trans (b2.mono b1.size)⟩
  · have CC := fun w => cut_miss hm w
    have HF : frontR s = [] := front_none hm
    have HR : restR s = s := by unfold restR; rw [if_pos HF]
    have CS := fun w => standsOut_any s hl w
    rw [HF, HR, decide_eq_true rfl]
    clear HF HR hm
    generalize standsB s = z at *
    go_enter Tryd.func27, Tryd.ntmps27
    go_wp2_with (first
      | (go_at_call 33; ((with_reducible refine (CC _).mono ?_); rintro e w1 ⟨rfl, b1⟩))
      | (go_at_call 47; ((with_reducible refine (CS _).mono ?_); rintro e w2 ⟨rfl, b2⟩)))
    go_ret3
    exact ⟨rfl, b1⟩
/-- Where a byte stands last. -/
theorem last_miss {s : List UInt8} {c : UInt8} (h : c ∉ s) : Lib.lastIndexByte (str s) (c.toNat : Int) = -1 := by
  unfold Lib.lastIndexByte
  rcases Lib.lastIdx_spec (str s) (c.toNat : Int) (str s).size with ⟨h1, _⟩ | ⟨i, hi, h1, h2, _⟩
  · exact h1
  · exfalso
    have hi' : i < s.length := by rw [← str_size s]; exact hi
    have e : (str s).data[i]! = s[i]'hi' := by
      rw [getElem!_pos (str s).data i (by simpa using hi)]
      rfl
    rw [e] at h2
    have e2 : s[i]'hi' = c := UInt8.toNat_inj.1 (by omega)
    exact h (e2 ▸ List.getElem_mem hi')
theorem last_at (u : List UInt8) {v : List UInt8} {c : UInt8} (h : c ∉ v) : Lib.lastIndexByte (str (u ++ c :: v)) (c.toNat : Int) = (u.length : Int) := by
  unfold Lib.lastIndexByte
  have hz := str_size (u ++ c :: v)
  rw [List.length_append, List.length_cons] at hz
  have at_ : ∀ i (hi : i < (u ++ c :: v).length), (str (u ++ c :: v)).data[i]! = (u ++ c :: v)[i]'hi := fun i hi => by
    rw [getElem!_pos (str (u ++ c :: v)).data i (by simpa [str] using hi)]
    rfl
  rcases Lib.lastIdx_spec (str (u ++ c :: v)) (c.toNat : Int) (str (u ++ c :: v)).size with ⟨_, h2⟩ | ⟨i, hi, h1, h2, h3⟩
  · exfalso
    have hu : u.length < (u ++ c :: v).length := by rw [List.length_append, List.length_cons]; omega
    refine h2 u.length (by omega) ?_
    rw [at_ u.length hu]
    simp
  · rw [h1]
    have hi' : i < (u ++ c :: v).length := by rw [List.length_append, List.length_cons]; omega
    have hu : u.length < (u ++ c :: v).length := by rw [List.length_append, List.length_cons]; omega
    rcases Nat.lt_trichotomy i u.length with hlt | he | hgt
    · exfalso
      refine h3 u.length hlt (by omega) ?_
      rw [at_ u.length hu]
      simp
    · rw [he]
    · exfalso
      rw [at_ i hi'] at h2
      have e2 : (u ++ c :: v)[i]'hi' = c := UInt8.toNat_inj.1 (by omega)
      rw [List.getElem_append_right (by omega)] at e2
      obtain ⟨k, hk⟩ : ∃ k, i - u.length = k + 1 := ⟨i - u.length - 1, by omega⟩
      simp only [hk, List.getElem_cons_succ] at e2
      exact h (e2 ▸ List.getElem_mem _)
def tagC (n : List UInt8) : List UInt8 := if tagged n = true then lastR n else []
theorem tagged_of (u : List UInt8) {v : List UInt8} (h : (58 : UInt8) ∉ v) : tagged (u ++ 58 :: v) = !decide ((47 : UInt8) ∈ v) ∧ lastR (u ++ 58 :: v) = v := by
  have hl : lastR (u ++ 58 :: v) = v := last_of u 58 h
  refine ⟨?_, hl⟩
  unfold tagged
  rw [hl, cut_len, cut_len1, decide_eq_true (by simp)]
  by_cases h2 : (47 : UInt8) ∈ v
  · rw [decide_eq_true h2, decide_eq_false (by simpa using h2)]; rfl
  · rw [decide_eq_false h2, decide_eq_true h2]; rfl
set_option maxRecDepth 100000 in
set_option maxHeartbeats 2000000 in
theorem cutTag_any (s : List UInt8) (hl : s.length ≤ 1000000) (w : World) :
    Calls Tryd.prog 34 #[.string (str s)] w fun e w' => e = .returned (.tuple #[.string (str (nameR s)), .string (str (tagC s)), .bool (tagged s)]) ∧ Below w.heap.size w w' := by
  have CLb := fun w => Tryd.strings_LastIndexByte (str s) 58 (by rw [str_size]; omega) w
  by_cases hm : (58 : UInt8) ∈ s
  · obtain ⟨u, v, hs, hn⟩ := split_last hm
    obtain ⟨ht, hlast⟩ := tagged_of u hn
    rw [← hs] at ht hlast
    rw [show Lib.lastIndexByte (str s) 58 = (u.length : Int) by rw [hs]; exact last_at u hn] at CLb
    have hzs := str_size s
    have hlen : s.length = u.length + (v.length + 1) := by rw [hs, List.length_append, List.length_cons]
    have hex : (str s).extract u.length s.length = str (58 :: v) := by
      rw [extract_str, List.take_length, hs, List.drop_left]
    have s1 : ∀ W, (Instr.slice 9 (.string (str s)) (some (.int .i64 (u.length : Int))) none none).run Tryd.prog W = .ok (.string (str (58 :: v))) W := fun W => by
      have h := run_slice_string_l (P := Tryd.prog) (w := W) (t := 9) (s := str s) Tryd.underlying9 .i64 (u.length : Int) (by omega) (by rw [hzs]; omega)
      rw [Int.toNat_natCast, hzs, hex] at h
      exact h
    have CC := fun w => contains_any (58 :: v) 47 w
    have hd : decide ((47 : UInt8) ∈ (58 :: v)) = decide ((47 : UInt8) ∈ v) := by
      refine decide_eq_decide.2 ⟨fun h => ?_, fun h => List.mem_cons_of_mem _ h⟩
      rcases List.mem_cons.1 h with e | e
      · exact absurd e (by decide)
      · exact e
    rw [hd] at CC
    by_cases h47 : (47 : UInt8) ∈ v
    · rw [decide_eq_true h47] at CC ht
      have HN : nameR s = s := by unfold nameR; rw [ht]; rfl
      have HT : tagC s = [] := by unfold tagC; rw [ht]; rfl
      rw [HN, HT, ht]
      have c0 : ¬ ((u.length : Int) < 0) := by omega
      clear HN HT ht hlast hs hn hm hd h47 hex
      go_enter Tryd.func34, Tryd.ntmps34
      go_wp2_with (first
        | (go_at_call 51; ((with_reducible refine (CLb _).mono ?_); rintro e w1 ⟨rfl, rfl⟩))
        | (go_at_call 41; ((with_reducible refine (CC _).mono ?_); rintro e w2 ⟨rfl, rfl⟩)))
      go_ret3
      exact ⟨rfl, Below.refl _ _⟩
    · rw [decide_eq_false h47] at CC ht
      have HT : tagC s = v := by unfold tagC; rw [ht, hlast]; rfl
      have HN : nameR s = u := by
        unfold nameR
        rw [ht, hlast, hlen, show u.length + (v.length + 1) - v.length - 1 = u.length by omega, hs]
        exact List.take_left
      rw [HN, HT, ht]
      have c0 : ¬ ((u.length : Int) < 0) := by omega
      have HB := Lib.hid (show u.length + 1 ≤ (str s).size ∧ u.length ≤ 1000000 by rw [hzs]; omega)
      have ha := Lib.hid (show (str s).extract 0 u.length = str u by rw [hs]; exact part_ahead u v 58)
      have hb := Lib.hid (show (str s).extract (u.length + 1) (str s).size = str v by rw [hzs, hs]; exact part_behind u v 58)
      clear HN HT ht hlast hs hn hm hd h47 hex hlen hzs hl
      generalize str s = S at *
      generalize u.length = i at *
      go_enter Tryd.func34, Tryd.ntmps34
      go_wp2_with (first
        | (go_at_call 51; ((with_reducible refine (CLb _).mono ?_); rintro e w1 ⟨rfl, rfl⟩))
        | (go_at_call 41; ((with_reducible refine (CC _).mono ?_); rintro e w2 ⟨rfl, rfl⟩)))
      obtain ⟨d1, d2⟩ := HB.out
      have c1 : (0 : Int) ≤ (i : Int) := by omega
      have c2 : (i : Int) ≤ (S.size : Int) := by omega
      have c3 : (0 : Int) ≤ (i : Int) + 1 := by omega
      have c4 : (i : Int) + 1 ≤ (S.size : Int) := by omega
      have c5 : (i : Int) + 1 ≤ 1000001 := by omega
      clear d1 d2 s1
      go_region
      go_wp2
      go_ret3
      exact ⟨ret3s ha.out hb.out, below_drewN (Below.refl _ _) _⟩
  · rw [show Lib.lastIndexByte (str s) 58 = -1 from last_miss hm] at CLb
    have ht := tagged_not hm
    have HN : nameR s = s := by unfold nameR; rw [ht]; rfl
    have HT : tagC s = [] := by unfold tagC; rw [ht]; rfl
    rw [HN, HT, ht]
    clear HN HT ht hm
    go_enter Tryd.func34, Tryd.ntmps34
    go_wp2_with (go_at_call 51; ((with_reducible refine (CLb _).mono ?_); rintro e w1 ⟨rfl, rfl⟩))
    go_ret3
    exact ⟨rfl, Below.refl _ _⟩
end Go.Proofs.YtldbfjcfobdkpaaDoor

/- Layer 12: where a text leads; what lies in the library. -/
namespace Go.Proofs.YtldbfjcfobdkpaaDoor
open Go.RowKit

theorem ret2s {a a' b b' : ByteArray} (h : a = a') (h' : b = b') : Ending.returned (.tuple #[.string a, .string b]) = .returned (.tuple #[.string a', .string b']) := by rw [h, h']
theorem lib_text (s : List UInt8) : (⟨#[108, 105, 98, 114, 97, 114, 121, 47]⟩ : ByteArray) ++ str s = str (libraryB ++ [47] ++ s) := by
  rw [show (⟨#[108, 105, 98, 114, 97, 114, 121, 47]⟩ : ByteArray) = str (libraryB ++ [47]) from rfl, str_append]
theorem eq_index (h : List UInt8) : ((str h).toList == [105, 110, 100, 101, 120, 46, 100, 111, 99, 107, 101, 114, 46, 105, 111]) = decide (h = indexB) := eq_lit h indexB
theorem eq_hub (h : List UInt8) : ((str h).toList == [100, 111, 99, 107, 101, 114, 46, 105, 111]) = decide (h = hubB) := eq_lit h hubB
theorem restR_le (s : List UInt8) : (restR s).length ≤ s.length := by
  unfold restR
  split
  · exact Nat.le_refl _
  · rw [List.length_drop]; omega
set_option maxRecDepth 100000 in
set_option maxHeartbeats 2000000 in
theorem place_any (s : List UInt8) (hl : s.length ≤ 1000000) (w : World) :
    Calls Tryd.prog 36 #[.string (str s)] w fun e w' => e = .returned (.tuple #[.string (str (domR s)), .string (str (pathR s))]) ∧ Below w.heap.size w w' := by
  have CD := fun w => cutDomain_any s hl w
  have CC := fun w => contains_any (restR s) 47 w
  have hz := str_size (restR s)
  have hle := restR_le s
  have HT := Lib.hid (lib_text (restR s))
  have e1 := eq_index (frontR s)
  have e2 := eq_hub (frontR s)
  have HP : pathR s = if domR s = hubB ∧ ¬ (47 : UInt8) ∈ restR s then libraryB ++ [47] ++ restR s else restR s := by
    unfold pathR
    have := cut_len1 (restR s) 47
    rw [decide_eq_decide] at this
    simp only [this]
  by_cases h0 : frontR s = []
  · have HD : domR s = hubB := domR_of h0
    rw [decide_eq_true h0] at CD
    rw [HD] at HP ⊢
    by_cases h47 : (47 : UInt8) ∈ restR s
    · rw [decide_eq_true h47] at CC
      rw [if_neg (fun h => h.2 h47)] at HP
      rw [HP]
      clear HP HD h0 h47
      go_enter Tryd.func36, Tryd.ntmps36
      go_wp2_with (first
        | (go_at_call 27; ((with_reducible refine (CD _).mono ?_); rintro e w1 ⟨rfl, b1⟩))
        | (go_at_call 41; ((with_reducible refine (CC _).mono ?_); rintro e w2 ⟨rfl, rfl⟩)))
      go_ret2
      exact ⟨rfl, b1⟩
    · rw [decide_eq_false h47] at CC
      rw [if_pos ⟨rfl, h47⟩] at HP
      rw [HP]
      clear HP HD h0 h47
      go_enter Tryd.func36, Tryd.ntmps36
      go_wp2_with (first
        | (go_at_call 27; ((with_reducible refine (CD _).mono ?_); rintro e w1 ⟨rfl, b1⟩))
        | (go_at_call 41; ((with_reducible refine (CC _).mono ?_); rintro e w2 ⟨rfl, rfl⟩)))
      go_ret2
      exact ⟨ret2s rfl HT.out, b1⟩
  · rw [decide_eq_false h0] at CD
    by_cases hi : frontR s = indexB
    · have HD : domR s = hubB := by unfold domR; rw [if_pos (.inr hi)]
      rw [decide_eq_true hi] at e1
      rw [HD] at HP ⊢
      by_cases h47 : (47 : UInt8) ∈ restR s
      · rw [decide_eq_true h47] at CC
        rw [if_neg (fun h => h.2 h47)] at HP
        rw [HP]
        clear HP HD h0 h47 hi
        go_enter Tryd.func36, Tryd.ntmps36
        go_wp2_with (first
          | (go_at_call 27; ((with_reducible refine (CD _).mono ?_); rintro e w1 ⟨rfl, b1⟩))
          | (go_at_call 41; ((with_reducible refine (CC _).mono ?_); rintro e w2 ⟨rfl, rfl⟩)))
        go_ret2
        exact ⟨rfl, b1⟩
      · rw [decide_eq_false h47] at CC
        rw [if_pos ⟨rfl, h47⟩] at HP
        rw [HP]
        clear HP HD h0 h47 hi
        go_enter Tryd.func36, Tryd.ntmps36
        go_wp2_with (first
          | (go_at_call 27; ((with_reducible refine (CD _).mono ?_); rintro e w1 ⟨rfl, b1⟩))
          | (go_at_call 41; ((with_reducible refine (CC _).mono ?_); rintro e w2 ⟨rfl, rfl⟩)))
        go_ret2
        exact ⟨ret2s rfl HT.out, b1⟩
    · have HD : domR s = frontR s := by unfold domR; rw [if_neg (fun h => h.elim h0 hi)]
      rw [decide_eq_false hi] at e1
      rw [HD] at HP ⊢
      by_cases hh : frontR s = hubB
      · rw [decide_eq_true hh] at e2
        by_cases h47 : (47 : UInt8) ∈ restR s
        · rw [decide_eq_true h47] at CC
          rw [if_neg (fun h => h.2 h47)] at HP
          rw [HP]
          clear HP HD h0 h47 hi hh
          go_enter Tryd.func36, Tryd.ntmps36
          go_wp2_with (first
            | (go_at_call 27; ((with_reducible refine (CD _).mono ?_); rintro e w1 ⟨rfl, b1⟩))
            | (go_at_call 41; ((with_reducible refine (CC _).mono ?_); rintro e w2 ⟨rfl, rfl⟩)))
          go_ret2
          exact ⟨rfl, b1⟩
        · rw [decide_eq_false h47] at CC
          rw [if_pos ⟨hh, h47⟩] at HP
          rw [HP]
          clear HP HD h0 h47 hi hh
          go_enter Tryd.func36, Tryd.ntmps36
          go_wp2_with (first
            | (go_at_call 27; ((with_reducible refine (CD _).mono ?_); rintro e w1 ⟨rfl, b1⟩))
            | (go_at_call 41; ((with_reducible refine (CC _).mono ?_); rintro e w2 ⟨rfl, rfl⟩)))
          go_ret2
          exact ⟨ret2s rfl HT.out, b1⟩
      · rw [decide_eq_false hh] at e2
        rw [if_neg (fun h => hh h.1)] at HP
        rw [HP]
        clear HP HD h0 hi hh
        generalize decide ((47 : UInt8) ∈ restR s) = z at *
        go_enter Tryd.func36, Tryd.ntmps36
        go_wp2_with (first
          | (go_at_call 27; ((with_reducible refine (CD _).mono ?_); rintro e w1 ⟨rfl, b1⟩))
          | (go_at_call 41; ((with_reducible refine (CC _).mono ?_); rintro e w2 ⟨rfl, rfl⟩)))
        go_ret2
        exact ⟨rfl, b1⟩
/-- In the library? -/
def libQ (p : List UInt8) : Bool := decide ((cutL p 47).length = 2 ∧ (cutL p 47).getD 0 [] = libraryB)
theorem lib_pre {p : List UInt8} (h : Lib.hasPrefix p (libraryB ++ [47]) = true) : p = libraryB ++ 47 :: Lib.trimPrefix p (libraryB ++ [47]) ∧ libQ p = !decide ((47 : UInt8) ∈ Lib.trimPrefix p (libraryB ++ [47])) := by
  have h' : libraryB ++ [47] <+: p := by unfold Lib.hasPrefix at h; exact List.isPrefixOf_iff_prefix.1 h
  obtain ⟨r, hr⟩ := h'
  have ht : Lib.trimPrefix p (libraryB ++ [47]) = r := by
    unfold Lib.trimPrefix
    rw [if_pos h, ← hr, List.drop_left]
  have hp : p = libraryB ++ 47 :: r := by rw [← hr]; simp
  rw [ht]
  refine ⟨hp, ?_⟩
  have hn : (47 : UInt8) ∉ libraryB := by decide
  unfold libQ
  rw [hp, cutL_two r hn, List.length_cons]
  have h1 := cut_len1 r 47
  have h2 : ((cutL r 47).length + 1 = 2 ∧ (libraryB :: cutL r 47).getD 0 [] = libraryB) ↔ (cutL r 47).length = 1 := ⟨fun h => by omega, fun h => ⟨by omega, rfl⟩⟩
  rw [decide_eq_decide.2 h2, h1]
  simp
theorem lib_not {p : List UInt8} (h : Lib.hasPrefix p (libraryB ++ [47]) = false) : libQ p = false := by
  unfold libQ
  rw [decide_eq_false_iff_not]
  rintro ⟨h1, h2⟩
  by_cases hm : (47 : UInt8) ∈ p
  · obtain ⟨a, b, hp, hn⟩ := cut_first hm
    rw [hp, cut_head b hn] at h2
    have : Lib.hasPrefix p (libraryB ++ [47]) = true := by
      unfold Lib.hasPrefix
      rw [List.isPrefixOf_iff_prefix]
      exact ⟨b, by rw [hp, h2]; simp⟩
    rw [this] at h
    cases h
  · rw [cutL_one p 47 hm] at h1
    cases h1
set_option maxHeartbeats 1000000 in
theorem inLibrary_any (s : List UInt8) (w : World) :
    Calls Tryd.prog 28 #[.string (str s)] w fun e w' => e = .returned (.bool (libQ s)) ∧ Below w.heap.size w w' := by
  have CP : ∀ w, Calls Tryd.prog 26 #[.string (str s), .string ⟨#[108, 105, 98, 114, 97, 114, 121, 47]⟩] w fun e w' => e = .returned (.tuple #[.string (str (Lib.trimPrefix s (libraryB ++ [47]))), .bool (Lib.hasPrefix s (libraryB ++ [47]))]) ∧ w = w' := fun w =>
    (Tryd.strings_CutPrefix (str s) ⟨#[108, 105, 98, 114, 97, 114, 121, 47]⟩ w).mono fun e w' h => ⟨h.1, h.2.symm⟩
  have CC := fun w => contains_any (Lib.trimPrefix s (libraryB ++ [47])) 47 w
  cases h : Lib.hasPrefix s (libraryB ++ [47])
  · rw [h] at CP
    rw [lib_not h]
    clear h
    go_enter Tryd.func28, Tryd.ntmps28
    go_wp2_with (first
      | (go_at_call 26; ((with_reducible refine (CP _).mono ?_); rintro e w1 ⟨rfl, rfl⟩))
      | (go_at_call 41; ((with_reducible refine (CC _).mono ?_); rintro e w2 ⟨rfl, rfl⟩)))
    go_ret
    exact ⟨rfl, Below.refl _ _⟩
  · rw [(lib_pre h).2]
    rw [h] at CP
    clear h
    generalize decide ((47 : UInt8) ∈ Lib.trimPrefix s (libraryB ++ [47])) = z at *
    go_enter Tryd.func28, Tryd.ntmps28
    go_wp2_with (first
      | (go_at_call 26; ((with_reducible refine (CP _).mono ?_); rintro e w1 ⟨rfl, rfl⟩))
      | (go_at_call 41; ((with_reducible refine (CC _).mono ?_); rintro e w2 ⟨rfl, rfl⟩)))
    go_ret
    exact ⟨rfl, Below.refl _ _⟩
end Go.Proofs.YtldbfjcfobdkpaaDoor

/- Layer 5, for whoever stands on it: a digit, as the program has it. (Out of DigA.) -/
namespace Go.Proofs.YtldbfjcfobdkpaaDoor
open Go.RowKit

/-- What the program's digit is of a rune. -/
def valR (r : Nat) : Nat := if 48 ≤ r ∧ r ≤ 57 then r - 48 else if 97 ≤ r ∧ r ≤ 102 then r - 87 else 0
def isR (r : Nat) : Bool := decide (48 ≤ r ∧ r ≤ 57) || decide (97 ≤ r ∧ r ≤ 102)
theorem ret2 {a b : Int} {c d : Bool} (h : a = b) (h' : c = d) : Ending.returned (.tuple #[.int .u8 a, .bool c]) = .returned (.tuple #[.int .u8 b, .bool d]) := by rw [h, h']
set_option maxHeartbeats 400000 in
theorem valueOf_any (r : Nat) (w : World) (hr : r ≤ 2147483647) :
    Calls Tryd.prog 66 #[.int .i32 (r : Int)] w fun e w' => e = .returned (.tuple #[.int .u8 (valR r : Nat), .bool (isR r)]) ∧ w = w' := by
  by_cases h1 : 48 ≤ r ∧ r ≤ 57
  · have HV := Lib.hid (show ((valR r : Nat) : Int) = (r : Int) - 48 ∧ isR r = true by unfold valR isR; rw [if_pos h1, decide_eq_true h1]; exact ⟨by omega, rfl⟩)
    obtain ⟨a1, a2⟩ := h1
    have b1 : (48 : Int) ≤ r := by omega
    have b2 : (r : Int) ≤ 57 := by omega
    go_enter Tryd.func66, Tryd.ntmps66
    go_wp2
    go_ret2
    exact ⟨ret2 (by rw [HV.out.1]; try omega) HV.out.2.symm, rfl⟩
  · by_cases h2 : 97 ≤ r ∧ r ≤ 102
    · have HV := Lib.hid (show ((valR r : Nat) : Int) = (r : Int) - 97 + 10 ∧ isR r = true by unfold valR isR; rw [if_neg h1, if_pos h2, decide_eq_true h2]; exact ⟨by omega, by simp⟩)
      obtain ⟨a1, a2⟩ := h2
      have b1 : (97 : Int) ≤ r := by omega
      have b2 : (r : Int) ≤ 102 := by omega
      clear h1
      go_enter Tryd.func66, Tryd.ntmps66
      go_wp2
      go_ret2
      exact ⟨ret2 (by rw [HV.out.1]; try omega) HV.out.2.symm, rfl⟩
    · have HV := Lib.hid (show ((valR r : Nat) : Int) = 0 ∧ isR r = false by unfold valR isR; rw [if_neg h1, if_neg h2, decide_eq_false h1, decide_eq_false h2]; exact ⟨rfl, rfl⟩)
      have h3 : r < 48 ∨ (58 ≤ r ∧ r < 97) ∨ 103 ≤ r := by omega
      clear h1 h2
      rcases h3 with h3 | ⟨h3, h4⟩ | h3
      · have b1 : (r : Int) < 48 := by omega
        go_enter Tryd.func66, Tryd.ntmps66
        go_wp2
        go_ret2
        exact ⟨ret2 (by rw [HV.out.1]) HV.out.2.symm, rfl⟩
      · have b1 : (58 : Int) ≤ r := by omega
        have b2 : (r : Int) < 97 := by omega
        go_enter Tryd.func66, Tryd.ntmps66
        go_wp2
        go_ret2
        exact ⟨ret2 (by rw [HV.out.1]) HV.out.2.symm, rfl⟩
      · have b1 : (103 : Int) ≤ r := by omega
        go_enter Tryd.func66, Tryd.ntmps66
        go_wp2
        go_ret2
        exact ⟨ret2 (by rw [HV.out.1]) HV.out.2.symm, rfl⟩
end Go.Proofs.YtldbfjcfobdkpaaDoor

/- Layer 5, for whoever stands on it: a digest's text, as the program has it. (Out of DigD.) -/
namespace Go.Proofs.YtldbfjcfobdkpaaDoor
open Go.RowKit

theorem hexB_at (i : Nat) (h : i < 16) : ((⟨#[48, 49, 50, 51, 52, 53, 54, 55, 56, 57, 97, 98, 99, 100, 101, 102]⟩ : ByteArray)).data.toList.getD i 0 = hexB i := by
  have : ∀ i, i < 16 → ((⟨#[48, 49, 50, 51, 52, 53, 54, 55, 56, 57, 97, 98, 99, 100, 101, 102]⟩ : ByteArray)).data.toList.getD i 0 = hexB i := by decide
  exact this i h
theorem and15 (x : Nat) (h : x < 256) : bits BinOp.and IntKind.u8 (x : Int) 15 = ((x % 16 : Nat) : Int) := by
  have := u8_and_nat x 15 h (by decide)
  rw [show ((15 : Nat) : Int) = 15 from rfl] at this
  rw [this, show (15 : Nat) = 2 ^ 4 - 1 from rfl, Nat.and_two_pow_sub_one_eq_mod]
theorem hex_step (l : List UInt8) (k : Nat) (h : k < l.length) : (hexL (l.take k)).map byteV ++ [byteV (hexB ((l.getD k 0).toNat / 16)), byteV (hexB ((l.getD k 0).toNat % 16))] = (hexL (l.take (k + 1))).map byteV := by
  rw [take_snoc8 l k h, hexL_snoc, List.map_append]; rfl
theorem hex_length (l : List UInt8) (k : Nat) (h : k ≤ l.length) : (hexL (l.take k)).length = 2 * k := by
  rw [hexL_length, List.length_take, Nat.min_eq_left h]
set_option maxRecDepth 100000 in
set_option maxHeartbeats 1000000 in
theorem digitsOf_any (l : List UInt8) (w : World) (hl : l.length = 32) :
    Calls Tryd.prog 60 #[.agg (cells8 l)] w fun e w' => e = .returned (.string (str (hexL l))) ∧ Below w.heap.size w w' := by
  obtain ⟨i0, hi0, hz0, hz1, hz2⟩ := info_parts info_u8
  have hI : (Tryd.prog.info? 24).map (·.size) = some (cells8 l).size := by rw [cells8_size, hl]; kernel_rfl
  have HI := Lib.hid hI
  have HL := Lib.hid hl
  have IX := Lib.hid (fun k hk => idx_row l k hk hl)
  clear hl hI
  go_enter Tryd.func60, Tryd.ntmps60
  go_wp2_with (refine wpList_load_row rfl 24 _ rfl w.heap.size rfl 24 (cells8 l) (0, 0) _ (rowC_new w (cells8 l) 24) Tryd.underlying24 rfl HI.out ?_)
  go_loopw [3, 7] (fun v i wr => ∃ k : Nat, k ≤ 32 ∧ i = .int .i64 k ∧ wr.ownsRow w.heap.size 5 1 v (2 * k) ((hexL (l.take k)).map byteV) ∧ Below w.heap.size w wr) (fun _ i _ => 32 - (intOf i).toNat)
  case atStart => exact ⟨0, by omega, rfl, World.ownsRow_nil _ _ _ _, (Below.refl _ _).alloc (Nat.le_refl _) _⟩
  case round =>
    obtain ⟨k, hk, rfl, hown, hnx⟩ := hrel
    by_cases hlt : k < 32
    · have hst := Lib.hid (hex_step l k (by rw [HL.out]; exact hlt))
      have hlen := Lib.hid (hex_length l k (by rw [HL.out]; omega))
      have ix := IX.out k hlt
      have hsz := hnx.size
      obtain ⟨x, hx⟩ : ∃ x, x = (l.getD k 0).toNat := ⟨_, rfl⟩
      have hx2 : x < 256 := by rw [hx]; exact UInt8.toNat_lt _
      rw [← hx] at hst ix
      clear hx
      have a15 := and15 x hx2
      have j1 := idx_strK .u8 ⟨#[48, 49, 50, 51, 52, 53, 54, 55, 56, 57, 97, 98, 99, 100, 101, 102]⟩ (x / 16) ((x : Int) / 16) (by omega) (by show _ < 16; omega)
      have j2 := idx_strK .u8 ⟨#[48, 49, 50, 51, 52, 53, 54, 55, 56, 57, 97, 98, 99, 100, 101, 102]⟩ (x % 16) ((x : Int) % 16) (by omega) (by show _ < 16; omega)
      rw [hexB_at _ (by omega)] at j1 j2
      go_wp2
      have hns := fun (w' : World) => World.news_of_block (heap_alloc_new w' (.cells #[.int .u8 ((hexB (x / 16)).toNat : Int), .int .u8 ((hexB (x % 16)).toNat : Int)] 5))
      go_region_held3 (fun _ => True) (trivial) ((refine step_append_lies _ (by rfl) _ _ _ (by rfl) w.heap.size 5 i0 (.int .u8 0) 1 1 Tryd.underlying42 hi0 hz0 hz1 hz2 (by rfl) (by decide) _ (2 * k) _ (by rfl) (hown.drew.alloc _) _ 2 2 [.int .u8 ((hexB (x / 16)).toNat : Int), .int .u8 ((hexB (x % 16)).toNat : Int)] (by rfl) (by rfl) (hns _) (fun u hu => by simp at hu; rcases hu with rfl | rfl <;> rfl) (by decide) (by unfold maxLen; omega) (by omega) (by simp; omega) (wr.heap.size + 1) (by simp) ?_; intro g cap w1 hown1 hgrow hat hlt))
      all_goals
        have hown2 : w1.ownsRow w.heap.size 5 1 (.slice (some ⟨g, 0, none⟩) (2 * k + 2) cap) (2 * (k + 1)) ((hexL (l.take (k + 1))).map byteV) := by
          rw [← hst.out]; exact hown1
        have hnx2 : Below w.heap.size w w1 := (hnx.drew.alloc hsz _).grown hgrow (by simp; omega) (fun j hj => (hown.lt j hj).1)
        clear hown1 hgrow hown hnx hns hlt
        go_wp2
        go_roundw
        case rel => exact ⟨k + 1, by omega, by go_num, hown2, hnx2⟩
        case measure => simp [intOf]; omega
    · obtain rfl : k = 32 := by omega
      have hlen := hex_length l 32 (by rw [HL.out]; omega)
      obtain ⟨a, cap, rfl, hcv⟩ := conv_own hown hlen
      have HT := Lib.hid (show l.take 32 = l from List.take_of_length_le (by rw [HL.out]; omega))
      clear hown hlen
      go_wp2
      go_ret
      exact ⟨retStr (by rw [HT.out]), hnx⟩
theorem name_text (l : List UInt8) : (⟨#[115, 104, 97, 50, 53, 54, 58]⟩ : ByteArray) ++ str (hexL l) = str (textL l) := str_append nameL (hexL l)
set_option maxRecDepth 100000 in
set_option maxHeartbeats 1000000 in
theorem text_any (l : List UInt8) (w : World) (hl : l.length = 32) :
    Calls Tryd.prog 44 #[.agg (cells8 l)] w fun e w' => e = .returned (.string (str (textL l))) ∧ Below w.heap.size w w' := by
  have hI : (Tryd.prog.info? 24).map (·.size) = some (cells8 l).size := by rw [cells8_size, hl]; kernel_rfl
  have HI := Lib.hid hI
  have CD := fun w => digitsOf_any l w hl
  have HN := Lib.hid (name_text l)
  have sz : (str (hexL l)).size = 64 := by rw [str_size, hexL_length, hl]
  clear hl hI
  go_enter Tryd.func44, Tryd.ntmps44
  go_wp2_with (first
    | (refine wpList_load_row rfl 24 _ rfl w.heap.size rfl 24 (cells8 l) (0, 0) _ (rowC_new w (cells8 l) 24) Tryd.underlying24 rfl HI.out ?_)
    | (go_at_call 60; ((with_reducible refine (CD _).mono ?_); rintro e w1 ⟨rfl, hb⟩)))
  go_ret
  exact ⟨retStr HN.out, ((Below.refl _ _).alloc (Nat.le_refl _) _).trans (hb.mono (by simp))⟩
end Go.Proofs.YtldbfjcfobdkpaaDoor

/- Layer 12: the program's names: written, marked, such as may be. -/
namespace Go.Proofs.YtldbfjcfobdkpaaDoor
open Go.RowKit

theorem textW_eq (r : RR) : str (textR r) = (if r.tag = [] then (if r.pin = true then str r.dom ++ ⟨#[47]⟩ ++ str r.path ++ (⟨#[64]⟩ ++ str (textL r.dig)) else str r.dom ++ ⟨#[47]⟩ ++ str r.path)
    else (if r.pin = true then str r.dom ++ ⟨#[47]⟩ ++ str r.path ++ (⟨#[58]⟩ ++ str r.tag) ++ (⟨#[64]⟩ ++ str (textL r.dig)) else str r.dom ++ ⟨#[47]⟩ ++ str r.path ++ (⟨#[58]⟩ ++ str r.tag))) := by
  rw [show (⟨#[47]⟩ : ByteArray) = str [47] from rfl, show (⟨#[58]⟩ : ByteArray) = str [58] from rfl, show (⟨#[64]⟩ : ByteArray) = str [64] from rfl]
  unfold textR
  split <;> split <;> simp only [str_append, List.append_nil, List.append_assoc]
set_option maxRecDepth 100000 in
set_option maxHeartbeats 4000000 in
theorem written_any (r : RR) (w : World) (h : r.ok) :
    Calls Tryd.prog 23 #[.agg (refC r)] w fun e w' => e = .returned (.string (str (textR r))) ∧ Below w.heap.size w w' := by
  have r0 : refAt (w.alloc (.cells (refC r) 26)) w.heap.size r := rowC_new w _ _
  have al : Below w.heap.size w (w.alloc (.cells (refC r) 26)) := (Below.refl _ _).alloc (Nat.le_refl _) _
  obtain ⟨c0, c1, c2, c3⟩ := r0.cells h
  have HD := Lib.hid (r0.dig h)
  have CT := Lib.hid (show ∀ w : World, Calls Tryd.prog 44 #[.agg (r.dig.map byteV).toArray] w fun e w' => e = .returned (.string (str (textL r.dig))) ∧ Below w.heap.size w w' from fun w => text_any r.dig w h.dig)
  have HI := Lib.hid (info_digestL h.dig)
  have HB := Lib.hid al
  have HT := Lib.hid (textW_eq r)
  have hsz := refC_size h
  have z0 := str_size r.dom
  have z1 := str_size r.path
  have z2 := str_size r.tag
  have b0 := h.dom
  have b1 := h.path
  have b2 := h.tag
  have zt : (str (textL r.dig)).size = 71 := by rw [str_size, textL_length, h.dig]
  have he := eq_none r.tag
  have he2 := empty_lit r.tag
  obtain ⟨w1, hw1⟩ : ∃ w1, w.alloc (.cells (refC r) 26) = w1 := ⟨_, rfl⟩
  rw [hw1] at c0 c1 c2 c3 HD HB
  clear al r0 h
  by_cases ht : r.tag = []
  all_goals
    first | rw [decide_eq_true ht] at he he2 | rw [decide_eq_false ht] at he he2
    first | rw [if_pos ht] at HT | rw [if_neg ht] at HT
    clear ht
    cases hp : r.pin
    all_goals
      rw [hp] at c3 HT
      first | rw [if_pos rfl] at HT | rw [if_neg (by decide)] at HT
      clear hp
      generalize r.dom = D at *
      generalize r.path = P at *
      generalize r.tag = T at *
      go_enter Tryd.func23, Tryd.ntmps23
      go_wp2_with (first
        | ((with_reducible show wpList _ _ _ (⟨some 22, _, _, _, _, _⟩ :: _) _ _); refine wpList_load_mid rfl 24 (.tmp 21) rfl w.heap.size 3 rfl (r.dig.map byteV) _ HD.out Tryd.underlying24 rfl HI.out ?_)
        | (go_at_call 44; ((with_reducible refine (CT.out _).mono ?_); rintro e w2 ⟨rfl, b2'⟩); have B2 := Lib.hid (HB.out.trans (b2'.mono HB.out.size)); clear b2'))
      go_ret
      exact ⟨retStr HT.out.symm, by first | exact B2.out | exact HB.out⟩
/-- A domain that a name may have. -/
def domP (s : List UInt8) : Bool := standsB s && (!decide (s = indexB) && domainB s)
set_option maxHeartbeats 1000000 in
theorem mayBeDomain_any (s : List UInt8) (hl : s.length ≤ 1000000) (w : World) :
    Calls Tryd.prog 38 #[.string (str s)] w fun e w' => e = .returned (.bool (domP s)) ∧ Below w.heap.size w w' := by
  have CS := fun w => standsOut_any s hl w
  have CD := fun w => isDomain_any s hl w
  have e1 := eq_index s
  have HV := Lib.hid (show domP s = (standsB s && (!decide (s = indexB) && domainB s)) from rfl)
  generalize domP s = V at *
  generalize standsB s = p at *
  generalize domainB s = q at *
  by_cases hi : s = indexB
  · rw [decide_eq_true hi] at e1 HV
    clear hi
    cases p <;> (
      go_enter Tryd.func38, Tryd.ntmps38
      go_wp2_with (first
        | (go_at_call 47; ((with_reducible refine (CS _).mono ?_); rintro e w1 ⟨rfl, b1⟩))
        | (go_at_call 54; ((with_reducible refine (CD _).mono ?_); rintro e w2 ⟨rfl, b2⟩)))
      go_ret
      exact ⟨retB HV.out.symm, b1⟩)
  · rw [decide_eq_false hi] at e1 HV
    clear hi
    cases p <;> (
      go_enter Tryd.func38, Tryd.ntmps38
      go_wp2_with (first
        | (go_at_call 47; ((with_reducible refine (CS _).mono ?_); rintro e w1 ⟨rfl, b1⟩))
        | (go_at_call 54; ((with_reducible refine (CD _).mono ?_); rintro e w2 ⟨rfl, b2⟩)))
      go_ret
      first
        | exact ⟨retB HV.out.symm, b1.trans (b2.mono b1.size)⟩
        | exact ⟨retB HV.out.symm, b1⟩)
/-- A tag and a digest that a name may have. -/
def markP (r : RR) : Bool := if r.pin = true then decide (r.tag = []) || tagP r.tag else tagP r.tag && decide (r.dig = zero32)
set_option maxRecDepth 100000 in
set_option maxHeartbeats 4000000 in
theorem mayBeMarked_any (r : RR) (w : World) (h : r.ok) :
    Calls Tryd.prog 40 #[.agg (refC r)] w fun e w' => e = .returned (.bool (markP r)) ∧ Below w.heap.size w w' := by
  have r0 : refAt (w.alloc (.cells (refC r) 26)) w.heap.size r := rowC_new w _ _
  have al : Below w.heap.size w (w.alloc (.cells (refC r) 26)) := (Below.refl _ _).alloc (Nat.le_refl _) _
  obtain ⟨c0, c1, c2, c3⟩ := r0.cells h
  have b0 := h.dom
  have b1 := h.path
  have b2 := h.tag
  have HO := Lib.hid h
  have HI := Lib.hid (info_digestL h.dig)
  have HIR := Lib.hid (info_ref h)
  have CG := fun w => isTag_any r.tag (by omega) w
  have q : ∀ w, (Op.equalIn 10000 24 (.agg (r.dig.map byteV).toArray) (.agg (cells8 zero32))).run Tryd.prog w = .ok (decide (r.dig = zero32)) w := fun w => eq_digest w 9998 (l := r.dig) (m := zero32) h.dig rfl
  have gd := guard_digest
  have he := eq_none r.tag
  have he2 := empty_lit r.tag
  have HV := Lib.hid (show markP r = if r.pin = true then decide (r.tag = []) || tagP r.tag else tagP r.tag && decide (r.dig = zero32) from rfl)
  obtain ⟨w1, hw1⟩ : ∃ w1, w.alloc (.cells (refC r) 26) = w1 := ⟨_, rfl⟩
  rw [hw1] at c0 c1 c2 c3 r0 al
  have HB := Lib.hid al
  have HR := Lib.hid r0
  clear al r0 h
  generalize markP r = V at *
  generalize tagP r.tag = t at *
  generalize decide (r.dig = zero32) = z at *
  generalize decide (r.tag = []) = n at *
  cases hp : r.pin
  · rw [hp] at c3 HV
    rw [if_neg (by decide)] at HV
    cases t <;> (
      go_enter Tryd.func40, Tryd.ntmps40
      go_wp2_with (first
        | (go_at_call 57; ((with_reducible refine (CG _).mono ?_); rintro e wn ⟨rfl, bn⟩); replace HB := Lib.hid (HB.out.trans (bn.mono HB.out.size)); replace HR := Lib.hid (HR.out.below bn); clear c0 c1 c2 c3; obtain ⟨c0, c1, c2, c3⟩ := HR.out.cells HO.out; clear bn)
        | ((with_reducible show wpList _ _ _ (⟨some 11, _, _, _, _, _⟩ :: _) _ _); refine wpList_load_midG rfl 24 (.tmp 10) rfl w.heap.size 3 rfl (r.dig.map byteV) _ (HR.out.dig HO.out) Tryd.underlying24 rfl HI.out ?_)
        | ((with_reducible show wpList _ _ _ (⟨some 12, _, _, _, _, _⟩ :: _) _ _); refine wpList_build_asG (o := ⟨some 12, _, _, _, _, _⟩) rfl 24 _ rfl (cells8 zero32) ?_ ?_; kernel_rfl))
      go_ret
      exact ⟨retB HV.out.symm, HB.out⟩)
  · rw [hp] at c3 HV
    rw [if_pos rfl] at HV
    cases n <;> (
      go_enter Tryd.func40, Tryd.ntmps40
      go_wp2_with (first
        | (go_at_call 57; ((with_reducible refine (CG _).mono ?_); rintro e wn ⟨rfl, bn⟩); replace HB := Lib.hid (HB.out.trans (bn.mono HB.out.size)); replace HR := Lib.hid (HR.out.below bn); clear c0 c1 c2 c3; obtain ⟨c0, c1, c2, c3⟩ := HR.out.cells HO.out; clear bn)
        | ((with_reducible show wpList _ _ _ (⟨some 11, _, _, _, _, _⟩ :: _) _ _); refine wpList_load_midG rfl 24 (.tmp 10) rfl w.heap.size 3 rfl (r.dig.map byteV) _ (HR.out.dig HO.out) Tryd.underlying24 rfl HI.out ?_)
        | ((with_reducible show wpList _ _ _ (⟨some 12, _, _, _, _, _⟩ :: _) _ _); refine wpList_build_asG (o := ⟨some 12, _, _, _, _, _⟩) rfl 24 _ rfl (cells8 zero32) ?_ ?_; kernel_rfl))
      go_ret
      exact ⟨retB HV.out.symm, HB.out⟩)
end Go.Proofs.YtldbfjcfobdkpaaDoor

/- Layer 12: whether a name may be, as the program tells it; Check, Text. -/
namespace Go.Proofs.YtldbfjcfobdkpaaDoor
open Go.RowKit

def hubP (r : RR) : Bool := !decide (r.dom = hubB) || decide ((47 : UInt8) ∈ r.path)
theorem mark_eq (r : RR) : markP r = ((if r.tag = [] then r.pin else tagOk r.tag) && (r.pin || decide (r.dig = zero32))) := by
  unfold markP tagP
  by_cases h : r.tag = []
  · rw [if_pos h, decide_eq_true h]
    cases r.pin <;> simp
  · rw [if_neg h, decide_eq_false h]
    cases r.pin <;> simp
theorem may_eq (r : RR) : mayR r = (domP r.dom && (pathB r.path && (markP r && (hubP r && decide ((textR r).length ≤ 200))))) := by
  have HM : mayR r = ((domainB r.dom && (!decide (frontR (r.dom ++ [47]) = []) && (!decide (r.dom = indexB) && (pathB r.path && !(decide (r.dom = hubB) && decide ((cutL r.path 47).length < 2)))))) && ((if r.tag = [] then r.pin else tagOk r.tag) && ((r.pin || decide (r.dig = zero32)) && decide ((textR r).length ≤ 200)))) := rfl
  rw [HM, mark_eq]
  unfold domP hubP
  have h2 : decide ((cutL r.path 47).length < 2) = !decide ((47 : UInt8) ∈ r.path) := by
    rw [← cut_len]
    by_cases e : (cutL r.path 47).length < 2
    · rw [decide_eq_true e, decide_eq_false (by omega)]; rfl
    · rw [decide_eq_false e, decide_eq_true (by omega)]; rfl
  rw [h2]
  cases hd : domainB r.dom
  · simp
  · have hn : (47 : UInt8) ∉ r.dom := domain_not hd (by decide) (by decide) (by decide) (by decide)
    have hf : (!decide (frontR (r.dom ++ [47]) = [])) = standsB r.dom := by
      cases hs : standsB r.dom
      · rw [front_not [] hn hs]; rfl
      · rw [front_yes [] hn hs, decide_eq_false (stands_ne hs)]; rfl
    rw [hf]
    cases standsB r.dom <;> cases (!decide (r.dom = indexB)) <;> cases pathB r.path <;> cases decide (r.dom = hubB) <;> cases decide ((47 : UInt8) ∈ r.path) <;> cases (if r.tag = [] then r.pin else tagOk r.tag) <;> cases (r.pin || decide (r.dig = zero32)) <;> rfl
set_option maxRecDepth 100000 in
set_option maxHeartbeats 16000000 in
theorem mayBe_any (r : RR) (w : World) (h : r.ok) :
    Calls Tryd.prog 19 #[.agg (refC r)] w fun e w' => e = .returned (.bool (mayR r)) ∧ Below w.heap.size w w' := by
  have r0 : refAt (w.alloc (.cells (refC r) 26)) w.heap.size r := rowC_new w _ _
  have al : Below w.heap.size w (w.alloc (.cells (refC r) 26)) := (Below.refl _ _).alloc (Nat.le_refl _) _
  obtain ⟨c0, c1, c2, c3⟩ := r0.cells h
  have b0 := h.dom
  have b1 := h.path
  have b2 := h.tag
  have HO := Lib.hid h
  have HI := Lib.hid (info_digestL h.dig)
  have HIR := Lib.hid (info_ref h)
  have CD := fun w => mayBeDomain_any r.dom (by omega) w
  have CP := fun w => isPath_any r.path (by omega) w
  have CM := fun w => mayBeMarked_any r w h
  have CC : ∀ w, Calls Tryd.prog 41 #[.string (str r.path), .string ⟨#[47]⟩] w fun e w' => e = .returned (.bool (decide ((47 : UInt8) ∈ r.path))) ∧ Below w.heap.size w w' := fun w => (contains_any r.path 47 w).mono fun e w' ⟨h1, h2⟩ => ⟨h1, h2 ▸ Below.refl _ _⟩
  have CW := fun w => written_any r w h
  have z3 := str_size (textR r)
  have hte := textR_le h
  have f2 := eq_hub r.dom
  have HV := Lib.hid (may_eq r)
  have HH := Lib.hid (show hubP r = (!decide (r.dom = hubB) || decide ((47 : UInt8) ∈ r.path)) from rfl)
  rw [HH.out] at HV
  have HL := Lib.hid (le_dec (textR r).length 200 200 rfl)
  rw [← HL.out] at HV
  clear HH HL
  obtain ⟨w1, hw1⟩ : ∃ w1, w.alloc (.cells (refC r) 26) = w1 := ⟨_, rfl⟩
  rw [hw1] at c0 c1 c2 c3 r0 al
  have HB := Lib.hid al
  have HR := Lib.hid r0
  clear al r0 h
  generalize mayR r = V at *
  generalize domP r.dom = d1 at *
  generalize pathB r.path = d2 at *
  generalize markP r = d3 at *
  generalize decide ((47 : UInt8) ∈ r.path) = d5 at *
  generalize decide (r.dom = hubB) = d4 at *
  cases d1
  · go_enter Tryd.func19, Tryd.ntmps19
    go_wp2_with (first
        | (go_at_call 38; ((with_reducible refine (CD _).mono ?_); rintro e wn ⟨rfl, bn⟩); replace HB := Lib.hid (HB.out.trans (bn.mono HB.out.size)); replace HR := Lib.hid (HR.out.below bn); clear c0 c1 c2 c3; obtain ⟨c0, c1, c2, c3⟩ := HR.out.cells HO.out; clear bn)
        | (go_at_call 39; ((with_reducible refine (CP _).mono ?_); rintro e wn ⟨rfl, bn⟩); replace HB := Lib.hid (HB.out.trans (bn.mono HB.out.size)); replace HR := Lib.hid (HR.out.below bn); clear c0 c1 c2 c3; obtain ⟨c0, c1, c2, c3⟩ := HR.out.cells HO.out; clear bn)
        | (go_at_call 40; ((with_reducible refine (CM _).mono ?_); rintro e wn ⟨rfl, bn⟩); replace HB := Lib.hid (HB.out.trans (bn.mono HB.out.size)); replace HR := Lib.hid (HR.out.below bn); clear c0 c1 c2 c3; obtain ⟨c0, c1, c2, c3⟩ := HR.out.cells HO.out; clear bn)
        | (go_at_call 41; ((with_reducible refine (CC _).mono ?_); rintro e wn ⟨rfl, bn⟩); replace HB := Lib.hid (HB.out.trans (bn.mono HB.out.size)); replace HR := Lib.hid (HR.out.below bn); clear c0 c1 c2 c3; obtain ⟨c0, c1, c2, c3⟩ := HR.out.cells HO.out; clear bn)
        | (go_at_call 23; ((with_reducible refine (CW _).mono ?_); rintro e wn ⟨rfl, bn⟩); replace HB := Lib.hid (HB.out.trans (bn.mono HB.out.size)); replace HR := Lib.hid (HR.out.below bn); clear c0 c1 c2 c3; obtain ⟨c0, c1, c2, c3⟩ := HR.out.cells HO.out; clear bn)
        | ((with_reducible show wpList _ _ _ (⟨some 12, _, _, _, _, _⟩ :: _) _ _); refine wpList_load_rowG rfl 26 (.tmp 1) rfl w.heap.size rfl 26 (refC r) _ HR.out Tryd.underlying26 rfl HIR.out ?_)
        | ((with_reducible show wpList _ _ _ (⟨some 26, _, _, _, _, _⟩ :: _) _ _); refine wpList_load_rowG rfl 26 (.tmp 1) rfl w.heap.size rfl 26 (refC r) _ HR.out Tryd.underlying26 rfl HIR.out ?_))
    go_ret
    exact ⟨retB HV.out.symm, HB.out⟩
  cases d2
  · go_enter Tryd.func19, Tryd.ntmps19
    go_wp2_with (first
        | (go_at_call 38; ((with_reducible refine (CD _).mono ?_); rintro e wn ⟨rfl, bn⟩); replace HB := Lib.hid (HB.out.trans (bn.mono HB.out.size)); replace HR := Lib.hid (HR.out.below bn); clear c0 c1 c2 c3; obtain ⟨c0, c1, c2, c3⟩ := HR.out.cells HO.out; clear bn)
        | (go_at_call 39; ((with_reducible refine (CP _).mono ?_); rintro e wn ⟨rfl, bn⟩); replace HB := Lib.hid (HB.out.trans (bn.mono HB.out.size)); replace HR := Lib.hid (HR.out.below bn); clear c0 c1 c2 c3; obtain ⟨c0, c1, c2, c3⟩ := HR.out.cells HO.out; clear bn)
        | (go_at_call 40; ((with_reducible refine (CM _).mono ?_); rintro e wn ⟨rfl, bn⟩); replace HB := Lib.hid (HB.out.trans (bn.mono HB.out.size)); replace HR := Lib.hid (HR.out.below bn); clear c0 c1 c2 c3; obtain ⟨c0, c1, c2, c3⟩ := HR.out.cells HO.out; clear bn)
        | (go_at_call 41; ((with_reducible refine (CC _).mono ?_); rintro e wn ⟨rfl, bn⟩); replace HB := Lib.hid (HB.out.trans (bn.mono HB.out.size)); replace HR := Lib.hid (HR.out.below bn); clear c0 c1 c2 c3; obtain ⟨c0, c1, c2, c3⟩ := HR.out.cells HO.out; clear bn)
        | (go_at_call 23; ((with_reducible refine (CW _).mono ?_); rintro e wn ⟨rfl, bn⟩); replace HB := Lib.hid (HB.out.trans (bn.mono HB.out.size)); replace HR := Lib.hid (HR.out.below bn); clear c0 c1 c2 c3; obtain ⟨c0, c1, c2, c3⟩ := HR.out.cells HO.out; clear bn)
        | ((with_reducible show wpList _ _ _ (⟨some 12, _, _, _, _, _⟩ :: _) _ _); refine wpList_load_rowG rfl 26 (.tmp 1) rfl w.heap.size rfl 26 (refC r) _ HR.out Tryd.underlying26 rfl HIR.out ?_)
        | ((with_reducible show wpList _ _ _ (⟨some 26, _, _, _, _, _⟩ :: _) _ _); refine wpList_load_rowG rfl 26 (.tmp 1) rfl w.heap.size rfl 26 (refC r) _ HR.out Tryd.underlying26 rfl HIR.out ?_))
    go_ret
    exact ⟨retB HV.out.symm, HB.out⟩
  cases d3
  · go_enter Tryd.func19, Tryd.ntmps19
    go_wp2_with (first
        | (go_at_call 38; ((with_reducible refine (CD _).mono ?_); rintro e wn ⟨rfl, bn⟩); replace HB := Lib.hid (HB.out.trans (bn.mono HB.out.size)); replace HR := Lib.hid (HR.out.below bn); clear c0 c1 c2 c3; obtain ⟨c0, c1, c2, c3⟩ := HR.out.cells HO.out; clear bn)
        | (go_at_call 39; ((with_reducible refine (CP _).mono ?_); rintro e wn ⟨rfl, bn⟩); replace HB := Lib.hid (HB.out.trans (bn.mono HB.out.size)); replace HR := Lib.hid (HR.out.below bn); clear c0 c1 c2 c3; obtain ⟨c0, c1, c2, c3⟩ := HR.out.cells HO.out; clear bn)
        | (go_at_call 40; ((with_reducible refine (CM _).mono ?_); rintro e wn ⟨rfl, bn⟩); replace HB := Lib.hid (HB.out.trans (bn.mono HB.out.size)); replace HR := Lib.hid (HR.out.below bn); clear c0 c1 c2 c3; obtain ⟨c0, c1, c2, c3⟩ := HR.out.cells HO.out; clear bn)
        | (go_at_call 41; ((with_reducible refine (CC _).mono ?_); rintro e wn ⟨rfl, bn⟩); replace HB := Lib.hid (HB.out.trans (bn.mono HB.out.size)); replace HR := Lib.hid (HR.out.below bn); clear c0 c1 c2 c3; obtain ⟨c0, c1, c2, c3⟩ := HR.out.cells HO.out; clear bn)
        | (go_at_call 23; ((with_reducible refine (CW _).mono ?_); rintro e wn ⟨rfl, bn⟩); replace HB := Lib.hid (HB.out.trans (bn.mono HB.out.size)); replace HR := Lib.hid (HR.out.below bn); clear c0 c1 c2 c3; obtain ⟨c0, c1, c2, c3⟩ := HR.out.cells HO.out; clear bn)
        | ((with_reducible show wpList _ _ _ (⟨some 12, _, _, _, _, _⟩ :: _) _ _); refine wpList_load_rowG rfl 26 (.tmp 1) rfl w.heap.size rfl 26 (refC r) _ HR.out Tryd.underlying26 rfl HIR.out ?_)
        | ((with_reducible show wpList _ _ _ (⟨some 26, _, _, _, _, _⟩ :: _) _ _); refine wpList_load_rowG rfl 26 (.tmp 1) rfl w.heap.size rfl 26 (refC r) _ HR.out Tryd.underlying26 rfl HIR.out ?_))
    go_ret
    exact ⟨retB HV.out.symm, HB.out⟩
  cases d4
  · go_enter Tryd.func19, Tryd.ntmps19
    go_wp2_with (first
        | (go_at_call 38; ((with_reducible refine (CD _).mono ?_); rintro e wn ⟨rfl, bn⟩); replace HB := Lib.hid (HB.out.trans (bn.mono HB.out.size)); replace HR := Lib.hid (HR.out.below bn); clear c0 c1 c2 c3; obtain ⟨c0, c1, c2, c3⟩ := HR.out.cells HO.out; clear bn)
        | (go_at_call 39; ((with_reducible refine (CP _).mono ?_); rintro e wn ⟨rfl, bn⟩); replace HB := Lib.hid (HB.out.trans (bn.mono HB.out.size)); replace HR := Lib.hid (HR.out.below bn); clear c0 c1 c2 c3; obtain ⟨c0, c1, c2, c3⟩ := HR.out.cells HO.out; clear bn)
        | (go_at_call 40; ((with_reducible refine (CM _).mono ?_); rintro e wn ⟨rfl, bn⟩); replace HB := Lib.hid (HB.out.trans (bn.mono HB.out.size)); replace HR := Lib.hid (HR.out.below bn); clear c0 c1 c2 c3; obtain ⟨c0, c1, c2, c3⟩ := HR.out.cells HO.out; clear bn)
        | (go_at_call 41; ((with_reducible refine (CC _).mono ?_); rintro e wn ⟨rfl, bn⟩); replace HB := Lib.hid (HB.out.trans (bn.mono HB.out.size)); replace HR := Lib.hid (HR.out.below bn); clear c0 c1 c2 c3; obtain ⟨c0, c1, c2, c3⟩ := HR.out.cells HO.out; clear bn)
        | (go_at_call 23; ((with_reducible refine (CW _).mono ?_); rintro e wn ⟨rfl, bn⟩); replace HB := Lib.hid (HB.out.trans (bn.mono HB.out.size)); replace HR := Lib.hid (HR.out.below bn); clear c0 c1 c2 c3; obtain ⟨c0, c1, c2, c3⟩ := HR.out.cells HO.out; clear bn)
        | ((with_reducible show wpList _ _ _ (⟨some 12, _, _, _, _, _⟩ :: _) _ _); refine wpList_load_rowG rfl 26 (.tmp 1) rfl w.heap.size rfl 26 (refC r) _ HR.out Tryd.underlying26 rfl HIR.out ?_)
        | ((with_reducible show wpList _ _ _ (⟨some 26, _, _, _, _, _⟩ :: _) _ _); refine wpList_load_rowG rfl 26 (.tmp 1) rfl w.heap.size rfl 26 (refC r) _ HR.out Tryd.underlying26 rfl HIR.out ?_))
    go_ret
    exact ⟨retB HV.out.symm, HB.out⟩
  cases d5
  · go_enter Tryd.func19, Tryd.ntmps19
    go_wp2_with (first
        | (go_at_call 38; ((with_reducible refine (CD _).mono ?_); rintro e wn ⟨rfl, bn⟩); replace HB := Lib.hid (HB.out.trans (bn.mono HB.out.size)); replace HR := Lib.hid (HR.out.below bn); clear c0 c1 c2 c3; obtain ⟨c0, c1, c2, c3⟩ := HR.out.cells HO.out; clear bn)
        | (go_at_call 39; ((with_reducible refine (CP _).mono ?_); rintro e wn ⟨rfl, bn⟩); replace HB := Lib.hid (HB.out.trans (bn.mono HB.out.size)); replace HR := Lib.hid (HR.out.below bn); clear c0 c1 c2 c3; obtain ⟨c0, c1, c2, c3⟩ := HR.out.cells HO.out; clear bn)
        | (go_at_call 40; ((with_reducible refine (CM _).mono ?_); rintro e wn ⟨rfl, bn⟩); replace HB := Lib.hid (HB.out.trans (bn.mono HB.out.size)); replace HR := Lib.hid (HR.out.below bn); clear c0 c1 c2 c3; obtain ⟨c0, c1, c2, c3⟩ := HR.out.cells HO.out; clear bn)
        | (go_at_call 41; ((with_reducible refine (CC _).mono ?_); rintro e wn ⟨rfl, bn⟩); replace HB := Lib.hid (HB.out.trans (bn.mono HB.out.size)); replace HR := Lib.hid (HR.out.below bn); clear c0 c1 c2 c3; obtain ⟨c0, c1, c2, c3⟩ := HR.out.cells HO.out; clear bn)
        | (go_at_call 23; ((with_reducible refine (CW _).mono ?_); rintro e wn ⟨rfl, bn⟩); replace HB := Lib.hid (HB.out.trans (bn.mono HB.out.size)); replace HR := Lib.hid (HR.out.below bn); clear c0 c1 c2 c3; obtain ⟨c0, c1, c2, c3⟩ := HR.out.cells HO.out; clear bn)
        | ((with_reducible show wpList _ _ _ (⟨some 12, _, _, _, _, _⟩ :: _) _ _); refine wpList_load_rowG rfl 26 (.tmp 1) rfl w.heap.size rfl 26 (refC r) _ HR.out Tryd.underlying26 rfl HIR.out ?_)
        | ((with_reducible show wpList _ _ _ (⟨some 26, _, _, _, _, _⟩ :: _) _ _); refine wpList_load_rowG rfl 26 (.tmp 1) rfl w.heap.size rfl 26 (refC r) _ HR.out Tryd.underlying26 rfl HIR.out ?_))
    go_ret
    exact ⟨retB HV.out.symm, HB.out⟩
  · go_enter Tryd.func19, Tryd.ntmps19
    go_wp2_with (first
        | (go_at_call 38; ((with_reducible refine (CD _).mono ?_); rintro e wn ⟨rfl, bn⟩); replace HB := Lib.hid (HB.out.trans (bn.mono HB.out.size)); replace HR := Lib.hid (HR.out.below bn); clear c0 c1 c2 c3; obtain ⟨c0, c1, c2, c3⟩ := HR.out.cells HO.out; clear bn)
        | (go_at_call 39; ((with_reducible refine (CP _).mono ?_); rintro e wn ⟨rfl, bn⟩); replace HB := Lib.hid (HB.out.trans (bn.mono HB.out.size)); replace HR := Lib.hid (HR.out.below bn); clear c0 c1 c2 c3; obtain ⟨c0, c1, c2, c3⟩ := HR.out.cells HO.out; clear bn)
        | (go_at_call 40; ((with_reducible refine (CM _).mono ?_); rintro e wn ⟨rfl, bn⟩); replace HB := Lib.hid (HB.out.trans (bn.mono HB.out.size)); replace HR := Lib.hid (HR.out.below bn); clear c0 c1 c2 c3; obtain ⟨c0, c1, c2, c3⟩ := HR.out.cells HO.out; clear bn)
        | (go_at_call 41; ((with_reducible refine (CC _).mono ?_); rintro e wn ⟨rfl, bn⟩); replace HB := Lib.hid (HB.out.trans (bn.mono HB.out.size)); replace HR := Lib.hid (HR.out.below bn); clear c0 c1 c2 c3; obtain ⟨c0, c1, c2, c3⟩ := HR.out.cells HO.out; clear bn)
        | (go_at_call 23; ((with_reducible refine (CW _).mono ?_); rintro e wn ⟨rfl, bn⟩); replace HB := Lib.hid (HB.out.trans (bn.mono HB.out.size)); replace HR := Lib.hid (HR.out.below bn); clear c0 c1 c2 c3; obtain ⟨c0, c1, c2, c3⟩ := HR.out.cells HO.out; clear bn)
        | ((with_reducible show wpList _ _ _ (⟨some 12, _, _, _, _, _⟩ :: _) _ _); refine wpList_load_rowG rfl 26 (.tmp 1) rfl w.heap.size rfl 26 (refC r) _ HR.out Tryd.underlying26 rfl HIR.out ?_)
        | ((with_reducible show wpList _ _ _ (⟨some 26, _, _, _, _, _⟩ :: _) _ _); refine wpList_load_rowG rfl 26 (.tmp 1) rfl w.heap.size rfl 26 (refC r) _ HR.out Tryd.underlying26 rfl HIR.out ?_))
    go_ret
    exact ⟨retB HV.out.symm, HB.out⟩
set_option maxRecDepth 100000 in
set_option maxHeartbeats 4000000 in
theorem check_any (r : RR) (w : World) (h : r.ok) :
    Calls Tryd.prog 15 #[.agg (refC r)] w fun e w' => e = .returned (.int .i64 (checkR r)) ∧ Below w.heap.size w w' := by
  have r0 : refAt (w.alloc (.cells (refC r) 26)) w.heap.size r := rowC_new w _ _
  have al : Below w.heap.size w (w.alloc (.cells (refC r) 26)) := (Below.refl _ _).alloc (Nat.le_refl _) _
  obtain ⟨c0, c1, c2, c3⟩ := r0.cells h
  have b0 := h.dom
  have b1 := h.path
  have b2 := h.tag
  have HO := Lib.hid h
  have HI := Lib.hid (info_digestL h.dig)
  have HIR := Lib.hid (info_ref h)
  have CM := fun w => mayBe_any r w h
  obtain ⟨w1, hw1⟩ : ∃ w1, w.alloc (.cells (refC r) 26) = w1 := ⟨_, rfl⟩
  rw [hw1] at c0 c1 c2 c3 r0 al
  have HB := Lib.hid al
  have HR := Lib.hid r0
  clear al r0 h
  cases hm : mayR r
  · rw [check_no hm]
    rw [hm] at CM
    clear hm
    go_enter Tryd.func15, Tryd.ntmps15
    go_wp2_with (first
        | ((with_reducible show wpList _ _ _ (⟨some 3, _, _, _, _, _⟩ :: _) _ _); refine wpList_load_rowG rfl 26 (.tmp 1) rfl w.heap.size rfl 26 (refC r) _ HR.out Tryd.underlying26 rfl HIR.out ?_)
        | (go_at_call 19; ((with_reducible refine (CM _).mono ?_); rintro e wn ⟨rfl, bn⟩); replace HB := Lib.hid (HB.out.trans (bn.mono HB.out.size)); replace HR := Lib.hid (HR.out.below bn); clear c0 c1 c2 c3; obtain ⟨c0, c1, c2, c3⟩ := HR.out.cells HO.out; clear bn))
    go_ret
    exact ⟨rfl, HB.out⟩
  · rw [check_yes hm]
    rw [hm] at CM
    clear hm
    go_enter Tryd.func15, Tryd.ntmps15
    go_wp2_with (first
        | ((with_reducible show wpList _ _ _ (⟨some 3, _, _, _, _, _⟩ :: _) _ _); refine wpList_load_rowG rfl 26 (.tmp 1) rfl w.heap.size rfl 26 (refC r) _ HR.out Tryd.underlying26 rfl HIR.out ?_)
        | (go_at_call 19; ((with_reducible refine (CM _).mono ?_); rintro e wn ⟨rfl, bn⟩); replace HB := Lib.hid (HB.out.trans (bn.mono HB.out.size)); replace HR := Lib.hid (HR.out.below bn); clear c0 c1 c2 c3; obtain ⟨c0, c1, c2, c3⟩ := HR.out.cells HO.out; clear bn))
    go_ret
    exact ⟨rfl, HB.out⟩
set_option maxRecDepth 100000 in
set_option maxHeartbeats 4000000 in
theorem show_any (r : RR) (w : World) (h : r.ok) :
    Calls Tryd.prog 11 #[.agg (refC r)] w fun e w' => e = .returned (.string (str (showR r))) ∧ Below w.heap.size w w' := by
  have r0 : refAt (w.alloc (.cells (refC r) 26)) w.heap.size r := rowC_new w _ _
  have al : Below w.heap.size w (w.alloc (.cells (refC r) 26)) := (Below.refl _ _).alloc (Nat.le_refl _) _
  obtain ⟨c0, c1, c2, c3⟩ := r0.cells h
  have b0 := h.dom
  have b1 := h.path
  have b2 := h.tag
  have HO := Lib.hid h
  have HI := Lib.hid (info_digestL h.dig)
  have HIR := Lib.hid (info_ref h)
  have CM := fun w => mayBe_any r w h
  have CW := fun w => written_any r w h
  obtain ⟨w1, hw1⟩ : ∃ w1, w.alloc (.cells (refC r) 26) = w1 := ⟨_, rfl⟩
  rw [hw1] at c0 c1 c2 c3 r0 al
  have HB := Lib.hid al
  have HR := Lib.hid r0
  clear al r0 h
  cases hm : mayR r
  · rw [(show_no hm).1]
    rw [hm] at CM
    clear hm
    go_enter Tryd.func11, Tryd.ntmps11
    go_wp2_with (first
        | ((with_reducible show wpList _ _ _ (⟨some 3, _, _, _, _, _⟩ :: _) _ _); refine wpList_load_rowG rfl 26 (.tmp 1) rfl w.heap.size rfl 26 (refC r) _ HR.out Tryd.underlying26 rfl HIR.out ?_)
        | ((with_reducible show wpList _ _ _ (⟨some 6, _, _, _, _, _⟩ :: _) _ _); refine wpList_load_rowG rfl 26 (.tmp 1) rfl w.heap.size rfl 26 (refC r) _ HR.out Tryd.underlying26 rfl HIR.out ?_)
        | (go_at_call 19; ((with_reducible refine (CM _).mono ?_); rintro e wn ⟨rfl, bn⟩); replace HB := Lib.hid (HB.out.trans (bn.mono HB.out.size)); replace HR := Lib.hid (HR.out.below bn); clear c0 c1 c2 c3; obtain ⟨c0, c1, c2, c3⟩ := HR.out.cells HO.out; clear bn)
        | (go_at_call 23; ((with_reducible refine (CW _).mono ?_); rintro e wn ⟨rfl, bn⟩); replace HB := Lib.hid (HB.out.trans (bn.mono HB.out.size)); replace HR := Lib.hid (HR.out.below bn); clear c0 c1 c2 c3; obtain ⟨c0, c1, c2, c3⟩ := HR.out.cells HO.out; clear bn))
    go_ret
    exact ⟨rfl, HB.out⟩
  · rw [show_yes hm]
    rw [hm] at CM
    clear hm
    go_enter Tryd.func11, Tryd.ntmps11
    go_wp2_with (first
        | ((with_reducible show wpList _ _ _ (⟨some 3, _, _, _, _, _⟩ :: _) _ _); refine wpList_load_rowG rfl 26 (.tmp 1) rfl w.heap.size rfl 26 (refC r) _ HR.out Tryd.underlying26 rfl HIR.out ?_)
        | ((with_reducible show wpList _ _ _ (⟨some 6, _, _, _, _, _⟩ :: _) _ _); refine wpList_load_rowG rfl 26 (.tmp 1) rfl w.heap.size rfl 26 (refC r) _ HR.out Tryd.underlying26 rfl HIR.out ?_)
        | (go_at_call 19; ((with_reducible refine (CM _).mono ?_); rintro e wn ⟨rfl, bn⟩); replace HB := Lib.hid (HB.out.trans (bn.mono HB.out.size)); replace HR := Lib.hid (HR.out.below bn); clear c0 c1 c2 c3; obtain ⟨c0, c1, c2, c3⟩ := HR.out.cells HO.out; clear bn)
        | (go_at_call 23; ((with_reducible refine (CW _).mono ?_); rintro e wn ⟨rfl, bn⟩); replace HB := Lib.hid (HB.out.trans (bn.mono HB.out.size)); replace HR := Lib.hid (HR.out.below bn); clear c0 c1 c2 c3; obtain ⟨c0, c1, c2, c3⟩ := HR.out.cells HO.out; clear bn))
    go_ret
    exact ⟨rfl, HB.out⟩
end Go.Proofs.YtldbfjcfobdkpaaDoor

/- Layer 12: a name's short text, as the program tells it. -/
namespace Go.Proofs.YtldbfjcfobdkpaaDoor
open Go.RowKit

def lateL : List UInt8 := 58 :: latestB
def hubL : List UInt8 := hubB ++ [47]
def libL : List UInt8 := libraryB ++ [47]
/-- The program's way. -/
def cutS1 (r : RR) : List UInt8 := if r.pin = true then showR r else Lib.trimSuffix (showR r) lateL
def shortP (r : RR) : List UInt8 :=
  if (!decide (frontR r.path = []) || !Lib.hasPrefix (cutS1 r) hubL) = true then cutS1 r
  else if libQ r.path = true then Lib.trimPrefix (Lib.trimPrefix (cutS1 r) hubL) libL else Lib.trimPrefix (cutS1 r) hubL
theorem suf_last {X T L : List UInt8} {c : UInt8} (hT : c ∉ T) (hL : c ∉ L) (h : c :: L <:+ X ++ c :: T) : L = T := by
  obtain ⟨Y, hY⟩ := h
  have h1 := last_of Y c hL
  have h2 := last_of X c hT
  rw [hY, h2] at h1
  exact h1.symm
theorem pre_first {D R K : List UInt8} {c : UInt8} (hD : c ∉ D) (hK : c ∉ K) (h : K ++ [c] <+: D ++ c :: R) : K = D := by
  obtain ⟨Y, hY⟩ := h
  have h1 := cut_head Y hK
  have h2 := cut_head R hD
  rw [show K ++ c :: Y = K ++ [c] ++ Y by simp, hY, h2] at h1
  exact h1.symm
theorem less_pre (r : RR) : ∃ R, textR (lessR r) = r.dom ++ 47 :: (r.path ++ R) := by
  have h := lessR_tail r
  exact ⟨tailT (lessR r).tag ++ tailD r.pin r.dig, by rw [h]; simp⟩
theorem cutS1_may {r : RR} (hm : mayR r = true) : cutS1 r = textR (lessR r) := by
  have M := may_parts hm
  unfold cutS1
  rw [show_yes hm]
  cases hp : r.pin
  · rw [if_neg (by decide)]
    have hme := may_eq r
    rw [hm, mark_eq, hp] at hme
    have ht : r.tag ≠ [] := by
      intro e
      rw [if_pos e, Bool.false_and, Bool.false_and, Bool.and_false, Bool.and_false] at hme
      cases hme
    have htok : tagOk r.tag = true := by
      rw [if_neg ht] at hme
      cases e : tagOk r.tag
      · rw [e, Bool.false_and, Bool.false_and, Bool.and_false, Bool.and_false] at hme
        cases hme
      · rfl
    have hn : (58 : UInt8) ∉ r.tag := tag_not htok (by decide)
    have hx : textR r = (r.dom ++ [47] ++ r.path) ++ 58 :: r.tag := by
      unfold textR
      rw [if_neg ht, hp, if_neg (by decide), List.append_nil]
      rfl
    unfold Lib.trimSuffix
    by_cases hl : r.tag = latestB
    · have hs : Lib.hasSuffix (textR r) lateL = true := by
        unfold Lib.hasSuffix
        rw [List.isSuffixOf_iff_suffix, hx, hl]
        exact ⟨_, rfl⟩
      rw [if_pos hs]
      unfold lessR
      rw [if_pos ⟨hl, hp⟩, hx, hl]
      have e : textR { r with tag := [] } = r.dom ++ [47] ++ r.path := by
        unfold textR
        rw [if_pos rfl]
        show _ ++ (if r.pin = true then _ else _) = _
        rw [hp, if_neg (by decide), List.append_nil, List.append_nil]
      generalize r.dom ++ [47] ++ r.path = X at *
      have hlen : (X ++ 58 :: latestB).length - lateL.length = X.length := by rw [List.length_append]; exact Nat.add_sub_cancel _ lateL.length
      rw [e, hlen]
      exact List.take_left
    · have hs : ¬ Lib.hasSuffix (textR r) lateL = true := by
        unfold Lib.hasSuffix
        rw [List.isSuffixOf_iff_suffix, hx]
        intro h
        exact hl (suf_last hn (by decide) h).symm
      rw [if_neg hs]
      unfold lessR
      rw [if_neg (fun h => hl h.1)]
  · rw [if_pos rfl]
    unfold lessR
    rw [if_neg (fun h => by rw [hp] at h; cases h.2)]
theorem lib_front {p : List UInt8} (h : libQ p = true) : Lib.hasPrefix p libL = true ∧ frontR p = [] ∧ ∃ x, p = libraryB ++ 47 :: x := by
  have hp : Lib.hasPrefix p libL = true := by
    cases e : Lib.hasPrefix p libL with
    | true => rfl
    | false => rw [lib_not e] at h; cases h
  obtain ⟨hx, _⟩ := lib_pre hp
  refine ⟨hp, ?_, _, hx⟩
  rw [hx]
  exact front_not _ (by decide) (by decide)
theorem trimP {a b : List UInt8} : Lib.trimPrefix (a ++ b) a = b := by
  unfold Lib.trimPrefix Lib.hasPrefix
  rw [if_pos (List.isPrefixOf_iff_prefix.2 ⟨b, rfl⟩), List.drop_left]
theorem short_eq (r : RR) : shortR r = shortP r := by
  cases hm : mayR r
  · rw [(show_no hm).2]
    have h1 : cutS1 r = [] := by
      unfold cutS1
      rw [(show_no hm).1]
      split
      · rfl
      · rfl
    unfold shortP
    rw [h1]
    have h2 : Lib.hasPrefix [] hubL = false := by decide
    rw [h2, Bool.not_false, Bool.or_true, if_pos rfl]
  · have M := may_parts hm
    have h1 := cutS1_may hm
    have hn : (47 : UInt8) ∉ r.dom := dom_no47 M
    obtain ⟨R, hR⟩ := less_pre r
    unfold shortP shortR
    rw [if_pos hm, h1]
    by_cases hd : r.dom = hubB
    · have hp : textR (lessR r) = hubL ++ (r.path ++ R) := by rw [hR, hd]; unfold hubL; simp
      have hof : Lib.hasPrefix (textR (lessR r)) hubL = true := by
        unfold Lib.hasPrefix
        rw [List.isPrefixOf_iff_prefix, hp]
        exact ⟨_, rfl⟩
      have hrest : Lib.trimPrefix (textR (lessR r)) hubL = (textR (lessR r)).drop 10 := by
        unfold Lib.trimPrefix
        rw [if_pos hof]
        rfl
      rw [if_pos hd, hof, Bool.not_true, Bool.or_false, hrest]
      cases hq : libQ r.path
      · have hnot : ¬ ((cutL r.path 47).length = 2 ∧ (cutL r.path 47).getD 0 [] = libraryB) := by
          unfold libQ at hq
          exact of_decide_eq_false hq
        rw [if_neg hnot]
        by_cases hf : frontR r.path = []
        · rw [if_pos hf, decide_eq_true hf, if_neg (by decide), if_neg (by decide)]
        · rw [if_neg hf, decide_eq_false hf, if_pos (show (!false) = true from rfl)]
      · have hyes : ((cutL r.path 47).length = 2 ∧ (cutL r.path 47).getD 0 [] = libraryB) := by
          unfold libQ at hq
          exact of_decide_eq_true hq
        obtain ⟨_, hf, x, hx⟩ := lib_front hq
        rw [if_pos hyes, decide_eq_true hf, if_neg (by decide), if_pos rfl]
        have e : (textR (lessR r)).drop 10 = libL ++ (x ++ R) := by
          rw [hp, show (10 : Nat) = hubL.length from rfl, List.drop_left, hx]
          unfold libL
          simp
        rw [e, trimP, ← List.drop_left (l₁ := libL) (l₂ := x ++ R), ← e, List.drop_drop]
        rfl
    · have hof : Lib.hasPrefix (textR (lessR r)) hubL = false := by
        cases e : Lib.hasPrefix (textR (lessR r)) hubL with
        | false => rfl
        | true =>
          unfold Lib.hasPrefix at e
          rw [List.isPrefixOf_iff_prefix, hR] at e
          exact absurd (pre_first hn (by decide) e).symm hd
      rw [if_neg hd, hof, Bool.not_false, Bool.or_true, if_pos rfl]
theorem showR_le {r : RR} (h : r.ok) : (showR r).length ≤ 4000 := by
  unfold showR
  split
  · exact textR_le h
  · exact Nat.zero_le _
theorem trimS_le (s p : List UInt8) : (Lib.trimSuffix s p).length ≤ s.length := by
  unfold Lib.trimSuffix
  split
  · rw [List.length_take]; omega
  · exact Nat.le_refl _
set_option maxRecDepth 100000 in
set_option maxHeartbeats 16000000 in
theorem short_any (r : RR) (w : World) (h : r.ok) :
    Calls Tryd.prog 13 #[.agg (refC r)] w fun e w' => e = .returned (.string (str (shortR r))) ∧ Below w.heap.size w w' := by
  rw [short_eq]
  have r0 : refAt (w.alloc (.cells (refC r) 26)) w.heap.size r := rowC_new w _ _
  have al : Below w.heap.size w (w.alloc (.cells (refC r) 26)) := (Below.refl _ _).alloc (Nat.le_refl _) _
  obtain ⟨c0, c1, c2, c3⟩ := r0.cells h
  have b0 := h.dom
  have b1 := h.path
  have b2 := h.tag
  have HO := Lib.hid h
  have HIR := Lib.hid (info_ref h)
  have CT := fun w => show_any r w h
  have hsl := showR_le h
  have CX : ∀ w, Calls Tryd.prog 25 #[.string (str (showR r)), .string ⟨#[58, 108, 97, 116, 101, 115, 116]⟩] w fun e w' => e = .returned (.string (str (Lib.trimSuffix (showR r) lateL))) ∧ w = w' := fun w =>
    (Tryd.strings_TrimSuffix (str (showR r)) ⟨#[58, 108, 97, 116, 101, 115, 116]⟩ w (by rw [str_size]; omega)).mono fun e w' h => ⟨h.1, h.2.symm⟩
  have CK : ∀ w, Calls Tryd.prog 26 #[.string (str (cutS1 r)), .string ⟨#[100, 111, 99, 107, 101, 114, 46, 105, 111, 47]⟩] w fun e w' => e = .returned (.tuple #[.string (str (Lib.trimPrefix (cutS1 r) hubL)), .bool (Lib.hasPrefix (cutS1 r) hubL)]) ∧ w = w' := fun w =>
    (Tryd.strings_CutPrefix (str (cutS1 r)) ⟨#[100, 111, 99, 107, 101, 114, 46, 105, 111, 47]⟩ w).mono fun e w' h => ⟨h.1, h.2.symm⟩
  have CD := fun w => cutDomain_any r.path (by omega) w
  have CI := fun w => inLibrary_any r.path w
  have CZ : ∀ w, Calls Tryd.prog 29 #[.string (str (Lib.trimPrefix (cutS1 r) hubL)), .string ⟨#[108, 105, 98, 114, 97, 114, 121, 47]⟩] w fun e w' => e = .returned (.string (str (Lib.trimPrefix (Lib.trimPrefix (cutS1 r) hubL) libL))) ∧ w = w' := fun w =>
    (Tryd.strings_TrimPrefix (str (Lib.trimPrefix (cutS1 r) hubL)) ⟨#[108, 105, 98, 114, 97, 114, 121, 47]⟩ w).mono fun e w' h => ⟨h.1, h.2.symm⟩
  have HV := Lib.hid (show shortP r = (if (!decide (frontR r.path = []) || !Lib.hasPrefix (cutS1 r) hubL) = true then cutS1 r
    else if libQ r.path = true then Lib.trimPrefix (Lib.trimPrefix (cutS1 r) hubL) libL else Lib.trimPrefix (cutS1 r) hubL) from rfl)
  have HC := Lib.hid (show cutS1 r = if r.pin = true then showR r else Lib.trimSuffix (showR r) lateL from rfl)
  obtain ⟨w1, hw1⟩ : ∃ w1, w.alloc (.cells (refC r) 26) = w1 := ⟨_, rfl⟩
  rw [hw1] at c0 c1 c2 c3 r0 al
  have HB := Lib.hid al
  have HR := Lib.hid r0
  clear al r0 h
  generalize shortP r = SP at *
  generalize Lib.trimPrefix (Lib.trimPrefix (cutS1 r) hubL) libL = Z at *
  generalize Lib.trimPrefix (cutS1 r) hubL = K at *
  generalize Lib.hasPrefix (cutS1 r) hubL = kf at *
  generalize libQ r.path = lq at *
  generalize decide (frontR r.path = []) = ff at *
  generalize frontR r.path = fp at *
  generalize restR r.path = rp at *
  generalize cutS1 r = C1 at *
  cases hp : r.pin
  · rw [hp] at c3 HC
    rw [if_neg (by decide)] at HC
    have HCC := HC.out
    clear HC
    subst HCC
    generalize Lib.trimSuffix (showR r) lateL = C1 at *
    cases ff <;> cases kf <;> cases lq <;> (
      go_enter Tryd.func13, Tryd.ntmps13
      go_wp2_with (first
        | ((with_reducible show wpList _ _ _ (⟨some 9, _, _, _, _, _⟩ :: _) _ _); refine wpList_load_rowG rfl 26 (.tmp 1) rfl w.heap.size rfl 26 (refC r) _ HR.out Tryd.underlying26 rfl HIR.out ?_)
        | (go_at_call 11; ((with_reducible refine (CT _).mono ?_); rintro e wn ⟨rfl, bn⟩); replace HB := Lib.hid (HB.out.trans (bn.mono HB.out.size)); replace HR := Lib.hid (HR.out.below bn); clear c0 c1 c2 c3; obtain ⟨c0, c1, c2, c3⟩ := HR.out.cells HO.out; clear bn)
        | (go_at_call 25; ((with_reducible refine (CX _).mono ?_); rintro e wn ⟨rfl, rfl⟩))
        | (go_at_call 26; ((with_reducible refine (CK _).mono ?_); rintro e wn ⟨rfl, rfl⟩))
        | (go_at_call 27; ((with_reducible refine (CD _).mono ?_); rintro e wn ⟨rfl, bn⟩); replace HB := Lib.hid (HB.out.trans (bn.mono HB.out.size)); replace HR := Lib.hid (HR.out.below bn); clear c0 c1 c2 c3; obtain ⟨c0, c1, c2, c3⟩ := HR.out.cells HO.out; clear bn)
        | (go_at_call 28; ((with_reducible refine (CI _).mono ?_); rintro e wn ⟨rfl, bn⟩); replace HB := Lib.hid (HB.out.trans (bn.mono HB.out.size)); replace HR := Lib.hid (HR.out.below bn); clear c0 c1 c2 c3; obtain ⟨c0, c1, c2, c3⟩ := HR.out.cells HO.out; clear bn)
        | (go_at_call 29; ((with_reducible refine (CZ _).mono ?_); rintro e wn ⟨rfl, rfl⟩)))
      go_ret
      first
        | exact ⟨retStr (congrArg str HV.out.symm), HB.out⟩)
  · rw [hp] at c3 HC
    rw [if_pos rfl] at HC
    have HCC := HC.out
    clear HC CX
    subst HCC
    generalize showR r = C1 at *
    cases ff <;> cases kf <;> cases lq <;> (
      go_enter Tryd.func13, Tryd.ntmps13
      go_wp2_with (first
        | ((with_reducible show wpList _ _ _ (⟨some 9, _, _, _, _, _⟩ :: _) _ _); refine wpList_load_rowG rfl 26 (.tmp 1) rfl w.heap.size rfl 26 (refC r) _ HR.out Tryd.underlying26 rfl HIR.out ?_)
        | (go_at_call 11; ((with_reducible refine (CT _).mono ?_); rintro e wn ⟨rfl, bn⟩); replace HB := Lib.hid (HB.out.trans (bn.mono HB.out.size)); replace HR := Lib.hid (HR.out.below bn); clear c0 c1 c2 c3; obtain ⟨c0, c1, c2, c3⟩ := HR.out.cells HO.out; clear bn)
        | (go_at_call 25; ((with_reducible refine (CX _).mono ?_); rintro e wn ⟨rfl, rfl⟩))
        | (go_at_call 26; ((with_reducible refine (CK _).mono ?_); rintro e wn ⟨rfl, rfl⟩))
        | (go_at_call 27; ((with_reducible refine (CD _).mono ?_); rintro e wn ⟨rfl, bn⟩); replace HB := Lib.hid (HB.out.trans (bn.mono HB.out.size)); replace HR := Lib.hid (HR.out.below bn); clear c0 c1 c2 c3; obtain ⟨c0, c1, c2, c3⟩ := HR.out.cells HO.out; clear bn)
        | (go_at_call 28; ((with_reducible refine (CI _).mono ?_); rintro e wn ⟨rfl, bn⟩); replace HB := Lib.hid (HB.out.trans (bn.mono HB.out.size)); replace HR := Lib.hid (HR.out.below bn); clear c0 c1 c2 c3; obtain ⟨c0, c1, c2, c3⟩ := HR.out.cells HO.out; clear bn)
        | (go_at_call 29; ((with_reducible refine (CZ _).mono ?_); rintro e wn ⟨rfl, rfl⟩)))
      go_ret
      first
        | exact ⟨retStr (congrArg str HV.out.symm), HB.out⟩)
end Go.Proofs.YtldbfjcfobdkpaaDoor

