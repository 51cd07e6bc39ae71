/- Merged: PtA, PtB. -/
import Derived.BigQuiet
import Derived.StillTailTactics
import Derived.Test.YtbkpbgcbpakpeaaGreatDoorM01
import Derived.Test.YtbkpbgcbpakpeaaGreatDoorM03
import Derived.Maps.AppendAt
import Derived.Test.YtbkpbgcbpakpeaaGreatDoorM05
import Derived.Deep.AppendLies
/- Layer 14: rows of texts in memory, and such as were cut by three indices. -/
namespace Go.Proofs.YtbkpbgcbpakpeaaGreatDoor
open Go.RowKit

theorem beq_u8 (a b : UInt8) : (((a.toNat : Int)) == (b.toNat : Int)) = decide (a = b) := by
  rw [Bool.eq_iff_iff, beq_iff_eq, decide_eq_true_eq]
  constructor
  · intro h; exact UInt8.toNat_inj.1 (by omega)
  · intro h; rw [h]
theorem getD_data (s : ByteArray) {k : Nat} (h : k < s.size) : s.data.toList.getD k 0 = s.data[k]'(by simpa using h) := by
  rw [List.getD_eq_getElem?_getD, List.getElem?_eq_getElem (by simpa using h)]
  simp
/-- A text's parts as a row of strings. -/
def strsV (l : List (List UInt8)) : List Value := l.map fun p => .string (str p)
def OwnsS (w : World) (base : Nat) (v : Value) (l : List (List UInt8)) : Prop := w.ownsRow base 9 1 v l.length (strsV l)
theorem info_string : (Tryz.prog.info? 9).map (fun i => (i.zero, i.size, i.bytes)) = some (some (.string ⟨#[]⟩), 1, 16) := by kernel_rfl
theorem OwnsS.form {w : World} {base : Nat} {v : Value} {l : List (List UInt8)} (h : OwnsS w base v l) : ∃ a cap, v = .slice a l.length cap := owns_form h
theorem OwnsS.at {w : World} {base : Nat} {a : Option Addr} {n cap : Nat} {l : List (List UInt8)} (h : OwnsS w base (.slice a n cap) l) {k : Nat} (hk : k < l.length) :
    ∃ g, a = some ⟨g, 0, none⟩ ∧ base ≤ g ∧ w.cell? ⟨g, k, none⟩ = some (.string (str (l.getD k []))) := by
  obtain ⟨g, cap', hv⟩ := owns_some h (by omega)
  simp only [Value.slice.injEq] at hv
  obtain ⟨rfl, rfl, rfl⟩ := hv
  refine ⟨g, rfl, (h.lt g rfl).1, ?_⟩
  rw [h.cellAt k (by simpa [strsV] using hk)]
  unfold strsV
  rw [List.getElem?_map, List.getElem?_eq_getElem hk, List.getD_eq_getElem?_getD, List.getElem?_eq_getElem hk]
  rfl
theorem OwnsS.set {w : World} {base g n cap : Nat} {l : List (List UInt8)} (h : OwnsS w base (.slice (some ⟨g, 0, none⟩) n cap) l) (k : Nat) (x : List UInt8) : OwnsS (w.setCell ⟨g, k, none⟩ (.string (str x))) base (.slice (some ⟨g, 0, none⟩) n cap) (l.set k x) := by
  obtain ⟨a, c, hv⟩ := h.form
  simp only [Value.slice.injEq] at hv
  obtain ⟨-, rfl, -⟩ := hv
  have h2 := (World.ownsRow.stored h k (.string (str x))).1
  show World.ownsRow _ _ _ _ _ _ _
  unfold strsV at h2 ⊢
  rw [List.length_set, List.map_set]
  exact h2
theorem owns_one_str (w : World) (x : List UInt8) : OwnsS (w.alloc (.cells #[.string (str x)] 9)) w.heap.size (.slice (some ⟨w.heap.size, 0, none⟩) 1 1) [x] :=
  ⟨by simp [strsV], .inr ⟨_, 1, _, rfl, Nat.le_refl _, heap_alloc_new w _, Nat.le_refl _, by unfold maxLen; omega, by simp, by simp [strsV]⟩⟩
theorem extract_one (s : ByteArray) {k : Nat} (h : k < s.size) : s.extract k (k + 1) = str [s.data.toList.getD k 0] := by
  refine bytes_toList ?_
  rw [str_toList, ByteArray.data_extract, Array.toList_extract]
  have h2 : k < s.data.toList.length := by simpa using h
  rw [List.extract_eq_take_drop, show k + 1 - k = 1 by omega, List.drop_eq_getElem_cons h2, List.take_succ_cons, List.take_zero, List.getD_eq_getElem?_getD, List.getElem?_eq_getElem h2]
  rfl
/-- A text's parts, as they lie from an address on. -/
def RdS (w : World) (a : Option Addr) (l : List (List UInt8)) : Prop := ∀ k, k < l.length → ∃ g, a = some ⟨g, 0, none⟩ ∧ g < w.heap.size ∧ w.cell? ⟨g, k, none⟩ = some (.string (str (l.getD k [])))
theorem OwnsS.rd {w : World} {base : Nat} {a : Option Addr} {n cap : Nat} {l : List (List UInt8)} (h : OwnsS w base (.slice a n cap) l) : RdS w a l := fun k hk => by
  obtain ⟨g, hg, _, hc⟩ := h.at hk
  exact ⟨g, hg, World.block_lt_of_cell? w ⟨g, k, none⟩ hc, hc⟩
theorem RdS.below {w w' : World} {a : Option Addr} {l : List (List UInt8)} (h : RdS w a l) (hb : Below w.heap.size w w') : RdS w' a l := fun k hk => by
  obtain ⟨g, hg, hlt, hc⟩ := h k hk
  exact ⟨g, hg, Nat.lt_of_lt_of_le hlt hb.size, (World.cell?_of_block (hb.block g hlt)).trans hc⟩
theorem RdS.front {w : World} {a : Option Addr} {l : List (List UInt8)} (h : RdS w a l) : RdS w a l.dropLast := fun k hk => by
  rw [List.length_dropLast] at hk
  obtain ⟨g, hg, hlt, hc⟩ := h k (by omega)
  refine ⟨g, hg, hlt, hc.trans ?_⟩
  congr 3
  rw [List.getD_eq_getElem?_getD, List.getD_eq_getElem?_getD, List.getElem?_dropLast, if_pos (by omega)]
/-- A row of texts of which more may lie behind than its capacity says. -/
def OwnsC (w : World) (base : Nat) (v : Value) (l : List (List UInt8)) : Prop :=
  (v = .slice none 0 0 ∧ l = []) ∨
  ∃ g cap cur, v = .slice (some ⟨g, 0, none⟩) l.length cap ∧ base ≤ g ∧ w.heap[g]? = some (.cells cur 9 (0, 0)) ∧ l.length ≤ cap ∧ cap ≤ maxLen ∧ cap ≤ cur.size ∧ cur.toList.take l.length = strsV l
theorem OwnsC.of {w : World} {base : Nat} {v : Value} {l : List (List UInt8)} (h : OwnsS w base v l) : OwnsC w base v l := by
  obtain ⟨h0, h⟩ := h
  rcases h with ⟨hv, hn⟩ | ⟨g, cap, cur, hv, hb, hg, hn, hm, hs, ht⟩
  · exact .inl ⟨hv, List.eq_nil_of_length_eq_zero hn⟩
  · exact .inr ⟨g, cap, cur, hv, hb, hg, hn, hm, by omega, by rwa [Nat.mul_one] at ht⟩
theorem OwnsC.form {w : World} {base : Nat} {v : Value} {l : List (List UInt8)} (h : OwnsC w base v l) : ∃ a cap, v = .slice a l.length cap ∧ l.length ≤ cap ∧ cap ≤ maxLen := by
  rcases h with ⟨rfl, rfl⟩ | ⟨g, cap, cur, rfl, hb, hg, hn, hm, _, _⟩
  · exact ⟨none, 0, rfl, Nat.le_refl _, by unfold maxLen; omega⟩
  · exact ⟨_, cap, rfl, hn, hm⟩
theorem OwnsC.block {w : World} {base : Nat} {v : Value} {l : List (List UInt8)} (h : OwnsC w base v l) : ∀ g, v.ownBlock = some g → base ≤ g ∧ g < w.heap.size := by
  intro g hg
  rcases h with ⟨rfl, rfl⟩ | ⟨g', cap, cur, rfl, hb, hgg, hn, hm, _, _⟩
  · cases hg
  · simp [Value.ownBlock] at hg
    subst hg
    exact ⟨hb, (Array.getElem?_eq_some_iff.1 hgg).1⟩
theorem OwnsC.kept {w w' : World} {base : Nat} {v : Value} {l : List (List UInt8)} (h : OwnsC w base v l) (hk : ∀ g, base ≤ g → g < w.heap.size → v.ownBlock = some g → w'.heap[g]? = w.heap[g]?) : OwnsC w' base v l := by
  have hb := h.block
  rcases h with hn | ⟨g, cap, cur, rfl, hbg, hg, rest⟩
  · exact .inl hn
  · exact .inr ⟨g, cap, cur, rfl, hbg, (hk g hbg (Array.getElem?_eq_some_iff.1 hg).1 rfl).trans hg, rest⟩
theorem OwnsC.below {w w' : World} {base : Nat} {v : Value} {l : List (List UInt8)} (h : OwnsC w base v l) (hb : Below w.heap.size w w') : OwnsC w' base v l := h.kept fun g _ hg _ => hb.block g hg
theorem OwnsC.rd {w : World} {base : Nat} {a : Option Addr} {n cap : Nat} {l : List (List UInt8)} (h : OwnsC w base (.slice a n cap) l) : RdS w a l := fun k hk => by
  rcases h with ⟨_, rfl⟩ | ⟨g, cap', cur, hv, hb, hg, hn, hm, hs, ht⟩
  · cases hk
  · simp only [Value.slice.injEq] at hv
    obtain ⟨rfl, _, _⟩ := hv
    refine ⟨g, rfl, (Array.getElem?_eq_some_iff.1 hg).1, ?_⟩
    rw [cell_of_row w g k cur _ (0, 0) hg]
    have h1 : (cur.toList.take l.length)[k]? = (strsV l)[k]? := by rw [ht]
    rw [List.getElem?_take, if_pos hk] at h1
    rw [← Array.getElem?_toList, h1]
    unfold strsV
    rw [List.getElem?_map, List.getElem?_eq_getElem hk, List.getD_eq_getElem?_getD, List.getElem?_eq_getElem hk]
    rfl
/-- The last one is cut off, with all that lies behind. -/
theorem OwnsC.cut {w : World} {base : Nat} {a : Option Addr} {n cap : Nat} {l : List (List UInt8)} (h : OwnsC w base (.slice a n cap) l) (hl : l ≠ []) : OwnsC w base (.slice a (l.length - 1) (l.length - 1)) l.dropLast := by
  rcases h with ⟨_, rfl⟩ | ⟨g, cap', cur, hv, hb, hg, hn, hm, hs, ht⟩
  · exact absurd rfl hl
  · simp only [Value.slice.injEq] at hv
    obtain ⟨rfl, _, _⟩ := hv
    have hd : l.dropLast.length = l.length - 1 := List.length_dropLast
    refine .inr ⟨g, l.length - 1, cur, by rw [hd], hb, hg, by omega, by omega, by omega, ?_⟩
    have e : strsV l.dropLast = (strsV l).take (l.length - 1) := by
      unfold strsV
      rw [List.dropLast_eq_take, List.map_take]
    rw [hd, e, ← ht, List.take_take]
    congr 1
    omega
/-- One text more. -/
theorem run_append_c (w : World) (base : Nat) (v : Value) (l : List (List UInt8)) (h : OwnsC w base v l) (ad : Addr) (c : Nat) (x : List UInt8) (hx : w.cell? (ad.add 0) = some (.string (str x)))
    (hl : l.length ≤ 1000000) (hbase : base ≤ w.heap.size) (ty : TypeId) :
    ∃ v' w', (Builtin.append_ #[92, 92] ty #[v, .slice (some ad) 1 c]).run Tryz.prog w = .ok v' w' ∧ OwnsC w' base v' (l ++ [x]) ∧ w.grownBy w' v.ownBlock := by
  obtain ⟨i0, hi, hz0, hz1, hz2⟩ := info_parts info_string
  have hnews : ∀ j u, [Value.string (str x)][j]? = some u → w.cell? (ad.add j) = some u := by
    intro j u hu
    match j, hu with
    | 0, hu =>
      simp at hu
      subst hu
      exact hx
  have h1 : ∀ u ∈ [Value.string (str x)], u.oneCell' = true := by
    intro u hu
    rw [List.mem_singleton] at hu
    subst hu
    rfl
  have hlen : (strsV l).length = l.length := by simp [strsV]
  by_cases hroom : ∃ g cap cur, v = .slice (some ⟨g, 0, none⟩) l.length cap ∧ base ≤ g ∧ w.heap[g]? = some (.cells cur 9 (0, 0)) ∧ l.length + 1 ≤ cap ∧ cap ≤ maxLen ∧ cap ≤ cur.size ∧ cur.toList.take l.length = strsV l
  · obtain ⟨g, cap, cur, rfl, hb, hg, hr, hm, hs, ht⟩ := hroom
    have hfit : l.length * i0.size + [Value.string (str x)].length ≤ cur.size := by rw [hz1, List.length_singleton]; omega
    refine ⟨_, _, run_append_room w 92 ty 9 i0 Tryz.underlying92 hi g l.length cap cur hg ad 1 c [.string (str x)] (by rw [hz1]; rfl) hnews h1 hr hfit, .inr ⟨g, cap, _, by rw [List.length_append]; rfl, hb, setRow_heap w g cur _ _ _ hg, by rw [List.length_append]; exact hr, hm, ?_, ?_⟩, ⟨rfl, rfl, rfl, by simp, fun k _ hk => setRow_other w g k _ (fun e => hk (by simp [Value.ownBlock, e]))⟩⟩
    · simp only [List.size_toArray, List.length_append, List.length_take, List.length_drop, Array.length_toList, List.length_singleton]
      omega
    · rw [hz1, Nat.mul_one, ht]
      have e : strsV (l ++ [x]) = strsV l ++ [.string (str x)] := by unfold strsV; rw [List.map_append]; rfl
      rw [e]
      exact List.take_left' (by simp [hlen])
  · -- a new row
    have hbytes : (l.length + 1) * 16 ≤ 140737488355328 := by omega
    rcases h with ⟨rfl, rfl⟩ | ⟨g, cap, cur, rfl, hb, hg, hn, hm, hs, ht⟩
    · obtain ⟨v', w', hr, h2, h3, _, _⟩ := run_append_own_at (P := Tryz.prog) w base 92 ty 9 i0 (.string ⟨#[]⟩) 1 16 Tryz.underlying92 hi hz0 hz1 hz2 rfl (by decide) (.slice none 0 0) 0 [] (World.ownsRow_nil w base _ 1) ad 1 c [.string (str x)] rfl hnews h1 (by unfold maxLen; omega) (by omega) hbase
      exact ⟨v', w', hr, OwnsC.of h2, h3⟩
    · have hc : cap = l.length := by
        rcases Nat.lt_or_ge l.length cap with hlt | hge
        · exact absurd ⟨g, cap, cur, rfl, hb, hg, hlt, hm, hs, ht⟩ hroom
        · omega
      subst hc
      have hown : w.ownsRow base 9 1 (.slice (some ⟨g, 0, none⟩) l.length l.length) l.length (strsV l) ∨ True := .inr trivial
      have holds : ∀ j u, (strsV l)[j]? = some u → w.cell? ((⟨g, 0, none⟩ : Addr).add j) = some u := by
        intro j u hu
        have hadd : (⟨g, 0, none⟩ : Addr).add j = ⟨g, j, none⟩ := by unfold Addr.add; split <;> simp_all
        rw [hadd, cell_of_row w g j cur _ (0, 0) hg]
        rw [← ht, List.getElem?_take] at hu
        split at hu
        · simpa using hu
        · cases hu
      have hr := run_append_grow (P := Tryz.prog) w 92 ty 9 i0 (.string ⟨#[]⟩) Tryz.underlying92 hi hz0 ⟨g, 0, none⟩ l.length l.length (strsV l) (by rw [hz1, Nat.mul_one]; exact hlen) holds ad 1 c [.string (str x)] (by rw [hz1]; rfl) hnews (by omega) (by omega) (growslice_fits (by omega) (by rw [hz2]; exact hbytes))
      have hge := grownCap_ge w (l.length + 1) l.length 9
      have hcm : grownCap w (l.length + 1) l.length 9 ≤ maxLen := grownCap_le_maxLen w (l.length + 1) l.length _ (by unfold maxLen; omega)
      refine ⟨_, _, hr, .inr ⟨w.heap.size, _, _, by rw [List.length_append]; rfl, hbase, heap_alloc_new w.drew _, by rw [List.length_append]; exact hge, hcm, ?_, ?_⟩, ⟨rfl, rfl, rfl, by simp, fun k hk _ => Below.heap_alloc w.drew _ k hk⟩⟩
      · simp only [Array.size_append, List.size_toArray, size_zeroCells, hlen, List.length_singleton]
        have : (Value.string ⟨#[]⟩).cells.size = 1 := rfl
        rw [this]
        omega
      · have e : strsV (l ++ [x]) = strsV l ++ [.string (str x)] := by unfold strsV; rw [List.map_append]; rfl
        simp only [Array.toList_append, List.append_assoc]
        rw [e, ← List.append_assoc, List.length_append, List.length_singleton, ← hlen]
        exact List.take_left' (by simp)
end Go.Proofs.YtbkpbgcbpakpeaaGreatDoor

/- Layer 14: the document's parts of a path. -/
namespace Go.Proofs.YtbkpbgcbpakpeaaGreatDoor
open Go.RowKit

set_option maxRecDepth 100000 in
set_option maxHeartbeats 4000000 in
theorem parts_any (s : ByteArray) (w : World) (hs : s.size ≤ 1000000) :
    Calls Tryz.prog 50 #[.string s] w fun e w' => ∃ v, e = .returned v ∧ OwnsS w' w.heap.size v (cutL s.data.toList 47) ∧ Below w.heap.size w w' := by
  have HSL := Lib.hid (show s.data.toList.length = s.size by simp)
  have IS := Lib.hid (fun (i : Nat) (h : i < s.size) => idx_str s i i rfl h)
  obtain ⟨i0, hi, hz0, hz1, hz2⟩ := info_parts info_string
  have HO := Lib.hid (owns_one_str w [])
  have HB := Lib.hid ((Below.refl w.heap.size w).alloc (Nat.le_refl _) (.cells #[.string (str [])] 9))
  go_enter Tryz.func50, Tryz.ntmps50
  go_wp2
  change Code.wp _ _ _ _ (w.alloc (.cells #[.string (str [])] 9))
  generalize w.alloc (.cells #[.string (str [])] 9) = w0 at *
  go_loopw [3, 4] (fun l v wr => ∃ k : Nat, k ≤ s.size ∧ v = .int .i64 k ∧ Hid (OwnsS wr w.heap.size l (cutL (s.data.toList.take k) 47)) ∧ Hid (Below w.heap.size w wr)) (fun _ v _ => s.size - (intOf v).toNat)
  case atStart => exact ⟨0, Nat.zero_le _, rfl, HO, HB⟩
  case round =>
    clear HO HB
    obtain ⟨k, hk, rfl, hO, hB⟩ := hrel
    obtain ⟨a, cap, rfl⟩ := hO.out.form
    by_cases hlt : k < s.size
    · have g1 : (k : Int) < (s.size : Int) := by omega
      have HN := Lib.hid (cut_take s.data.toList 47 (k := k) (by have := HSL.out; omega))
      have hq : (((s.data[k]'(by simpa using hlt)).toNat : Int) == 47) = (s.data.toList.getD k 0 == 47) := by
        rw [← getD_data s hlt]
        exact beq_u8 _ 47
      have hpos := cutL_pos (s.data.toList.take k) 47
      have hle := cutL_le (s.data.toList.take k) 47
      rw [List.length_take] at hle
      have HX := Lib.hid (extract_one s hlt)
      have i1 := IS.out k hlt
      obtain ⟨x, hx⟩ : ∃ x, x = s.data.toList.getD k 0 := ⟨_, rfl⟩
      rw [← hx] at hq HN HX
      have hpl := cutL_getD_le (s.data.toList.take k) 47 ((cutL (s.data.toList.take k) 47).length - 1)
      rw [List.length_take] at hpl
      generalize cutL (s.data.toList.take k) 47 = E at *
      obtain ⟨M, hM⟩ : ∃ M, E.length = M + 1 := ⟨E.length - 1, by omega⟩
      have hM6 : M ≤ 1000000 := by have := HSL.out; omega
      rw [hM]
      have HMl := Lib.hid hM
      clear IS
      cases hb : (x == 47)
      · have HNE := Lib.hid (show ¬ x = 47 by simpa using hb)
        rw [hb] at hq
        rw [hM] at hO
        obtain ⟨g, hga, hgB, e1⟩ := hO.out.at (k := M) (by omega)
        subst hga
        rw [hM, show M + 1 - 1 = M by omega] at hpl
        have hx1 := HX.out
        have z1 : (str [x]).size = 1 := rfl
        obtain ⟨q, hq2⟩ : ∃ q, q = E.getD M [] := ⟨_, rfl⟩
        rw [← hq2] at e1 hpl
        have zp := str_size q
        have HQ := Lib.hid hq2
        have hqM : q.length ≤ 1000000 := by omega
        clear hq2
        have HO1 := Lib.hid (show World.ownsRow wr w.heap.size 9 1 (.slice (some ⟨g, 0, none⟩) (M + 1) cap) (M + 1) (strsV E) from by have h5 := hO.out; unfold OwnsS at h5; rw [hM] at h5; exact h5)
        have fG := HO1.out.frozenAt M
        have hl : IntKind.i64.wrap ((k : Int) + 1) = (k : Int) + 1 := IntWalk.i64_in _ (by omega)
        have hmin : min (k + 1) s.size = k + 1 := by omega
        have hwM : IntKind.i64.wrap (M : Int) = (M : Int) := IntWalk.i64_in _ (by omega)
        clear hb hx hM
        go_wp2
        refine (wpIn_wide (n := 4)).1 ?_
        refine region_quiet_tail (C := fun w' => ∃ q, w' = wr.drewN q) 16 (by kernel_rfl) (by kernel_rfl) (by kernel_rfl) ⟨1, rfl⟩ ?_
        simp only [List.take_succ_cons, List.take_zero, List.drop_succ_cons, List.drop_zero]
        repeat (gi_big_quiet_step (fail))
        refine wpQuietIn_nil ?_
        rintro _ ⟨nq, rfl⟩
        have e1' : (wr.drewN nq).cell? ⟨g, M, none⟩ = some (.string (str q)) := e1
        have fG' : (wr.drewN nq).frozen? ⟨g, M, none⟩ = false := fG
        have HO2 := Lib.hid (show OwnsS (wr.drewN nq) w.heap.size (.slice (some ⟨g, 0, none⟩) (M + 1) cap) E from hO.out)
        have HB2 := Lib.hid (below_drewN hB.out nq)
        clear e1 fG hO hB HO1
        generalize wr.drewN nq = w5 at *
        gi_wp2
        go_wp2
        go_roundw
        case rel => exact ⟨k + 1, by omega, by go_num, by
          rw [HN.out, cutS, if_neg HNE.out, HMl.out, show M + 1 - 1 = M by omega, ← HQ.out, str_append]
          exact Lib.hid (HO2.out.set M (q ++ [x])), Lib.hid (HB2.out.setCell (p := ⟨g, M, none⟩) hgB _)⟩
        case measure => simp [intOf]; omega
      · have HEQ := Lib.hid (show x = 47 by simpa using hb)
        rw [hb] at hq
        have HO1 := Lib.hid (show World.ownsRow wr w.heap.size 9 1 (.slice a (M + 1) cap) (M + 1) (strsV E) from by have h5 := hO.out; unfold OwnsS at h5; rw [hM] at h5; exact h5)
        clear hb hx hM
        go_wp2_with ((with_reducible show wpList _ _ _ (⟨some 18, _, _, _, _, _⟩ :: _) _ _); refine wpList_append_own _ rfl (.tmp 16) (.tmp 17) 92 rfl w.heap.size 9 i0 (.string ⟨#[]⟩) 1 16 Tryz.underlying92 hi hz0 hz1 hz2 rfl (by decide) (.slice a (M + 1) cap) (M + 1) (strsV E) rfl (World.ownsRow.alloc HO1.out _) _ 1 1 [.string ⟨#[]⟩] rfl rfl (World.news_of_block (heap_alloc_new _ _)) (by intro u hu; simp at hu; subst hu; rfl) (by unfold maxLen; omega) (by omega) (by rw [size_alloc]; have := hB.out.size; omega) ?_; intro v' w6 hown6 hgrow6 _; obtain ⟨a6, cap6, rfl⟩ := owns_form hown6; have HO6 := Lib.hid hown6; have HB6 := Lib.hid ((hB.out.alloc hB.out.size _).grown hgrow6 (by rw [size_alloc]; have := hB.out.size; omega) (fun j hj => (HO1.out.lt j hj).1)); clear hown6 hgrow6)
        go_roundw
        case rel => exact ⟨k + 1, by omega, by go_num, by
          rw [HN.out, cutS, if_pos HEQ.out]
          refine Lib.hid ?_
          show World.ownsRow _ _ _ _ _ _ _
          rw [List.length_append, HMl.out, strsV, List.map_append]
          exact HO6.out, HB6⟩
        case measure => simp [intOf]; omega
    · have HE := Lib.hid (show s.data.toList.take k = s.data.toList by rw [List.take_of_length_le (by have := HSL.out; omega)])
      have h5 := Lib.hid hO.out
      rw [HE.out] at h5 ⊢
      clear hO
      go_wp2
      go_ret
      exact ⟨_, rfl, h5.out, hB.out⟩
end Go.Proofs.YtbkpbgcbpakpeaaGreatDoor

