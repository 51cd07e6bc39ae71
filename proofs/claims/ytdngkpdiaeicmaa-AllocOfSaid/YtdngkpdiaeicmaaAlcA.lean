/- Layer 8: the document's map in memory: New, Used, run. -/
import Derived.Test.YtdngkpdiaeicmaaByt
import Derived.Test.YtdngkpdiaeicmaaChg
import Derived.Test.YtdngkpdiaeicmaaAlcM
namespace Go.Proofs.Ytdngkpdiaeicmaa
open Go.RowKit

theorem info_bool : (Try.prog.info? 4).map (fun i => (i.zero, i.size, i.bytes)) = some (some (.bool false), 1, 1) := by kernel_rfl
/-- The document's map L lies in block p; its slice is v. -/
structure RefM (w : World) (p : Nat) (v : Value) (L : List Bool) : Prop where
  r : rowC w p #[v] 64
  s : w.ownsRow 0 4 1 v L.length (L.map Value.bool)
def refOwn (p : Nat) (v : Value) (k : Nat) : Prop := k = p ∨ v.ownBlock = some k
theorem RefM.lt {w : World} {p : Nat} {v : Value} {L : List Bool} (h : RefM w p v L) : ∀ k, refOwn p v k → k < w.heap.size := by
  intro k hk
  rcases hk with rfl | hk
  · exact rowC_lt h.r
  · exact (h.s.lt k hk).2
theorem RefM.chg {w w' : World} {p : Nat} {v : Value} {L : List Bool} (h : RefM w p v L) {s : Nat → Prop} (hc : Chg s w w') (hs : ∀ k, refOwn p v k → ¬ s k) : RefM w' p v L :=
  ⟨hc.rowC h.r (hs p (.inl rfl)), hc.owns h.s (fun g hg => hs g (.inr hg))⟩
theorem RefM.below {w w' : World} {p : Nat} {v : Value} {L : List Bool} (h : RefM w p v L) (hb : Below w.heap.size w w') : RefM w' p v L := h.chg (s := fun _ => False) (Chg.of_below hb) (fun _ _ => id)
theorem RefM.cell {w : World} {p : Nat} {v : Value} {L : List Bool} (h : RefM w p v L) : w.cell? ⟨p, 0, none⟩ = some v := rowC_cell h.r 0
theorem owns_bool {w : World} {g n cap : Nat} {l : List Bool} (h : w.ownsRow 0 4 1 (.slice (some ⟨g, 0, none⟩) n cap) n (l.map Value.bool)) (hn : n = l.length) {k : Nat} (hk : k < l.length) : w.cell? ⟨g, k, none⟩ = some (.bool (l.getD k false)) := by
  rw [h.cellAt k (by omega), List.getElem?_map, List.getElem?_eq_getElem hk]
  simp [List.getD, hk]
theorem RefM.len {w : World} {p n cap : Nat} {a : Option Addr} {L : List Bool} (h : RefM w p (.slice a n cap) L) : n = L.length := by
  obtain ⟨a', cap', hv⟩ := owns_form h.s
  simp only [Value.slice.injEq] at hv
  exact hv.2.1
/-- A block of it. -/
theorem RefM.at {w : World} {p g n cap : Nat} {L : List Bool} (h : RefM w p (.slice (some ⟨g, 0, none⟩) n cap) L) {k : Nat} (hk : k < L.length) : w.cell? ⟨g, k, none⟩ = some (.bool (L.getD k false)) := by
  have hs := h.s
  obtain rfl := h.len
  exact owns_bool hs rfl hk
theorem RefM.ne {w : World} {p g n cap : Nat} {L : List Bool} (h : RefM w p (.slice (some ⟨g, 0, none⟩) n cap) L) : g ≠ p := owns_ne h.s h.r (by decide) g rfl
/-- A block of it is in use, or not. -/
theorem RefM.set {w : World} {p g n cap : Nat} {L : List Bool} (h : RefM w p (.slice (some ⟨g, 0, none⟩) n cap) L) (k : Nat) (b : Bool) : RefM (w.setCell ⟨g, k, none⟩ (.bool b)) p (.slice (some ⟨g, 0, none⟩) n cap) (L.set k b) := by
  refine ⟨rowC_other h.r _ _ (fun e => h.ne e.symm), ?_⟩
  have hs := h.s
  obtain rfl := h.len
  rw [List.length_set, List.map_set]
  exact (hs.stored k (.bool b)).1
theorem RefM.free {w : World} {p g n cap : Nat} {L : List Bool} (h : RefM w p (.slice (some ⟨g, 0, none⟩) n cap) L) (k : Nat) : w.frozen? ⟨g, k, none⟩ = false := by
  have hs := h.s
  obtain rfl := h.len
  exact hs.frozenAt k
/-- What New leaves. -/
def RefNew (w : World) (m : Nat) (e : Ending) (w' : World) : Prop :=
  ∃ p v, e = .returned (.tuple #[.pointer (some ⟨p, 0, none⟩), .int .i64 0]) ∧ RefM w' p v (List.replicate m false) ∧ Below w.heap.size w w' ∧ ∀ k, refOwn p v k → w.heap.size ≤ k
set_option maxHeartbeats 400000 in
theorem rnew_no (n : Int) (w : World) (h : n < 1 ∨ 4096 < n) :
    Calls Try.prog 11 #[.int .i64 n] w fun e w' => e = .returned (.tuple #[.pointer none, .int .i64 2]) ∧ w = w' := by
  by_cases h1 : n < 1
  · clear h
    go_enter Try.func11, Try.ntmps11
    go_wp2
    go_ret2
    exact ⟨rfl, rfl⟩
  · have h2 : (4096 : Int) < n := by omega
    clear h
    go_enter Try.func11, Try.ntmps11
    go_wp2
    go_ret2
    exact ⟨rfl, rfl⟩
set_option maxRecDepth 100000 in
set_option maxHeartbeats 1000000 in
theorem rnew_any (m : Nat) (w : World) (h1 : 1 ≤ m) (h2 : m ≤ 4096) :
    Calls Try.prog 11 #[.int .i64 (m : Int)] w (RefNew w m) := by
  obtain ⟨i0, hi, hz0, hz1, hz2⟩ := info_parts info_bool
  have g1 : (1 : Int) ≤ (m : Int) := by omega
  have g2 : (m : Int) ≤ 4096 := by omega
  go_enter Try.func11, Try.ntmps11
  go_wp2_with (at_make; refine wpList_make_full _ rfl _ _ 55 rfl w.heap.size 4 i0 (.bool false) 1 Try.underlying55 hi hz0 hz1 .i64 .i64 _ _ m rfl rfl rfl rfl (by rw [hz2]; omega) (by unfold maxLen; omega) (Nat.le_refl _) ?_; intro w0 hown0 hgrow0)
  have hb0 : Below w.heap.size w w0 := (Below.refl _ _).grown hgrow0 (Nat.le_refl _) (fun j hj => by cases hj)
  rw [show (madeCells (Value.bool false).cells (m * 1)).toList = (List.replicate m false).map Value.bool by rw [List.map_replicate, Nat.mul_one]; exact toList_madeCells_one _ _] at hown0
  clear hgrow0
  have hsz := hb0.size
  have hlt := hown0.lt w.heap.size rfl
  have HO := Lib.hid hown0
  have HB := Lib.hid hb0
  have HL := Lib.hid hlt
  clear hown0 hb0 hlt hsz
  go_wp2
  go_ret2
  refine ⟨w0.heap.size, .slice (some ⟨w.heap.size, 0, none⟩) m m, rfl, ⟨rowC_new _ _ _, ?_⟩, HB.out.alloc HB.out.size _, fun k hk => ?_⟩
  · rw [List.length_replicate]
    exact owns_base (HO.out.alloc _)
  · rcases hk with rfl | hk
    · exact HB.out.size
    · simp only [Value.ownBlock, Option.some.injEq] at hk
      omega
theorem used_step (L : List Bool) (k : Nat) (h : k < L.length) : (L.take (k + 1)).countP id = (L.take k).countP id + (L.getD k false).toNat := by
  rw [List.take_succ_eq_append_getElem h, List.countP_append, List.getD_eq_getElem?_getD, List.getElem?_eq_getElem h]
  cases L[k] <;> simp
set_option maxRecDepth 100000 in
set_option maxHeartbeats 1000000 in
theorem rused_any {w : World} {p : Nat} {v : Value} {L : List Bool} (h : RefM w p v L) (h1 : 1 ≤ L.length) (h2 : L.length ≤ 4096) :
    Calls Try.prog 19 #[.pointer (some ⟨p, 0, none⟩)] w fun e w' => e = .returned (.int .i64 (usedL L : Int)) ∧ w = w' := by
  have c0 := h.cell
  obtain ⟨g, cap, rfl⟩ := owns_some h.s (by omega)
  have HS := Lib.hid h.s
  obtain ⟨N, hN⟩ : ∃ N, N = L.length := ⟨_, rfl⟩
  rw [← hN] at c0 HS h1 h2
  have HN := Lib.hid hN
  clear h hN
  go_enter Try.func19, Try.ntmps19
  go_wp2
  go_loop [3, 4] (fun n i => ∃ k : Nat, k ≤ N ∧ i = .int .i64 k ∧ n = .int .i64 ((L.take k).countP id : Nat)) (fun _ i => N - (intOf i).toNat)
  case atStart => exact ⟨0, Nat.zero_le _, rfl, rfl⟩
  case round =>
    obtain ⟨k, hk, rfl, rfl⟩ := hrel
    have hle : (L.take k).countP id ≤ N := Nat.le_trans List.countP_le_length (by rw [List.length_take]; omega)
    have hend := Lib.hid (show k = N → (L.take k).countP id = usedL L from fun e => by rw [e, HN.out, List.take_length]; rfl)
    by_cases hlt : k < N
    · have hst := Lib.hid (used_step L k (by have := HN.out; omega))
      have hc := owns_bool HS.out HN.out (k := k) (by have := HN.out; omega)
      obtain ⟨c, hce⟩ : ∃ c : Nat, c = (L.take k).countP id := ⟨_, rfl⟩
      rw [← hce] at hst hle hend ⊢
      clear hce
      have k0 : (0 : Int) ≤ (k : Int) := by omega
      have k1 : (k : Int) < (N : Int) := by omega
      cases hb : L.getD k false
      all_goals
        rw [hb] at hst hc
        clear hb
        go_wp2
        go_round
        case rel => exact ⟨k + 1, by omega, by go_num, by rw [hst.out]; simp⟩
        case measure => simp [intOf]; omega
    · go_wp2
      go_ret
      exact ⟨retInt (by rw [hend.out (by omega)]), rfl⟩
set_option maxRecDepth 100000 in
set_option maxHeartbeats 1000000 in
theorem rrun_any {w : World} {p : Nat} {v : Value} {L : List Bool} (h : RefM w p v L) (h1 : 1 ≤ L.length) (h2 : L.length ≤ 4096) (i : Nat) (hi : i ≤ 100000) :
    Calls Try.prog 36 #[.pointer (some ⟨p, 0, none⟩), .int .i64 (i : Int)] w fun e w' => e = .returned (.int .i64 (runL L i : Int)) ∧ w = w' := by
  have c0 := h.cell
  obtain ⟨g, cap, rfl⟩ := owns_some h.s (by omega)
  have HS := Lib.hid h.s
  obtain ⟨N, hN⟩ : ∃ N, N = L.length := ⟨_, rfl⟩
  rw [← hN] at c0 HS h1 h2
  have HN := Lib.hid hN
  clear h hN
  go_enter Try.func36, Try.ntmps36
  go_wp2
  go_loop [5] (fun n => ∃ k : Nat, k ≤ N ∧ n = .int .i64 k ∧ Hid (∀ j, j < k → L[i + j]? = some false)) (fun n => N + 1 - (intOf n).toNat)
  case atStart => exact ⟨0, Nat.zero_le _, rfl, Lib.hid (fun j hj => by omega)⟩
  case round =>
    obtain ⟨k, hk, rfl, hfr⟩ := hrel
    have j0 : (0 : Int) ≤ (i : Int) + (k : Int) := by omega
    by_cases hlt : i + k < N
    · have hc := owns_bool HS.out HN.out (k := i + k) (by have := HN.out; omega)
      have hg : L[i + k]? = some (L.getD (i + k) false) := by
        have : i + k < L.length := by have := HN.out; omega
        rw [List.getD_eq_getElem?_getD, List.getElem?_eq_getElem this]; rfl
      have k1 : (i : Int) + (k : Int) < (N : Int) := by omega
      have k2 := Lib.hid (show ((i : Int) + (k : Int)).toNat = i + k by omega)
      have k3 := k2.out
      cases hb : L.getD (i + k) false
      · rw [hb] at hc hg
        have hfr2 := Lib.hid (show ∀ j, j < k + 1 → L[i + j]? = some false from fun j hj => if e : j = k then (by rw [e]; exact hg) else hfr.out j (by omega))
        clear hb hg hfr
        go_wp2
        go_round
        case rel => exact ⟨k + 1, by omega, by go_num, hfr2⟩
        case measure => simp [intOf]; omega
      · rw [hb] at hc hg
        have hres := Lib.hid (run_is hfr.out (by rw [hg]; decide))
        clear hb hg hfr
        go_wp2
        go_ret
        exact ⟨retInt (by rw [hres.out]), rfl⟩
    · have hres := Lib.hid (run_is hfr.out (by rw [List.getElem?_eq_none (by have := HN.out; omega)]; decide))
      have k1 : ¬ (i : Int) + (k : Int) < (N : Int) := by omega
      clear hfr
      go_wp2
      go_ret
      exact ⟨retInt (by rw [hres.out]), rfl⟩
end Go.Proofs.Ytdngkpdiaeicmaa
