/- Layer 12: a name that comes in; the walks that meet one. -/
import Derived.Test.YtldbfjcfobdkpaaDoorRfQ
import Derived.Test.YtldbfjcfobdkpaaDoorOpen
namespace Go.Proofs.YtldbfjcfobdkpaaDoor
open Go.RowKit Go.ChangeShapes Go.WideShapes

section
variable {H : Type} {enc : TypeId × Value → H} {W : World} {base : Nat} {sp : Nat → Bool} {held : Bool}
theorem open_byteL {fuel : Nat} {cs : List Value} {x : DataW H × List MemPlace} (h : DataW.trod enc Tryd.prog W base sp held fuel 24 cs = some x) : ∃ l : List UInt8, l.length = 32 ∧ cs = l.map byteV := by
  have he : Tryd.prog.cellsOf 5 = 1 := by kernel_rfl
  have hc : Tryd.prog.cellsOf 24 = 32 := by kernel_rfl
  obtain ⟨xs, m, _, _, hsz, hxs, hall⟩ := DataW.trod_array Tryd.underlying24 h
  rw [hc] at hsz
  have key : ∀ u ∈ cs, ∃ b : UInt8, u = byteV b := by
    intro u hu
    obtain ⟨i, hi, rfl⟩ := List.mem_iff_getElem.1 hu
    have h1 := hall i (by omega)
    rw [he, Nat.mul_one, List.getElem?_eq_getElem (by omega)] at h1
    obtain ⟨a, ha, _, hw⟩ := DataW.trod_int Tryd.underlying5 h1
    have e : (cs.drop i).take 1 = [cs[i]] := by
      rw [List.drop_eq_getElem_cons hi]; rfl
    rw [e] at ha
    have hb : 0 ≤ a ∧ a ≤ 255 := by
      simp [Lit.wf, IntKind.min, IntKind.max, IntKind.signed, IntKind.bits] at hw
      omega
    refine ⟨UInt8.ofNat a.toNat, ?_⟩
    rw [List.cons.inj ha |>.1, byteV_ofNat]
    congr 1
    omega
  obtain ⟨l, hl⟩ := all_bytesV cs key
  refine ⟨l, ?_, hl⟩
  have := congrArg List.length hl
  rw [List.length_map] at this
  omega
theorem one_cell {i : Nat} {cs : List Value} {v : Value} (h : (cs.drop i).take 1 = [v]) : cs[i]? = some v := by
  have : ((cs.drop i).take 1)[0]? = some v := by rw [h]; rfl
  rwa [List.getElem?_take, if_pos (by decide), List.getElem?_drop, Nat.add_zero] at this
/-- A name that comes in, of its 36 cells. -/
theorem open_refL {fuel : Nat} {cs : List Value} {x : DataW H × List MemPlace} (h : DataW.trod enc Tryd.prog W base sp held fuel 26 cs = some x) :
    ∃ r : RR, r.dig.length = 32 ∧ cs = refL r := by
  obtain ⟨xs, n, _, _, hlen, hx, hf⟩ := DataW.trod_struct Tryd.underlying26 h
  have hc : Tryd.prog.cellsOf 26 = 36 := by kernel_rfl
  have c1 : Tryd.prog.cellsOf 9 = 1 := by kernel_rfl
  have c2 : Tryd.prog.cellsOf 24 = 32 := by kernel_rfl
  have c3 : Tryd.prog.cellsOf 4 = 1 := by kernel_rfl
  rw [hc] at hlen
  replace hx : xs.length = 5 := hx
  have f0 := hf 0 ⟨"Domain", 9, 0, false, "", "", 0⟩ rfl
  have f1 := hf 1 ⟨"Path", 9, 1, false, "", "", 16⟩ rfl
  have f2 := hf 2 ⟨"Tag", 9, 2, false, "", "", 32⟩ rfl
  have f3 := hf 3 ⟨"Digest", 24, 3, false, "", "", 48⟩ rfl
  have f4 := hf 4 ⟨"Pinned", 4, 35, false, "", "", 80⟩ rfl
  dsimp only at f0 f1 f2 f3 f4
  rw [c1] at f0 f1 f2
  rw [c2] at f3
  rw [c3] at f4
  rw [List.getElem?_eq_getElem (by omega)] at f0 f1 f2 f3 f4
  obtain ⟨s0, e0, _, _⟩ := DataW.trod_string Tryd.underlying9 f0
  obtain ⟨s1, e1, _, _⟩ := DataW.trod_string Tryd.underlying9 f1
  obtain ⟨s2, e2, _, _⟩ := DataW.trod_string Tryd.underlying9 f2
  obtain ⟨l, hl, e3⟩ := open_byteL f3
  obtain ⟨b, e4, _⟩ := DataW.trod_bool Tryd.underlying4 f4
  refine ⟨⟨s0.data.toList, s1.data.toList, s2.data.toList, l, b⟩, hl, ?_⟩
  have st : ∀ s : ByteArray, str s.data.toList = s := fun s => rfl
  unfold refL
  simp only [st]
  have g0 := one_cell e0
  have g1 := one_cell e1
  have g2 := one_cell e2
  have g4 := one_cell e4
  apply List.ext_getElem?
  intro i
  by_cases i0 : i = 0
  · subst i0; rw [g0]; rfl
  · by_cases i1 : i = 1
    · subst i1; rw [g1]; rfl
    · by_cases i2 : i = 2
      · subst i2; rw [g2]; rfl
      · by_cases i3 : i < 35
        · have : ((cs.drop 3).take 32)[i - 3]? = cs[i]? := by
            rw [List.getElem?_take, if_pos (by omega), List.getElem?_drop]
            congr 1
            omega
          rw [← this, e3, List.getElem?_append_left (by simp [hl]; omega), List.getElem?_append_right (by simp; omega)]
          rfl
        · by_cases i4 : i = 35
          · subst i4
            rw [g4, List.getElem?_append_right (by simp [hl])]
            simp [hl]
          · rw [List.getElem?_eq_none (by omega), List.getElem?_eq_none (by simp [hl]; omega)]
theorem open_ref {v0 : Value} {d : DataW H} {p : List MemPlace} (h : DataW.Trod enc Tryd.prog W base sp held 26 v0 d p) : ∃ r : RR, r.dig.length = 32 ∧ v0 = .agg (refC r) := by
  obtain ⟨fuel, hf⟩ := h
  obtain ⟨r, hr, hc⟩ := open_refL hf
  refine ⟨r, hr, ?_⟩
  have h36 : (refL r).length = 36 := by unfold refL; simp [hr]
  cases v0 with
  | agg cs =>
    have : cs.toList = refL r := hc
    unfold refC
    rw [← this]
  | _ => rw [← hc] at h36; simp [Value.cells] at h36
end
theorem tell_walk (I : Impl) {H : Type} {enc : TypeId × Value → H} {base : Nat} {sp : Nat → Bool} {held : Bool} {d : DataW H} {p : List MemPlace} (v0 : Value) (W : World)
    (k0 : DataW.Trod enc Tryd.prog W base sp held 26 v0 d p) :
    Calls Tryd.prog 4 #[v0] W fun e w' => e = .returned (.bool true) ∧ Below W.heap.size W w' := by
  obtain ⟨r, hr, rfl⟩ := open_ref k0
  exact refsTell_any I r W hr
end Go.Proofs.YtldbfjcfobdkpaaDoor
