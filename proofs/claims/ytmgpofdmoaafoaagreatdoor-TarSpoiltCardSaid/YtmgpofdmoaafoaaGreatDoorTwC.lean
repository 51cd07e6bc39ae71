/- Layer 15: TarSpoilt, of what is handed in. -/
import Derived.Test.YtmgpofdmoaafoaaGreatDoorTwB
namespace Go.Proofs.YtmgpofdmoaafoaaGreatDoor
open Go.RowKit Go.ChangeShapes Go.WideShapes Go.Deep

section
variable {H : Type} {enc : TypeId × Value → H} {W : World} {base : Nat} {sp : Nat → Bool} {held : Bool}
set_option maxRecDepth 100000 in
theorem open_u16x3 {v : Value} {d : DataW H} {p : List MemPlace} (h : DataW.Trod enc Tryz.prog W base sp held 24 v d p) : ∃ a b c : Nat, a < 65536 ∧ b < 65536 ∧ c < 65536 ∧ v = .agg #[.int .u16 (a : Int), .int .u16 (b : Int), .int .u16 (c : Int)] := by
  obtain ⟨fuel, hf⟩ := h
  have he : Tryz.prog.cellsOf 23 = 1 := by kernel_rfl
  have hc : Tryz.prog.cellsOf 24 = 3 := by kernel_rfl
  obtain ⟨xs, m, _, _, hsz, hxs, hall⟩ := DataW.trod_array Tryz.underlying24 hf
  rw [hc] at hsz
  have key : ∀ i (hi : i < v.cells.toList.length), ∃ n : Nat, n < 65536 ∧ v.cells.toList[i] = .int .u16 (n : Int) := by
    intro i hi
    have h1 := hall i (by omega)
    rw [he, Nat.mul_one, List.getElem?_eq_getElem (by omega)] at h1
    obtain ⟨a, ha, _, hw⟩ := DataW.trod_int Tryz.underlying23 h1
    have e : (v.cells.toList.drop i).take 1 = [v.cells.toList[i]] := by
      rw [List.drop_eq_getElem_cons hi]; rfl
    rw [e] at ha
    obtain ⟨b1, b2⟩ := boundsU16 hw
    exact ⟨a.toNat, by omega, by rw [List.cons.inj ha |>.1]; congr 1; omega⟩
  obtain ⟨a, ha, e0⟩ := key 0 (by omega)
  obtain ⟨b, hb, e1⟩ := key 1 (by omega)
  obtain ⟨c, hc3, e2⟩ := key 2 (by omega)
  refine ⟨a, b, c, ha, hb, hc3, ?_⟩
  cases v with
  | agg cs =>
    have hs : cs.toList = [.int .u16 (a : Int), .int .u16 (b : Int), .int .u16 (c : Int)] := by
      refine List.ext_getElem hsz fun i h1 h2 => ?_
      have : i = 0 ∨ i = 1 ∨ i = 2 := by simp at h2; omega
      rcases this with rfl | rfl | rfl
      · exact e0
      · exact e1
      · exact e2
    congr 1
    exact Array.toList_inj.1 hs
  | _ => simp [Value.cells] at hsz
end
theorem spoilt_w {H : Type} {enc : TypeId × Value → H} {base : Nat} {sp : Nat → Bool} {held : Bool} {d : DataW H} {p : List MemPlace} {d1 : DataW H} {p1 : List MemPlace} (a0 : Option Addr) (len0 cap0 : Nat) (v1 : Value) (W : World)
    (k0 : DataW.Trod enc Tryz.prog W base sp held 22 (.slice a0 len0 cap0) d p) (k1 : DataW.Trod enc Tryz.prog W base sp held 24 v1 d1 p1) (hE : EnvT W) :
    Calls Tryz.prog 3 #[.slice a0 len0 cap0, v1] W fun e w' => e = .returned (.bool true) ∧ Below W.heap.size W w' := by
  obtain ⟨a, b, c, ha, hb, hc, rfl⟩ := open_u16x3 k1
  obtain ⟨fuel, hf⟩ := k0
  obtain ⟨l, xp, cp, hv, hE2, hl⟩ := open_ents hf
  simp only [Value.slice.injEq] at hv
  obtain ⟨rfl, rfl, rfl⟩ := hv
  exact spoilt_any l a0 cap0 a b c ha hb hc hl W hE hE2
end Go.Proofs.YtmgpofdmoaafoaaGreatDoor
#print axioms Go.Proofs.YtmgpofdmoaafoaaGreatDoor.spoilt_w
