/- Merged: OhK, OcT. -/
import Derived.Test.YtnkencdibniagaaGreatDoorM46
import Derived.Test.YtnkencdibniagaaGreatDoorM18
import Derived.Lib.LaidTab
import Derived.Test.YtnkencdibniagaaGreatDoorRows
import Derived.ProofKit
import Derived.LaidMore
import Derived.LaidLaws
import Derived.LaidHandle
import Derived.Lib.LaidU8T
import Derived.Stop.LaidErr
import Derived.OpenShut
import Derived.Stop.Joined
/- Layer 13: OciPut, of what is handed in. -/
namespace Go.Proofs.YtnkencdibniagaaGreatDoor
open Go.RowKit Go.ChangeShapes Go.WideShapes Go.Deep

theorem rough_bytesP : Tryz.prog.bytesOf 46 = 96 := by kernel_rfl
/-- The roughs that come in, and how many they may be. -/
theorem open_sizedP {H : Type} {enc : TypeId × Value → H} {W : World} {base : Nat} {sp : Nat → Bool} {held : Bool} {d : DataW H} {p : List MemPlace} {a : Option Addr} {len cap : Nat}
    (k : DataW.Trod enc Tryz.prog W base sp held 47 (.slice a len cap) d p) (sz : ∀ el sp', d = .slice el sp' → (el.length + sp'.length) * Tryz.prog.bytesOf 46 ≤ reachBytes) :
    ∃ l : List RG, len = l.length ∧ RghsC W a l ∧ l.length * 96 ≤ 140737488351232 := by
  obtain ⟨fuel, hf⟩ := k
  obtain ⟨l, xp, cp, he, hR, _, hB⟩ := open_roughs hf
  obtain ⟨rfl, rfl, rfl⟩ := Value.slice.inj he
  refine ⟨l, rfl, hR, ?_⟩
  have := hB reachBytes (fun el sp' h => sz el sp' h)
  rw [rough_bytesP] at this
  exact this
theorem put_w {H : Type} {enc : TypeId × Value → H} {base base1 base2 : Nat} {sp sp1 sp2 : Nat → Bool} {held held1 held2 : Bool} {d d1 d2 : DataW H} {p p1 p2 : List MemPlace} (v0 : Value) (a1 : Option Addr) (len1 cap1 : Nat) (a2 : Option Addr) (len2 cap2 : Nat) (W : World)
    (k0 : DataW.Trod enc Tryz.prog W base sp held 46 v0 d p)
    (k1 : DataW.Trod enc Tryz.prog W base1 sp1 held1 47 (.slice a1 len1 cap1) d1 p1) (sz1 : ∀ el sp', d1 = .slice el sp' → (el.length + sp'.length) * Tryz.prog.bytesOf 46 ≤ reachBytes)
    (k2 : DataW.Trod enc Tryz.prog W base2 sp2 held2 37 (.slice a2 len2 cap2) d2 p2) (_sz2 : ∀ el sp', d2 = .slice el sp' → (el.length + sp'.length) * Tryz.prog.bytesOf 24 ≤ reachBytes) (hE : Env2 W) :
    Calls Tryz.prog 4 #[v0, .slice a1 len1 cap1, .slice a2 len2 cap2] W fun e w' => e = .returned (.bool true) ∧ Below W.heap.size W w' := by
  obtain ⟨r, hr, rfl⟩ := open_rough k0
  obtain ⟨l, rfl, hR, hl⟩ := open_sizedP k1 sz1
  obtain ⟨fuel, hf⟩ := k2
  obtain ⟨D, xp, cp, he, hD, _, _⟩ := open_digs hf
  obtain ⟨rfl, rfl, rfl⟩ := Value.slice.inj he
  exact ociput_any r hr l a1 cap1 D a2 cap2 W hE hl hR hD
end Go.Proofs.YtnkencdibniagaaGreatDoor

/- Layer 13: what the variables that start-up laid give. -/
namespace Go.Proofs.YtnkencdibniagaaGreatDoor
open Go.ChangeShapes Go.WideShapes Go.ChangeAt Go.WideElems Go.RowKit

theorem own : ownKnob Tryz.prog.godebug = none := by kernel_rfl
def laid2 : List (String × DataW Unit) := [("math/bits.deBruijn32tab", Rows.laid_math_bits_deBruijn32tab), ("math/bits.deBruijn64tab", Rows.laid_math_bits_deBruijn64tab), ("internal/strconv.uint64pow10", Rows.laid_internal_strconv_uint64pow10), ("unicode/utf8.acceptRanges", Rows.laid_unicode_utf8_acceptRanges), ("errors.errorType", Rows.laid_errors_errorType), ("strconv.ErrRange", Rows.laid_strconv_ErrRange), ("strconv.ErrSyntax", Rows.laid_strconv_ErrSyntax), ("lighter/json.words", Rows.laid_lighter_json_words), ("unicode/utf8.first", Rows.laid_unicode_utf8_first)]
def laidD : List (String × DataW Unit) := [("math/bits.deBruijn32tab", Rows.laid_math_bits_deBruijn32tab), ("math/bits.deBruijn64tab", Rows.laid_math_bits_deBruijn64tab), ("internal/strconv.uint64pow10", Rows.laid_internal_strconv_uint64pow10), ("unicode/utf8.acceptRanges", Rows.laid_unicode_utf8_acceptRanges), ("strconv.ErrRange", Rows.laid_strconv_ErrRange), ("strconv.ErrSyntax", Rows.laid_strconv_ErrSyntax), ("lighter/json.words", Rows.laid_lighter_json_words), ("unicode/utf8.first", Rows.laid_unicode_utf8_first)]
theorem row_err (u : TypeId) (h : Tryz.prog.typeName? 3 u = some "*errors.errorString") : u = 274 :=
  have star : "*" ++ "errors.errorString" = "*errors.errorString" := by decide
  typeName_ptr_named (nm := "errors.errorString") (by rw [star]; kernel_rfl) (by kernel_rfl) (by decide) u (by rw [star]; exact h)
theorem rt_err : (Tryz.prog.cutTypes.find? (·.1 == "internal/reflectlite.rtype")).map (·.2) = some 206 := by kernel_rfl
/-- A table of texts. -/
theorem table_str {H : Type} {enc : TypeId × Value → H} {P : Program} {w : World} {base fuel n : Nat} {spare : Nat → Bool} {held : Bool} {T e : TypeId} {cs : List Value} {q : List MemPlace} (hT : P.underlying T = some (.array n e)) (he : P.underlying e = some .string) (h1 : P.cellsOf e = 1)
    (L : List (List UInt8)) (hd : DataW.trod enc P w base spare held fuel T cs = some (.agg (L.map fun x => .lit (.string x)), q)) (j : Nat) (hj : j < L.length) : cs[j]? = some (.string (str (L.getD j []))) := by
  obtain ⟨xs, m, rfl, hx, hlen, hn, hel⟩ := DataW.trod_array hT hd
  simp only [Prod.mk.injEq, DataW.agg.injEq] at hx
  have hxl : xs.length = L.length := by have := congrArg List.length hx.1; simpa using this.symm
  have hg := hel j (by omega)
  rw [List.getElem?_eq_getElem (by omega)] at hg
  obtain ⟨s, e1, e2, _⟩ := DataW.trod_string he hg
  have hjx : j < xs.length := by omega
  have e3 : (xs[j]'hjx).1 = .lit (.string (L.getD j [])) := by
    have := congrArg (fun l => l[j]?) hx.1
    simp only [List.getElem?_map, List.getElem?_eq_getElem hj, List.getElem?_eq_getElem hjx, Option.map_some, Option.some.injEq] at this
    rw [← this, List.getD_eq_getElem?_getD, List.getElem?_eq_getElem hj]
    rfl
  rw [e2] at e3
  simp only [DataW.lit.injEq, Lit.string.injEq] at e3
  have e4 : s = str (L.getD j []) := bytes_toList (by rw [str_toList]; exact e3)
  rw [e4] at e1
  rw [h1, Nat.mul_one] at e1
  have := congrArg (fun l => l[0]?) e1
  simp only [List.getElem?_take, List.getElem?_drop, Nat.add_zero, List.getElem?_cons_zero] at this
  simpa using this
set_option maxRecDepth 100000 in
theorem laid_split {W : World} (h : laidMetH Tryz.prog laid2 W) : laidMet Tryz.prog laidD W ∧ handlesMet Tryz.prog [("errors.errorType", Rows.laid_errors_errorType)] W := h
theorem gWords : Tryz.prog.globalNamed "lighter/json.words" = some 1 := by kernel_rfl
theorem tWords : (Tryz.prog.globals[1]?).map (·.type) = some 179 := by kernel_rfl
theorem gTz : Tryz.prog.globalNamed "math/bits.deBruijn64tab" = some 9 := by kernel_rfl
theorem tTz : (Tryz.prog.globals[9]?).map (·.type) = some 278 := by kernel_rfl
theorem gErr : Tryz.prog.globalNamed "errors.errorType" = some 0 := by kernel_rfl
def tz64 : List Int := [0, 1, 56, 2, 57, 49, 28, 3, 61, 58, 42, 50, 38, 29, 17, 4, 62, 47, 59, 36, 45, 43, 51, 22, 53, 39, 33, 30, 24, 18, 12, 5, 63, 55, 48, 27, 60, 41, 37, 16, 46, 35, 44, 21, 52, 32, 23, 11, 54, 26, 40, 15, 34, 20, 31, 10, 25, 14, 19, 9, 13, 8, 7, 6]
/-- What the condition gives. -/
theorem env_of_laid {W : World} (h : laidMetH Tryz.prog laid2 W) : Env W := by
  obtain ⟨hd, hh⟩ := laid_split h
  have rw_ := Lib.laidMet.reads hd (n := "lighter/json.words") (d := Rows.laid_lighter_json_words) (.tail _ (.tail _ (.tail _ (.tail _ (.tail _ (.tail _ (.head _)))))))
  have rt_ := Lib.laidMet.reads hd (n := "math/bits.deBruijn64tab") (d := Rows.laid_math_bits_deBruijn64tab) (.tail _ (.head _))
  have ra_ := Lib.laidMet.reads hd (n := "unicode/utf8.acceptRanges") (d := Rows.laid_unicode_utf8_acceptRanges) (.tail _ (.tail _ (.tail _ (.head _))))
  have rf_ := Lib.laidMet.reads hd (n := "unicode/utf8.first") (d := Rows.laid_unicode_utf8_first) (.tail _ (.tail _ (.tail _ (.tail _ (.tail _ (.tail _ (.tail _ (.head _))))))))
  have e1 : Rows.laid_unicode_utf8_first = Lib.firstData := by kernel_rfl
  have e2 : (Rows.laid_unicode_utf8_acceptRanges : DataW Unit) = Lib.acceptData := by kernel_rfl
  rw [e1] at rf_
  rw [e2] at ra_
  have hU : Lib.Utf8Tabs 2 3 W :=
    utf8Tabs_of_readsT (ρ := Tryz.laysValid_ren) (U8Types.of196 Tryz.laysValid) ⟨by kernel_rfl, by kernel_rfl, by kernel_rfl, by kernel_rfl, by kernel_rfl, by kernel_rfl, by kernel_rfl⟩ rf_ ra_
  obtain ⟨a0, s0, hv0, _⟩ := laid_sentinel (g := 4) (ti := 122) (tp := 274) (te := 276) (ts := 9) hd.tail.tail.tail.tail.tail (by kernel_rfl) (by kernel_rfl) Tryz.underlying122 row_err Tryz.underlying274 Tryz.underlying276 rfl rfl Tryz.underlying9 (by kernel_rfl) (by kernel_rfl)
  have htz : W.cell? ⟨9, 15, none⟩ = some (.int .u8 4) := by
    obtain ⟨g, t, cs, fuel, p, h1, h2, h3, h4⟩ := rt_
    obtain rfl := Option.some.inj (gTz.symm.trans h1)
    obtain rfl := Option.some.inj (tTz.symm.trans h2)
    have hcs := Lib.cells_of_tab (zs := tz64) Tryz.underlying278 Tryz.underlying5 (by kernel_rfl) (by kernel_rfl) h4
    rw [World.var?_cell h1 h3 15, ← Array.getElem?_toList, hcs]
    rfl
  have hbig : 10 ≤ W.heap.size := World.block_lt_of_cell? W _ htz
  refine ⟨fun i hi => ?_, hU, ?_, ⟨_, _, hv0⟩, hbig, htz⟩
  · obtain ⟨g, t, cs, fuel, p, h1, h2, h3, h4⟩ := rw_
    obtain rfl := Option.some.inj (gWords.symm.trans h1)
    obtain rfl := Option.some.inj (tWords.symm.trans h2)
    have r := table_str Tryz.underlying179 Tryz.underlying9 (by kernel_rfl) [nullT, falseT, trueT] h4 i hi
    rw [World.var?_cell h1 h3 i, ← Array.getElem?_toList, r]
    match i, hi with
    | 0, _ => rfl
    | 1, _ => rfl
    | 2, _ => rfl
  · obtain ⟨name, u, ty, e1, e2, e3, e4, e5⟩ := hh _ (List.mem_singleton.2 rfl)
    have en : name = [101, 114, 114, 111, 114] := (Option.some.inj e1).symm
    subst en
    obtain rfl := Option.some.inj (rt_err.symm.trans e2)
    have one : ((List.range Tryz.prog.types.size).filter fun t => Tryz.prog.rowNamed t [101, 114, 114, 111, 114]) = [122] := by kernel_rfl
    have hm : ty ∈ (List.range Tryz.prog.types.size).filter fun t => Tryz.prog.rowNamed t [101, 114, 114, 111, 114] := List.mem_filter.2 ⟨List.mem_range.2 e3, e4⟩
    rw [one] at hm
    obtain rfl := List.mem_singleton.1 hm
    have hty : typeHandle Tryz.prog 122 = .pointer (some ⟨10, 122, none⟩) := by kernel_rfl
    rw [hty] at e5
    simpa using World.var?_cell gErr e5 0
/-- The door's own heap, with the library's great table laid. -/
noncomputable def startW (os : Os) : World :=
  let w0 := World.doorLaid Tryz.prog 400 os
  { w0 with heap := w0.heap.modify 2 fun
      | .cells _ t frozen => .cells (Go.Pinned.utf8FirstZ.map fun (z : Nat) => Value.int .u8 (z : Int)).toArray t frozen
      | o => o }
/-- It meets the condition. -/
theorem door_met (os : Os) (args : Array Value) : laidMetH Tryz.prog laid2 ((startW os).forCall (fun _ _ => 0) ⟨#[], args, []⟩).memory :=
  laidMetH_of_parts3 (fuel := 8) (laidMet_of_run' 8 (by kernel_rfl) (by kernel_rfl)) (by kernel_rfl) (by kernel_rfl)
set_option maxRecDepth 100000 in
theorem of_laid {W : World} (h : laidMetH Tryz.prog laid2 W) : Env2 W := by
  refine ⟨env_of_laid h, ?_, ?_⟩
  · obtain ⟨hd, _⟩ := laid_split h
    obtain ⟨a0, s0, hv0, _⟩ := laid_sentinel (g := 5) (ti := 122) (tp := 274) (te := 276) (ts := 9) hd.tail.tail.tail.tail (by kernel_rfl) (by kernel_rfl) Tryz.underlying122 row_err Tryz.underlying274 Tryz.underlying276 rfl rfl Tryz.underlying9 (by kernel_rfl) (by kernel_rfl)
    exact ⟨_, _, hv0⟩
  · obtain ⟨hd, _⟩ := laid_split h
    have h2 := hd.tail.tail
    have e : (Rows.laid_internal_strconv_uint64pow10 : DataW Unit) = Lib.tabData .u64 Lib.pow10Tab := by kernel_rfl
    rw [e] at h2
    exact Lib.tabIs_of_head (g := 6) (t := 269) (e := 225) (n := 20) (by kernel_rfl) (by kernel_rfl) Tryz.underlying269 Tryz.underlying225 (by kernel_rfl) (by kernel_rfl) h2
end Go.Proofs.YtnkencdibniagaaGreatDoor

