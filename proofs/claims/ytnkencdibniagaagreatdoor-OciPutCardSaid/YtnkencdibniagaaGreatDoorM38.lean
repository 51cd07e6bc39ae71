/- Merged: OfA, OfB, OfC. -/
import Derived.Test.YtnkencdibniagaaGreatDoorM37
import Derived.Deep.Slices
import Derived.Deep.Fields
import Derived.ChangeSame
import Derived.OpenShut
import Derived.ChangeArms
import Derived.SizedLaws
import Derived.ChangeKeysEq
/- Layer 13: what the statements hand in: descriptors in the rough, platforms, digests. -/
namespace Go.Proofs.YtnkencdibniagaaGreatDoor
open Go.RowKit Go.ChangeShapes Go.WideShapes Go.Deep

theorem all_bytesV : ∀ cs : List Value, (∀ v ∈ cs, ∃ b : UInt8, v = byteV b) → ∃ l : List UInt8, cs = l.map byteV
  | [], _ => ⟨[], rfl⟩
  | v :: r, h => by
    obtain ⟨b, rfl⟩ := h v (by simp)
    obtain ⟨l, rfl⟩ := all_bytesV r (fun u hu => h u (by simp [hu]))
    exact ⟨b :: l, rfl⟩
theorem rough_u8 {n : Int} (h : (Lit.int .u8 n).wf = true) : 0 ≤ n ∧ n ≤ 255 := by
  simp [Lit.wf, IntKind.min, IntKind.max, IntKind.signed, IntKind.bits] at h
  omega
theorem rough_i64 {n : Int} (h : (Lit.int .i64 n).wf = true) : -9223372036854775808 ≤ n ∧ n ≤ 9223372036854775807 := by
  simp [Lit.wf, IntKind.min, IntKind.max, IntKind.signed, IntKind.bits] at h
  omega
/-- A descriptor in the rough. -/
structure RG where
  num : Nat
  media : Bs
  dig : Bs
  size : Int
  os : Bs
  arch : Bs
instance : Inhabited RG := ⟨⟨0, [], [], 0, [], []⟩⟩
def RG.ok (r : RG) : Prop := r.num < 256 ∧ r.dig.length = 32 ∧ -9223372036854775808 ≤ r.size ∧ r.size ≤ 9223372036854775807
def encR (r : RG) : List Value := [.int .u8 (r.num : Int), .string (str r.media)] ++ r.dig.map byteV ++ [.int .i64 r.size, .string (str r.os), .string (str r.arch)]
theorem encR_len {r : RG} (h : r.ok) : (encR r).length = 37 := by unfold encR; simp [h.2.1]
def RghsC (w : World) (x : Option Addr) (l : List RG) : Prop := ∀ i r, l[i]? = some r → r.ok ∧ ∃ ad, x = some ad ∧ ad.block < w.heap.size ∧ ∀ j v, (encR r)[j]? = some v → w.cell? ((ad.add (i * 37)).add j) = some v
section
variable {H : Type} {enc : TypeId × Value → H} {W : World} {base : Nat} {sp : Nat → Bool} {held : Bool}
set_option maxRecDepth 100000 in
theorem open_byteL {fuel : Nat} {cs : List Value} {x : DataW H × List MemPlace} (h : DataW.trod enc Tryz.prog W base sp held fuel 24 cs = some x) : ∃ l : List UInt8, l.length = 32 ∧ cs = l.map byteV := by
  have he : Tryz.prog.cellsOf 5 = 1 := by kernel_rfl
  have hc : Tryz.prog.cellsOf 24 = 32 := by kernel_rfl
  obtain ⟨xs, m, _, _, hsz, hxs, hall⟩ := DataW.trod_array Tryz.underlying24 h
  rw [hc] at hsz
  have key : ∀ u ∈ cs, ∃ b : UInt8, u = byteV b := by
    intro u hu
    obtain ⟨i, hi, rfl⟩ := List.mem_iff_getElem.1 hu
    have h1 := hall i (by omega)
    rw [he, Nat.mul_one, List.getElem?_eq_getElem (by omega)] at h1
    obtain ⟨a, ha, _, hw⟩ := DataW.trod_int Tryz.underlying5 h1
    have e : (cs.drop i).take 1 = [cs[i]] := by
      rw [List.drop_eq_getElem_cons hi]; rfl
    rw [e] at ha
    have hb : 0 ≤ a ∧ a ≤ 255 := by
      simp [Lit.wf, IntKind.min, IntKind.max, IntKind.signed, IntKind.bits] at hw
      omega
    refine ⟨UInt8.ofNat a.toNat, ?_⟩
    rw [List.cons.inj ha |>.1, byteV_ofNat]
    congr 1
    omega
  obtain ⟨l, hl⟩ := all_bytesV cs key
  refine ⟨l, ?_, hl⟩
  have := congrArg List.length hl
  rw [List.length_map] at this
  omega
set_option maxRecDepth 100000 in
theorem open_platL {fuel : Nat} {cs : List Value} {x : DataW H × List MemPlace} (h : DataW.trod enc Tryz.prog W base sp held fuel 26 cs = some x) : ∃ p : Bs × Bs, cs = [.string (str p.1), .string (str p.2)] := by
  obtain ⟨xs, n, _, _, hlen, hx, hf⟩ := DataW.trod_struct Tryz.underlying26 h
  have hc : Tryz.prog.cellsOf 26 = 2 := by kernel_rfl
  have c1 : Tryz.prog.cellsOf 9 = 1 := by kernel_rfl
  rw [hc] at hlen
  replace hx : xs.length = 2 := hx
  match cs, hlen with
  | [v0, v1], _ =>
    have f0 : DataW.trod enc Tryz.prog W base sp held n 9 (([v0, v1].drop 0).take (Tryz.prog.cellsOf 9)) = xs[0]? := hf 0 _ rfl
    have f1 : DataW.trod enc Tryz.prog W base sp held n 9 (([v0, v1].drop 1).take (Tryz.prog.cellsOf 9)) = xs[1]? := hf 1 _ rfl
    rw [c1, List.getElem?_eq_getElem (by omega)] at f0 f1
    obtain ⟨s0, e0, _, _⟩ := DataW.trod_string Tryz.underlying9 f0
    obtain ⟨s1, e1, _, _⟩ := DataW.trod_string Tryz.underlying9 f1
    have e0' : v0 = .string s0 := (List.cons.inj e0).1
    have e1' : v1 = .string s1 := (List.cons.inj e1).1
    exact ⟨(s0.data.toList, s1.data.toList), by rw [e0', e1']; rfl⟩
set_option maxRecDepth 100000 in
theorem open_roughL {fuel : Nat} {cs : List Value} {x : DataW H × List MemPlace} (h : DataW.trod enc Tryz.prog W base sp held fuel 46 cs = some x) : ∃ r : RG, r.ok ∧ cs = encR r := by
  obtain ⟨xs, n, _, _, hlen, hx, hf⟩ := DataW.trod_struct Tryz.underlying46 h
  have hc : Tryz.prog.cellsOf 46 = 37 := by kernel_rfl
  have c0 : Tryz.prog.cellsOf 5 = 1 := by kernel_rfl
  have c1 : Tryz.prog.cellsOf 9 = 1 := by kernel_rfl
  have c2 : Tryz.prog.cellsOf 24 = 32 := by kernel_rfl
  have c3 : Tryz.prog.cellsOf 3 = 1 := by kernel_rfl
  have c4 : Tryz.prog.cellsOf 26 = 2 := by kernel_rfl
  rw [hc] at hlen
  replace hx : xs.length = 5 := hx
  have f0 : DataW.trod enc Tryz.prog W base sp held n 5 ((cs.drop 0).take (Tryz.prog.cellsOf 5)) = xs[0]? := hf 0 _ rfl
  have f1 : DataW.trod enc Tryz.prog W base sp held n 9 ((cs.drop 1).take (Tryz.prog.cellsOf 9)) = xs[1]? := hf 1 _ rfl
  have f2 : DataW.trod enc Tryz.prog W base sp held n 24 ((cs.drop 2).take (Tryz.prog.cellsOf 24)) = xs[2]? := hf 2 _ rfl
  have f3 : DataW.trod enc Tryz.prog W base sp held n 3 ((cs.drop 34).take (Tryz.prog.cellsOf 3)) = xs[3]? := hf 3 _ rfl
  have f4 : DataW.trod enc Tryz.prog W base sp held n 26 ((cs.drop 35).take (Tryz.prog.cellsOf 26)) = xs[4]? := hf 4 _ rfl
  rw [c0] at f0
  rw [c1] at f1
  rw [c2] at f2
  rw [c3] at f3
  rw [c4] at f4
  rw [List.getElem?_eq_getElem (by omega)] at f0 f1 f2 f3 f4
  obtain ⟨n0, e0, _, w0⟩ := DataW.trod_int Tryz.underlying5 f0
  obtain ⟨s1, e1, _, _⟩ := DataW.trod_string Tryz.underlying9 f1
  obtain ⟨l, hl, e2⟩ := open_byteL f2
  obtain ⟨n3, e3, _, w3⟩ := DataW.trod_int Tryz.underlying3 f3
  obtain ⟨p, e4⟩ := open_platL f4
  obtain ⟨b0, b1⟩ := rough_u8 w0
  obtain ⟨b2, b3⟩ := rough_i64 w3
  obtain ⟨m, rfl⟩ : ∃ m : Nat, n0 = m := ⟨n0.toNat, by omega⟩
  refine ⟨⟨m, s1.data.toList, l, n3, p.1, p.2⟩, ⟨show m < 256 by omega, hl, b2, b3⟩, ?_⟩
  have st : str s1.data.toList = s1 := rfl
  unfold encR
  simp only [st]
  have e5 : cs = (cs.drop 0).take 1 ++ ((cs.drop 1).take 1 ++ ((cs.drop 2).take 32 ++ ((cs.drop 34).take 1 ++ (cs.drop 35).take 2))) := by
    have t5 : (cs.drop 35).take 2 = cs.drop 35 := List.take_of_length_le (by rw [List.length_drop]; omega)
    have t4 : (cs.drop 34).take 1 ++ cs.drop 35 = cs.drop 34 := by
      have := List.take_append_drop 1 (cs.drop 34)
      rwa [List.drop_drop] at this
    have t3 : (cs.drop 2).take 32 ++ cs.drop 34 = cs.drop 2 := by
      have := List.take_append_drop 32 (cs.drop 2)
      rwa [List.drop_drop] at this
    have t2 : (cs.drop 1).take 1 ++ cs.drop 2 = cs.drop 1 := by
      have := List.take_append_drop 1 (cs.drop 1)
      rwa [List.drop_drop] at this
    have t1 : (cs.drop 0).take 1 ++ cs.drop 1 = cs := by
      have := List.take_append_drop 1 (cs.drop 0)
      rwa [List.drop_drop] at this
    rw [t5, t4, t3, t2, t1]
  rw [e5, e0, e1, e2, e3, e4]
  simp
theorem open_rough {v0 : Value} {d : DataW H} {p : List MemPlace} (h : DataW.Trod enc Tryz.prog W base sp held 46 v0 d p) : ∃ r : RG, r.ok ∧ v0 = .agg (encR r).toArray := by
  obtain ⟨fuel, hf⟩ := h
  obtain ⟨r, hr, hc⟩ := open_roughL hf
  refine ⟨r, hr, ?_⟩
  have h37 := encR_len hr
  cases v0 with
  | agg cs =>
    have : cs.toList = encR r := hc
    rw [← this]
  | _ => rw [← hc] at h37; simp [Value.cells] at h37
/-- A list of them that comes in. -/
theorem open_roughs {fuel : Nat} {v : Value} {x : DataW H × List MemPlace} (h : DataW.trod enc Tryz.prog W base sp held fuel 47 [v] = some x) :
    ∃ (l : List RG) (xp : Option Addr) (cp : Nat), v = .slice xp l.length cp ∧ RghsC W xp l ∧ l.length ≤ maxLen ∧ ∀ B : Nat, (∀ el sp, x.1 = .slice el sp → (el.length + sp.length) * Tryz.prog.bytesOf 46 ≤ B) → l.length * Tryz.prog.bytesOf 46 ≤ B := by
  have hc4 : Tryz.prog.cellsOf 46 = 37 := by kernel_rfl
  rcases open_slice Tryz.underlying47 h with ⟨hcs, _⟩ | ⟨a, len, cap, m, n, D, Pl, hcs, _, hl, hm, hmm, hdx, hx⟩
  · exact ⟨[], none, 0, (List.cons.inj hcs).1, (fun i p hi => by cases hi), Nat.zero_le _, (fun B _ => by rw [List.length_nil, Nat.zero_mul]; exact Nat.zero_le _)⟩
  · have hlm : len ≤ m := by rw [hmm]; split <;> omega
    rw [hc4] at hx
    have key : ∀ i, i < len → ∃ z : RG, z.ok ∧ a.block < W.heap.size ∧ ∀ j v, (encR z)[j]? = some v → W.cell? ((a.add (i * 37)).add j) = some v := by
      intro i hi
      obtain ⟨cs', h1, h2⟩ := hx i (by omega)
      obtain ⟨_, h3, hat⟩ := World.cells?_some h1
      obtain ⟨r, hr, rfl⟩ := open_roughL h2
      have q0 := hat 0 (by decide)
      rw [Addr.add_zero'] at q0
      have hb := World.block_lt_of_cell? W _ (q0.trans (List.getElem?_eq_getElem (by rw [encR_len hr]; decide)))
      rw [add_block] at hb
      refine ⟨r, hr, hb, fun j v hj => ?_⟩
      have hj4 : j < 37 := by have := (List.getElem?_eq_some_iff.1 hj).1; rwa [encR_len hr] at this
      exact (hat j hj4).trans hj
    obtain ⟨f, hf⟩ := choose_lt key
    have e1 : ((List.range len).map f).length = len := by rw [List.length_map, List.length_range]
    have e2 : v = .slice (some a) len cap := (List.cons.inj hcs).1
    refine ⟨(List.range len).map f, some a, cap, by rw [e1]; exact e2, fun i p hi => ?_, ?_, ?_⟩
    · have hlt : i < len := by
        have := (List.getElem?_eq_some_iff.1 hi).1
        rwa [e1] at this
      rw [List.getElem?_map, List.getElem?_range hlt] at hi
      obtain rfl : f i = p := Option.some.inj hi
      exact ⟨(hf i hlt).1, a, rfl, (hf i hlt).2.1, (hf i hlt).2.2⟩
    · rw [e1]
      omega
    · intro B hB
      have := hB _ _ (by rw [hdx])
      rw [List.length_map, List.length_range, List.length_map, List.length_range, Nat.add_mul] at this
      rw [e1]
      omega
/-- A list of digests that comes in. -/
theorem open_digs {fuel : Nat} {v : Value} {x : DataW H × List MemPlace} (h : DataW.trod enc Tryz.prog W base sp held fuel 37 [v] = some x) :
    ∃ (l : List Bs) (xp : Option Addr) (cp : Nat), v = .slice xp l.length cp ∧ eDigs.at_ W (fun k => k < W.heap.size) l v ∧ l.length ≤ maxLen ∧ ∀ d ∈ l, d.length = 32 := by
  have hc4 : Tryz.prog.cellsOf 24 = 32 := by kernel_rfl
  rcases open_slice Tryz.underlying37 h with ⟨hcs, _⟩ | ⟨a, len, cap, m, n, D, Pl, hcs, _, hl, hm, hmm, _, hx⟩
  · exact ⟨[], none, 0, (List.cons.inj hcs).1, .inl ⟨(List.cons.inj hcs).1, rfl⟩, Nat.zero_le _, (fun d hd => by cases hd)⟩
  · have hlm : len ≤ m := by rw [hmm]; split <;> omega
    rw [hc4] at hx
    have key : ∀ i, i < len → ∃ z : Bs, z.length = 32 ∧ a.block < W.heap.size ∧ ∀ j v, (z.map byteV)[j]? = some v → W.cell? ((a.add (i * 32)).add j) = some v := by
      intro i hi
      obtain ⟨cs', h1, h2⟩ := hx i (by omega)
      obtain ⟨_, h3, hat⟩ := World.cells?_some h1
      obtain ⟨r, hr, rfl⟩ := open_byteL h2
      have q0 := hat 0 (by decide)
      rw [Addr.add_zero'] at q0
      have hb := World.block_lt_of_cell? W _ (q0.trans (List.getElem?_eq_getElem (by rw [List.length_map, hr]; decide)))
      rw [add_block] at hb
      refine ⟨r, hr, hb, fun j v hj => ?_⟩
      have hj4 : j < 32 := by have := (List.getElem?_eq_some_iff.1 hj).1; rwa [List.length_map, hr] at this
      exact (hat j hj4).trans hj
    obtain ⟨f, hf⟩ := choose_lt key
    have e1 : ((List.range len).map f).length = len := by rw [List.length_map, List.length_range]
    have e2 : v = .slice (some a) len cap := (List.cons.inj hcs).1
    have hg : ∀ (i : Nat) (p : Bs), ((List.range len).map f)[i]? = some p → i < len ∧ f i = p := fun i p hi => by
      have hlt : i < len := by
        have := (List.getElem?_eq_some_iff.1 hi).1
        rwa [e1] at this
      rw [List.getElem?_map, List.getElem?_range hlt] at hi
      exact ⟨hlt, Option.some.inj hi⟩
    refine ⟨(List.range len).map f, some a, cap, by rw [e1]; exact e2, .inr ⟨a, cap, by rw [e1]; exact e2, fun i p hi => ?_⟩, ?_, fun d hd => ?_⟩
    · obtain ⟨hlt, rfl⟩ := hg i p hi
      refine ⟨(hf i hlt).2.1, (hf i hlt).1, fun j u hj => ?_⟩
      have hh := (hf i hlt).2.2 j u (by simpa [cells8] using hj)
      rw [add_add] at hh
      rwa [show 32 * i + j = i * 32 + j by omega]
    · rw [e1]
      omega
    · obtain ⟨i, hi⟩ := List.mem_iff_getElem?.1 hd
      obtain ⟨hlt, rfl⟩ := hg i d hi
      exact (hf i hlt).1
end
end Go.Proofs.YtnkencdibniagaaGreatDoor

/- Layer 13: two platforms, two descriptors; a descriptor copied; the one that is picked. -/
namespace Go.Proofs.YtnkencdibniagaaGreatDoor
open Go.RowKit

def eqPB (a b : Bs × Bs) : Bool := decide (a.1 = b.1) && decide (a.2 = b.2)
theorem fields_plat : (Tryz.prog.fieldsOf 26).toList = [⟨"OS", 9, 0, false, "", "", 0⟩, ⟨"Arch", 9, 1, false, "", "", 16⟩] := by kernel_rfl
theorem txt_eq (x y : List UInt8) : ((str x).toList == (str y).toList) = decide (x = y) := eq_texts x y
theorem eq_plat (w : World) (d : Nat) (a b : Bs × Bs) : (Op.equalIn (d + 2) 26 (.agg (encP a)) (.agg (encP b))).run Tryz.prog w = .ok (eqPB a b) w := by
  rw [run_equalIn_struct w (d + 1) _ _ _ (by kernel_rfl) (by kernel_rfl), fields_plat]
  have e1 (x y : List UInt8) (w : World) : (Op.equalIn (d + 1) 9 (.string (str x)) (.string (str y))).run Tryz.prog w = .ok (decide (x = y)) w := by
    rw [run_equalIn_string w d _ _ _ Tryz.underlying9, txt_eq]
  have p0 (q : Bs × Bs) (w : World) : (part 9 (encP q) 0).run Tryz.prog w = .ok (.string (str q.1)) w := run_part_plain w (by kernel_rfl) rfl
  have p1 (q : Bs × Bs) (w : World) : (part 9 (encP q) 1).run Tryz.prog w = .ok (.string (str q.2)) w := run_part_plain w (by kernel_rfl) rfl
  simp only [Op.eqFields, show ("OS" : String) ≠ "_" by decide, show ("Arch" : String) ≠ "_" by decide, ne_eq, not_false_eq_true, if_true, Sem.run_bind, Sem.run_ite, Sem.run_pure, p0, p1, Result.andThen_ok, e1]
  unfold eqPB
  by_cases h1 : a.1 = b.1 <;> by_cases h2 : a.2 = b.2 <;> simp [h1, h2]
theorem guard_plat : Tryz.prog.eqGuardType Tryz.prog.depth 26 = false := by kernel_rfl
theorem encD_get {d : DV} (h : d.dig.length = 32) : (encD d)[0]? = some (.string (str d.media)) ∧ (encD d)[33]? = some (.int .i64 d.size) ∧ (encD d)[34]? = some (.string (str d.os)) ∧ (encD d)[35]? = some (.string (str d.arch)) := by
  rw [encD_list]
  unfold encL
  refine ⟨rfl, ?_, ?_, ?_⟩
  · rw [List.getElem?_toArray, List.getElem?_append_right (by simp [h])]; simp [h]
  · rw [List.getElem?_toArray, List.getElem?_append_right (by simp [h])]; simp [h]
  · rw [List.getElem?_toArray, List.getElem?_append_right (by simp [h])]; simp [h]
theorem set_again {cs : Array Value} {i : Nat} {v : Value} (h : cs[i]? = some v) : cs.setIfInBounds i v = cs := by
  apply Array.ext_getElem?
  intro j
  rw [Array.getElem?_setIfInBounds]
  split
  · rename_i e
    subst e
    split
    · exact h.symm
    · rename_i h2
      rw [Array.getElem?_eq_none (by omega)]
  · rfl
theorem rowC_again {w : World} {b : Nat} {cs : Array Value} {t : TypeId} (h : rowC w b cs t) {i : Nat} {v : Value} (hv : cs[i]? = some v) : rowC (w.setCell ⟨b, i, none⟩ v) b cs t := by
  have := rowC_set h i v
  rwa [set_again hv] at this
/-- A part of a row is read, where a guard may stand ahead of it. -/
theorem wpList_load_midG {P : Program} {ops : Array Oper} {rest : List Oper} {op : Oper} {a : Act} {w : World} {Q : Exit → Act → World → Prop} (hw : Region.wanted op (yielded ops a.tmps) = true) (ty : TypeId) (x : Operand) (ho : op.op = .load ty x)
    (b o : Nat) (hx : a.eval x = .pointer (some ⟨b, o, none⟩)) (cs : List Value) (d : TypeDesc) (hc : w.rangeAt b o cs)
    (hu : P.underlying ty = some d) (hd : d.isRow = true) (hi : (P.info? ty).map (·.size) = some cs.length)
    (h : wpList P ops Q rest (a.put op.dst (.agg cs.toArray)) w) : wpList P ops Q (op :: rest) a w := by
  rw [wpList, if_pos hw]
  exact .inl (wp_load_mid ty x ho b o hx cs d hc hu hd hi h)
theorem desc_pla {w : World} {b : Nat} {d : DV} (hd : d.dig.length = 32) (h : rowC w b (encD d) 28) : w.rangeAt b 34 [.string (str d.os), .string (str d.arch)] :=
  rowC_range h 34 _ (fun j v hv => by
    match j, hv with
    | 0, hv => rw [(encD_get hd).2.2.1]; exact hv
    | 1, hv => rw [(encD_get hd).2.2.2]; exact hv)
end Go.Proofs.YtnkencdibniagaaGreatDoor

/- Layer 13: a descriptor copied; the one that is picked. -/
namespace Go.Proofs.YtnkencdibniagaaGreatDoor
open Go.RowKit

set_option maxRecDepth 100000 in
set_option maxHeartbeats 4000000 in
theorem oclone_any (d : DV) (w : World) (hd : goodD d) :
    Calls Tryz.prog 66 #[.agg (encD d)] w fun e w' => e = .returned (.agg (encD d)) ∧ Below w.heap.size w w' := by
  obtain ⟨W0, hW0⟩ : ∃ W0, W0 = (w.alloc (.cells (encD d) 28)).alloc (.cells (encD zeroD) 28) := ⟨_, rfl⟩
  have s1 : (w.alloc (.cells (encD d) 28)).heap.size = w.heap.size + 1 := size_alloc _ _
  have R0 : rowC W0 w.heap.size (encD d) 28 := by rw [hW0]; exact rowC_alloc (rowC_new _ _ _) _
  have Z0 : rowC W0 (w.heap.size + 1) (encD zeroD) 28 := by rw [hW0, ← s1]; exact rowC_new _ _ _
  have B0 : Below w.heap.size w W0 := by rw [hW0]; exact ((Below.refl _ _).alloc (Nat.le_refl _) _).alloc (by rw [s1]; omega) _
  have S0 : W0.heap.size = w.heap.size + 2 := by rw [hW0, size_alloc, s1]
  obtain ⟨g0, _, g34, g35⟩ := encD_get hd.1
  have C1 := fun w => clone_any (str d.media) w (by rw [str_size]; exact hd.2.1)
  have C2 := fun w => clone_any (str d.os) w (by rw [str_size]; exact hd.2.2.1)
  have C3 := fun w => clone_any (str d.arch) w (by rw [str_size]; exact hd.2.2.2)
  have q0 : W0.cell? ⟨w.heap.size, 0, none⟩ = some (.string (str d.media)) := by rw [rowC_cell R0]; exact g0
  have HG34 := Lib.hid g34
  have HG35 := Lib.hid g35
  have HG0 := Lib.hid g0
  have HW0 := Lib.hid hW0
  have HR0 := Lib.hid R0
  have HZ0 := Lib.hid Z0
  have HB0 := Lib.hid B0
  have HI := Lib.hid (show (Tryz.prog.info? 28).map (·.size) = some (encD d).size by rw [encD_size d hd]; exact info_D)
  have HSZ := Lib.hid (show (encD zeroD).size = (encD d).size by rw [encD_size d hd]; rfl)
  clear hW0 R0 Z0 B0 g0 g34 g35
  go_enter Tryz.func66, Tryz.ntmps66
  go_upto_region 1 with (fail)
  change Code.wp _ _ _ _ ((w.alloc (.cells (encD d) 28)).alloc (.cells (encD zeroD) 28))
  rw [← HW0.out]
  clear HW0
  -- the media type
  go_upto_region 2 with (go_at_call 97; (with_reducible refine (C1 _).mono ?_); rintro e w1 ⟨rfl, b1⟩; have R1 := rowC_below HR0.out b1 (by omega); have Z1 := rowC_below HZ0.out b1 (by omega); have t0 := rowC_cell R1 0; rw [HG0.out] at t0; have f0 := rowC_free R1 0; have HR1 := Lib.hid R1; have HZ1 := Lib.hid Z1; have HB1 := Lib.hid (HB0.out.trans (b1.mono (by omega))); have hs1 := b1.size; clear R1 Z1 b1)
  have HR1' := Lib.hid (rowC_again HR1.out HG0.out)
  have HZ1' := Lib.hid (rowC_other HZ1.out ⟨w.heap.size, 0, none⟩ (.string (str d.media)) (by show w.heap.size + 1 ≠ w.heap.size; omega))
  have HB1' := Lib.hid (HB1.out.setCell (p := ⟨w.heap.size, 0, none⟩) (Nat.le_refl _) (.string (str d.media)))
  have hs1' : (w1.setCell ⟨w.heap.size, 0, none⟩ (.string (str d.media))).heap.size = w1.heap.size := World.size_setCell _ _ _
  generalize w1.setCell ⟨w.heap.size, 0, none⟩ (.string (str d.media)) = v1 at *
  have q34 : v1.cell? ⟨w.heap.size, 34, none⟩ = some (.string (str d.os)) := by rw [rowC_cell HR1'.out]; exact HG34.out
  clear t0 f0 HR1 HZ1 HB1 q0
  -- the platform's two texts
  go_upto_region 3 with (go_at_call 97; (with_reducible refine (C2 _).mono ?_); rintro e w2 ⟨rfl, b2⟩; have R2 := rowC_below HR1'.out b2 (by omega); have Z2 := rowC_below HZ1'.out b2 (by omega); have t0 := rowC_cell R2 34; rw [HG34.out] at t0; have f0 := rowC_free R2 34; have HR2 := Lib.hid R2; have HZ2 := Lib.hid Z2; have HB2 := Lib.hid (HB1'.out.trans (b2.mono (by omega))); have hs2 := b2.size; clear R2 Z2 b2)
  have HR2' := Lib.hid (rowC_again HR2.out HG34.out)
  have HZ2' := Lib.hid (rowC_other HZ2.out ⟨w.heap.size, 34, none⟩ (.string (str d.os)) (by show w.heap.size + 1 ≠ w.heap.size; omega))
  have HB2' := Lib.hid (HB2.out.setCell (p := ⟨w.heap.size, 34, none⟩) (Nat.le_refl _) (.string (str d.os)))
  have hs2' : (w2.setCell ⟨w.heap.size, 34, none⟩ (.string (str d.os))).heap.size = w2.heap.size := World.size_setCell _ _ _
  generalize w2.setCell ⟨w.heap.size, 34, none⟩ (.string (str d.os)) = v2 at *
  have q35 : v2.cell? ⟨w.heap.size, 35, none⟩ = some (.string (str d.arch)) := by rw [rowC_cell HR2'.out]; exact HG35.out
  clear t0 f0 HR2 HZ2 HB2 q34
  go_upto_region 4 with (go_at_call 97; (with_reducible refine (C3 _).mono ?_); rintro e w3 ⟨rfl, b3⟩; have R3 := rowC_below HR2'.out b3 (by omega); have Z3 := rowC_below HZ2'.out b3 (by omega); have t0 := rowC_cell R3 35; rw [HG35.out] at t0; have f0 := rowC_free R3 35; have HR3 := Lib.hid R3; have HZ3 := Lib.hid Z3; have HB3 := Lib.hid (HB2'.out.trans (b3.mono (by omega))); have hs3 := b3.size; clear R3 Z3 b3)
  have HR3' := Lib.hid (rowC_again HR3.out HG35.out)
  have HZ3' := Lib.hid (rowC_other HZ3.out ⟨w.heap.size, 35, none⟩ (.string (str d.arch)) (by show w.heap.size + 1 ≠ w.heap.size; omega))
  have HB3' := Lib.hid (HB3.out.setCell (p := ⟨w.heap.size, 35, none⟩) (Nat.le_refl _) (.string (str d.arch)))
  generalize w3.setCell ⟨w.heap.size, 35, none⟩ (.string (str d.arch)) = v3 at *
  clear t0 f0 HR3 HZ3 HB3 q35
  go_wp2_with (first
    | ((with_reducible show wpList _ _ _ (⟨some 19, .load _ _, _, _, _, _⟩ :: _) _ _); refine wpList_load_row rfl 28 _ rfl w.heap.size rfl 28 (encD d) (0, 0) _ HR3'.out Tryz.underlying28 rfl HI.out ?_)
    | ((with_reducible show wpList _ _ _ (⟨none, .store _ (.tmp 2) _, _, _, _, _⟩ :: _) _ _); refine wpList_store_row rfl 28 _ _ rfl (w.heap.size + 1) (encD d) rfl rfl 28 _ HZ3'.out HI.out HSZ.out (encD_one _) ?_))
  refine bodyPost_ret (results_cell_row rfl _ _ (w.heap.size + 1) 28 (encD d) (0, 0) _ rfl (rowC_setRow HZ3'.out _) Tryz.underlying28 rfl HI.out) rfl ?_
  exact ⟨rfl, below_setRow HB3'.out (by omega) _⟩
end Go.Proofs.YtnkencdibniagaaGreatDoor

