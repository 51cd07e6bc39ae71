/- Layer 4: the walk of ShaApart. -/
import Derived.Test.YtkjhfjibddcenaaDoorShaS
import Derived.Laws.IdiomStrings
namespace Go.Proofs.YtkjhfjibddcenaaDoor
open Go.RowKit
set_option linter.unusedSimpArgs false
attribute [local go_sem ↓] Go.wp_at_zero Go.wp_at_succ

/-- Bytes that stand in a row. -/
def BytesAt (w : World) (q : Nat) (l : List UInt8) : Prop := q < w.heap.size ∧ ∀ j, j < l.length → w.cell? ⟨q, j, none⟩ = some (byteV (l.getD j 0))
theorem BytesAt.below {w w' : World} {q : Nat} {l : List UInt8} (h : BytesAt w q l) (hb : Below w.heap.size w w') : BytesAt w' q l :=
  ⟨Nat.lt_of_lt_of_le h.1 hb.size, fun j hj => (hb.cell h.1).trans (h.2 j hj)⟩
theorem BytesAt.grown {w w' : World} {q p : Nat} {l : List UInt8} (h : BytesAt w q l) (hg : w.grownBy w' (some p)) (hne : q ≠ p) : BytesAt w' q l := by
  refine ⟨Nat.lt_of_lt_of_le h.1 hg.size, fun j hj => ?_⟩
  have hb := hg.block q h.1 (by simpa using hne)
  rw [← h.2 j hj]
  unfold World.cell?
  rw [hb]
/-- The memory: the hasher, a copy, the bytes. -/
structure ApM (W w : World) (p : Nat) (x : List UInt8) (c : Nat) (y : List UInt8) (q : Nat) (z : List UInt8) : Prop where
  m : PartM W w p x c y
  b : BytesAt w q z
  hq : W.heap.size ≤ q
  qp : q ≠ p
  qc : q ≠ c
theorem ApM.below {W w w' : World} {p c q : Nat} {x y z : List UInt8} (m : ApM W w p x c y q z) (hb : Below w.heap.size w w') : ApM W w' p x c y q z :=
  ⟨m.m.below hb, m.b.below hb, m.hq, m.qp, m.qc⟩
theorem ApM.drew {W w : World} {p c q : Nat} {x y z : List UInt8} (m : ApM W w p x c y q z) : ApM W w.drew p x c y q z :=
  ⟨m.m.drew, m.b, m.hq, m.qp, m.qc⟩
theorem ap_writec {W w : World} {p c q : Nat} {x y z : List UInt8} (m : ApM W w p x c y q z) (h2 : 2 ≤ W.heap.size) (s : ByteArray) (hb : y.length + s.size ≤ 1000000) :
    Calls Tryd.prog 12 #[.pointer (some ⟨c, 0, none⟩), .string s] w fun e w' => e = .returned (.int .i64 (s.size : Int)) ∧ ApM W w' p x c (y ++ s.data.toList) q z :=
  (write_any w c y s m.m.c m.m.l (Nat.le_trans h2 m.m.hc) hb).mono fun _ _ ⟨h1, hh, hg⟩ => ⟨h1, m.m.grownC h2 hg hh, m.b.grown hg m.qc, m.hq, m.qp, m.qc⟩
/-- '[]byte(s)', laid behind all else. -/
theorem ap_bytes {W w : World} {p c : Nat} {x y z : List UInt8} (m : PartM W w p x c y) (cap : Nat) (t : TypeId) (fr : Nat × Nat) :
    ApM W (w.drew.alloc (.cells (bytesRow (str z) cap) t fr)) p x c y w.heap.size z := by
  have hb : Below w.heap.size w (w.drew.alloc (.cells (bytesRow (str z) cap) t fr)) := ((Below.refl _ _).drew).alloc (Nat.le_refl _) _
  refine ⟨m.below hb, ⟨by simp, fun j hj => ?_⟩, m.nx.size, ?_, ?_⟩
  · have := World.cell?_alloc_mark w.drew (bytesRow (str z) cap) t fr j
    refine Eq.trans this ?_
    unfold bytesRow str byteV
    rw [Array.getElem?_append_left (by simpa using hj)]
    simp [List.getD, hj]
  · have := m.h.lt; omega
  · have := m.c.lt; omega
theorem ap_store {W w : World} {p c q : Nat} {x y z : List UInt8} (h2 : 2 ≤ W.heap.size) (m : ApM W w p x c y q z) {k : Nat} (hk : k < z.length) (u : UInt8) : ApM W (w.setCell ⟨q, k, none⟩ (byteV u)) p x c y q (z.set k u) := by
  have hg := grown_setCell w q k (byteV u)
  have hcs := m.b.2 k hk
  refine ⟨⟨m.m.h.grown hg (Ne.symm m.qp), m.m.c.grown hg (Ne.symm m.qc), m.m.l.grown (Nat.le_trans h2 m.hq) hg, below_grown m.m.nx hg m.m.nx.size m.hq, m.m.hp, m.m.hc, m.m.ne⟩, ⟨Nat.lt_of_lt_of_le m.b.1 hg.size, fun j hj => ?_⟩, m.hq, m.qp, m.qc⟩
  rw [List.length_set] at hj
  by_cases e : j = k
  · subst e
    rw [World.cell?_setCell_same _ _ _ hcs]
    simp [List.getD, hj]
  · rw [World.cell?_setCell_other _ _ _ _ (by simp <;> omega), m.b.2 j hj]
    simp [List.getD, List.getElem?_set_ne (Ne.symm e)]
theorem take_str (x : List UInt8) (m : Nat) : (str x).extract 0 m = str (x.take m) := by
  have h : ((str x).extract 0 m).data = (str (x.take m)).data := by rw [ByteArray.data_extract]; simp [str, List.take_eq_take_min]
  exact ByteArray.ext h
theorem xor_byte (a b : UInt8) : bits .xor .u8 (a.toNat : Int) (b.toNat : Int) = ((a ^^^ b).toNat : Int) := by
  have h1 : (BitVec.ofInt 8 (a.toNat : Int)).toNat = a.toNat := by
    rw [BitVec.ofInt_natCast, BitVec.toNat_ofNat]; exact Nat.mod_eq_of_lt (by have := a.toNat_lt; omega)
  have h2 : (BitVec.ofInt 8 (b.toNat : Int)).toNat = b.toNat := by
    rw [BitVec.ofInt_natCast, BitVec.toNat_ofNat]; exact Nat.mod_eq_of_lt (by have := b.toNat_lt; omega)
  have hx : a.toNat ^^^ b.toNat < 2 ^ 8 := Nat.xor_lt_two_pow (by have := a.toNat_lt; omega) (by have := b.toNat_lt; omega)
  show IntKind.u8.wrap ((BitVec.ofInt 8 (a.toNat : Int) ^^^ BitVec.ofInt 8 (b.toNat : Int)).toNat : Int) = _
  rw [BitVec.toNat_xor, h1, h2, UInt8.toNat_xor]
  simp [IntKind.wrap, IntKind.bits, IntKind.signed]
  omega
theorem wrap_succ {k : Nat} (h : k < 1000) : wrap64 ((k : Int) + 1) = ((k + 1 : Nat) : Int) := by rw [IntWalk.wrap64_in _ (by omega)]; omega
/-- '[]byte(s)' with what it lays as one. -/
theorem conv_bytes (l : List UInt8) (w : World) : ∃ cap t fr, (convert 9 40 (.string (str l))).run Tryd.prog w = .ok (.slice (some ⟨w.heap.size, 0, none⟩) l.length cap) (w.drew.alloc (.cells (bytesRow (str l) cap) t (fr, fr + 1))) ∧ fr = (bytesRow (str l) cap).size := by
  refine ⟨grownCap w l.length 0 5, 5, _, ?_, rfl⟩
  have := run_bytes_of_string (P := Tryd.prog) w 9 40 5 (str l) Tryd.underlying9 Tryd.underlying40 Tryd.underlying5
  rw [str_size] at this
  exact this

theorem conv_back {w : World} {q cap n : Nat} {z : List UInt8} (h : BytesAt w q z) (hn : z.length = n) : (convert 40 9 (.slice (some ⟨q, 0, none⟩) n cap)).run Tryd.prog w = .ok (.string (str z)) w := by
  subst hn
  refine run_convert_bytes_back (P := Tryd.prog) w 40 9 5 ⟨q, 0, none⟩ cap z Tryd.underlying40 Tryd.underlying5 Tryd.underlying9 (fun j hj => ?_)
  rw [Go.WideShapes.add_plain, Nat.zero_add, h.2 j hj]
  simp [byteV, List.getD, hj]
/-- The memory, and the digest beside it. -/
def ApD (W : World) (p : Nat) (x : List UInt8) (c : Nat) (y : List UInt8) (q : Nat) (z : List UInt8) (d : Nat) (D : List UInt8) (w : World) : Prop := ApM W w p x c y q z ∧ rowC w d (cells8 D) 24
theorem ApD.below {W w w' : World} {p c q d : Nat} {x y z D : List UInt8} (m : ApD W p x c y q z d D w) (hb : Below w.heap.size w w') : ApD W p x c y q z d D w' :=
  ⟨m.1.below hb, rowC_below m.2 hb (rowC_lt m.2)⟩
theorem apd_ref {W w : World} {p c q d : Nat} {x y z D u : List UInt8} (m : ApD W p x c y q z d D w) {V : Array Value} (hV : V = cells8 (hashL u)) (hb : u.length ≤ 1000000) :
    Calls Tryd.prog 9 #[.string (str u)] w fun e w' => e = .returned (.agg V) ∧ ApD W p x c y q z d D w' := by
  subst hV
  refine (rof_any (str u) w (by rw [str_size]; exact hb)).mono fun _ _ ⟨h1, hh⟩ => ⟨?_, m.below hh⟩
  rw [h1, str_toList]

theorem ap_sum {W w : World} {p c q : Nat} {x y z : List UInt8} (m : ApM W w p x c y q z) {V : Array Value} (hV : V = cells8 (hashL x)) (hb : x.length ≤ 900000) :
    Calls Tryd.prog 13 #[.pointer (some ⟨p, 0, none⟩)] w fun e w' => e = .returned (.agg V) ∧ ApM W w' p x c y q z := by
  subst hV
  exact (sum_any w p x m.m.h m.m.l hb).mono fun _ _ ⟨h1, hh⟩ => ⟨h1, m.below hh⟩
theorem ap_sumc {W w : World} {p c q : Nat} {x y z : List UInt8} (m : ApM W w p x c y q z) {V : Array Value} (hV : V = cells8 (hashL y)) (hb : y.length ≤ 900000) :
    Calls Tryd.prog 13 #[.pointer (some ⟨c, 0, none⟩)] w fun e w' => e = .returned (.agg V) ∧ ApM W w' p x c y q z := by
  subst hV
  exact (sum_any w c y m.m.c m.m.l hb).mono fun _ _ ⟨h1, hh⟩ => ⟨h1, m.below hh⟩
theorem ap_of {W w : World} {p c q : Nat} {x y z u : List UInt8} (m : ApM W w p x c y q z) {V : Array Value} (hV : V = cells8 (hashL u)) (hb : u.length ≤ 900000) :
    Calls Tryd.prog 8 #[.string (str u)] w fun e w' => e = .returned (.agg V) ∧ ApM W w' p x c y q z := by
  subst hV
  refine (of_any w (str u) m.m.l (by rw [str_size]; exact hb)).mono fun _ _ ⟨h1, hh⟩ => ⟨?_, m.below hh⟩
  rw [h1, str_toList]
theorem ap_hashed {W w : World} {p c q : Nat} {x y z : List UInt8} (m : ApM W w p x c y q z) :
    Calls Tryd.prog 7 #[] w fun e w' => e = .returned (.bool true) ∧ Below W.heap.size W w' :=
  (hashed_any w m.m.l).mono fun _ _ ⟨h1, hh⟩ => ⟨h1, m.m.nx.trans (hh.mono m.m.nx.size)⟩

set_option maxRecDepth 100000 in
set_option maxHeartbeats 4000000 in
theorem shaApart_walk (l : List UInt8) (at_ : Nat) (by_ : UInt8) (w : World) (ha : at_ < 65536) (h1 : 0 < l.length) (h2 : l.length ≤ 500) (h3 : by_ ≠ 0) (L : Laid w) :
    Calls Tryd.prog 6 #[.string (str l), .int .u16 (at_ : Int), byteV by_] w fun e w' => e = .returned (.bool true) ∧ Below w.heap.size w w' := by
  have hw2 := L.lt
  have HL := Lib.hid L
  clear L
  have szl : (str l).size = l.length := str_size l
  have hk : at_ % l.length < l.length := Nat.mod_lt _ h1
  obtain ⟨k, hkd⟩ : ∃ k, k = at_ % l.length := ⟨_, rfl⟩
  rw [← hkd] at hk
  have e1 : ((l.length : Int) == 0) = false := by rw [beq_eq_false_iff_ne]; omega
  have e2 : ((l.length : Int) > 500) = False := by simp; omega
  have e3 : ((by_.toNat : Int) == 0) = false := by simp; intro h; exact h3 (UInt8.toNat_inj.1 (by simpa using h))
  have ek : ((at_ : Int)) % (l.length : Int) = (k : Int) := by rw [hkd]; rfl
  have hkd' := hkd.symm
  have tk := take_str l k
  have dk : (str l).extract k l.length = str (l.drop k) := by have := drop_str l k; rwa [szl] at this
  have dk1 : (str l).extract (k + 1) l.length = str (l.drop (k + 1)) := by have := drop_str l (k + 1); rwa [szl] at this
  have st : (str (l.take k)).size ≤ 500 := by rw [str_size, List.length_take]; omega
  have sd : (str (l.drop k)).size ≤ 500 := by rw [str_size, List.length_drop]; omega
  have sd1 : (str (l.drop (k + 1))).size ≤ 500 := by rw [str_size, List.length_drop]; omega
  have st' : (l.take k).length ≤ 500 := by rw [List.length_take]; omega
  have ST := Lib.hid st
  have SD := Lib.hid sd
  have SD1 := Lib.hid sd1
  have ST' := Lib.hid st'
  have H2 := Lib.hid h2
  clear st sd sd1 st' hkd h1 h2 h3
  unfold byteV
  go_enter Tryd.func6, Tryd.ntmps6
  go_wp2_with (first
    | (go_at_call 10; ((with_reducible refine (new_any _ HL.out).mono ?_); rintro e w1 ⟨rfl, hh1, hb1⟩)))
  have l1 : Laid w1 := HL.out.below hb1 hw2
  obtain ⟨p, hp⟩ : ∃ p, p = w.heap.size := ⟨_, rfl⟩
  rw [← hp] at hh1 ⊢
  have hpw : w.heap.size ≤ p := by omega
  clear hp
  have gs1 := hb1.size
  refine (write_any w1 p [] (str (l.take k)) hh1 l1 (by omega) (by have := ST.out; simp; omega)).mono ?_
  rintro e w2 ⟨rfl, hh2, hg2⟩
  rw [List.nil_append, str_toList] at hh2
  have l2 := l1.grown (by omega) hg2
  have hb2 := below_grown hb1 hg2 gs1 hpw
  clear hh1 hb1 l1 hg2
  go_wp2_with (go_at_call 11; ((with_reducible refine (copy_any _ _ _ hh2).mono ?_); rintro e w3 ⟨rfl, hh3, hb3⟩))
  have hplt := hh2.lt
  obtain ⟨c, hc⟩ : ∃ c, c = w2.heap.size := ⟨_, rfl⟩
  rw [← hc] at hh3 ⊢
  have gs2 := hb2.size
  have m3 : PartM w w3 p (l.take k) c (l.take k) := ⟨hh2.below hb3 hplt, hh3, l2.below hb3 l2.lt, hb2.trans (hb3.mono gs2), hpw, by omega, by omega⟩
  clear hh2 hh3 hb2 hb3 l2 hplt hc gs2
  refine (part_write m3 hw2 (str (l.drop k)) (by have := SD.out; have := ST'.out; omega)).mono ?_
  rintro e w4 ⟨rfl, m4⟩
  rw [str_toList, List.take_append_drop] at m4
  clear m3
  obtain ⟨cap, tt, fr, hcv, hfr⟩ := conv_bytes l w4
  have a5 := ap_bytes (z := l) m4 cap tt (fr, fr + 1)
  have hfz : ∀ j, j < l.length → (w4.drew.alloc (.cells (bytesRow (str l) cap) tt (fr, fr + 1))).frozen? ⟨w4.heap.size, j, none⟩ = false := fun j hj => by
    refine Eq.trans (World.frozen?_alloc_mark w4.drew (bytesRow (str l) cap) tt fr (fr + 1) j) ?_
    rw [hfr]
    have : l.length ≤ (bytesRow (str l) cap).size := by unfold bytesRow str; simp
    simp; omega
  have hfz' := hfz k hk
  obtain ⟨q, hq⟩ : ∃ q, q = w4.heap.size := ⟨_, rfl⟩
  obtain ⟨w5, hw5⟩ : ∃ w5, w5 = w4.drew.alloc (.cells (bytesRow (str l) cap) tt (fr, fr + 1)) := ⟨_, rfl⟩
  rw [← hq, ← hw5] at hcv a5 hfz'
  have hc5 := a5.b.2 k hk
  clear hfr hfz hq hw5
  obtain ⟨u, hu⟩ : ∃ u, u = l.getD k 0 := ⟨_, rfl⟩
  rw [← hu] at hc5
  have hst := ap_store hw2 a5 hk (u ^^^ by_)
  unfold byteV at hc5
  have HU := Lib.hid hu
  have wk := wrap_succ (k := k) (by have := H2.out; omega)
  have wk0 : (0 : Int) ≤ ((k + 1 : Nat) : Int) := by omega
  have wk1 : ((k + 1 : Nat) : Int) ≤ (l.length : Int) := by omega
  have hxo := xor_byte u by_
  obtain ⟨v, hv⟩ : ∃ v, v = u ^^^ by_ := ⟨_, rfl⟩
  rw [← hv] at hxo hst
  unfold byteV at hst
  have HST := Lib.hid hst
  have HV := Lib.hid hv
  obtain ⟨D, hD⟩ : ∃ D, D = hashL l := ⟨_, rfl⟩
  have CR : ∀ w', Calls Tryd.prog 9 #[.string (str l)] w' fun e w'' => e = .returned (.agg (cells8 D)) ∧ Below w'.heap.size w' w'' := fun w' => by
    have := rof_any (str l) w' (by have := H2.out; rw [str_size]; omega)
    rw [str_toList] at this
    rw [hD]; exact this
  have HD := Lib.hid hD
  have hDl : (cells8 D).size = 32 := by rw [cells8_size, hD, hashL_length]
  have hi : (Tryd.prog.info? 24).map (·.size) = some (cells8 D).size := by rw [hDl]; kernel_rfl
  have HI := Lib.hid hi
  have HDl := Lib.hid hDl
  clear hst hu a5 hv hD hi hDl
  go_wp2_with (first
    | (go_at_call 12; ((with_reducible refine (ap_writec HST.out hw2 _ (by have := SD1.out; have := ST'.out; omega)).mono ?_); rintro e w7 ⟨rfl, m7⟩; rw [str_toList] at m7))
    | (go_at_call 9; ((with_reducible refine (CR _).mono ?_); rintro e w8 ⟨rfl, hb8⟩))
    | (refine wpList_store_last rfl 24 _ _ rfl w8.heap.size (cells8 D) rfl rfl 24 _ rfl HI.out (by rw [HDl.out]; rfl) (cells8_one _) ?_))
  have m9 : ApM w (w8.alloc (.cells (cells8 D) 24)) p l c (l.take k ++ l.drop (k + 1)) q (l.set k v) := (m7.below hb8).below ((Below.refl _ _).alloc (Nat.le_refl _) _)
  have d9 : ApD w p l c (l.take k ++ l.drop (k + 1)) q (l.set k v) w8.heap.size D (w8.alloc (.cells (cells8 D) 24)) := ⟨m9, rowC_new _ _ _⟩
  obtain ⟨d, hd⟩ : ∃ d, d = w8.heap.size := ⟨_, rfl⟩
  rw [← hd] at d9 ⊢
  generalize w8.alloc (.cells (cells8 D) 24) = w9 at *
  obtain ⟨z, hz⟩ : ∃ z, z = l.set k v := ⟨_, rfl⟩
  obtain ⟨y, hy⟩ : ∃ y, y = l.take k ++ l.drop (k + 1) := ⟨_, rfl⟩
  rw [← hz, ← hy] at d9
  have zl : z.length = l.length := by rw [hz, List.length_set]
  have yl : y.length + 1 = l.length := by rw [hy, List.length_append, List.length_take, List.length_drop]; omega
  have yz : str (l.take k) ++ str (l.drop (k + 1)) = str y := by rw [str_append, hy]
  have hA : (D.map byteV).length = 32 := by rw [List.length_map, HD.out, hashL_length]
  obtain ⟨NL, hNL⟩ : ∃ NL, NL = D.map byteV := ⟨_, rfl⟩
  obtain ⟨Vz, hVz⟩ : ∃ V, V = cells8 (hashL z) := ⟨_, rfl⟩
  obtain ⟨Vy, hVy⟩ : ∃ V, V = cells8 (hashL y) := ⟨_, rfl⟩
  have hiN : (Tryd.prog.info? 24).map (·.size) = some NL.length := by rw [hNL, hA]; kernel_rfl
  have hD := HD.out
  have q1 : ∀ w, (Op.equalIn 10000 24 (.agg NL.toArray) (.agg Vz)).run Tryd.prog w = .ok (decide (hashL l = hashL z)) w := fun w => by
    rw [hVz, hNL, hD]; exact eq_digest w 9998 (hashL_length _) (hashL_length _)
  have q2 : ∀ w, (Op.equalIn 10000 24 (.agg NL.toArray) (.agg Vy)).run Tryd.prog w = .ok (decide (hashL l = hashL y)) w := fun w => by
    rw [hVy, hNL, hD]; exact eq_digest w 9998 (hashL_length _) (hashL_length _)
  have gd := guard_digest
  have hu := Tryd.underlying24
  have CV : ∀ w', ApD w p l c y q z d D w' → (convert 40 9 (.slice (some ⟨q, 0, none⟩) l.length cap)).run Tryd.prog w' = .ok (.string (str z)) w' := fun w' m => conv_back m.1.b zl
  have CRz : ∀ w', ApD w p l c y q z d D w' → Calls Tryd.prog 9 #[.string (str z)] w' fun e w'' => e = .returned (.agg Vz) ∧ ApD w p l c y q z d D w'' := fun w' m => apd_ref m hVz (by have := H2.out; omega)
  have CRy : ∀ w', ApD w p l c y q z d D w' → Calls Tryd.prog 9 #[.string (str y)] w' fun e w'' => e = .returned (.agg Vy) ∧ ApD w p l c y q z d D w'' := fun w' m => apd_ref m hVy (by have := H2.out; omega)
  have RD : ∀ w', ApD w p l c y q z d D w' → w'.rangeAt d 0 NL := fun w' m => by rw [hNL]; exact range_row m.2
  obtain ⟨S, hS⟩ : ∃ S, S = ApD w p l c y q z d D := ⟨_, rfl⟩
  have SO : ∀ w', ApD w p l c y q z d D w' → S w' := fun w' m => by rw [hS]; exact m
  have OS : ∀ w', S w' → ApD w p l c y q z d D w' ∧ w'.rangeAt d 0 NL := fun w' m => by rw [hS] at m; exact ⟨m, RD w' m⟩
  have CV : ∀ w', S w' → (convert 40 9 (.slice (some ⟨q, 0, none⟩) l.length cap)).run Tryd.prog w' = .ok (.string (str z)) w' := fun w' m => CV w' (OS w' m).1
  have md : ApD w p l c y q z d D w9.drew := ⟨d9.1.drew, rowC_drew d9.2⟩
  have HNL := Lib.hid hNL
  have HVz := Lib.hid hVz
  have HVy := Lib.hid hVy
  have HZ := Lib.hid hz
  have HY := Lib.hid hy
  have ZL := Lib.hid zl
  have YL := Lib.hid yl
  clear hd hS hNL hVz hVy hz hy zl yl RD hD hA CR hcv hfz' hc5 e1 e2 e3 ek hb8 m7 m9 m4
  have hkl := Nat.le_of_lt hk
  have wki : IntKind.i64.wrap ((k : Int) + 1) = ((k + 1 : Nat) : Int) := (IntWalk.i64_left _).trans wk
  have c13 : 0 ≤ IntKind.i64.wrap ((k : Int) + 1) ∧ IntKind.i64.wrap ((k : Int) + 1) ≤ (l.length : Int) := by rw [wki]; exact ⟨wk0, wk1⟩
  have x13 : (str l).extract (IntKind.i64.wrap ((k : Int) + 1)).toNat l.length = str (l.drop (k + 1)) := by rw [wki, Int.toNat_natCast]; exact dk1
  clear wki wk0 wk1 wk
  by_cases hb : hashL l = hashL z
  · rw [decide_eq_true hb] at q1
    refine wp_region_noPanic ?_
    refine wp_region_held_drew (S := S) (by kernel_rfl) (SO _ md) (fun hHeld => ?_)
    refine wpAnyH_take (i := 1) (oi := { dst := some 63, op := Op.move (Operand.tmp 10), type := 40, pos := "outright.go:24", after := #[], guard := none }) (v := ?_) rfl (by kernel_rfl) (by kernel_rfl) (by kernel_rfl) (fun _ _ _ h => h) (Or.inl ⟨by rfl, ?_⟩) (by assumption) ?_
    rotate_left
    · intro w hSw
      skip
      clear hSw
      go_simp
      try with_reducible rfl
    try simp only [Act.put, List.setIfInBounds_toArray, List.set_cons_zero, List.set_cons_succ]
    refine wpAnyH_take (i := 2) (oi := { dst := some 64, op := Op.convert 40 9 (Operand.tmp 63), type := 9, pos := "outright.go:24", after := #[{ on := 1, ground := Ground.data }], guard := none }) (v := ?_) rfl (by kernel_rfl) (by kernel_rfl) (by kernel_rfl) (fun _ _ _ h => h) (Or.inl ⟨by rfl, ?_⟩) (by assumption) ?_
    rotate_left
    · intro w hSw
      have hcv := CV _ hSw
      clear hSw
      go_simp
      try with_reducible rfl
    try simp only [Act.put, List.setIfInBounds_toArray, List.set_cons_zero, List.set_cons_succ]
    refine wpAnyH_take (i := 0) (oi := { dst := some 62, op := Op.load 24 (Operand.tmp 11), type := 24, pos := "outright.go:24", after := #[], guard := none }) (v := _) rfl (by kernel_rfl) (by kernel_rfl) (by kernel_rfl) (fun _ _ _ h => h) (yieldsIf_load_mid (by rfl) _ _ rfl _ _ rfl _ _ (by intro w hSw; have hSw := OS _ hSw; go_split_ands; assumption) (by assumption) rfl (by assumption)) (by assumption) ?_
    try simp only [Act.put, List.setIfInBounds_toArray, List.set_cons_zero, List.set_cons_succ]
    refine wpAnyH_ready (rs := [3]) (by kernel_rfl) (by simp) ?_
    refine AllReadyH.cons (o := { dst := some 65, op := Op.call { callee := Callee.value (Operand.func 9), args := #[Operand.tmp 64], argTypes := #[9] }, type := 24, pos := "outright.go:24", after := #[{ on := 2, ground := Ground.data }], guard := none }) rfl (fun K hK => ?_) AllReadyH.nil
    go_simp
    refine (CRz _ (by assumption)).mono ?_
    rintro e w3' ⟨rfl, m3'⟩
    refine hK.out _ _ (SO _ (by assumption)) (fun hHeld => ?_)
    clear hK K
    try simp only [Act.put, List.setIfInBounds_toArray, List.set_cons_zero, List.set_cons_succ]
    refine wpAnyH_take (i := 4) (oi := { dst := some 66, op := Op.binOp BinOp.eql 24 (Operand.tmp 62) (Operand.tmp 65) 24, type := 4, pos := "outright.go:24", after := #[{ on := 0, ground := Ground.data }, { on := 3, ground := Ground.data }], guard := none }) (v := ?_) rfl (by kernel_rfl) (by kernel_rfl) (by kernel_rfl) (fun _ _ _ h => h) (Or.inl ⟨by rfl, ?_⟩) (by assumption) ?_
    rotate_left
    · intro w hSw
      skip
      clear hSw
      go_simp
      try with_reducible rfl
    try simp only [Act.put, List.setIfInBounds_toArray, List.set_cons_zero, List.set_cons_succ]
    refine wpAnyH_take (i := 5) (oi := { dst := some 67, op := Op.move (Operand.tmp 66), type := 4, pos := "outright.go:24", after := #[{ on := 4, ground := Ground.data }, { on := 3, ground := Ground.chain }], guard := none }) (v := ?_) rfl (by kernel_rfl) (by kernel_rfl) (by kernel_rfl) (fun _ _ _ h => h) (Or.inl ⟨by rfl, ?_⟩) (by assumption) ?_
    rotate_left
    · intro w hSw
      skip
      clear hSw
      go_simp
      try with_reducible rfl
    try simp only [Act.put, List.setIfInBounds_toArray, List.set_cons_zero, List.set_cons_succ]
    refine wpAnyH_take (i := 6) (oi := { dst := some 68, op := Op.load 24 (Operand.tmp 11), type := 24, pos := "outright.go:24", after := #[{ on := 5, ground := Ground.guard }], guard := some (5, false) }) (v := undef) rfl (by kernel_rfl) (by kernel_rfl) (by kernel_rfl) (fun _ _ _ h => h) (Or.inr ⟨by rfl, rfl⟩) (by assumption) ?_
    try simp only [Act.put, List.setIfInBounds_toArray, List.set_cons_zero, List.set_cons_succ]
    refine wpAnyH_take (i := 7) (oi := { dst := some 69, op := Op.move (Operand.tmp 0), type := 9, pos := "outright.go:24", after := #[{ on := 5, ground := Ground.guard }], guard := some (5, false) }) (v := undef) rfl (by kernel_rfl) (by kernel_rfl) (by kernel_rfl) (fun _ _ _ h => h) (Or.inr ⟨by rfl, rfl⟩) (by assumption) ?_
    try simp only [Act.put, List.setIfInBounds_toArray, List.set_cons_zero, List.set_cons_succ]
    refine wpAnyH_take (i := 8) (oi := { dst := some 70, op := Op.move (Operand.tmp 7), type := 3, pos := "outright.go:24", after := #[{ on := 5, ground := Ground.guard }], guard := some (5, false) }) (v := undef) rfl (by kernel_rfl) (by kernel_rfl) (by kernel_rfl) (fun _ _ _ h => h) (Or.inr ⟨by rfl, rfl⟩) (by assumption) ?_
    try simp only [Act.put, List.setIfInBounds_toArray, List.set_cons_zero, List.set_cons_succ]
    refine wpAnyH_take (i := 9) (oi := { dst := some 71, op := Op.slice 9 (Operand.tmp 69) none (some (Operand.tmp 70)) none, type := 9, pos := "outright.go:24", after := #[{ on := 7, ground := Ground.data }, { on := 8, ground := Ground.data }, { on := 5, ground := Ground.guard }], guard := some (5, false) }) (v := undef) rfl (by kernel_rfl) (by kernel_rfl) (by kernel_rfl) (fun _ _ _ h => h) (Or.inr ⟨by rfl, rfl⟩) (by assumption) ?_
    try simp only [Act.put, List.setIfInBounds_toArray, List.set_cons_zero, List.set_cons_succ]
    refine wpAnyH_take (i := 10) (oi := { dst := some 72, op := Op.move (Operand.tmp 0), type := 9, pos := "outright.go:24", after := #[{ on := 5, ground := Ground.guard }], guard := some (5, false) }) (v := undef) rfl (by kernel_rfl) (by kernel_rfl) (by kernel_rfl) (fun _ _ _ h => h) (Or.inr ⟨by rfl, rfl⟩) (by assumption) ?_
    try simp only [Act.put, List.setIfInBounds_toArray, List.set_cons_zero, List.set_cons_succ]
    refine wpAnyH_take (i := 11) (oi := { dst := some 73, op := Op.move (Operand.tmp 7), type := 3, pos := "outright.go:24", after := #[{ on := 5, ground := Ground.guard }], guard := some (5, false) }) (v := undef) rfl (by kernel_rfl) (by kernel_rfl) (by kernel_rfl) (fun _ _ _ h => h) (Or.inr ⟨by rfl, rfl⟩) (by assumption) ?_
    try simp only [Act.put, List.setIfInBounds_toArray, List.set_cons_zero, List.set_cons_succ]
    refine wpAnyH_take (i := 12) (oi := { dst := some 74, op := Op.binOp BinOp.add 3 (Operand.tmp 73) (Operand.const (Value.int IntKind.i64 1)) 3, type := 3, pos := "outright.go:24", after := #[{ on := 11, ground := Ground.data }, { on := 5, ground := Ground.guard }], guard := some (5, false) }) (v := undef) rfl (by kernel_rfl) (by kernel_rfl) (by kernel_rfl) (fun _ _ _ h => h) (Or.inr ⟨by rfl, rfl⟩) (by assumption) ?_
    try simp only [Act.put, List.setIfInBounds_toArray, List.set_cons_zero, List.set_cons_succ]
    refine wpAnyH_take (i := 13) (oi := { dst := some 75, op := Op.slice 9 (Operand.tmp 72) (some (Operand.tmp 74)) none none, type := 9, pos := "outright.go:24", after := #[{ on := 10, ground := Ground.data }, { on := 12, ground := Ground.data }, { on := 5, ground := Ground.guard }], guard := some (5, false) }) (v := undef) rfl (by kernel_rfl) (by kernel_rfl) (by kernel_rfl) (fun _ _ _ h => h) (Or.inr ⟨by rfl, rfl⟩) (by assumption) ?_
    try simp only [Act.put, List.setIfInBounds_toArray, List.set_cons_zero, List.set_cons_succ]
    refine wpAnyH_take (i := 14) (oi := { dst := some 76, op := Op.binOp BinOp.add 9 (Operand.tmp 71) (Operand.tmp 75) 9, type := 9, pos := "outright.go:24", after := #[{ on := 9, ground := Ground.data }, { on := 13, ground := Ground.data }, { on := 5, ground := Ground.guard }], guard := some (5, false) }) (v := undef) rfl (by kernel_rfl) (by kernel_rfl) (by kernel_rfl) (fun _ _ _ h => h) (Or.inr ⟨by rfl, rfl⟩) (by assumption) ?_
    try simp only [Act.put, List.setIfInBounds_toArray, List.set_cons_zero, List.set_cons_succ]
    refine wpAnyH_take (i := 15) (oi := { dst := some 77, op := Op.call { callee := Callee.value (Operand.func 9), args := #[Operand.tmp 76], argTypes := #[9] }, type := 24, pos := "outright.go:24", after := #[{ on := 14, ground := Ground.data }, { on := 5, ground := Ground.chain }, { on := 5, ground := Ground.guard }], guard := some (5, false) }) (v := undef) rfl (by kernel_rfl) (by kernel_rfl) (by kernel_rfl) (fun _ _ _ h => h) (Or.inr ⟨by rfl, rfl⟩) (by assumption) ?_
    try simp only [Act.put, List.setIfInBounds_toArray, List.set_cons_zero, List.set_cons_succ]
    refine wpAnyH_take (i := 16) (oi := { dst := some 78, op := Op.binOp BinOp.eql 24 (Operand.tmp 68) (Operand.tmp 77) 24, type := 4, pos := "outright.go:24", after := #[{ on := 6, ground := Ground.data }, { on := 15, ground := Ground.data }, { on := 5, ground := Ground.guard }], guard := some (5, false) }) (v := undef) rfl (by kernel_rfl) (by kernel_rfl) (by kernel_rfl) (fun _ _ _ h => h) (Or.inr ⟨by rfl, rfl⟩) (by assumption) ?_
    try simp only [Act.put, List.setIfInBounds_toArray, List.set_cons_zero, List.set_cons_succ]
    refine wpAnyH_take (i := 17) (oi := { dst := some 79, op := Op.pick (Operand.tmp 67) (Operand.const (Value.bool true)) (Operand.tmp 78), type := 4, pos := "outright.go:24", after := #[{ on := 5, ground := Ground.data }, { on := 16, ground := Ground.data }], guard := none }) (v := ?_) rfl (by kernel_rfl) (by kernel_rfl) (by kernel_rfl) (fun _ _ _ h => h) (Or.inl ⟨by rfl, ?_⟩) (by assumption) ?_
    rotate_left
    · intro w hSw
      skip
      clear hSw
      go_simp
      try with_reducible rfl
    try simp only [Act.put, List.setIfInBounds_toArray, List.set_cons_zero, List.set_cons_succ]
    refine wpAnyH_done (by kernel_rfl) ?_ _
    refine NoPanic.normal ?_
    have mm := m3'.1
    go_wp2_with (go_at_call 7; ((with_reducible refine (ap_hashed mm).mono ?_); rintro e w10 ⟨rfl, hb10⟩))
    go_ret
    exact ⟨rfl, hb10⟩
  · rw [decide_eq_false hb] at q1
    by_cases hb2 : hashL l = hashL y
    · rw [decide_eq_true hb2] at q2
      refine wp_region_noPanic ?_
      refine wp_region_held_drew (S := S) (by kernel_rfl) (SO _ md) (fun hHeld => ?_)
      refine wpAnyH_take (i := 1) (oi := { dst := some 63, op := Op.move (Operand.tmp 10), type := 40, pos := "outright.go:24", after := #[], guard := none }) (v := ?_) rfl (by kernel_rfl) (by kernel_rfl) (by kernel_rfl) (fun _ _ _ h => h) (Or.inl ⟨by rfl, ?_⟩) (by assumption) ?_
      rotate_left
      · intro w hSw
        skip
        clear hSw
        go_simp
        try with_reducible rfl
      try simp only [Act.put, List.setIfInBounds_toArray, List.set_cons_zero, List.set_cons_succ]
      refine wpAnyH_take (i := 2) (oi := { dst := some 64, op := Op.convert 40 9 (Operand.tmp 63), type := 9, pos := "outright.go:24", after := #[{ on := 1, ground := Ground.data }], guard := none }) (v := ?_) rfl (by kernel_rfl) (by kernel_rfl) (by kernel_rfl) (fun _ _ _ h => h) (Or.inl ⟨by rfl, ?_⟩) (by assumption) ?_
      rotate_left
      · intro w hSw
        have hcv := CV _ hSw
        clear hSw
        go_simp
        try with_reducible rfl
      try simp only [Act.put, List.setIfInBounds_toArray, List.set_cons_zero, List.set_cons_succ]
      refine wpAnyH_take (i := 0) (oi := { dst := some 62, op := Op.load 24 (Operand.tmp 11), type := 24, pos := "outright.go:24", after := #[], guard := none }) (v := _) rfl (by kernel_rfl) (by kernel_rfl) (by kernel_rfl) (fun _ _ _ h => h) (yieldsIf_load_mid (by rfl) _ _ rfl _ _ rfl _ _ (by intro w hSw; have hSw := OS _ hSw; go_split_ands; assumption) (by assumption) rfl (by assumption)) (by assumption) ?_
      try simp only [Act.put, List.setIfInBounds_toArray, List.set_cons_zero, List.set_cons_succ]
      refine wpAnyH_ready (rs := [3]) (by kernel_rfl) (by simp) ?_
      refine AllReadyH.cons (o := { dst := some 65, op := Op.call { callee := Callee.value (Operand.func 9), args := #[Operand.tmp 64], argTypes := #[9] }, type := 24, pos := "outright.go:24", after := #[{ on := 2, ground := Ground.data }], guard := none }) rfl (fun K hK => ?_) AllReadyH.nil
      go_simp
      refine (CRz _ (by assumption)).mono ?_
      rintro e w3' ⟨rfl, m3'⟩
      refine hK.out _ _ (SO _ (by assumption)) (fun hHeld => ?_)
      clear hK K
      try simp only [Act.put, List.setIfInBounds_toArray, List.set_cons_zero, List.set_cons_succ]
      refine wpAnyH_take (i := 4) (oi := { dst := some 66, op := Op.binOp BinOp.eql 24 (Operand.tmp 62) (Operand.tmp 65) 24, type := 4, pos := "outright.go:24", after := #[{ on := 0, ground := Ground.data }, { on := 3, ground := Ground.data }], guard := none }) (v := ?_) rfl (by kernel_rfl) (by kernel_rfl) (by kernel_rfl) (fun _ _ _ h => h) (Or.inl ⟨by rfl, ?_⟩) (by assumption) ?_
      rotate_left
      · intro w hSw
        skip
        clear hSw
        go_simp
        try with_reducible rfl
      try simp only [Act.put, List.setIfInBounds_toArray, List.set_cons_zero, List.set_cons_succ]
      refine wpAnyH_take (i := 5) (oi := { dst := some 67, op := Op.move (Operand.tmp 66), type := 4, pos := "outright.go:24", after := #[{ on := 4, ground := Ground.data }, { on := 3, ground := Ground.chain }], guard := none }) (v := ?_) rfl (by kernel_rfl) (by kernel_rfl) (by kernel_rfl) (fun _ _ _ h => h) (Or.inl ⟨by rfl, ?_⟩) (by assumption) ?_
      rotate_left
      · intro w hSw
        skip
        clear hSw
        go_simp
        try with_reducible rfl
      try simp only [Act.put, List.setIfInBounds_toArray, List.set_cons_zero, List.set_cons_succ]
      refine wpAnyH_take (i := 7) (oi := { dst := some 69, op := Op.move (Operand.tmp 0), type := 9, pos := "outright.go:24", after := #[{ on := 5, ground := Ground.guard }], guard := some (5, false) }) (v := ?_) rfl (by kernel_rfl) (by kernel_rfl) (by kernel_rfl) (fun _ _ _ h => h) (Or.inl ⟨by rfl, ?_⟩) (by assumption) ?_
      rotate_left
      · intro w hSw
        skip
        clear hSw
        go_simp
        try with_reducible rfl
      try simp only [Act.put, List.setIfInBounds_toArray, List.set_cons_zero, List.set_cons_succ]
      refine wpAnyH_take (i := 8) (oi := { dst := some 70, op := Op.move (Operand.tmp 7), type := 3, pos := "outright.go:24", after := #[{ on := 5, ground := Ground.guard }], guard := some (5, false) }) (v := ?_) rfl (by kernel_rfl) (by kernel_rfl) (by kernel_rfl) (fun _ _ _ h => h) (Or.inl ⟨by rfl, ?_⟩) (by assumption) ?_
      rotate_left
      · intro w hSw
        skip
        clear hSw
        go_simp
        try with_reducible rfl
      try simp only [Act.put, List.setIfInBounds_toArray, List.set_cons_zero, List.set_cons_succ]
      refine wpAnyH_take (i := 9) (oi := { dst := some 71, op := Op.slice 9 (Operand.tmp 69) none (some (Operand.tmp 70)) none, type := 9, pos := "outright.go:24", after := #[{ on := 7, ground := Ground.data }, { on := 8, ground := Ground.data }, { on := 5, ground := Ground.guard }], guard := some (5, false) }) (v := ?_) rfl (by kernel_rfl) (by kernel_rfl) (by kernel_rfl) (fun _ _ _ h => h) (Or.inl ⟨by rfl, ?_⟩) (by assumption) ?_
      rotate_left
      · intro w hSw
        skip
        clear hSw
        go_simp
        try with_reducible rfl
      try simp only [Act.put, List.setIfInBounds_toArray, List.set_cons_zero, List.set_cons_succ]
      refine wpAnyH_take (i := 10) (oi := { dst := some 72, op := Op.move (Operand.tmp 0), type := 9, pos := "outright.go:24", after := #[{ on := 5, ground := Ground.guard }], guard := some (5, false) }) (v := ?_) rfl (by kernel_rfl) (by kernel_rfl) (by kernel_rfl) (fun _ _ _ h => h) (Or.inl ⟨by rfl, ?_⟩) (by assumption) ?_
      rotate_left
      · intro w hSw
        skip
        clear hSw
        go_simp
        try with_reducible rfl
      try simp only [Act.put, List.setIfInBounds_toArray, List.set_cons_zero, List.set_cons_succ]
      refine wpAnyH_take (i := 11) (oi := { dst := some 73, op := Op.move (Operand.tmp 7), type := 3, pos := "outright.go:24", after := #[{ on := 5, ground := Ground.guard }], guard := some (5, false) }) (v := ?_) rfl (by kernel_rfl) (by kernel_rfl) (by kernel_rfl) (fun _ _ _ h => h) (Or.inl ⟨by rfl, ?_⟩) (by assumption) ?_
      rotate_left
      · intro w hSw
        skip
        clear hSw
        go_simp
        try with_reducible rfl
      try simp only [Act.put, List.setIfInBounds_toArray, List.set_cons_zero, List.set_cons_succ]
      refine wpAnyH_take (i := 12) (oi := { dst := some 74, op := Op.binOp BinOp.add 3 (Operand.tmp 73) (Operand.const (Value.int IntKind.i64 1)) 3, type := 3, pos := "outright.go:24", after := #[{ on := 11, ground := Ground.data }, { on := 5, ground := Ground.guard }], guard := some (5, false) }) (v := ?_) rfl (by kernel_rfl) (by kernel_rfl) (by kernel_rfl) (fun _ _ _ h => h) (Or.inl ⟨by rfl, ?_⟩) (by assumption) ?_
      rotate_left
      · intro w hSw
        skip
        clear hSw
        go_simp
        try with_reducible rfl
      try simp only [Act.put, List.setIfInBounds_toArray, List.set_cons_zero, List.set_cons_succ]
      refine wpAnyH_take (i := 13) (oi := { dst := some 75, op := Op.slice 9 (Operand.tmp 72) (some (Operand.tmp 74)) none none, type := 9, pos := "outright.go:24", after := #[{ on := 10, ground := Ground.data }, { on := 12, ground := Ground.data }, { on := 5, ground := Ground.guard }], guard := some (5, false) }) (v := ?_) rfl (by kernel_rfl) (by kernel_rfl) (by kernel_rfl) (fun _ _ _ h => h) (Or.inl ⟨by rfl, ?_⟩) (by assumption) ?_
      rotate_left
      · intro w hSw
        skip
        clear hSw
        go_simp
        try with_reducible rfl
      try simp only [Act.put, List.setIfInBounds_toArray, List.set_cons_zero, List.set_cons_succ]
      refine wpAnyH_take (i := 14) (oi := { dst := some 76, op := Op.binOp BinOp.add 9 (Operand.tmp 71) (Operand.tmp 75) 9, type := 9, pos := "outright.go:24", after := #[{ on := 9, ground := Ground.data }, { on := 13, ground := Ground.data }, { on := 5, ground := Ground.guard }], guard := some (5, false) }) (v := ?_) rfl (by kernel_rfl) (by kernel_rfl) (by kernel_rfl) (fun _ _ _ h => h) (Or.inl ⟨by rfl, ?_⟩) (by assumption) ?_
      rotate_left
      · intro w hSw
        have hcc : ¬ 9223372036854775807 < (str (l.take k)).size + (str (l.drop (k + 1))).size := by have := SD1.out; have := ST.out; omega
        clear hSw
        go_simp
        try with_reducible rfl
      try simp only [Act.put, List.setIfInBounds_toArray, List.set_cons_zero, List.set_cons_succ]
      refine wpAnyH_take (i := 6) (oi := { dst := some 68, op := Op.load 24 (Operand.tmp 11), type := 24, pos := "outright.go:24", after := #[{ on := 5, ground := Ground.guard }], guard := some (5, false) }) (v := _) rfl (by kernel_rfl) (by kernel_rfl) (by kernel_rfl) (fun _ _ _ h => h) (yieldsIf_load_mid (by rfl) _ _ rfl _ _ rfl _ _ (by intro w hSw; have hSw := OS _ hSw; go_split_ands; assumption) (by assumption) rfl (by assumption)) (by assumption) ?_
      try simp only [Act.put, List.setIfInBounds_toArray, List.set_cons_zero, List.set_cons_succ]
      refine wpAnyH_ready (rs := [15]) (by kernel_rfl) (by simp) ?_
      refine AllReadyH.cons (o := { dst := some 77, op := Op.call { callee := Callee.value (Operand.func 9), args := #[Operand.tmp 76], argTypes := #[9] }, type := 24, pos := "outright.go:24", after := #[{ on := 14, ground := Ground.data }, { on := 5, ground := Ground.chain }, { on := 5, ground := Ground.guard }], guard := some (5, false) }) rfl (fun K hK => ?_) AllReadyH.nil
      go_simp
      refine (CRy _ (by assumption)).mono ?_
      rintro e w15' ⟨rfl, m15'⟩
      refine hK.out _ _ (SO _ (by assumption)) (fun hHeld => ?_)
      clear hK K
      try simp only [Act.put, List.setIfInBounds_toArray, List.set_cons_zero, List.set_cons_succ]
      refine wpAnyH_take (i := 16) (oi := { dst := some 78, op := Op.binOp BinOp.eql 24 (Operand.tmp 68) (Operand.tmp 77) 24, type := 4, pos := "outright.go:24", after := #[{ on := 6, ground := Ground.data }, { on := 15, ground := Ground.data }, { on := 5, ground := Ground.guard }], guard := some (5, false) }) (v := ?_) rfl (by kernel_rfl) (by kernel_rfl) (by kernel_rfl) (fun _ _ _ h => h) (Or.inl ⟨by rfl, ?_⟩) (by assumption) ?_
      rotate_left
      · intro w hSw
        skip
        clear hSw
        go_simp
        try with_reducible rfl
      try simp only [Act.put, List.setIfInBounds_toArray, List.set_cons_zero, List.set_cons_succ]
      refine wpAnyH_take (i := 17) (oi := { dst := some 79, op := Op.pick (Operand.tmp 67) (Operand.const (Value.bool true)) (Operand.tmp 78), type := 4, pos := "outright.go:24", after := #[{ on := 5, ground := Ground.data }, { on := 16, ground := Ground.data }], guard := none }) (v := ?_) rfl (by kernel_rfl) (by kernel_rfl) (by kernel_rfl) (fun _ _ _ h => h) (Or.inl ⟨by rfl, ?_⟩) (by assumption) ?_
      rotate_left
      · intro w hSw
        skip
        clear hSw
        go_simp
        try with_reducible rfl
      try simp only [Act.put, List.setIfInBounds_toArray, List.set_cons_zero, List.set_cons_succ]
      refine wpAnyH_done (by kernel_rfl) ?_ _
      refine NoPanic.normal ?_
      have mm := m15'.1
      go_wp2_with (go_at_call 7; ((with_reducible refine (ap_hashed mm).mono ?_); rintro e w10 ⟨rfl, hb10⟩))
      go_ret
      exact ⟨rfl, hb10⟩
    · rw [decide_eq_false hb2] at q2
      refine wp_region_noPanic ?_
      refine wp_region_held_drew (S := S) (by kernel_rfl) (SO _ md) (fun hHeld => ?_)
      refine wpAnyH_take (i := 1) (oi := { dst := some 63, op := Op.move (Operand.tmp 10), type := 40, pos := "outright.go:24", after := #[], guard := none }) (v := ?_) rfl (by kernel_rfl) (by kernel_rfl) (by kernel_rfl) (fun _ _ _ h => h) (Or.inl ⟨by rfl, ?_⟩) (by assumption) ?_
      rotate_left
      · intro w hSw
        skip
        clear hSw
        go_simp
        try with_reducible rfl
      try simp only [Act.put, List.setIfInBounds_toArray, List.set_cons_zero, List.set_cons_succ]
      refine wpAnyH_take (i := 2) (oi := { dst := some 64, op := Op.convert 40 9 (Operand.tmp 63), type := 9, pos := "outright.go:24", after := #[{ on := 1, ground := Ground.data }], guard := none }) (v := ?_) rfl (by kernel_rfl) (by kernel_rfl) (by kernel_rfl) (fun _ _ _ h => h) (Or.inl ⟨by rfl, ?_⟩) (by assumption) ?_
      rotate_left
      · intro w hSw
        have hcv := CV _ hSw
        clear hSw
        go_simp
        try with_reducible rfl
      try simp only [Act.put, List.setIfInBounds_toArray, List.set_cons_zero, List.set_cons_succ]
      refine wpAnyH_take (i := 0) (oi := { dst := some 62, op := Op.load 24 (Operand.tmp 11), type := 24, pos := "outright.go:24", after := #[], guard := none }) (v := _) rfl (by kernel_rfl) (by kernel_rfl) (by kernel_rfl) (fun _ _ _ h => h) (yieldsIf_load_mid (by rfl) _ _ rfl _ _ rfl _ _ (by intro w hSw; have hSw := OS _ hSw; go_split_ands; assumption) (by assumption) rfl (by assumption)) (by assumption) ?_
      try simp only [Act.put, List.setIfInBounds_toArray, List.set_cons_zero, List.set_cons_succ]
      refine wpAnyH_ready (rs := [3]) (by kernel_rfl) (by simp) ?_
      refine AllReadyH.cons (o := { dst := some 65, op := Op.call { callee := Callee.value (Operand.func 9), args := #[Operand.tmp 64], argTypes := #[9] }, type := 24, pos := "outright.go:24", after := #[{ on := 2, ground := Ground.data }], guard := none }) rfl (fun K hK => ?_) AllReadyH.nil
      go_simp
      refine (CRz _ (by assumption)).mono ?_
      rintro e w3' ⟨rfl, m3'⟩
      refine hK.out _ _ (SO _ (by assumption)) (fun hHeld => ?_)
      clear hK K
      try simp only [Act.put, List.setIfInBounds_toArray, List.set_cons_zero, List.set_cons_succ]
      refine wpAnyH_take (i := 4) (oi := { dst := some 66, op := Op.binOp BinOp.eql 24 (Operand.tmp 62) (Operand.tmp 65) 24, type := 4, pos := "outright.go:24", after := #[{ on := 0, ground := Ground.data }, { on := 3, ground := Ground.data }], guard := none }) (v := ?_) rfl (by kernel_rfl) (by kernel_rfl) (by kernel_rfl) (fun _ _ _ h => h) (Or.inl ⟨by rfl, ?_⟩) (by assumption) ?_
      rotate_left
      · intro w hSw
        skip
        clear hSw
        go_simp
        try with_reducible rfl
      try simp only [Act.put, List.setIfInBounds_toArray, List.set_cons_zero, List.set_cons_succ]
      refine wpAnyH_take (i := 5) (oi := { dst := some 67, op := Op.move (Operand.tmp 66), type := 4, pos := "outright.go:24", after := #[{ on := 4, ground := Ground.data }, { on := 3, ground := Ground.chain }], guard := none }) (v := ?_) rfl (by kernel_rfl) (by kernel_rfl) (by kernel_rfl) (fun _ _ _ h => h) (Or.inl ⟨by rfl, ?_⟩) (by assumption) ?_
      rotate_left
      · intro w hSw
        skip
        clear hSw
        go_simp
        try with_reducible rfl
      try simp only [Act.put, List.setIfInBounds_toArray, List.set_cons_zero, List.set_cons_succ]
      refine wpAnyH_take (i := 7) (oi := { dst := some 69, op := Op.move (Operand.tmp 0), type := 9, pos := "outright.go:24", after := #[{ on := 5, ground := Ground.guard }], guard := some (5, false) }) (v := ?_) rfl (by kernel_rfl) (by kernel_rfl) (by kernel_rfl) (fun _ _ _ h => h) (Or.inl ⟨by rfl, ?_⟩) (by assumption) ?_
      rotate_left
      · intro w hSw
        skip
        clear hSw
        go_simp
        try with_reducible rfl
      try simp only [Act.put, List.setIfInBounds_toArray, List.set_cons_zero, List.set_cons_succ]
      refine wpAnyH_take (i := 8) (oi := { dst := some 70, op := Op.move (Operand.tmp 7), type := 3, pos := "outright.go:24", after := #[{ on := 5, ground := Ground.guard }], guard := some (5, false) }) (v := ?_) rfl (by kernel_rfl) (by kernel_rfl) (by kernel_rfl) (fun _ _ _ h => h) (Or.inl ⟨by rfl, ?_⟩) (by assumption) ?_
      rotate_left
      · intro w hSw
        skip
        clear hSw
        go_simp
        try with_reducible rfl
      try simp only [Act.put, List.setIfInBounds_toArray, List.set_cons_zero, List.set_cons_succ]
      refine wpAnyH_take (i := 9) (oi := { dst := some 71, op := Op.slice 9 (Operand.tmp 69) none (some (Operand.tmp 70)) none, type := 9, pos := "outright.go:24", after := #[{ on := 7, ground := Ground.data }, { on := 8, ground := Ground.data }, { on := 5, ground := Ground.guard }], guard := some (5, false) }) (v := ?_) rfl (by kernel_rfl) (by kernel_rfl) (by kernel_rfl) (fun _ _ _ h => h) (Or.inl ⟨by rfl, ?_⟩) (by assumption) ?_
      rotate_left
      · intro w hSw
        skip
        clear hSw
        go_simp
        try with_reducible rfl
      try simp only [Act.put, List.setIfInBounds_toArray, List.set_cons_zero, List.set_cons_succ]
      refine wpAnyH_take (i := 10) (oi := { dst := some 72, op := Op.move (Operand.tmp 0), type := 9, pos := "outright.go:24", after := #[{ on := 5, ground := Ground.guard }], guard := some (5, false) }) (v := ?_) rfl (by kernel_rfl) (by kernel_rfl) (by kernel_rfl) (fun _ _ _ h => h) (Or.inl ⟨by rfl, ?_⟩) (by assumption) ?_
      rotate_left
      · intro w hSw
        skip
        clear hSw
        go_simp
        try with_reducible rfl
      try simp only [Act.put, List.setIfInBounds_toArray, List.set_cons_zero, List.set_cons_succ]
      refine wpAnyH_take (i := 11) (oi := { dst := some 73, op := Op.move (Operand.tmp 7), type := 3, pos := "outright.go:24", after := #[{ on := 5, ground := Ground.guard }], guard := some (5, false) }) (v := ?_) rfl (by kernel_rfl) (by kernel_rfl) (by kernel_rfl) (fun _ _ _ h => h) (Or.inl ⟨by rfl, ?_⟩) (by assumption) ?_
      rotate_left
      · intro w hSw
        skip
        clear hSw
        go_simp
        try with_reducible rfl
      try simp only [Act.put, List.setIfInBounds_toArray, List.set_cons_zero, List.set_cons_succ]
      refine wpAnyH_take (i := 12) (oi := { dst := some 74, op := Op.binOp BinOp.add 3 (Operand.tmp 73) (Operand.const (Value.int IntKind.i64 1)) 3, type := 3, pos := "outright.go:24", after := #[{ on := 11, ground := Ground.data }, { on := 5, ground := Ground.guard }], guard := some (5, false) }) (v := ?_) rfl (by kernel_rfl) (by kernel_rfl) (by kernel_rfl) (fun _ _ _ h => h) (Or.inl ⟨by rfl, ?_⟩) (by assumption) ?_
      rotate_left
      · intro w hSw
        skip
        clear hSw
        go_simp
        try with_reducible rfl
      try simp only [Act.put, List.setIfInBounds_toArray, List.set_cons_zero, List.set_cons_succ]
      refine wpAnyH_take (i := 13) (oi := { dst := some 75, op := Op.slice 9 (Operand.tmp 72) (some (Operand.tmp 74)) none none, type := 9, pos := "outright.go:24", after := #[{ on := 10, ground := Ground.data }, { on := 12, ground := Ground.data }, { on := 5, ground := Ground.guard }], guard := some (5, false) }) (v := ?_) rfl (by kernel_rfl) (by kernel_rfl) (by kernel_rfl) (fun _ _ _ h => h) (Or.inl ⟨by rfl, ?_⟩) (by assumption) ?_
      rotate_left
      · intro w hSw
        skip
        clear hSw
        go_simp
        try with_reducible rfl
      try simp only [Act.put, List.setIfInBounds_toArray, List.set_cons_zero, List.set_cons_succ]
      refine wpAnyH_take (i := 14) (oi := { dst := some 76, op := Op.binOp BinOp.add 9 (Operand.tmp 71) (Operand.tmp 75) 9, type := 9, pos := "outright.go:24", after := #[{ on := 9, ground := Ground.data }, { on := 13, ground := Ground.data }, { on := 5, ground := Ground.guard }], guard := some (5, false) }) (v := ?_) rfl (by kernel_rfl) (by kernel_rfl) (by kernel_rfl) (fun _ _ _ h => h) (Or.inl ⟨by rfl, ?_⟩) (by assumption) ?_
      rotate_left
      · intro w hSw
        have hcc : ¬ 9223372036854775807 < (str (l.take k)).size + (str (l.drop (k + 1))).size := by have := SD1.out; have := ST.out; omega
        clear hSw
        go_simp
        try with_reducible rfl
      try simp only [Act.put, List.setIfInBounds_toArray, List.set_cons_zero, List.set_cons_succ]
      refine wpAnyH_take (i := 6) (oi := { dst := some 68, op := Op.load 24 (Operand.tmp 11), type := 24, pos := "outright.go:24", after := #[{ on := 5, ground := Ground.guard }], guard := some (5, false) }) (v := _) rfl (by kernel_rfl) (by kernel_rfl) (by kernel_rfl) (fun _ _ _ h => h) (yieldsIf_load_mid (by rfl) _ _ rfl _ _ rfl _ _ (by intro w hSw; have hSw := OS _ hSw; go_split_ands; assumption) (by assumption) rfl (by assumption)) (by assumption) ?_
      try simp only [Act.put, List.setIfInBounds_toArray, List.set_cons_zero, List.set_cons_succ]
      refine wpAnyH_ready (rs := [15]) (by kernel_rfl) (by simp) ?_
      refine AllReadyH.cons (o := { dst := some 77, op := Op.call { callee := Callee.value (Operand.func 9), args := #[Operand.tmp 76], argTypes := #[9] }, type := 24, pos := "outright.go:24", after := #[{ on := 14, ground := Ground.data }, { on := 5, ground := Ground.chain }, { on := 5, ground := Ground.guard }], guard := some (5, false) }) rfl (fun K hK => ?_) AllReadyH.nil
      go_simp
      refine (CRy _ (by assumption)).mono ?_
      rintro e w15' ⟨rfl, m15'⟩
      refine hK.out _ _ (SO _ (by assumption)) (fun hHeld => ?_)
      clear hK K
      try simp only [Act.put, List.setIfInBounds_toArray, List.set_cons_zero, List.set_cons_succ]
      refine wpAnyH_take (i := 16) (oi := { dst := some 78, op := Op.binOp BinOp.eql 24 (Operand.tmp 68) (Operand.tmp 77) 24, type := 4, pos := "outright.go:24", after := #[{ on := 6, ground := Ground.data }, { on := 15, ground := Ground.data }, { on := 5, ground := Ground.guard }], guard := some (5, false) }) (v := ?_) rfl (by kernel_rfl) (by kernel_rfl) (by kernel_rfl) (fun _ _ _ h => h) (Or.inl ⟨by rfl, ?_⟩) (by assumption) ?_
      rotate_left
      · intro w hSw
        skip
        clear hSw
        go_simp
        try with_reducible rfl
      try simp only [Act.put, List.setIfInBounds_toArray, List.set_cons_zero, List.set_cons_succ]
      refine wpAnyH_take (i := 17) (oi := { dst := some 79, op := Op.pick (Operand.tmp 67) (Operand.const (Value.bool true)) (Operand.tmp 78), type := 4, pos := "outright.go:24", after := #[{ on := 5, ground := Ground.data }, { on := 16, ground := Ground.data }], guard := none }) (v := ?_) rfl (by kernel_rfl) (by kernel_rfl) (by kernel_rfl) (fun _ _ _ h => h) (Or.inl ⟨by rfl, ?_⟩) (by assumption) ?_
      rotate_left
      · intro w hSw
        skip
        clear hSw
        go_simp
        try with_reducible rfl
      try simp only [Act.put, List.setIfInBounds_toArray, List.set_cons_zero, List.set_cons_succ]
      refine wpAnyH_done (by kernel_rfl) ?_ _
      refine NoPanic.normal ?_
      have m20 := m15'.1
      have hDl := HD.out
      have q0 : ∀ w, (Op.equalIn 10000 24 (.agg NL.toArray) (.agg NL.toArray)).run Tryd.prog w = .ok true w := fun w => by
        have := eq_digest w 9998 (hashL_length l) (hashL_length l)
        rw [decide_eq_true rfl] at this
        rw [HNL.out, hDl]
        exact this
      have q3 : ∀ w, (Op.equalIn 10000 24 (.agg Vz) (.agg NL.toArray)).run Tryd.prog w = .ok false w := fun w => by
        have := eq_digest w 9998 (hashL_length z) (hashL_length l)
        rw [decide_eq_false (fun h => hb h.symm)] at this
        rw [HNL.out, hDl, HVz.out]
        exact this
      have q4 : ∀ w, (Op.equalIn 10000 24 (.agg Vy) (.agg NL.toArray)).run Tryd.prog w = .ok false w := fun w => by
        have := eq_digest w 9998 (hashL_length y) (hashL_length l)
        rw [decide_eq_false (fun h => hb2 h.symm)] at this
        rw [HNL.out, hDl, HVy.out]
        exact this
      have hNl : NL.toArray = cells8 (hashL l) := by rw [HNL.out, hDl]; rfl
      have hsz : wrap64 ((l.length : Int) - 1) = (y.length : Int) := by have := YL.out; have := H2.out; rw [IntWalk.wrap64_in _ (by omega)]; omega
      have bl : l.length ≤ 900000 := by have := H2.out; omega
      have bz : z.length ≤ 900000 := by have := ZL.out; omega
      have by' : y.length ≤ 900000 := by have := YL.out; omega
      have cS := fun w' (m : ApM w w' p l c y q z) => ap_sum m hNl bl
      have cL := fun w' (m : ApM w w' p l c y q z) => ap_of m hNl bl
      have cZ := fun w' (m : ApM w w' p l c y q z) => ap_of m HVz.out bz
      have cY := fun w' (m : ApM w w' p l c y q z) => ap_sumc m HVy.out by'
      clear q1 q2 hNl hDl m15' m3' hHeld CV CRz CRy md OS SO
      have hyl := YL.out
      go_wp2_with (first
        | (go_at_call 13; ((with_reducible refine (cS _ m20).mono ?_); rintro e w21 ⟨rfl, m21⟩))
        | (go_at_call 8; ((with_reducible refine (cL _ m21).mono ?_); rintro e w22 ⟨rfl, m22⟩; have hcv22 := conv_back (cap := cap) m22.b ZL.out))
        | (go_at_call 8; ((with_reducible refine (cZ _ m22).mono ?_); rintro e w23 ⟨rfl, m23⟩))
        | (go_at_call 8; ((with_reducible refine (cL _ m23).mono ?_); rintro e w24 ⟨rfl, m24⟩))
        | (go_at_call 13; ((with_reducible refine (cY _ m24).mono ?_); rintro e w25 ⟨rfl, m25⟩))
        | (go_at_call 8; ((with_reducible refine (cL _ m25).mono ?_); rintro e w26 ⟨rfl, m26⟩))
        | (go_at_call 14; ((with_reducible refine (size_any _ _ _ m26.m.c).mono ?_); rintro e w27 ⟨rfl, rfl⟩))
        | (go_at_call 7; ((with_reducible refine (ap_hashed m26).mono ?_); rintro e w28 ⟨rfl, hb28⟩)))
      go_ret
      exact ⟨rfl, hb28⟩
end Go.Proofs.YtkjhfjibddcenaaDoor
