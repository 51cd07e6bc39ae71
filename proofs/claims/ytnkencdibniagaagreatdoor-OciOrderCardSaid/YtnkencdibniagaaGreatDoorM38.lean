/- Merged: OgC, OeI, OfA. -/
import Derived.Test.YtnkencdibniagaaGreatDoorM04
import Derived.Test.YtnkencdibniagaaGreatDoorM05
import Derived.Test.YtnkencdibniagaaGreatDoorM37
import Derived.Test.YtnkencdibniagaaGreatDoorM31
import Derived.Test.YtnkencdibniagaaGreatDoorM32
import Derived.Deep.Slices
import Derived.Deep.Fields
import Derived.ChangeSame
import Derived.OpenShut
import Derived.ChangeArms
import Derived.SizedLaws
/- Layer 13: what is put, turned, put again, and read, is what it was: the calls as contracts. -/
namespace Go.Proofs.YtnkencdibniagaaGreatDoor
open Go.RowKit

theorem read_back {v : JV} (h : (printA v).2 = 0) : (printA v).1.length ≤ 65536 ∧ ∃ q, allP q (printA v).1 = some (.ok v []) := by
  obtain ⟨h1, h2, h3, h4⟩ := printA_ok h
  rw [h3]
  refine ⟨h4, ?_⟩
  obtain ⟨n0, hn⟩ := all_rt (g := []) (fun _ h => by cases h) h1 h2
  refine ⟨n0, ?_⟩
  have := hn n0 (Nat.le_refl _)
  simpa using this
mutual
/-- Lengths, and keys, of what may be turned. -/
def tn : JV → Prop
  | .mk k t items keys => (k = 3 → t.length ≤ 70368744177664) ∧ items.length ≤ 60000 ∧ keys.length ≤ 60000 ∧ (∀ y ∈ keys, y.length ≤ 262144 ∧ y ≠ kAnn) ∧ tnL items
def tnL : List JV → Prop
  | [] => True
  | x :: l => tn x ∧ tnL l
end
theorem tnL_of : ∀ {l : List JV}, (∀ x ∈ l, tn x) → tnL l
  | [], _ => by rw [tnL]; trivial
  | x :: l, h => by rw [tnL]; exact ⟨h x (by simp), tnL_of fun y hy => h y (by simp [hy])⟩
theorem okJ_ann : okJ annJ := okJ_lst (l := [.mk 0 [] [] []]) (by simp) (fun v hv => by rw [List.mem_singleton.1 hv]; exact okJ_lf 0 [] (fun h => by cases h))
mutual
theorem tn_turn (b : Nat) : ∀ v : JV, tn v → okJ v ∧ noAnn v ∧ okJ (turnJ b v)
  | .mk k t items keys, h => by
    rw [tn] at h
    obtain ⟨h1, h2, h3, h4, h5⟩ := h
    obtain ⟨i1, i2, i3⟩ := tn_turnL b items h5
    have hl : (turnL b items).length = items.length := turnL_len b items
    refine ⟨?_, ?_, ?_⟩
    · rw [okJ]; exact ⟨h1, ⟨by omega, by omega, fun y hy => (h4 y hy).1⟩, i1⟩
    · rw [noAnn]; exact ⟨fun hm => (h4 _ hm).2 rfl, i2⟩
    · rw [turnJ]
      by_cases h6 : k = 6
      · rw [if_pos h6, okJ]
        refine ⟨fun e => (by cases e), ⟨by rw [List.length_append, rot_length, hl, List.length_singleton]; omega, by rw [List.length_append, rot_length, List.length_singleton]; omega, fun y hy => ?_⟩, okJL_of fun x hx => ?_⟩
        · rcases List.mem_append.1 hy with hy | hy
          · exact (h4 y ((rot_perm b _).mem_iff.1 hy)).1
          · rw [List.mem_singleton.1 hy]; exact Nat.le_of_ble_eq_true rfl
        · rcases List.mem_append.1 hx with hx | hx
          · exact i3 x ((rot_perm b _).mem_iff.1 hx)
          · rw [List.mem_singleton.1 hx]; exact okJ_ann
      · rw [if_neg h6, okJ]
        exact ⟨h1, ⟨by omega, by simp, fun y hy => by cases hy⟩, okJL_of i3⟩
theorem tn_turnL (b : Nat) : ∀ l : List JV, tnL l → okJL l ∧ noAnnL l ∧ ∀ x ∈ turnL b l, okJ x
  | [], _ => ⟨by rw [okJL]; trivial, by rw [noAnnL]; trivial, by rw [turnL]; intro x hx; cases hx⟩
  | y :: l, h => by
    rw [tnL] at h
    obtain ⟨a1, a2, a3⟩ := tn_turn b y h.1
    obtain ⟨b1, b2, b3⟩ := tn_turnL b l h.2
    refine ⟨by rw [okJL]; exact ⟨a1, b1⟩, by rw [noAnnL]; exact ⟨a2, b2⟩, ?_⟩
    rw [turnL]
    intro x hx
    rcases List.mem_cons.1 hx with rfl | hx
    · exact a3
    · exact b3 x hx
end
theorem tn_lf (k : Int) (t : Bs) (h : k = 3 → t.length ≤ 70368744177664) : tn (.mk k t [] []) := by
  rw [tn]
  exact ⟨h, by simp, by simp, fun y hy => (by cases hy), (by rw [tnL]; trivial)⟩
theorem tn_obj {l : List (Bs × JV)} (h1 : l.length ≤ 60000) (h2 : ∀ p ∈ l, (p.1.length ≤ 262144 ∧ p.1 ≠ kAnn) ∧ tn p.2) : tn (objJ l) := by
  unfold objJ
  rw [tn]
  refine ⟨fun h => (by cases h), by rw [List.length_map]; exact h1, by rw [List.length_map]; exact h1, fun y hy => ?_, tnL_of fun x hx => ?_⟩
  · obtain ⟨p, hp, rfl⟩ := List.mem_map.1 hy
    exact (h2 p hp).1
  · obtain ⟨p, hp, rfl⟩ := List.mem_map.1 hx
    exact (h2 p hp).2
theorem tn_lst {l : List JV} (h1 : l.length ≤ 60000) (h2 : ∀ v ∈ l, tn v) : tn (lstJ l) := by
  unfold lstJ
  rw [tn]
  exact ⟨fun h => (by cases h), h1, by simp, fun y hy => (by cases hy), tnL_of h2⟩
theorem tn_txt (s : Bs) : tn (txtJ s) := tn_lf 4 _ fun h => by cases h
theorem tn_num {n : Int} (h0 : -9223372036854775808 ≤ n) (h1 : n ≤ 9223372036854775807) : tn (numJ n) := tn_lf 3 _ fun _ => by have := Lib.itoa_length_le n h0 h1; omega
theorem tn_pla (os arch : Bs) : tn (plaJ os arch) := tn_obj (by show 2 ≤ 60000; omega) fun p hp => by
  simp only [List.mem_cons, List.not_mem_nil, or_false] at hp
  rcases hp with rfl | rfl
  · exact ⟨⟨Nat.le_of_ble_eq_true rfl, fun e => absurd (congrArg List.length e) (Nat.ne_of_beq_eq_false rfl)⟩, tn_txt _⟩
  · exact ⟨⟨Nat.le_of_ble_eq_true rfl, fun e => absurd (congrArg List.length e) (Nat.ne_of_beq_eq_false rfl)⟩, tn_txt _⟩
theorem tn_full {d : DV} (hd : putD d) : tn (fullJ d) := tn_obj (by show 4 ≤ 60000; omega) fun p hp => by
  simp only [fldJ, List.cons_append, List.nil_append, List.mem_cons, List.not_mem_nil, or_false] at hp
  rcases hp with rfl | rfl | rfl | rfl
  · exact ⟨⟨Nat.le_of_ble_eq_true rfl, fun e => absurd (congrArg List.length e) (Nat.ne_of_beq_eq_false rfl)⟩, tn_txt _⟩
  · exact ⟨⟨Nat.le_of_ble_eq_true rfl, fun e => absurd (congrArg List.length e) (Nat.ne_of_beq_eq_false rfl)⟩, tn_txt _⟩
  · exact ⟨⟨Nat.le_of_ble_eq_true rfl, fun e => absurd (congrArg List.length e) (Nat.ne_of_beq_eq_false rfl)⟩, tn_num hd.2.1 hd.2.2⟩
  · exact ⟨⟨Nat.le_of_ble_eq_true rfl, fun e => absurd (congrArg List.length e) (Nat.ne_of_beq_eq_false rfl)⟩, tn_pla _ _⟩
theorem tn_idx {l : List DV} (hl : l.length ≤ 8) (hp : ∀ d ∈ l, putD d) : tn (idxJ l) := tn_obj (by show 3 ≤ 60000; omega) fun p hq => by
  simp only [List.mem_cons, List.not_mem_nil, or_false] at hq
  rcases hq with rfl | rfl | rfl
  · exact ⟨⟨Nat.le_of_ble_eq_true rfl, fun e => absurd (congrArg List.length e) (Nat.ne_of_beq_eq_false rfl)⟩, tn_num (by omega) (by omega)⟩
  · exact ⟨⟨Nat.le_of_ble_eq_true rfl, fun e => absurd (congrArg List.length e) (Nat.ne_of_beq_eq_false rfl)⟩, tn_txt _⟩
  · exact ⟨⟨Nat.le_of_ble_eq_true rfl, fun e => absurd (congrArg List.length e) (Nat.ne_of_beq_eq_false rfl)⟩, tn_lst (by rw [List.length_map]; omega) fun v hv => by
      obtain ⟨d, hd, rfl⟩ := List.mem_map.1 hv
      exact tn_full (hp d hd)⟩
theorem tn_img {p : Bs × Bs} {l : List Bs} (hl : l.length ≤ 8) : tn (imgJ p l) := tn_obj (by show 3 ≤ 60000; omega) fun p hq => by
  simp only [List.mem_cons, List.not_mem_nil, or_false] at hq
  rcases hq with rfl | rfl | rfl
  · exact ⟨⟨Nat.le_of_ble_eq_true rfl, fun e => absurd (congrArg List.length e) (Nat.ne_of_beq_eq_false rfl)⟩, tn_txt _⟩
  · exact ⟨⟨Nat.le_of_ble_eq_true rfl, fun e => absurd (congrArg List.length e) (Nat.ne_of_beq_eq_false rfl)⟩, tn_txt _⟩
  · refine ⟨⟨Nat.le_of_ble_eq_true rfl, fun e => absurd (congrArg List.length e) (Nat.ne_of_beq_eq_false rfl)⟩, tn_obj (by show 2 ≤ 60000; omega) fun p hq => ?_⟩
    simp only [List.mem_cons, List.not_mem_nil, or_false] at hq
    rcases hq with rfl | rfl
    · exact ⟨⟨Nat.le_of_ble_eq_true rfl, fun e => absurd (congrArg List.length e) (Nat.ne_of_beq_eq_false rfl)⟩, tn_txt _⟩
    · exact ⟨⟨Nat.le_of_ble_eq_true rfl, fun e => absurd (congrArg List.length e) (Nat.ne_of_beq_eq_false rfl)⟩, tn_lst (by rw [List.length_map]; omega) fun v hv => by
        obtain ⟨d, hd, rfl⟩ := List.mem_map.1 hv
        exact tn_txt _⟩
/-- A value v, its text S; turned by b: its text T. -/
structure Tn (v : JV) (S : Bs) (b : Nat) (T : Bs) : Prop where
  s : okS S ∧ ∃ q, allP q S = some (.ok v [])
  o : okJ v ∧ may v
  o2 : okJ (turnJ b v)
  p : printA (turnJ b v) = (T, 0)
  t : T.length ≤ 65536 ∧ ∃ q, allP q T = some (.ok (turnJ b v) [])
theorem Tn.mk' {v : JV} {S : Bs} (h : printA v = (S, 0)) (ht : tn v) (hz : szJ v ≤ 65536) (hd : deep v ≤ 15) (b : Nat) : ∃ T, Tn v S b T := by
  have h0 : (printA v).2 = 0 := by rw [h]
  obtain ⟨m1, m2, m3, m4⟩ := printA_ok h0
  obtain ⟨hS, hq⟩ := read_back h0
  rw [h] at hS hq
  obtain ⟨t1, t2, t3⟩ := tn_turn b v ht
  obtain ⟨u1, u2⟩ := turn_may b v m1 t2
  have u3 := sz_turn b v m1
  have hp : printA (turnJ b v) = (prG [] (turnJ b v), 0) := by rw [printA_may u1 (by omega), if_neg (by omega)]
  have h2 : (printA (turnJ b v)).2 = 0 := by rw [hp]
  obtain ⟨hT, hq2⟩ := read_back h2
  rw [hp] at hT hq2
  exact ⟨_, ⟨⟨by unfold okS; have hS : S.length ≤ 65536 := hS; omega, hq⟩, ⟨t1, m1⟩, t3, hp, ⟨hT, hq2⟩⟩⟩
theorem Tn.parse {v : JV} {S T : Bs} {b : Nat} (h : Tn v S b T) (w : World) (hE : Env2 w) :
    Calls Tryz.prog 28 #[.string (str S)] w fun e w' => ∃ V, e = .returned (.tuple #[V, .int .i64 0, .int .i64 0]) ∧ HoldsJ w' (fun k => w.heap.size ≤ k ∧ k < w'.heap.size) v V ∧ Below w.heap.size w w' := by
  obtain ⟨hS, q, hq⟩ := h.s
  exact jparse_any hS w hE.env hq
theorem Tn.turn {v : JV} {S T : Bs} {b : Nat} (h : Tn v S b T) (hb : b ≤ 255) (w : World) (V : Value) (hV : HoldsJ w (fun k => k < w.heap.size) v V) :
    Calls Tryz.prog 30 #[V, .int .i64 (b : Int)] w fun e w' => ∃ V', e = .returned V' ∧ HoldsJ w' (fun k => w.heap.size ≤ k ∧ k < w'.heap.size) (turnJ b v) V' ∧ Below w.heap.size w w' := by
  obtain ⟨a, b', c, d, rfl, hH⟩ := hV
  exact turned_any _ v (Nat.le_refl _) h.o.1 h.o.2 b w a b' c d hb hH
theorem Tn.print {v : JV} {S T : Bs} {b : Nat} (h : Tn v S b T) (w : World) (hE : Env2 w) (V : Value) (hV : HoldsJ w (fun k => k < w.heap.size) (turnJ b v) V) :
    Calls Tryz.prog 29 #[V] w fun e w' => e = .returned (.tuple #[.string (str T), .int .i64 0]) ∧ Below w.heap.size w w' := by
  obtain ⟨a, b', c, d, rfl, hH⟩ := hV
  have := print_any h.o2 hE.env hH
  rw [h.p] at this
  exact this
theorem Tn.index {l : List DV} {S T : Bs} {b : Nat} (h : Tn (idxJ l) S b T) (hl : idxV (idxJ l) = .ok l) (w : World) (hE : Env2 w) :
    Calls Tryz.prog 11 #[.string (str T)] w fun e w' => ∃ x cc, e = .returned (.tuple #[.slice x l.length cc, .int .i64 0]) ∧ eDess.at_ w' (fun k => w.heap.size ≤ k ∧ k < w'.heap.size) l (.slice x l.length cc) ∧ Below w.heap.size w w' := by
  obtain ⟨hS, q, hq⟩ := h.t
  refine (index_any2 hS w hE hq).mono ?_
  rintro e w' ⟨l', t, code, rfl, h1, h3, h4⟩
  have e2 : idxV (turnJ b (idxJ l)) = .ok l := by rw [idxV_turn b h.o.2, hl]
  rcases h3 with ⟨h3, rfl⟩ | ⟨h3, _⟩
  · have h5 : idxV (turnJ b (idxJ l)) = .ok l' := h3
    rw [e2] at h5
    injection h5 with h5
    subst h5
    rcases h1 with ⟨rfl, rfl⟩ | ⟨ad, cap, rfl, h6⟩
    · exact ⟨none, 0, rfl, .inl ⟨rfl, rfl⟩, h4⟩
    · exact ⟨some ad, cap, rfl, .inr ⟨ad, cap, rfl, h6⟩, h4⟩
  · have h5 : idxV (turnJ b (idxJ l)) = .bad code := h3
    rw [e2] at h5
    cases h5
theorem Tn.image {p : Bs × Bs} {l : List Bs} {S T : Bs} {b : Nat} (h : Tn (imgJ p l) S b T) (hl : imgV (imgJ p l) = .ok (p, l)) (w : World) (hE : Env2 w) :
    Calls Tryz.prog 13 #[.string (str T)] w fun e w' => ∃ x cc, e = .returned (.tuple #[.agg (row3 (str p.1) (str p.2) x l.length cc), .int .i64 0]) ∧ eDigs.at_ w' (fun k => w.heap.size ≤ k ∧ k < w'.heap.size) l (.slice x l.length cc) ∧ Below w.heap.size w w' := by
  obtain ⟨hS, q, hq⟩ := h.t
  refine (image_any hS w hE hq).mono ?_
  rintro e w' ⟨p', l', x, cc, code, rfl, h1, _, h3, h4⟩
  have e2 : imgV (turnJ b (imgJ p l)) = .ok (p, l) := by rw [imgV_turn b h.o.2, hl]
  rcases h3 with ⟨h3, rfl⟩ | ⟨h3, _⟩
  · have h5 : imgV (turnJ b (imgJ p l)) = .ok (p', l') := h3
    rw [e2] at h5
    injection h5 with h5
    injection h5 with h5 h6
    subst h5
    subst h6
    exact ⟨x, cc, rfl, h1, h4⟩
  · have h5 : imgV (turnJ b (imgJ p l)) = .bad code := h3
    rw [e2] at h5
    cases h5
/-- What an index's list is put as. -/
theorem tn_of_idx {l : List DV} (h : (idxA l).2 = 0) (hl : ∀ d ∈ l, putD d ∧ d.media.length ≤ 200 ∧ d.os.length ≤ 200 ∧ d.arch.length ≤ 200) (h8 : l.length ≤ 8) (b : Nat) : idxV (idxJ l) = .ok l ∧ ∃ T, Tn (idxJ l) (idxA l).1 b T := by
  obtain ⟨e1, e2⟩ := idx_back h (fun d hd => (hl d hd).1.1.1)
  have hm : ∀ d ∈ l, mayD d = true := by
    unfold idxA at h
    by_cases hh : l.all mayD = false
    · rw [if_pos hh] at h
      exact absurd h (by decide)
    · exact List.all_eq_true.1 (by simpa using hh)
  refine ⟨e2, Tn.mk' ?_ (tn_idx h8 fun d hd => (hl d hd).1) ?_ (by have := deep_idx l; omega) b⟩
  · rw [← e1, ← h]
  · have := sz_idx h8 fun d hd => sz_full (hm d hd) (hl d hd).1.1.1 (hl d hd).2.1 (hl d hd).2.2.1 (hl d hd).2.2.2
    omega
theorem tn_of_img {p : Bs × Bs} {l : List Bs} (h : (imgA p l).2 = 0) (h1 : p.1.length ≤ 200) (h2 : p.2.length ≤ 200) (hl : ∀ d ∈ l, d.length = 32) (h8 : l.length ≤ 8) (b : Nat) : imgV (imgJ p l) = .ok (p, l) ∧ ∃ T, Tn (imgJ p l) (imgA p l).1 b T := by
  obtain ⟨e1, e2⟩ := img_back h hl
  refine ⟨e2, Tn.mk' ?_ (tn_img h8) ?_ (by have := deep_img p l; omega) b⟩
  · rw [← e1, ← h]
  · have := sz_img h8 h1 h2 hl
    omega
end Go.Proofs.YtnkencdibniagaaGreatDoor

/- Layer 13: PutManifest. -/
namespace Go.Proofs.YtnkencdibniagaaGreatDoor
open Go.RowKit

end Go.Proofs.YtnkencdibniagaaGreatDoor

/- Layer 13: what the statements hand in: descriptors in the rough, platforms, digests. -/
namespace Go.Proofs.YtnkencdibniagaaGreatDoor
open Go.RowKit Go.ChangeShapes Go.WideShapes Go.Deep

theorem all_bytesV : ∀ cs : List Value, (∀ v ∈ cs, ∃ b : UInt8, v = byteV b) → ∃ l : List UInt8, cs = l.map byteV
  | [], _ => ⟨[], rfl⟩
  | v :: r, h => by
    obtain ⟨b, rfl⟩ := h v (by simp)
    obtain ⟨l, rfl⟩ := all_bytesV r (fun u hu => h u (by simp [hu]))
    exact ⟨b :: l, rfl⟩
theorem rough_u8 {n : Int} (h : (Lit.int .u8 n).wf = true) : 0 ≤ n ∧ n ≤ 255 := by
  simp [Lit.wf, IntKind.min, IntKind.max, IntKind.signed, IntKind.bits] at h
  omega
theorem rough_i64 {n : Int} (h : (Lit.int .i64 n).wf = true) : -9223372036854775808 ≤ n ∧ n ≤ 9223372036854775807 := by
  simp [Lit.wf, IntKind.min, IntKind.max, IntKind.signed, IntKind.bits] at h
  omega
/-- A descriptor in the rough. -/
structure RG where
  num : Nat
  media : Bs
  dig : Bs
  size : Int
  os : Bs
  arch : Bs
instance : Inhabited RG := ⟨⟨0, [], [], 0, [], []⟩⟩
def RG.ok (r : RG) : Prop := r.num < 256 ∧ r.dig.length = 32 ∧ -9223372036854775808 ≤ r.size ∧ r.size ≤ 9223372036854775807
def encR (r : RG) : List Value := [.int .u8 (r.num : Int), .string (str r.media)] ++ r.dig.map byteV ++ [.int .i64 r.size, .string (str r.os), .string (str r.arch)]
theorem encR_len {r : RG} (h : r.ok) : (encR r).length = 37 := by unfold encR; simp [h.2.1]
def RghsC (w : World) (x : Option Addr) (l : List RG) : Prop := ∀ i r, l[i]? = some r → r.ok ∧ ∃ ad, x = some ad ∧ ad.block < w.heap.size ∧ ∀ j v, (encR r)[j]? = some v → w.cell? ((ad.add (i * 37)).add j) = some v
section
variable {H : Type} {enc : TypeId × Value → H} {W : World} {base : Nat} {sp : Nat → Bool} {held : Bool}
set_option maxRecDepth 100000 in
theorem open_byteL {fuel : Nat} {cs : List Value} {x : DataW H × List MemPlace} (h : DataW.trod enc Tryz.prog W base sp held fuel 24 cs = some x) : ∃ l : List UInt8, l.length = 32 ∧ cs = l.map byteV := by
  have he : Tryz.prog.cellsOf 5 = 1 := by kernel_rfl
  have hc : Tryz.prog.cellsOf 24 = 32 := by kernel_rfl
  obtain ⟨xs, m, _, _, hsz, hxs, hall⟩ := DataW.trod_array Tryz.underlying24 h
  rw [hc] at hsz
  have key : ∀ u ∈ cs, ∃ b : UInt8, u = byteV b := by
    intro u hu
    obtain ⟨i, hi, rfl⟩ := List.mem_iff_getElem.1 hu
    have h1 := hall i (by omega)
    rw [he, Nat.mul_one, List.getElem?_eq_getElem (by omega)] at h1
    obtain ⟨a, ha, _, hw⟩ := DataW.trod_int Tryz.underlying5 h1
    have e : (cs.drop i).take 1 = [cs[i]] := by
      rw [List.drop_eq_getElem_cons hi]; rfl
    rw [e] at ha
    have hb : 0 ≤ a ∧ a ≤ 255 := by
      simp [Lit.wf, IntKind.min, IntKind.max, IntKind.signed, IntKind.bits] at hw
      omega
    refine ⟨UInt8.ofNat a.toNat, ?_⟩
    rw [List.cons.inj ha |>.1, byteV_ofNat]
    congr 1
    omega
  obtain ⟨l, hl⟩ := all_bytesV cs key
  refine ⟨l, ?_, hl⟩
  have := congrArg List.length hl
  rw [List.length_map] at this
  omega
set_option maxRecDepth 100000 in
theorem open_platL {fuel : Nat} {cs : List Value} {x : DataW H × List MemPlace} (h : DataW.trod enc Tryz.prog W base sp held fuel 26 cs = some x) : ∃ p : Bs × Bs, cs = [.string (str p.1), .string (str p.2)] := by
  obtain ⟨xs, n, _, _, hlen, hx, hf⟩ := DataW.trod_struct Tryz.underlying26 h
  have hc : Tryz.prog.cellsOf 26 = 2 := by kernel_rfl
  have c1 : Tryz.prog.cellsOf 9 = 1 := by kernel_rfl
  rw [hc] at hlen
  replace hx : xs.length = 2 := hx
  match cs, hlen with
  | [v0, v1], _ =>
    have f0 : DataW.trod enc Tryz.prog W base sp held n 9 (([v0, v1].drop 0).take (Tryz.prog.cellsOf 9)) = xs[0]? := hf 0 _ rfl
    have f1 : DataW.trod enc Tryz.prog W base sp held n 9 (([v0, v1].drop 1).take (Tryz.prog.cellsOf 9)) = xs[1]? := hf 1 _ rfl
    rw [c1, List.getElem?_eq_getElem (by omega)] at f0 f1
    obtain ⟨s0, e0, _, _⟩ := DataW.trod_string Tryz.underlying9 f0
    obtain ⟨s1, e1, _, _⟩ := DataW.trod_string Tryz.underlying9 f1
    have e0' : v0 = .string s0 := (List.cons.inj e0).1
    have e1' : v1 = .string s1 := (List.cons.inj e1).1
    exact ⟨(s0.data.toList, s1.data.toList), by rw [e0', e1']; rfl⟩
set_option maxRecDepth 100000 in
theorem open_roughL {fuel : Nat} {cs : List Value} {x : DataW H × List MemPlace} (h : DataW.trod enc Tryz.prog W base sp held fuel 46 cs = some x) : ∃ r : RG, r.ok ∧ cs = encR r := by
  obtain ⟨xs, n, _, _, hlen, hx, hf⟩ := DataW.trod_struct Tryz.underlying46 h
  have hc : Tryz.prog.cellsOf 46 = 37 := by kernel_rfl
  have c0 : Tryz.prog.cellsOf 5 = 1 := by kernel_rfl
  have c1 : Tryz.prog.cellsOf 9 = 1 := by kernel_rfl
  have c2 : Tryz.prog.cellsOf 24 = 32 := by kernel_rfl
  have c3 : Tryz.prog.cellsOf 3 = 1 := by kernel_rfl
  have c4 : Tryz.prog.cellsOf 26 = 2 := by kernel_rfl
  rw [hc] at hlen
  replace hx : xs.length = 5 := hx
  have f0 : DataW.trod enc Tryz.prog W base sp held n 5 ((cs.drop 0).take (Tryz.prog.cellsOf 5)) = xs[0]? := hf 0 _ rfl
  have f1 : DataW.trod enc Tryz.prog W base sp held n 9 ((cs.drop 1).take (Tryz.prog.cellsOf 9)) = xs[1]? := hf 1 _ rfl
  have f2 : DataW.trod enc Tryz.prog W base sp held n 24 ((cs.drop 2).take (Tryz.prog.cellsOf 24)) = xs[2]? := hf 2 _ rfl
  have f3 : DataW.trod enc Tryz.prog W base sp held n 3 ((cs.drop 34).take (Tryz.prog.cellsOf 3)) = xs[3]? := hf 3 _ rfl
  have f4 : DataW.trod enc Tryz.prog W base sp held n 26 ((cs.drop 35).take (Tryz.prog.cellsOf 26)) = xs[4]? := hf 4 _ rfl
  rw [c0] at f0
  rw [c1] at f1
  rw [c2] at f2
  rw [c3] at f3
  rw [c4] at f4
  rw [List.getElem?_eq_getElem (by omega)] at f0 f1 f2 f3 f4
  obtain ⟨n0, e0, _, w0⟩ := DataW.trod_int Tryz.underlying5 f0
  obtain ⟨s1, e1, _, _⟩ := DataW.trod_string Tryz.underlying9 f1
  obtain ⟨l, hl, e2⟩ := open_byteL f2
  obtain ⟨n3, e3, _, w3⟩ := DataW.trod_int Tryz.underlying3 f3
  obtain ⟨p, e4⟩ := open_platL f4
  obtain ⟨b0, b1⟩ := rough_u8 w0
  obtain ⟨b2, b3⟩ := rough_i64 w3
  obtain ⟨m, rfl⟩ : ∃ m : Nat, n0 = m := ⟨n0.toNat, by omega⟩
  refine ⟨⟨m, s1.data.toList, l, n3, p.1, p.2⟩, ⟨show m < 256 by omega, hl, b2, b3⟩, ?_⟩
  have st : str s1.data.toList = s1 := rfl
  unfold encR
  simp only [st]
  have e5 : cs = (cs.drop 0).take 1 ++ ((cs.drop 1).take 1 ++ ((cs.drop 2).take 32 ++ ((cs.drop 34).take 1 ++ (cs.drop 35).take 2))) := by
    have t5 : (cs.drop 35).take 2 = cs.drop 35 := List.take_of_length_le (by rw [List.length_drop]; omega)
    have t4 : (cs.drop 34).take 1 ++ cs.drop 35 = cs.drop 34 := by
      have := List.take_append_drop 1 (cs.drop 34)
      rwa [List.drop_drop] at this
    have t3 : (cs.drop 2).take 32 ++ cs.drop 34 = cs.drop 2 := by
      have := List.take_append_drop 32 (cs.drop 2)
      rwa [List.drop_drop] at this
    have t2 : (cs.drop 1).take 1 ++ cs.drop 2 = cs.drop 1 := by
      have := List.take_append_drop 1 (cs.drop 1)
      rwa [List.drop_drop] at this
    have t1 : (cs.drop 0).take 1 ++ cs.drop 1 = cs := by
      have := List.take_append_drop 1 (cs.drop 0)
      rwa [List.drop_drop] at this
    rw [t5, t4, t3, t2, t1]
  rw [e5, e0, e1, e2, e3, e4]
  simp
/-- A list of them that comes in. -/
theorem open_roughs {fuel : Nat} {v : Value} {x : DataW H × List MemPlace} (h : DataW.trod enc Tryz.prog W base sp held fuel 47 [v] = some x) :
    ∃ (l : List RG) (xp : Option Addr) (cp : Nat), v = .slice xp l.length cp ∧ RghsC W xp l ∧ l.length ≤ maxLen ∧ ∀ B : Nat, (∀ el sp, x.1 = .slice el sp → (el.length + sp.length) * Tryz.prog.bytesOf 46 ≤ B) → l.length * Tryz.prog.bytesOf 46 ≤ B := by
  have hc4 : Tryz.prog.cellsOf 46 = 37 := by kernel_rfl
  rcases open_slice Tryz.underlying47 h with ⟨hcs, _⟩ | ⟨a, len, cap, m, n, D, Pl, hcs, _, hl, hm, hmm, hdx, hx⟩
  · exact ⟨[], none, 0, (List.cons.inj hcs).1, (fun i p hi => by cases hi), Nat.zero_le _, (fun B _ => by rw [List.length_nil, Nat.zero_mul]; exact Nat.zero_le _)⟩
  · have hlm : len ≤ m := by rw [hmm]; split <;> omega
    rw [hc4] at hx
    have key : ∀ i, i < len → ∃ z : RG, z.ok ∧ a.block < W.heap.size ∧ ∀ j v, (encR z)[j]? = some v → W.cell? ((a.add (i * 37)).add j) = some v := by
      intro i hi
      obtain ⟨cs', h1, h2⟩ := hx i (by omega)
      obtain ⟨_, h3, hat⟩ := World.cells?_some h1
      obtain ⟨r, hr, rfl⟩ := open_roughL h2
      have q0 := hat 0 (by decide)
      rw [Addr.add_zero'] at q0
      have hb := World.block_lt_of_cell? W _ (q0.trans (List.getElem?_eq_getElem (by rw [encR_len hr]; decide)))
      rw [add_block] at hb
      refine ⟨r, hr, hb, fun j v hj => ?_⟩
      have hj4 : j < 37 := by have := (List.getElem?_eq_some_iff.1 hj).1; rwa [encR_len hr] at this
      exact (hat j hj4).trans hj
    obtain ⟨f, hf⟩ := choose_lt key
    have e1 : ((List.range len).map f).length = len := by rw [List.length_map, List.length_range]
    have e2 : v = .slice (some a) len cap := (List.cons.inj hcs).1
    refine ⟨(List.range len).map f, some a, cap, by rw [e1]; exact e2, fun i p hi => ?_, ?_, ?_⟩
    · have hlt : i < len := by
        have := (List.getElem?_eq_some_iff.1 hi).1
        rwa [e1] at this
      rw [List.getElem?_map, List.getElem?_range hlt] at hi
      obtain rfl : f i = p := Option.some.inj hi
      exact ⟨(hf i hlt).1, a, rfl, (hf i hlt).2.1, (hf i hlt).2.2⟩
    · rw [e1]
      omega
    · intro B hB
      have := hB _ _ (by rw [hdx])
      rw [List.length_map, List.length_range, List.length_map, List.length_range, Nat.add_mul] at this
      rw [e1]
      omega
/-- A list of digests that comes in. -/
theorem open_digs {fuel : Nat} {v : Value} {x : DataW H × List MemPlace} (h : DataW.trod enc Tryz.prog W base sp held fuel 37 [v] = some x) :
    ∃ (l : List Bs) (xp : Option Addr) (cp : Nat), v = .slice xp l.length cp ∧ eDigs.at_ W (fun k => k < W.heap.size) l v ∧ l.length ≤ maxLen ∧ ∀ d ∈ l, d.length = 32 := by
  have hc4 : Tryz.prog.cellsOf 24 = 32 := by kernel_rfl
  rcases open_slice Tryz.underlying37 h with ⟨hcs, _⟩ | ⟨a, len, cap, m, n, D, Pl, hcs, _, hl, hm, hmm, _, hx⟩
  · exact ⟨[], none, 0, (List.cons.inj hcs).1, .inl ⟨(List.cons.inj hcs).1, rfl⟩, Nat.zero_le _, (fun d hd => by cases hd)⟩
  · have hlm : len ≤ m := by rw [hmm]; split <;> omega
    rw [hc4] at hx
    have key : ∀ i, i < len → ∃ z : Bs, z.length = 32 ∧ a.block < W.heap.size ∧ ∀ j v, (z.map byteV)[j]? = some v → W.cell? ((a.add (i * 32)).add j) = some v := by
      intro i hi
      obtain ⟨cs', h1, h2⟩ := hx i (by omega)
      obtain ⟨_, h3, hat⟩ := World.cells?_some h1
      obtain ⟨r, hr, rfl⟩ := open_byteL h2
      have q0 := hat 0 (by decide)
      rw [Addr.add_zero'] at q0
      have hb := World.block_lt_of_cell? W _ (q0.trans (List.getElem?_eq_getElem (by rw [List.length_map, hr]; decide)))
      rw [add_block] at hb
      refine ⟨r, hr, hb, fun j v hj => ?_⟩
      have hj4 : j < 32 := by have := (List.getElem?_eq_some_iff.1 hj).1; rwa [List.length_map, hr] at this
      exact (hat j hj4).trans hj
    obtain ⟨f, hf⟩ := choose_lt key
    have e1 : ((List.range len).map f).length = len := by rw [List.length_map, List.length_range]
    have e2 : v = .slice (some a) len cap := (List.cons.inj hcs).1
    have hg : ∀ (i : Nat) (p : Bs), ((List.range len).map f)[i]? = some p → i < len ∧ f i = p := fun i p hi => by
      have hlt : i < len := by
        have := (List.getElem?_eq_some_iff.1 hi).1
        rwa [e1] at this
      rw [List.getElem?_map, List.getElem?_range hlt] at hi
      exact ⟨hlt, Option.some.inj hi⟩
    refine ⟨(List.range len).map f, some a, cap, by rw [e1]; exact e2, .inr ⟨a, cap, by rw [e1]; exact e2, fun i p hi => ?_⟩, ?_, fun d hd => ?_⟩
    · obtain ⟨hlt, rfl⟩ := hg i p hi
      refine ⟨(hf i hlt).2.1, (hf i hlt).1, fun j u hj => ?_⟩
      have hh := (hf i hlt).2.2 j u (by simpa [cells8] using hj)
      rw [add_add] at hh
      rwa [show 32 * i + j = i * 32 + j by omega]
    · rw [e1]
      omega
    · obtain ⟨i, hi⟩ := List.mem_iff_getElem?.1 hd
      obtain ⟨hlt, rfl⟩ := hg i d hi
      exact (hf i hlt).1
end
end Go.Proofs.YtnkencdibniagaaGreatDoor

