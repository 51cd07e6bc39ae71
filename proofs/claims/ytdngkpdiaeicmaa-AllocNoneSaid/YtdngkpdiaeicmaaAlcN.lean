/- Layer 8: AllocPlay: one more is taken; an act's box; masks. -/
import Derived.Test.YtdngkpdiaeicmaaAlcL
namespace Go.Proofs.Ytdngkpdiaeicmaa
open Go.RowKit

theorem owns_apart {w : World} {b1 b2 s1 s2 n1 n2 : Nat} {e1 e2 : TypeId} {v1 v2 : Value} {xs1 xs2 : List Value} (h1 : w.ownsRow b1 e1 s1 v1 n1 xs1) (h2 : w.ownsRow b2 e2 s2 v2 n2 xs2) (hne : e1 ≠ e2) : ∀ g, v1.ownBlock = some g → ¬ v2.ownBlock = some g := by
  intro g hg hg2
  rcases h2.2 with ⟨hv, _⟩ | ⟨g', cap, cur, hv, _, hgg, _⟩
  · rw [hv] at hg2; cases hg2
  · rw [hv] at hg2
    simp [Value.ownBlock] at hg2
    subst hg2
    have := owns_ne (cs := cur) h1 (show rowC w g' cur e2 from hgg) hne
    exact absurd rfl (this g' hg)
section
variable {I : Impl} {W w w' : World} {q p : Nat} {LP LR : List Bool} {vt : Value} {tk hs : List (Value × List (Nat × Nat))} {bs : List (Nat × Array Value)}
theorem PlayI.append (h : PlayI I W w q p LP LR vt tk hs bs) {ob : Obj} {g cap N : Nat} {y : Value × List (Nat × Nat)} (hN : N = tk.length) (hy : y ∈ hs) (hg : (w.alloc ob).grownBy w' vt.ownBlock)
    (hown : w'.ownsRow W.heap.size 33 1 (.slice (some ⟨g, 0, none⟩) (N + 1) cap) (N + 1) (tk.map (·.1) ++ [y.1])) (hat : vt.ownBlock = some g ∨ g = w.heap.size + 1) :
    PlayI I W w' q p LP LR (.slice (some ⟨g, 0, none⟩) (N + 1) cap) (tk ++ [y]) hs bs := by
  obtain ⟨v, o, h⟩ := h
  have hc : Chg (fun k => vt.ownBlock = some k) w w' := ((Chg.refl _ w).alloc ob).grown hg (fun k hk => .inl hk)
  refine ⟨v, o, h.r.chg hc (fun k hk e => (h.tx k e).2 hk), I.chg h.i hc (fun k hk e => (h.tx k e).1 hk), h.x, h.oW, h.vW, fun z hz => ?_, fun j hj => ?_, fun z hz => ?_, ?_, fun z hz => ?_, h.okh, h.n, Chg.belowW h.b hc (fun j hj => (h.t.lt j hj).1)⟩
  · obtain ⟨j1, j2⟩ := h.h z hz
    exact ⟨owns_chg j1 hc (fun j hj e => owns_apart h.t j1 (by decide) j e hj), j2⟩
  · simp only [Value.ownBlock, Option.some.injEq] at hj
    subst hj
    rcases hat with hat | hat
    · exact h.tx g hat
    · exact ⟨fun e => by have := I.lt h.i g e; omega, fun e => by have := h.r.lt g e; omega⟩
  · obtain ⟨j1, j2, j3⟩ := h.bx z hz
    exact ⟨hc.rowC j1 (fun e => owns_ne h.t j1 (by decide) z.1 e rfl), j2, j3⟩
  · rw [List.length_append, List.length_singleton, ← hN, List.map_append]
    exact hown
  · rcases List.mem_append.1 hz with hz | hz
    · exact h.sub z hz
    · rw [List.mem_singleton.1 hz]; exact hy
/-- An act's box. -/
theorem PlayI.box (h : PlayI I W w q p LP LR vt tk hs bs) (cs : Array Value) : PlayI I W (w.alloc (.cells cs 35)) q p LP LR vt tk hs ((w.heap.size, cs) :: bs) := by
  obtain ⟨v, o, h0⟩ := h.below ((Below.refl _ _).alloc (Nat.le_refl _) (.cells cs 35))
  obtain ⟨v1, o1, h1⟩ := h
  have h2 := h1.step (Chg.of_below (s := fun _ => False) ((Below.refl _ _).alloc (Nat.le_refl _) (.cells cs 35))) (fun _ hj => hj.elim) (h1.r.below ((Below.refl _ _).alloc (Nat.le_refl _) _)) (I.below h1.i ((Below.refl _ _).alloc (Nat.le_refl _) _)) h1.x (fun j hj => .inl (.inl hj)) (fun j hj => .inl (.inr hj)) rfl
  refine ⟨v1, o1, h2.r, h2.i, h2.x, h2.oW, h2.vW, h2.h, h2.tx, fun y hy => ?_, h2.t, h2.sub, h2.okh, h2.n, h2.b⟩
  rcases List.mem_cons.1 hy with rfl | hy
  · exact ⟨rowC_new _ _ _, h1.b.size, fun e => by have := I.lt h1.i _ e; omega, fun e => by have := h1.r.lt _ e; omega⟩
  · exact h2.bx y hy
theorem PlayI.boxAt (h : PlayI I W w q p LP LR vt tk hs bs) {b : Nat} {cs : Array Value} (hb : (b, cs) ∈ bs) : rowC w b cs 35 := by
  obtain ⟨v, o, h⟩ := h
  exact (h.bx _ hb).1
theorem PlayI.less (h : PlayI I W w q p LP LR vt tk hs bs) : PlayI I W w q p LP LR vt tk hs [] := by
  obtain ⟨v, o, h⟩ := h
  exact ⟨v, o, h.r, h.i, h.x, h.oW, h.vW, h.h, h.tx, fun y hy => by simp at hy, h.t, h.sub, h.okh, h.n, h.b⟩
theorem PlayI.taken (h : PlayI I W w q p LP LR vt tk hs bs) {k : Nat} (hk : k < tk.length) : ∃ g cap, vt = .slice (some ⟨g, 0, none⟩) tk.length cap ∧ w.cell? ⟨g, k, none⟩ = some (tk[k].1) := by
  obtain ⟨v, o, h⟩ := h
  obtain ⟨g, cap, rfl⟩ := owns_some h.t (by omega)
  refine ⟨g, cap, rfl, ?_⟩
  rw [h.t.cellAt k (by omega), List.getElem?_map, List.getElem?_eq_getElem hk]
  rfl
theorem PlayI.size (h : PlayI I W w q p LP LR vt tk hs bs) : Below W.heap.size W w := by obtain ⟨v, o, h⟩ := h; exact h.b
theorem PlayI.len (h : PlayI I W w q p LP LR vt tk hs bs) : 1 ≤ LR.length ∧ LR.length ≤ 4096 := by obtain ⟨v, o, h⟩ := h; exact h.n
theorem PlayI.owns (h : PlayI I W w q p LP LR vt tk hs bs) {x : Value} {l : List (Nat × Nat)} (hx : (x, l) ∈ hs) : OwnsE w W.heap.size x l ∧ l.length ≤ 8 := by obtain ⟨v, o, h⟩ := h; exact ⟨(h.h _ hx).1, (h.okh _ hx).2⟩
theorem PlayI.row (h : PlayI I W w q p LP LR vt tk hs bs) : w.ownsRow W.heap.size 33 1 vt tk.length (tk.map (·.1)) := by obtain ⟨v, o, h⟩ := h; exact h.t
/-- New maps, and 'taken' with nothing in it. -/
theorem play_start {w1 w2 : World} {m : Nat} {v : Value} {o : Nat → Prop} (h1 : I.Inv w1 q (List.replicate m false) o) (hb1 : Below W.heap.size W w1) (ho : ∀ k, o k → W.heap.size ≤ k) (h2 : RefM w2 p v (List.replicate m false)) (hb2 : Below w1.heap.size w1 w2) (ho2 : ∀ k, refOwn p v k → w1.heap.size ≤ k) (hm : 1 ≤ m) (hm2 : m ≤ 4096) :
    PlayI I W (w2.alloc (.cells #[.slice none 0 0] 33)) q p (List.replicate m false) (List.replicate m false) (.slice (some ⟨w2.heap.size, 0, none⟩) 1 1) [(.slice none 0 0, [])] [(.slice none 0 0, [])] [] := by
  have hs := hb1.size
  have hb3 : Below w2.heap.size w2 (w2.alloc (.cells #[.slice none 0 0] 33)) := (Below.refl _ _).alloc (Nat.le_refl _) _
  have i2 := I.below (I.below h1 hb2) hb3
  have hd : ∀ j, refOwn p v j → ¬ o j := fun j hj hoj => by have := ho2 j hj; have := I.lt h1 j hoj; omega
  refine ⟨v, o, h2.below hb3, i2, hd, ho, fun j hj => Nat.le_trans hs (ho2 j hj), fun y hy => ?_, fun g hg => ?_, fun y hy => by simp at hy, ?_, fun y hy => hy, fun y hy => ?_, by rw [List.length_replicate]; exact ⟨hm, hm2⟩, (hb1.trans (hb2.mono hs)).trans (hb3.mono (Nat.le_trans hs hb2.size))⟩
  · rw [List.mem_singleton.1 hy]
    exact ⟨OwnsE.nil _ _, fun g hg => by cases hg⟩
  · simp only [Value.ownBlock, Option.some.injEq] at hg
    subst hg
    exact ⟨fun e => by have := I.lt (I.below h1 hb2) _ e; omega, fun e => by have := h2.lt _ e; omega⟩
  · refine ⟨rfl, .inr ⟨w2.heap.size, 1, #[.slice none 0 0], rfl, Nat.le_trans hs hb2.size, heap_alloc_new _ _, Nat.le_refl _, by decide, rfl, rfl⟩⟩
  · rw [List.mem_singleton.1 hy]
    simp
end
theorem own_b {I : Impl} {W w : World} {q : Nat} {L : List Bool} (h : I.Own W w q L) : Below W.heap.size W w := by obtain ⟨o, _, h2, _⟩ := h; exact h2
theorem own_bytes {I : Impl} {W w : World} {q : Nat} {L : List Bool} (h : I.Own W w q L) : Calls Try.prog 21 #[.pointer (some ⟨q, 0, none⟩)] w fun e w' => e = .returned (.string (str (packL L))) ∧ Below w.heap.size w w' := by
  obtain ⟨o, h1, _, _⟩ := h
  exact I.bytes h1
theorem info_exts : (Try.prog.info? 33).map (fun i => (i.zero, i.size, i.bytes)) = some (some (.slice none 0 0), 1, 24) := by kernel_rfl
theorem i64_mask (n : Int) (j : Nat) (hj : j ≤ 60) (m : Int) (hm : (BitVec.ofInt 64 m).toNat = 2 ^ j - 1) : bits .and .i64 n m = n % ((2 ^ j : Nat) : Int) := by
  have key : (BitVec.ofInt 64 n &&& BitVec.ofInt 64 m).toNat = (n % ((2 ^ 64 : Nat) : Int)).toNat % 2 ^ j := by
    rw [BitVec.toNat_and, BitVec.toNat_ofInt, hm, Nat.and_two_pow_sub_one_eq_mod]
  show IntKind.i64.wrap ((BitVec.ofInt 64 n &&& BitVec.ofInt 64 m).toNat : Nat) = n % ((2 ^ j : Nat) : Int)
  rw [key, IntKind.wrap_i64]
  have hp : (2 ^ j) ∣ 18446744073709551616 := by
    have : (2 : Nat) ^ j ∣ 2 ^ 64 := Nat.pow_dvd_pow 2 (by omega)
    simpa using this
  have hle : 2 ^ j ≤ 1152921504606846976 := Nat.le_trans (Nat.pow_le_pow_right (n := 2) (by omega) hj) (by decide)
  have hpos : 0 < 2 ^ j := Nat.two_pow_pos j
  generalize 2 ^ j = p at *
  obtain ⟨q, hq⟩ := hp
  have h1 : (n % ((2 ^ 64 : Nat) : Int)).toNat % p < p := Nat.mod_lt _ hpos
  have h2 : (((n % ((2 ^ 64 : Nat) : Int)).toNat % p : Nat) : Int) = n % (p : Int) := by
    rw [Int.natCast_emod, Int.toNat_of_nonneg (Int.emod_nonneg _ (by decide))]
    exact Int.emod_emod_of_dvd _ ⟨(q : Int), by rw [← Int.natCast_mul, ← hq]⟩
  rw [h2]
  have h3 : n % (p : Int) < p := Int.emod_lt_of_pos _ (by omega)
  have h4 : 0 ≤ n % (p : Int) := Int.emod_nonneg _ (by omega)
  omega
theorem i64_and255 (n : Int) : bits .and .i64 n 255 = n % 256 := i64_mask n 8 (by decide) 255 (by decide)
theorem i64_and31 (n : Int) : bits .and .i64 n 31 = n % 32 := i64_mask n 5 (by decide) 31 (by decide)
end Go.Proofs.Ytdngkpdiaeicmaa
