/- Layer 15: entries behind entries. -/
import Derived.Test.YtmgpofdmoaafoaaGreatDoorTrU
import Derived.Deep.AppendLies
import Derived.Deep.Upon
namespace Go.Proofs.YtmgpofdmoaafoaaGreatDoor
open Go.RowKit
attribute [local go_sem] wide_fn round_fn

theorem rowE_at {l : List Ent} {i : Nat} {x : Ent} (h : l[i]? = some x) {j : Nat} (hj : j < 5) : (rowE l)[i * 5 + j]? = (entV x)[j]? := by
  have hi : i < l.length := (List.getElem?_eq_some_iff.1 h).1
  have e : rowE l = rowE (l.take i) ++ (entV x ++ rowE (l.drop (i + 1))) := by
    conv => lhs; rw [← List.take_append_drop i l, List.drop_eq_getElem_cons hi]
    rw [rowE_app]
    have hxe : l[i] = x := by rw [List.getElem?_eq_getElem hi] at h; exact Option.some.inj h
    rw [hxe]
    simp [rowE]
  have hl : (rowE (l.take i)).length = i * 5 := by rw [rowE_len, List.length_take]; omega
  rw [e, List.getElem?_append_right (by omega), hl, Nat.add_sub_cancel_left, List.getElem?_append_left (by exact hj)]
theorem rowE_ones (l : List Ent) : ∀ u ∈ rowE l, u.oneCell' = true := fun u hu => by
  obtain ⟨x, _, hx⟩ := List.mem_flatMap.1 hu
  exact entV_one x u hx
theorem EntsAt.row {w : World} {a : Addr} {l : List Ent} (h : EntsAt w (some a) l) : ∀ j u, (rowE l)[j]? = some u → w.cell? (a.add j) = some u := fun j u hu => by
  have hj := (List.getElem?_eq_some_iff.1 hu).1
  rw [rowE_len] at hj
  have hi : j / 5 < l.length := by omega
  obtain ⟨a', ha, _, hc⟩ := h (j / 5) l[j / 5] (List.getElem?_eq_getElem hi)
  obtain rfl := Option.some.inj ha
  have e : j / 5 * 5 + j % 5 = j := by omega
  have := hc (j % 5) u (by rw [← rowE_at (List.getElem?_eq_getElem hi) (Nat.mod_lt _ (by decide)), e]; exact hu)
  rw [add_add, e] at this
  exact this
/-- Entries are appended to a slice of the call's own. -/
theorem wpList_append_e {w : World} {ops : Array Oper} {rest : List Oper} {o : Oper} {a : Act} {Q : Exit → Act → World → Prop} (hw : Region.wanted o (yielded ops a.tmps) = true) (s x : Operand)
    (ho : o.op = .call { callee := .builtin .append, args := #[s, x], argTypes := #[22, 22] })
    (base : Nat) (v : Value) (A : List Ent) (hs : a.eval s = v) (hown : OwnsE w base v A)
    (y : Option Addr) (cy : Nat) (B : List Ent) (hx : a.eval x = .slice y B.length cy) (hB : EntsAt w y B)
    (hl : A.length + B.length ≤ 1000000) (hbase : base ≤ w.heap.size)
    (h : ∀ v' w', OwnsE w' base v' (A ++ B) → Below base w w' → wpList Tryz.prog ops Q rest (a.put o.dst v') w') :
    wpList Tryz.prog ops Q (o :: rest) a w := by
  obtain ⟨k0, ki, kz0, kz1, kz2⟩ := info_parts info_ent
  refine wpList_step fun K hK => ?_
  rw [if_pos hw]
  have hlt := World.ownsRow.lt hown
  by_cases hB0 : B = []
  · subst hB0
    have hsrc : Src Tryz.prog k0.size 22 (.slice y 0 cy) 0 [] w := by
      cases y with
      | none => exact Src.ofNil w Tryz.underlying22 cy
      | some ad => exact Src.ofSlice w Tryz.underlying22 ad 0 cy [] (by simp) (fun j u hu => by simp at hu) (fun u hu => by cases hu)
    have hfin : ∀ (b' : Option Addr) (n' c' : Nat), v = .slice b' n' c' → n' ≤ c' → Oper.wp Tryz.prog o a w K Q := fun b' n' c' hv hle => by
      have hr := run_append_nothing (P := Tryz.prog) w 22 22 o.type 39 k0 Tryz.underlying22 ki b' n' c' hle (.slice y 0 cy) hsrc
      have hx' : a.eval x = .slice y 0 cy := hx
      unfold Oper.wp execOp
      simp only [ho, resolve, invoke, builtin, Sem.run_bind, Sem.run_pure, Result.andThen_ok, List.map_toArray, List.map_cons, List.map_nil, hs, hv, hx', hr]
      exact hK _ _ (h _ w (by rw [List.append_nil, ← hv]; exact hown) (Below.refl _ _))
    rcases hown.2 with ⟨hv, _⟩ | ⟨g, cap, cur, hv, _, _, hc, _⟩
    · exact hfin _ _ _ hv (Nat.le_refl _)
    · exact hfin _ _ _ hv hc
  · have hp : 0 < B.length := List.length_pos_iff.2 hB0
    obtain ⟨ad, rfl⟩ : ∃ ad, y = some ad := by
      obtain ⟨ad, he, _⟩ := hB 0 B[0] (List.getElem?_eq_getElem hp)
      exact ⟨ad, he⟩
    refine wp_append_lies w s x 22 ho base 39 k0 _ 5 64 Tryz.underlying22 ki kz0 kz1 kz2 rfl (by decide) v A.length (rowE A) hs hown ad B.length cy (rowE B) hx (rowE_len B) hB.row (rowE_ones B) hp (by unfold maxLen; omega) (by omega) hbase _ rfl fun g cap w' h2 h3 _ _ => ?_
    refine hK _ _ (h _ w' ?_ ((Below.refl _ _).grown h3 hbase fun j hj => (hlt j hj).1))
    unfold OwnsE
    rw [List.length_append, rowE_app]
    exact h2

end Go.Proofs.YtmgpofdmoaafoaaGreatDoor
#print axioms Go.Proofs.YtmgpofdmoaafoaaGreatDoor.wpList_append_e
