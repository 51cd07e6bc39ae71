/- Layer 12: a name in memory; the document's 'text'. -/
import Derived.Deep.MidRow
import Derived.Test.YtldbfjcfobdkpaaDoorRfE
import Derived.Test.YtldbfjcfobdkpaaDoorDxE
namespace Go.Proofs.YtldbfjcfobdkpaaDoor
open Go.RowKit

/-- A name's cells. -/
def refL (r : RR) : List Value := [.string (str r.dom), .string (str r.path), .string (str r.tag)] ++ r.dig.map byteV ++ [.bool r.pin]
def refC (r : RR) : Array Value := (refL r).toArray
/-- Texts of some length, and a digest. -/
structure RR.ok (r : RR) : Prop where
  dom : r.dom.length ≤ 1000
  path : r.path.length ≤ 1000
  tag : r.tag.length ≤ 1000
  dig : r.dig.length = 32
theorem refC_size {r : RR} (h : r.ok) : (refC r).size = 36 := by unfold refC refL; simp [h.dig]
theorem refC_all (r : RR) : (refC r).all (·.oneCell') = true := all_oneCell_toArray (fun v hv => by
  unfold refL at hv
  simp only [List.mem_append, List.mem_cons, List.not_mem_nil, or_false, List.mem_map] at hv
  rcases hv with ((rfl | rfl | rfl) | ⟨b, _, rfl⟩) | rfl <;> rfl)
/-- A name lies in a block. -/
def refAt (w : World) (b : Nat) (r : RR) : Prop := rowC w b (refC r) 26
theorem refAt.cells {w : World} {b : Nat} {r : RR} (h : refAt w b r) (ho : r.ok) :
    w.cell? ⟨b, 0, none⟩ = some (.string (str r.dom)) ∧ w.cell? ⟨b, 1, none⟩ = some (.string (str r.path)) ∧ w.cell? ⟨b, 2, none⟩ = some (.string (str r.tag)) ∧ w.cell? ⟨b, 35, none⟩ = some (.bool r.pin) := by
  refine ⟨rowC_cell h 0, rowC_cell h 1, rowC_cell h 2, ?_⟩
  rw [rowC_cell h 35]
  unfold refC refL
  rw [List.getElem?_toArray, List.getElem?_append_right (by simp [ho.dig])]
  simp [ho.dig]
theorem refAt.dig {w : World} {b : Nat} {r : RR} (h : refAt w b r) (_ho : r.ok) : w.rangeAt b 3 (r.dig.map byteV) := fun j v hv => by
  rw [rowC_cell h (3 + j)]
  unfold refC refL
  have hj : j < (r.dig.map byteV).length := (List.getElem?_eq_some_iff.1 hv).1
  rw [List.getElem?_toArray, List.append_assoc, List.getElem?_append_right (by simp), List.getElem?_append_left (by simpa using hj)]
  simpa using hv
theorem refAt.below {w w' : World} {b : Nat} {r : RR} (h : refAt w b r) (hb : Below w.heap.size w w') : refAt w' b r := rowC_below h hb (rowC_lt h)
theorem info_digestL {l : List UInt8} (hl : l.length = 32) : (Tryd.prog.info? 24).map (·.size) = some (l.map byteV).length := by rw [List.length_map, hl]; kernel_rfl
theorem textR_eq (r : RR) : str (textR r) = (if r.tag = [] then (if r.pin = true then str r.dom ++ ⟨#[47]⟩ ++ str r.path ++ ⟨#[64]⟩ ++ str (textL r.dig) else str r.dom ++ ⟨#[47]⟩ ++ str r.path)
    else (if r.pin = true then str r.dom ++ ⟨#[47]⟩ ++ str r.path ++ ⟨#[58]⟩ ++ str r.tag ++ ⟨#[64]⟩ ++ str (textL r.dig) else str r.dom ++ ⟨#[47]⟩ ++ str r.path ++ ⟨#[58]⟩ ++ str r.tag)) := by
  rw [show (⟨#[47]⟩ : ByteArray) = str [47] from rfl, show (⟨#[58]⟩ : ByteArray) = str [58] from rfl, show (⟨#[64]⟩ : ByteArray) = str [64] from rfl]
  unfold textR
  split <;> split <;> simp only [str_append, List.append_nil, List.append_assoc]
theorem textR_le {r : RR} (h : r.ok) : (textR r).length ≤ 4000 := by
  have h1 := h.dom; have h2 := h.path; have h3 := h.tag; have h4 := h.dig
  have h5 := textL_length r.dig
  unfold textR
  simp only [List.length_append, List.length_cons, List.length_nil]
  split <;> split <;> simp only [List.length_append, List.length_cons, List.length_nil] <;> omega
set_option maxRecDepth 100000 in
set_option maxHeartbeats 4000000 in
theorem texta_any (r : RR) (w : World) (h : r.ok) :
    Calls Tryd.prog 24 #[.agg (refC r)] w fun e w' => e = .returned (.string (str (textR r))) ∧ Below w.heap.size w w' := by
  have r0 : refAt (w.alloc (.cells (refC r) 26)) w.heap.size r := rowC_new w _ _
  have al : Below w.heap.size w (w.alloc (.cells (refC r) 26)) := (Below.refl _ _).alloc (Nat.le_refl _) _
  obtain ⟨c0, c1, c2, c3⟩ := r0.cells h
  have HD := Lib.hid (r0.dig h)
  have CT := Lib.hid (show ∀ w : World, Calls Tryd.prog 43 #[.agg (r.dig.map byteV).toArray] w fun e w' => e = .returned (.string (str (textL r.dig))) ∧ Below w.heap.size w w' from fun w => rtext_any r.dig w h.dig)
  have HI := Lib.hid (info_digestL h.dig)
  have HB := Lib.hid al
  have HT := Lib.hid (textR_eq r)
  have hsz := refC_size h
  have z0 := str_size r.dom
  have z1 := str_size r.path
  have z2 := str_size r.tag
  have b0 := h.dom
  have b1 := h.path
  have b2 := h.tag
  have zt : (str (textL r.dig)).size = 71 := by rw [str_size, textL_length, h.dig]
  have he := eq_none r.tag
  obtain ⟨w1, hw1⟩ : ∃ w1, w.alloc (.cells (refC r) 26) = w1 := ⟨_, rfl⟩
  rw [hw1] at c0 c1 c2 c3 HD HB
  clear al r0 h
  by_cases ht : r.tag = []
  all_goals
    first | rw [decide_eq_true ht] at he | rw [decide_eq_false ht] at he
    first | rw [if_pos ht] at HT | rw [if_neg ht] at HT
    clear ht
    cases hp : r.pin
    all_goals
      rw [hp] at c3 HT
      first | rw [if_pos rfl] at HT | rw [if_neg (by decide)] at HT
      clear hp
      generalize r.dom = D at *
      generalize r.path = P at *
      generalize r.tag = T at *
      go_enter Tryd.func24, Tryd.ntmps24
      go_wp2_with (first
        | ((with_reducible show wpList _ _ _ (⟨some 23, _, _, _, _, _⟩ :: _) _ _); refine wpList_load_mid rfl 24 (.tmp 22) rfl w.heap.size 3 rfl (r.dig.map byteV) _ HD.out Tryd.underlying24 rfl HI.out ?_)
        | (go_at_call 43; ((with_reducible refine (CT.out _).mono ?_); rintro e w2 ⟨rfl, b2'⟩); have B2 := Lib.hid (HB.out.trans (b2'.mono HB.out.size)); clear b2'))
      go_ret
      exact ⟨retStr HT.out.symm, by first | exact B2.out | exact HB.out⟩
end Go.Proofs.YtldbfjcfobdkpaaDoor
