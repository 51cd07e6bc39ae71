/- Layer 16: maps.DeleteFunc over the ground's map, with any predicate on places. -/
import Derived.Test.YtokeiagcdahmaaaDoorTtH
import Derived.Laws.IdiomRangeMap
import Derived.Deep.LoopGhost
namespace Go.Proofs.YtokeiagcdahmaaaDoor
open Go.RowKit Go.Maps

theorem key_inv {key : Value} {kl : Lit} (h : keyOf Tryd.prog 9 key = some kl) : ∃ s : ByteArray, key = .string s ∧ kl = .string s.data.toList := by
  rw [Go.keyOf_string Tryd.underlying9] at h
  cases key <;> simp [mapKey, Tryd.underlying9] at h
  rename_i s
  exact ⟨s, rfl, h.2.symm⟩
/-- The predicate, on what a map's entry reads as. -/
def pdP (f : Pl → Bool) (_ : Lit) (d : DataW Pl) : Bool := match d with | .held p => f p | _ => false
theorem dat_entry {G : List Pl} {F : Lit × DataW Pl → Bool} {kl : Lit} {p : Pl} {s : ByteArray} (hkl : kl = .string s.data.toList)
    (hat : ∀ zd, (DataW.map ((G.map fun p => ((Lit.string p.nd.path, DataW.held p) : Lit × DataW Pl)).filter F)).atKey kl zd = .held p) : p ∈ G ∧ s = str p.nd.path := by
  subst hkl
  have h := hat .nil
  unfold DataW.atKey at h
  simp only at h
  split at h
  · rename_i q hq
    have h1 := List.find?_some hq
    have h2 := (List.mem_filter.1 (List.mem_of_find?_eq_some hq)).1
    obtain ⟨r, hr, rfl⟩ := List.mem_map.1 h2
    simp only at h h1
    cases h
    rw [string_key] at h1
    refine ⟨hr, ?_⟩
    have e := of_decide_eq_true h1
    refine bytes_toList ?_
    rw [str_toList]
    exact e.symm
  · cases h
theorem Tryd.infoPl : (Tryd.prog.info? 54).map (·.size) = some 5 := info_pl5
set_option maxHeartbeats 16000000 in
set_option maxRecDepth 100000 in
theorem delFunc_any (f : Pl → Bool) (g : Nat) (cb : Array Value) (M : Nat) (G : List Pl) (w : World)
    (eg : ∀ args w, (callFunc g args).run Tryd.prog w = .ok (.enter g args) w) (hM : MapG w M G)
    (hdel : ∀ (W : World) (p : Pl), p ∈ G → w.grownBy W (some M) → Calls Tryd.prog g (#[.string (str p.nd.path), .agg (plA p)] ++ cb) W fun e w' => e = .returned (.bool (f p)) ∧ W.grownBy w' none) :
    Calls Tryd.prog 47 #[.map (some M), .func (.func g) #[] cb] w fun e w' => e = .returned (.tuple #[]) ∧ MapG w' M (G.filter fun p => !f p) ∧ w.grownBy w' (some M) := by
  have HI := Lib.hid info_pl5
  obtain ⟨es0, hes, hap, hkeys⟩ := World.ownsMap.entries hM key_law
  have hes2 : es0 = G.map fun p => ((Lit.string p.nd.path, DataW.held p) : Lit × DataW Pl) := by
    unfold datG at hes
    injection hes with hes
    exact hes.symm
  have hown : w.ownsMap Tryd.prog 9 plR M G.length (.map es0) := by rw [← hes]; exact hM
  have HENT : Hid (∀ {F : Lit × DataW Pl → Bool} {kl : Lit} {p : Pl} {s : ByteArray}, kl = .string s.data.toList → (∀ zd, (DataW.map (es0.filter F)).atKey kl zd = .held p) → p ∈ G ∧ s = str p.nd.path) := Lib.hid fun h1 h2 => dat_entry h1 (by rw [← hes2]; exact h2)
  have HEND : Hid (∀ w' : World, w'.ownsMap Tryd.prog 9 plR M G.length (Lib.deleteFuncD (pdP f) (.map es0)) → MapG w' M (G.filter fun p => !f p)) := Lib.hid fun w' h => by
    rw [← hes, dat_filter] at h
    exact MapG.of h
  have HD : Aside _ := hdel
  obtain ⟨n, hn⟩ : ∃ n, n = G.length := ⟨_, rfl⟩
  rw [← hn] at hown HEND
  clear hdel hM hes hes2 hn
  go_enter Tryd.func47, Tryd.ntmps47
  go_wp2_with (first
    | (at_range; refine wpList_range_own _ rfl _ 50 rfl 9 54 key_law Tryd.underlying50 plR M n _ rfl hown ?_; intro w0 hrg0 hg0 hs0)
    | go_in)
  go_frame
  go_loopw [4, 5, 8] (fun _ _ _ wr => ∃ (left : Lit → Bool) (cnt : Nat), wr.ranges Tryd.prog 9 plR M w.heap.size n (Fk (pdP f) es0 left) left cnt ∧ w.grownBy wr (some M))
    (fun _ _ _ wr => wr.rangeLeft M w.heap.size)
  case atStart => exact ⟨_, _, by rw [Fk_start hkeys]; exact hrg0, hg0.but _⟩
  case round =>
    obtain ⟨left, cnt, hrg, hgw⟩ := hrel
    go_wp2_with (first
      | (at_next; refine wpList_next_ranges _ rfl _ rfl 9 key_law plR Value.string (fun p => Value.agg (plA p)) (fun key kl h => (by obtain ⟨s, h1, _⟩ := key_inv h; exact ⟨s, h1⟩)) (fun v y h => (by obtain ⟨p, h1, _⟩ := plR_inv h; exact ⟨p, h1⟩)) M w.heap.size n _ _ _ rfl hrg ?_ ?_)
      | go_in)
    · intro _ hl0
      go_wp2
      go_end0
      exact ⟨rfl, HEND.out _ (by rw [← Fk_end hl0]; exact hrg.owns), hgw⟩
    · intro s p kl yd yp w1 cnt1 hkey hlx hv hat hrg1 hlt hg1 hs1 hen
      obtain ⟨s', hs', hkl⟩ := key_inv hkey
      obtain rfl : s = s' := by injection hs'
      rw [plR_mk] at hv
      simp only [Option.some.injEq, Prod.mk.injEq] at hv
      obtain ⟨rfl, rfl⟩ := hv
      obtain ⟨hpG, hsp⟩ := HENT.out hkl hat
      subst hsp
      have hgw1 := hgw.andThen hg1 (fun j hj => by cases hj; exact Or.inl (Nat.le_refl _))
      obtain ⟨W2, hW2⟩ : ∃ W2, W2 = w1.alloc (.cells (plA p) 54) := ⟨_, rfl⟩
      have hgA : w1.grownBy W2 none := by rw [hW2]; exact World.grownBy_alloc w1 _ none
      have HZ2 : Hid (rowC W2 w1.heap.size (plA p) 54) := Lib.hid (by rw [hW2]; exact rowC_new w1 _ _)
      have HW2 := Lib.hid hW2
      have hgw2 := hgw1.andThen hgA (fun j hj => by cases hj)
      have hrg2 := hrg1.kept hgA (by simp) (by simp)
      have hc := HD.out W2 p hpG hgw2
      have HONE := Lib.hid (plA_one p)
      clear hW2 hs1
      have hpd : ∀ d : DataW Pl, d = .held p → pdP f kl d = f p := fun d hd => by rw [hd]; rfl
      cases hp : f p <;> rw [hp] at hc
      · go_wp2_with (first
          | ((with_reducible show wpList _ _ _ (⟨none, .store _ (.tmp 5) _, _, _, _, _⟩ :: _) _ _); refine wpList_store_last rfl 54 _ _ rfl w1.heap.size (plA p) rfl rfl 54 _ rfl HI.out rfl HONE.out ?_; rw [← HW2.out])
          | ((with_reducible show wpList _ _ _ (⟨some 15, .load _ _, _, _, _, _⟩ :: _) _ _); refine wpList_load_row rfl 54 _ rfl w1.heap.size rfl 54 (plA p) (0, 0) _ HZ2.out Tryd.underlying54 rfl HI.out ?_)
          | (go_at_fn g; refine hc.mono ?_; rintro e w2 ⟨rfl, hg2⟩)
          | go_in)
        have hrg3 := hrg2.kept hg2 (by simp) (by simp)
        go_roundw
        case rel => exact ⟨_, cnt1, by rw [← Fk_stays hap (key_law.key hkey) hlx (hpd _ rfl ▸ hp) hat]; exact hrg3, hgw2.andThen hg2 (fun j hj => by cases hj)⟩
        case measure => rw [hrg3.left_eq, hrg.left_eq]; exact hlt
      · go_wp2_with (first
          | ((with_reducible show wpList _ _ _ (⟨none, .store _ (.tmp 5) _, _, _, _, _⟩ :: _) _ _); refine wpList_store_last rfl 54 _ _ rfl w1.heap.size (plA p) rfl rfl 54 _ rfl HI.out rfl HONE.out ?_; rw [← HW2.out])
          | ((with_reducible show wpList _ _ _ (⟨some 15, .load _ _, _, _, _, _⟩ :: _) _ _); refine wpList_load_row rfl 54 _ rfl w1.heap.size rfl 54 (plA p) (0, 0) _ HZ2.out Tryd.underlying54 rfl HI.out ?_)
          | (go_at_fn g; refine hc.mono ?_; rintro e w2 ⟨rfl, hg2⟩; have hrg3 := hrg2.kept hg2 (by simp) (by simp))
          | (at_delete; refine wpList_delete_ranges _ rfl _ _ 50 9 rfl 54 key_law Tryd.underlying50 plR M w.heap.size n _ _ _ rfl hrg3 _ _ rfl hkey ?_; intro w3 cnt3 hrg4 hle hturn; go_frame)
          | go_in)
        rw [strike_twice] at hrg4
        go_roundw
        case rel => exact ⟨_, cnt3, by rw [← Fk_struck hap (key_law.key hkey) hlx (hpd _ rfl ▸ hp) hat]; exact hrg4, (hgw2.andThen hg2 (fun j hj => by cases hj)).andThen hturn.grown (fun j hj => by cases hj; exact Or.inr rfl)⟩
        case measure => rw [hrg4.left_eq, hrg.left_eq]; omega
end Go.Proofs.YtokeiagcdahmaaaDoor
#print axioms Go.Proofs.YtokeiagcdahmaaaDoor.delFunc_any
