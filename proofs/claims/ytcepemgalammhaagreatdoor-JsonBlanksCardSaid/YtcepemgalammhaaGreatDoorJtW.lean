/- Layer 11: a value. -/
import Derived.Test.YtcepemgalammhaaGreatDoorJtV
import Derived.Test.YtcepemgalammhaaGreatDoorShelf
namespace Go.Proofs.YtcepemgalammhaaGreatDoor
open Go.RowKit

theorem clone_any (s : ByteArray) (w : World) (hlim : s.size ≤ 281474976710656) : Calls Tryz.prog 43 #[.string s] w fun e w' => e = .returned (.string s) ∧ Below w.heap.size w w' := by
  have C := Tryz.stringslite_Clone s w hlim
  go_enter Tryz.func43, Tryz.ntmps43
  go_wp2_with (go_at_call 64; ((with_reducible refine C.mono ?_); rintro e w2 ⟨rfl, hb⟩))
  go_ret
  exact ⟨rfl, hb⟩
/-- Four cells and an error, ready for the end of the walk; res: the result's cell. -/
def readyV (w : World) (res q : Nat) (S l : Bs) (lev : Nat) (R : Res JV) (e : Ending) (w3 : World) : Prop :=
  ∃ (k : Int) (t : ByteArray) (x1 : Option Addr) (n1 c1 : Nat) (x2 : Option Addr) (n2 c2 : Nat) (ev : Value), e = .returned (.tuple #[.agg (row4 k t x1 n1 c1 x2 n2 c2), ev]) ∧ Hid (rowC w3 res zeroV4 27 ∧
    ∀ w', Chg (· = res) w3 w' → saysV w q S l lev R (.returned (.tuple #[.agg (row4 k t x1 n1 c1 x2 n2 c2), ev])) w')
theorem readyV_of {w w2 w3 : World} {res q lev : Nat} {S l d : Bs} {R : Res JV} {e : Ending} (hc : Chg (· = q) w w2) (hqw : q < w.heap.size) (hres : w.heap.size ≤ res) (hZ : rowC w2 res zeroV4 27) (hs : d <:+ l) (h : saysV w2 q S d lev R e w3) : readyV w res q S l lev R e w3 := by
  have lres := rowC_lt hZ
  have hsz := hc.size
  cases R with
  | ok v x =>
    obtain ⟨V, rfl, ⟨a, b, c, d, rfl, h2⟩, h3⟩ := h
    obtain ⟨rfl, rfl, ⟨x, cap, rfl⟩, y, cap', rfl⟩ := h2.form
    refine ⟨_, _, _, _, _, _, _, _, _, rfl, Lib.hid ⟨h3.2.rowC hZ (by omega), fun w' hc' => ?_⟩⟩
    refine ⟨_, rfl, ⟨_, _, _, _, rfl, ?_⟩, h3.1.chg hc' (by omega), (hc.two h3.2).trans hc' (fun k hk e => by omega)⟩
    exact HoldsC.mono (fun k hk hlt => ⟨by omega, hlt⟩) _ _ _ _ _ (HoldsC.chg hc' (fun k hk e => by omega) _ _ _ _ _ h2)
  | bad code x =>
    obtain ⟨V, rfl, ⟨k, t, x1, n1, c1, x2, n2, c2, rfl⟩, ⟨y, l2, h2, hs2⟩, h3⟩ := h
    exact ⟨_, _, _, _, _, _, _, _, _, rfl, Lib.hid ⟨h3.rowC hZ (by omega), fun w' hc' => ⟨_, rfl, ⟨_, _, _, _, _, _, _, _, rfl⟩, ⟨y, l2, h2.chg hc' (by omega), hs2.trans hs⟩, (hc.two h3).trans hc' (fun k hk e => by omega)⟩⟩⟩
/-- A text and an error, likewise. -/
def readyT (w : World) (res q : Nat) (S l : Bs) (lev : Nat) (R : Res JV) (e : Ending) (w3 : World) : Prop :=
  ∃ (t : ByteArray) (ev : Value), e = .returned (.tuple #[.string t, ev]) ∧ Hid (rowC w3 res zeroV4 27 ∧
    ∀ w', Chg (· = res) w3 w' → saysV w q S l lev R (.returned (.tuple #[.agg (row4 4 t none 0 0 none 0 0), ev])) w')
theorem readyT_of {w w2 w3 : World} {res q lev : Nat} {S l d : Bs} {Q : Res Bs} {R : Res JV} {e : Ending} (hS : okS S) (hR : R = Res.map (fun t => .mk 4 t [] []) Q) (hc : Chg (· = q) w w2) (hqw : q < w.heap.size) (hres : w.heap.size ≤ res) (hZ : rowC w2 res zeroV4 27) (hs : d <:+ l) (h : saysT w2 q S d lev Q e w3) : readyT w res q S l lev R e w3 := by
  have lres := rowC_lt hZ
  have hsz := hc.size
  have hSS := hS
  unfold okS at hSS
  cases Q with
  | ok t x =>
    obtain ⟨rfl, hl, h3⟩ := h
    refine ⟨_, _, rfl, Lib.hid ⟨h3.2.rowC hZ (by omega), fun w' hc' => ?_⟩⟩
    exact saysV_ok hR (holds_text _ _ 4 (by omega)) ⟨h3.1.chg hc' (by omega), (hc.two h3.2).trans hc' (fun k hk e => by omega)⟩
  | bad code x =>
    obtain ⟨rfl, ⟨y, l2, h2, hs2⟩, h3⟩ := h
    exact ⟨_, _, rfl, Lib.hid ⟨h3.rowC hZ (by omega), fun w' hc' => saysV_bad hR ⟨_, _, _, _, _, _, _, _, rfl⟩ ⟨⟨y, l2, h2.chg hc' (by omega), hs2.trans hs⟩, (hc.two h3).trans hc' (fun k hk e => by omega)⟩⟩⟩
/-- An error alone, behind a number. -/
def readyN (w : World) (res q : Nat) (S l d : Bs) (lev : Nat) (R : Res JV) (e : Ending) (w3 : World) : Prop :=
  ∃ (ev : Value) (y : Bs) (l2 : Nat), e = .returned ev ∧ RdAt w3 q S y l2 ∧ y <:+ d ∧ Hid (rowC w3 res zeroV4 27 ∧
    ∀ w', Chg (· = res) w3 w' → saysV w q S l lev R (.returned (.tuple #[.agg (row4 3 (str (d.take (d.length - y.length))) none 0 0 none 0 0), ev])) w')
theorem num_suf {d x : Bs} (h : numP d = .ok () x) : x <:+ d := by
  obtain ⟨u, h1, _⟩ := num_pre h
  exact ⟨u, h1.symm⟩
theorem readyN_of {w w2 w3 : World} {res q lev : Nat} {S l d : Bs} {R : Res JV} {e : Ending} (hS : okS S) (hR : R = mkN d) (hc : Chg (· = q) w w2) (hqw : q < w.heap.size) (hres : w.heap.size ≤ res) (hZ : rowC w2 res zeroV4 27) (hs : d <:+ l) (hl : d <:+ S) (h : saysU w2 q S d lev (numP d) e w3) : readyN w res q S l d lev R e w3 := by
  have lres := rowC_lt hZ
  have hsz := hc.size
  have hSS := hS
  unfold okS at hSS
  have hdl := hl.length_le
  unfold mkN at hR
  cases hn : numP d with
  | ok u x =>
    rw [hn] at hR h
    obtain ⟨rfl, h3⟩ := h
    refine ⟨_, x, lev, rfl, h3.1, num_suf hn, Lib.hid ⟨h3.2.rowC hZ (by omega), fun w' hc' => ?_⟩⟩
    exact saysV_ok hR (holds_text _ _ 3 (by rw [List.length_take]; omega)) ⟨h3.1.chg hc' (by omega), (hc.two h3.2).trans hc' (fun k hk e => by omega)⟩
  | bad code x =>
    rw [hn] at hR h
    obtain ⟨rfl, ⟨y, l2, h2, hs2⟩, h3⟩ := h
    exact ⟨_, y, l2, rfl, h2, hs2, Lib.hid ⟨h3.rowC hZ (by omega), fun w' hc' => saysV_bad hR ⟨_, _, _, _, _, _, _, _, rfl⟩ ⟨⟨y, l2, h2.chg hc' (by omega), hs2.trans hs⟩, (hc.two h3).trans hc' (fun k hk e => by omega)⟩⟩⟩
/-- What was read of a text. -/
theorem part_text {S d y : Bs} (h : d <:+ S) (hy : y <:+ d) : (str S).extract (S.length - d.length) (S.length - y.length) = str (d.take (d.length - y.length)) := by
  obtain ⟨p, rfl⟩ := h
  obtain ⟨u, rfl⟩ := hy
  refine bytes_toList ?_
  rw [show (p ++ (u ++ y)).length - (u ++ y).length = p.length by simp, show (p ++ (u ++ y)).length - y.length = p.length + u.length by simp; omega, show (u ++ y).length - y.length = u.length by simp]
  simp [str, ByteArray.data_extract]
end Go.Proofs.YtcepemgalammhaaGreatDoor
