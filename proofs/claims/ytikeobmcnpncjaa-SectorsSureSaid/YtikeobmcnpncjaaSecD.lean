/- Layer 6: the document's disk: Read. -/
import Derived.Test.YtikeobmcnpncjaaSecC
namespace Go.Proofs.Ytikeobmcnpncjaa
open Go.RowKit

theorem ret2s {a b : ByteArray} {c d : Int} (h : a = b) (h' : c = d) : Ending.returned (.tuple #[.string a, .int .i64 c]) = .returned (.tuple #[.string b, .int .i64 d]) := by rw [h, h']
theorem looseV_at : ∀ (l : List (Nat × ByteArray)) (k : Nat), k < l.length → (looseV l)[k * 2]? = some (.int .i64 ((l.getD k (0, ByteArray.empty)).1 : Int)) ∧ (looseV l)[k * 2 + 1]? = some (.string (l.getD k (0, ByteArray.empty)).2)
  | [], k, h => by simp at h
  | p :: l, 0, _ => ⟨rfl, rfl⟩
  | p :: l, k + 1, h => by
    have ih := looseV_at l k (by simpa using h)
    have e1 : (looseV (p :: l))[(k + 1) * 2]? = (looseV l)[k * 2]? := by
      show ([Value.int .i64 (p.1 : Int), .string p.2] ++ looseV l)[(k + 1) * 2]? = _
      rw [List.getElem?_append_right (by simp; omega)]
      congr 1
      simp; omega
    have e2 : (looseV (p :: l))[(k + 1) * 2 + 1]? = (looseV l)[k * 2 + 1]? := by
      show ([Value.int .i64 (p.1 : Int), .string p.2] ++ looseV l)[(k + 1) * 2 + 1]? = _
      rw [List.getElem?_append_right (by simp; omega)]
      congr 1
      simp; omega
    rw [e1, e2, List.getD_cons_succ]
    exact ih
theorem owns_string {w : World} {g n cap : Nat} {l : List ByteArray} (h : w.ownsRow 0 9 1 (.slice (some ⟨g, 0, none⟩) n cap) n (l.map Value.string)) (hn : n = l.length) {k : Nat} (hk : k < l.length) : w.cell? ⟨g, k, none⟩ = some (.string (l.getD k ByteArray.empty)) := by
  rw [h.cellAt k (by omega), List.getElem?_map, List.getElem?_eq_getElem hk]
  simp [List.getD, hk]
theorem owns_loose {w : World} {g n cap : Nat} {l : List (Nat × ByteArray)} (h : w.ownsRow 0 72 2 (.slice (some ⟨g, 0, none⟩) n cap) n (looseV l)) (hn : n = l.length) {k : Nat} (hk : k < l.length) :
    w.cell? ⟨g, k * 2, none⟩ = some (.int .i64 ((l.getD k (0, ByteArray.empty)).1 : Int)) ∧ w.cell? ⟨g, k * 2 + 1, none⟩ = some (.string (l.getD k (0, ByteArray.empty)).2) := by
  obtain ⟨h1, h2⟩ := looseV_at l k hk
  exact ⟨(h.cellAt _ (by omega)).trans h1, (h.cellAt _ (by omega)).trans h2⟩
set_option maxRecDepth 100000 in
set_option maxHeartbeats 1000000 in
theorem rread_any {w : World} {p : Nat} {vS vL vK : Value} {d : RD} (h : RefV w p vS vL vK d) (hok : d.ok) (n : Int) (hl : d.loose.length ≤ 1000000) :
    Calls Try.prog 31 #[.pointer (some ⟨p, 0, none⟩), .int .i64 n] w fun e w' => e = .returned (.tuple #[.string (d.read n).1, .int .i64 (d.read n).2]) ∧ w = w' := by
  obtain ⟨c0, c1, c2, _, _, _⟩ := h.cell
  cases hd : d.down
  · rw [hd] at c2
    obtain ⟨gS, capS, rfl⟩ := owns_some h.s (by have := hok.lo; omega)
    have hS := h.s
    have hL := h.l
    have lo := hok.lo
    have hi := hok.hi
    obtain ⟨aL, capL, rfl⟩ := owns_form hL
    by_cases hn : n < 0
    · have HR := Lib.hid (show d.read n = (ByteArray.empty, 2) by unfold RD.read; rw [hd, if_neg (by decide), if_pos (.inl hn)])
      clear hd h hS hL hok
      go_enter Try.func31, Try.ntmps31
      go_wp2
      go_ret2
      exact ⟨ret2s (by rw [HR.out]; rfl) (by rw [HR.out]), rfl⟩
    · by_cases hn2 : (d.sure.length : Int) ≤ n
      · have HR := Lib.hid (show d.read n = (ByteArray.empty, 2) by unfold RD.read; rw [hd, if_neg (by decide), if_pos (.inr hn2)])
        clear hd h hS hL hok
        go_enter Try.func31, Try.ntmps31
        go_wp2
        go_ret2
        exact ⟨ret2s (by rw [HR.out]; rfl) (by rw [HR.out]), rfl⟩
      · obtain ⟨m, rfl⟩ : ∃ m : Nat, n = m := ⟨n.toNat, by omega⟩
        have hm : m < d.sure.length := by omega
        obtain ⟨s0, hs0⟩ : ∃ s0, s0 = d.sure.getD m ByteArray.empty := ⟨_, rfl⟩
        have HR := Lib.hid (show d.read m = (lookN d.loose m s0 d.loose.length, 0) by
          unfold RD.read
          rw [hd, if_neg (by decide), if_neg (by omega), Int.toNat_natCast, hs0])
        have cS := owns_string hS rfl hm
        rw [← hs0] at cS
        have hF := Lib.hid hL
        obtain ⟨S, hSl⟩ : ∃ S, S = d.sure.length := ⟨_, rfl⟩
        obtain ⟨N, hN⟩ : ∃ N, N = d.loose.length := ⟨_, rfl⟩
        rw [← hSl] at c0 hm hi lo hn2
        rw [← hN] at c1 HR hl hF
        have HN := Lib.hid hN
        obtain ⟨L, hLL⟩ : ∃ L, L = d.loose := ⟨_, rfl⟩
        rw [← hLL] at HR HN hF
        clear hd h hS hL hok hs0 hSl hN hn hLL
        have m0 : (0 : Int) ≤ (m : Int) := by omega
        have m1 : (m : Int) < (S : Int) := by omega
        go_enter Try.func31, Try.ntmps31
        go_wp2
        go_loop [6, 7] (fun s i => ∃ k : Nat, k ≤ N ∧ i = .int .i64 k ∧ s = .string (lookN L m s0 k)) (fun _ i => N - (intOf i).toNat)
        case atStart => exact ⟨0, Nat.zero_le _, rfl, rfl⟩
        case round =>
          obtain ⟨k, hk, rfl, rfl⟩ := hrel
          by_cases hlt : k < N
          · obtain ⟨gL, capL', hv⟩ := owns_some hF.out (by omega)
            simp only [Value.slice.injEq, true_and] at hv
            obtain ⟨rfl, rfl⟩ := hv
            obtain ⟨e1, e2⟩ := owns_loose hF.out HN.out (k := k) (by rw [← HN.out]; exact hlt)
            have hk0 : (0 : Int) ≤ (k : Int) := by omega
            have hk1 : (k : Int) < (N : Int) := by omega
            obtain ⟨x, hx⟩ : ∃ x, x = L.getD k (0, ByteArray.empty) := ⟨_, rfl⟩
            have HS := Lib.hid (show lookN L m s0 (k + 1) = if x.1 = m then x.2 else lookN L m s0 k by rw [lookN, hx])
            rw [← hx] at e1 e2
            clear hx
            obtain ⟨y, t⟩ := x
            by_cases hy : y = m
            · subst hy
              go_wp2
              go_round
              case rel => exact ⟨k + 1, by omega, by go_num, by rw [HS.out, if_pos rfl]⟩
              case measure => simp [intOf]; omega
            · have hb : ((y : Int) == (m : Int)) = false := by rw [beq_eq_false_iff_ne]; omega
              go_wp2
              go_round
              case rel => exact ⟨k + 1, by omega, by go_num, by rw [HS.out, if_neg hy]⟩
              case measure => simp [intOf]; omega
          · obtain rfl : k = N := by omega
            go_wp2
            go_ret2
            exact ⟨ret2s (by rw [HR.out]) (by rw [HR.out]), rfl⟩
  · have HR := Lib.hid (show d.read n = (ByteArray.empty, 61) by unfold RD.read; rw [hd]; rfl)
    rw [hd] at c2
    clear hd h hok
    go_enter Try.func31, Try.ntmps31
    go_wp2
    go_ret2
    exact ⟨ret2s (by rw [HR.out]; rfl) (by rw [HR.out]), rfl⟩
end Go.Proofs.Ytikeobmcnpncjaa
