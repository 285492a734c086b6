/-
  Layer 17's law: what is given back.
-/
import Derived.Test.YtphbflbgaadmeaaWinD
namespace Go.Proofs.Ytphbflbgaadmeaa.wn
open Go.RowKit aid mem
attribute [local go_sem ↓] Go.wp_at_zero Go.wp_at_succ
set_option linter.unusedVariables false
set_option linter.unusedSimpArgs false

theorem does_ws {w0 w : World} {B : Nat} {x q : Wn} (h : WS w0 B x w) (hq : Ok q) {s : OpV} (hs : OpOk s) : Calls Try.prog 12 #[.pointer (some ⟨B, 0, none⟩), wnV q, .agg (opC s)] w
    fun e w' => e = .returned (.tuple #[wnV (stp q s.kind s.a s.b), .bool (okB x q s)]) ∧ WS w0 B (stp x s.kind s.a s.b) w' :=
  (does_any h.s h.ok hq hs).mono fun e w' ⟨h1, h2, h3⟩ => ⟨h1, h.wrote h2 (h.ok.stp _ _ _) h3⟩
set_option maxRecDepth 100000 in
set_option maxHeartbeats 4000000 in
theorem walk_WindowLifts (w : World) (m : Int) (hm : -9223372036854775808 ≤ m ∧ m ≤ 9223372036854775807) (s : Int) (hs : -9223372036854775808 ≤ s ∧ s ≤ 9223372036854775807) (l : Int) (hl : -9223372036854775808 ≤ l ∧ l ≤ 9223372036854775807)
    (a : Option Addr) (n cap : Nat) (ops : List OpV) (hops : OpA w a n cap ops) (u : Int) (hu : -9223372036854775808 ≤ u ∧ u ≤ 9223372036854775807) (v : Int) (hv : -9223372036854775808 ≤ v ∧ v ≤ 9223372036854775807) :
    Calls Try.prog 5 #[.int .i64 m, .int .i64 s, .int .i64 l, .slice a n cap, .int .i64 u, .int .i64 v] w fun x w' => x = .returned (.bool true) ∧ Below w.heap.size w w' := by
  have hb := Below.refl w.heap.size w
  have hle := hops.le
  have hmost := hops.most
  unfold maxLen at hmost
  have HC := Lib.hid hops.cells
  clear hops hm hs hl
  cases hN : newB m s l with
  | false =>
    have HN := Lib.hid (fun W => new_bad (w := W) hN)
    clear hN
    go_enter Try.func5, Try.ntmps5
    go_wp2_with (first
      | (go_at_call 7; (with_reducible refine (known_b hb).mono ?_); clear hb; rintro e w1 ⟨rfl, hb⟩)
      | (go_at_call 8; (with_reducible refine (HN.out _).mono ?_); rintro e w2 ⟨rfl, rfl⟩))
    go_ret
    exact ⟨rfl, hb⟩
  | true =>
    have HN := Lib.hid hN
    clear hN
    go_enter Try.func5, Try.ntmps5
    go_wp2_with (first
      | (go_at_call 7; (with_reducible refine (known_b hb).mono ?_); clear hb; rintro e w1 ⟨rfl, hb⟩)
      | (go_at_call 8; (with_reducible refine (new_ws hb HN.out).mono ?_); rintro e w2 ⟨b, rfl, S⟩))
    go_loopw [15] (fun i wr => ∃ (k : Nat) (x : Wn), i = .int .i64 k ∧ k ≤ n ∧ k ≤ 100 ∧ WS w b x wr) (fun i _ => 100 - (intOf i).toNat)
    case atStart => exact ⟨0, _, rfl, by omega, by omega, S⟩
    case round =>
      clear S hb
      obtain ⟨k, x, rfl, hk, hk3, S⟩ := hrel
      by_cases hlt : k < n ∧ k < 100
      · obtain ⟨h1, h2⟩ := hlt
        obtain ⟨B, off, rfl, hc⟩ := HC.out (by omega)
        obtain ⟨c0, c1, c2, hok⟩ := hc k h1
        replace c0 := S.below.cell (p := ⟨B, off + k * 3, none⟩) (World.block_lt_of_cell? w _ c0) |>.trans c0
        replace c1 := S.below.cell (p := ⟨B, off + k * 3 + 1, none⟩) (World.block_lt_of_cell? w _ c1) |>.trans c1
        replace c2 := S.below.cell (p := ⟨B, off + k * 3 + 2, none⟩) (World.block_lt_of_cell? w _ c2) |>.trans c2
        clear hc
        generalize ops.getD k default = q at *
        have HOK := Lib.hid hok
        clear hok
        go_wp2_with (go_at_call 12; (with_reducible refine (does_ws S ok_zero HOK.out).mono ?_); clear S; rintro e w3 ⟨rfl, S⟩)
        go_roundw
        case rel => exact ⟨k + 1, _, by go_num, by omega, by omega, S⟩
        case measure => simp [intOf]; omega
      · have HL := Lib.hid (lift_cwnd S.ok u v)
        have HLL := Lib.hid (fun W (S : WS w b x W) => lift_ws S u v)
        generalize hy : lift x u v = y at *
        clear hy
        obtain ⟨g0, g1, g2, g3⟩ := HL.out
        by_cases h1 : k < n
        · have h2 : ¬ k < 100 := by omega
          go_wp2_with (first
            | (go_at_call 13; (with_reducible refine (cwnd_ws S).mono ?_); clear S; rintro e w1 ⟨rfl, S⟩)
            | (go_at_call 14; (with_reducible refine (thresh_ws S).mono ?_); clear S; rintro e w1 ⟨rfl, S⟩)
            | (go_at_call 18; (with_reducible refine (HLL.out _ S).mono ?_); clear S; rintro e w1 ⟨rfl, S⟩)
            | (go_at_call 7; (with_reducible refine (known_ws S).mono ?_); clear S; rintro e w1 ⟨rfl, S⟩))
          all_goals
            go_ret
            exact ⟨rfl, S.below⟩
        · go_wp2_with (first
            | (go_at_call 13; (with_reducible refine (cwnd_ws S).mono ?_); clear S; rintro e w1 ⟨rfl, S⟩)
            | (go_at_call 14; (with_reducible refine (thresh_ws S).mono ?_); clear S; rintro e w1 ⟨rfl, S⟩)
            | (go_at_call 18; (with_reducible refine (HLL.out _ S).mono ?_); clear S; rintro e w1 ⟨rfl, S⟩)
            | (go_at_call 7; (with_reducible refine (known_ws S).mono ?_); clear S; rintro e w1 ⟨rfl, S⟩))
          all_goals
            go_ret
            exact ⟨rfl, S.below⟩
end Go.Proofs.Ytphbflbgaadmeaa.wn
