/-
  Layer 17's law: a round.
-/
import Derived.Test.YtphbflbgaadmeaaWinK
namespace Go.Proofs.Ytphbflbgaadmeaa.wn
open Go.RowKit aid mem
attribute [local go_sem ↓] Go.wp_at_zero Go.wp_at_succ
set_option linter.unusedVariables false
set_option linter.unusedSimpArgs false

theorem grow_part {m s c n : Int} (hm : 1 ≤ m) (hs : 2 * m ≤ s) (hc : 0 ≤ c) (hn : 0 ≤ n) (h : c + n < s) : grow ⟨m, 1048576, s, 2 * m, c⟩ n = ⟨m, 1048576, s, 2 * m, c + n⟩ := by
  unfold grow
  split
  · have : n = 0 := by omega
    subst this
    simp
  dsimp only
  rw [if_neg (by omega), if_pos (by omega), show min n s = n from by omega]
theorem grow_last {m s c n : Int} (hm : 1 ≤ m) (hs : 2 * m ≤ s) (hM : s + m ≤ 1048576) (hc : 0 ≤ c) (hn : 1 ≤ n) (h : c + n = s) : grow ⟨m, 1048576, s, 2 * m, c⟩ n = ⟨m, 1048576, s + m, 2 * m, 0⟩ := by
  unfold grow
  rw [if_neg (by omega)]
  dsimp only
  rw [if_neg (by omega), if_neg (by omega), show min n s = n from by omega]
  unfold put hold
  dsimp only
  rw [show min (max (s + m) m) 1048576 = s + m from by omega, show c + n - s = 0 from by omega]
theorem cut_nil {m s : Int} (hm : 1 ≤ m) (hM : 2 * m ≤ 1048576) : cut ⟨m, 1048576, s, 1048576, 0⟩ 0 = ⟨m, 1048576, s, 2 * m, 0⟩ := by
  unfold cut cutT hold
  dsimp only
  rw [show min (max (min (max (0 : Int) 0) 1048576 / 2) (2 * m)) 1048576 = 2 * m from by omega]
theorem el_u16 {len : Nat} {zs : List Int} (h5 : ∀ n ∈ zs.take len, (Lit.int .u16 n).wf = true) (k : Nat) : 0 ≤ (zs.take len).getD k 0 ∧ (zs.take len).getD k 0 ≤ 65535 :=
  aid.getD_bd (fun n => 0 ≤ n ∧ n ≤ 65535) ⟨by decide, by decide⟩ (fun n hn => bounds_u16 (h5 n hn)) k

set_option maxRecDepth 100000 in
set_option maxHeartbeats 4000000 in
theorem walk_WindowRound (w : World) (mss : Int) (hm : 0 ≤ mss ∧ mss ≤ 65535) (start : Int) (hst : 0 ≤ start ∧ start ≤ 65535) (a : Option Addr) (n cap : Nat) (zs : List Int) (hrow : IsRow .u16 w a n cap zs) :
    Calls Try.prog 4 #[.int .u16 mss, .int .u16 start, .slice a n cap] w fun x w' => x = .returned (.bool true) ∧ Below w.heap.size w w' := by
  have hb := Below.refl w.heap.size w
  have hrow' : n ≤ 9223372036854775807 := by
    rcases hrow.elems with h | ⟨_, _, _, h, _⟩ <;> omega
  have HR := Lib.hid hrow.elems
  clear hrow
  obtain ⟨hm0, hm1⟩ := hm
  obtain ⟨hs0, hs1⟩ := hst
  have HN : Hid (newB (1 + mss % 2048) (2 * (1 + mss % 2048) + start) 1048576 = true) := Lib.hid (by unfold newB; simp; omega)
  have HCU := Lib.hid (fun s => cut_nil (m := 1 + mss % 2048) (s := s) (by omega) (by omega))
  go_enter Try.func4, Try.ntmps4
  go_wp2_with (first
    | (go_at_call 7; (with_reducible refine (known_b hb).mono ?_); clear hb; rintro e w1 ⟨rfl, hb⟩)
    | (go_at_call 8; (with_reducible refine (new_ws hb HN.out).mono ?_); rintro e w2 ⟨b, rfl, S⟩)
    | (go_at_call 16; (with_reducible refine (cut_ws S _).mono ?_); clear S; rintro x w1 ⟨rfl, S⟩; rw [HCU.out] at S))
  clear HCU HN hb
  obtain ⟨m, hm⟩ : ∃ m, m = 1 + mss % 2048 := ⟨_, rfl⟩
  rw [← hm] at S ⊢
  have hm0' : 1 ≤ m := by omega
  have hm1' : m ≤ 2048 := by omega
  clear hm
  obtain ⟨s, hs⟩ : ∃ s, s = 2 * m + start := ⟨_, rfl⟩
  rw [← hs] at S ⊢
  have hs0' : 2 * m ≤ s := by omega
  have hs1' : s + m ≤ 1048576 := by omega
  clear hs
  go_loopw [11, 12] (fun u i wr => ∃ (k : Nat) (c : Int), i = .int .i64 k ∧ u = .int .i64 c ∧ k ≤ n ∧ k ≤ 200 ∧ 0 ≤ c ∧ c < s ∧ WS w b ⟨m, 1048576, s, 2 * m, c⟩ wr) (fun _ i _ => 200 - (intOf i).toNat)
  case atStart => exact ⟨0, 0, rfl, rfl, by omega, by omega, by omega, by omega, S⟩
  case round =>
    clear S
    obtain ⟨k, c, rfl, rfl, hk, hk2, hc0, hc1, S⟩ := hrel
    by_cases hlt : k < n ∧ k < 200
    · obtain ⟨h1, h2⟩ := hlt
      rcases HR.out with h | ⟨B, off, rfl, _, _, hcell, hwf⟩
      · omega
      have hz := el_u16 hwf k
      have c0 := (S.below.cell (p := ⟨B, off + k, none⟩) (World.block_lt_of_cell? w _ (hcell k h1))).trans (hcell k h1)
      clear hcell hwf
      generalize (zs.take n).getD k 0 = z at *
      obtain ⟨hz0, hz1⟩ := hz
      have hcase : s - c < z ∨ z = s - c ∨ z < s - c := by omega
      have hbt : (c + (s - c) == s) = true := by simp; omega
      rcases hcase with hl | rfl | hl
      · have HG := Lib.hid (grow_last (n := s - c) hm0' hs0' hs1' hc0 (by omega) (by omega))
        go_wp2_with (first
          | (go_at_call 17; (with_reducible refine (grow_ws S _).mono ?_); clear S; rintro x w1 ⟨rfl, S⟩; rw [HG.out] at S)
          | (go_at_call 13; (with_reducible refine (cwnd_ws S).mono ?_); clear S; rintro x w1 ⟨rfl, S⟩; dsimp only)
          | (go_at_call 7; (with_reducible refine (known_ws S).mono ?_); clear S; rintro e w1 ⟨rfl, S⟩))
        go_ret
        exact ⟨rfl, S.below⟩
      · have HG := Lib.hid (grow_last (n := s - c) hm0' hs0' hs1' hc0 (by omega) (by omega))
        go_wp2_with (first
          | (go_at_call 17; (with_reducible refine (grow_ws S _).mono ?_); clear S; rintro x w1 ⟨rfl, S⟩; rw [HG.out] at S)
          | (go_at_call 13; (with_reducible refine (cwnd_ws S).mono ?_); clear S; rintro x w1 ⟨rfl, S⟩; dsimp only)
          | (go_at_call 7; (with_reducible refine (known_ws S).mono ?_); clear S; rintro e w1 ⟨rfl, S⟩))
        go_ret
        exact ⟨rfl, S.below⟩
      · clear hbt
        have HG := Lib.hid (grow_part (n := z) hm0' hs0' hc0 hz0 (by omega))
        have hbt : (c + z == s) = false := by simp; omega
        go_wp2_with (first
          | (go_at_call 17; (with_reducible refine (grow_ws S _).mono ?_); clear S; rintro x w1 ⟨rfl, S⟩; rw [HG.out] at S)
          | (go_at_call 13; (with_reducible refine (cwnd_ws S).mono ?_); clear S; rintro x w1 ⟨rfl, S⟩; dsimp only)
          | (go_at_call 7; (with_reducible refine (known_ws S).mono ?_); clear S; rintro e w1 ⟨rfl, S⟩))
        go_roundw
        case rel => exact ⟨k + 1, c + z, by go_num, rfl, by omega, by omega, by omega, by omega, S⟩
        case measure => simp [intOf]; omega
    · have HG := Lib.hid (grow_last (n := s - c) hm0' hs0' hs1' hc0 (by omega) (by omega))
      by_cases h1 : k < n
      · have h2 : ¬ k < 200 := by omega
        go_wp2_with (first
          | (go_at_call 17; (with_reducible refine (grow_ws S _).mono ?_); clear S; rintro x w1 ⟨rfl, S⟩; rw [HG.out] at S)
          | (go_at_call 13; (with_reducible refine (cwnd_ws S).mono ?_); clear S; rintro x w1 ⟨rfl, S⟩; dsimp only)
          | (go_at_call 7; (with_reducible refine (known_ws S).mono ?_); clear S; rintro e w1 ⟨rfl, S⟩))
        go_ret
        exact ⟨rfl, S.below⟩
      · go_wp2_with (first
          | (go_at_call 17; (with_reducible refine (grow_ws S _).mono ?_); clear S; rintro x w1 ⟨rfl, S⟩; rw [HG.out] at S)
          | (go_at_call 13; (with_reducible refine (cwnd_ws S).mono ?_); clear S; rintro x w1 ⟨rfl, S⟩; dsimp only)
          | (go_at_call 7; (with_reducible refine (known_ws S).mono ?_); clear S; rintro e w1 ⟨rfl, S⟩))
        go_ret
        exact ⟨rfl, S.below⟩
end Go.Proofs.Ytphbflbgaadmeaa.wn
