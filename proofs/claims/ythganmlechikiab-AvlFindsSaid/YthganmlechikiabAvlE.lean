/-
  Layer 8's law: the same lists; one operation with both.
-/
import Derived.Test.YthganmlechikiabAvlD
import Derived.Test.YthganmlechikiabAvlO
namespace Go.Proofs.Ythganmlechikiab.av
open Go.RowKit aid mem rng
attribute [local go_sem ↓] Go.wp_at_zero Go.wp_at_succ
set_option linter.unusedVariables false

theorem eq_pair (a b c d : Int) (w : World) : (Op.equalIn 10000 37 (.agg #[.int .i64 a, .int .i64 b]) (.agg #[.int .i64 c, .int .i64 d])).run Try.prog w = .ok (a == c && b == d) w := by
  have u3 := Try.underlying3
  have a3 := Try.isAgg3
  have z3 := Try.sizeOf3
  have hS : Try.prog.underlying 37 = some (.struct (Try.prog.fieldsOf 37)) := by kernel_rfl
  rw [show (10000 : Nat) = 9999 + 1 from rfl, run_equalIn_agg w 9999 37 _ _ hS (by kernel_rfl)]
  simp only [Program.fieldsOf, Try.underlying37]
  go_simp
  by_cases h1 : a = c <;> by_cases h2 : b = d <;> simp [h1, h2]
theorem eq_guard : Try.prog.eqGuardType Try.prog.depth 37 = false := by kernel_rfl

set_option maxRecDepth 100000 in
set_option maxHeartbeats 3200000 in
theorem same_any {w : World} {a b : Option Addr} {n c d : Nat} {l : Ps} (ho : PrA w a n c l) (hq : PrA w b n d l) :
    Calls Try.prog 13 #[.slice a n c, .slice b n d] w fun e w' => e = .returned (.bool true) ∧ Below w.heap.size w w' := by
  have hmo := ho.most
  have hleo := ho.le
  have hmq := hq.most
  have hleq := hq.le
  unfold maxLen at hmo hmq
  have H1 := Lib.hid ho.cells
  have H2 := Lib.hid hq.cells
  clear ho hq
  go_enter Try.func13, Try.ntmps13
  go_wp2_with fail
  go_loopw [5] (fun i wr => ∃ k nq : Nat, k ≤ n ∧ i = .int .i64 k ∧ wr = w.drewN nq) (fun i _ => n - (intOf i).toNat)
  case atStart => exact ⟨0, 0, Nat.zero_le _, rfl, rfl⟩
  case round =>
    obtain ⟨k, nq, hk, rfl, rfl⟩ := hrel
    have hk0 : (0 : Int) ≤ (k : Int) := by omega
    by_cases hlt : k < n
    · rcases H1.out with ⟨_, h0⟩ | ⟨b1, o1, rfl, hc1⟩
      · omega
      rcases H2.out with ⟨_, h0⟩ | ⟨b2, o2, rfl, hc2⟩
      · omega
      obtain ⟨g1, g2⟩ := hc1 k hlt
      obtain ⟨g3, g4⟩ := hc2 k hlt
      have hk1 : (k : Int) < (n : Int) := by omega
      generalize l.getD k (0, 0) = x at *
      clear hc1 hc2
      obtain ⟨x1, x2⟩ := x
      have eqb := eq_pair x1 x2 x1 x2
      have eqg := eq_guard
      have t1 : (x1 == x1) = true := by simp
      have t2 : (x2 == x2) = true := by simp
      go_wp2_with fail
      go_quiet (fail)
      clear eqb eqg
      go_wp2
      go_roundw
      case rel => exact ⟨k + 1, _, by omega, by go_num, rfl⟩
      case measure => simp [intOf]; omega
    · go_wp2
      go_ret
      exact ⟨rfl, below_drewN w nq⟩
end Go.Proofs.Ythganmlechikiab.av
