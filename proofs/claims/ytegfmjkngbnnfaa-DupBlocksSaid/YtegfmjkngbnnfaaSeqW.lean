/-
  Contracts of package seq and of the reference package of layer 1: what each call answers, for every argument. No condition but that numbers fit their kinds.
-/
import Derived.Test.YtegfmjkngbnnfaaProg
import Derived.Test.YtegfmjkngbnnfaaAid
namespace Go.Proofs.Ytegfmjkngbnnfaa.sq
open Go.RowKit aid
set_option linter.unusedVariables false

def m32 (n : Int) : Int := n % 4294967296
def dist (a b : Int) : Int := (b - a + 2147483648) % 4294967296 - 2147483648
def isMay (n : Int) : Bool := decide (0 ≤ n ∧ n ≤ 4611686018427387904)

theorem dist_bd (a b : Int) : -2147483648 ≤ dist a b ∧ dist a b ≤ 2147483647 := by unfold dist; omega
theorem m32_bd (n : Int) : 0 ≤ m32 n ∧ m32 n ≤ 4294967295 := by unfold m32; omega

theorem wrap_any (n : Int) (w : World) (h : -9223372036854775808 ≤ n ∧ n ≤ 9223372036854775807) :
    Calls Try.prog 26 #[.int .i64 n] w fun e w' => e = .returned (.int .u32 (m32 n)) ∧ w = w' := by
  go_enter Try.func26, Try.ntmps26
  go_wp2
  go_ret
  exact ⟨ret_i (by unfold m32; simp), rfl⟩

theorem dist_any (a b : Int) (w : World) (ha : 0 ≤ a ∧ a ≤ 4294967295) (hb : 0 ≤ b ∧ b ≤ 4294967295) :
    Calls Try.prog 39 #[.int .u32 a, .int .u32 b] w fun e w' => e = .returned (.int .i64 (dist a b)) ∧ w = w' := by
  go_enter Try.func39, Try.ntmps39
  go_wp2
  go_ret
  refine ⟨ret_i ?_, rfl⟩
  have h := w32_bd ((b - a) % 4294967296)
  rw [w64 _ (by omega)]
  unfold dist wrap32
  omega

theorem mod_any (n : Int) (w : World) (h : -9223372036854775808 ≤ n ∧ n ≤ 9223372036854775807) :
    Calls Try.prog 27 #[.int .i64 n] w fun e w' => e = .returned (.int .i64 (m32 n)) ∧ w = w' := by
  go_enter Try.func27, Try.ntmps27
  go_wp2
  all_goals go_ret
  all_goals refine ⟨ret_i ?_, rfl⟩
  all_goals have ho := tmod_or n 4294967296 (by omega)
  all_goals unfold m32
  · rw [w64 _ (by omega)]; omega
  · omega

theorem rdist_any (a b : Int) (w : World) (ha : 0 ≤ a ∧ a ≤ 4294967295) (hb : 0 ≤ b ∧ b ≤ 4294967295) :
    Calls Try.prog 35 #[.int .i64 a, .int .i64 b] w fun e w' => e = .returned (.int .i64 (dist a b)) ∧ w = w' := by
  have hm := m32_bd (b - a)
  go_enter Try.func35, Try.ntmps35
  go_wp2_with (go_at_call 27; refine (mod_any _ _ (by omega)).mono ?_; rintro e w' ⟨rfl, rfl⟩)
  all_goals go_ret
  all_goals refine ⟨ret_i ?_, rfl⟩
  all_goals unfold m32 at *
  all_goals unfold dist
  all_goals omega

theorem may_any (n : Int) (w : World) (h : -9223372036854775808 ≤ n ∧ n ≤ 9223372036854775807) :
    Calls Try.prog 38 #[.int .i64 n] w fun e w' => e = .returned (.bool (isMay n)) ∧ w = w' := by
  by_cases h0 : 0 ≤ n
  · by_cases h1 : n ≤ 4611686018427387904
    all_goals
      go_enter Try.func38, Try.ntmps38
      go_wp2
      go_ret
      exact ⟨ret_b (by simp [isMay]; omega), rfl⟩
  · go_enter Try.func38, Try.ntmps38
    go_wp2
    go_ret
    exact ⟨ret_b (by simp [isMay]; omega), rfl⟩

def unw (near s : Int) : Int × Bool :=
  if isMay near then (if isMay (near + dist (m32 near) s) then (near + dist (m32 near) s, true) else (0, false)) else (0, false)

theorem unwrap_any (n s : Int) (w : World) (h : -9223372036854775808 ≤ n ∧ n ≤ 9223372036854775807) (hs : 0 ≤ s ∧ s ≤ 4294967295) :
    Calls Try.prog 30 #[.int .i64 n, .int .u32 s] w fun e w' => e = .returned (.tuple #[.int .i64 (unw n s).1, .bool (unw n s).2]) ∧ w = w' := by
  have hm := m32_bd n
  have hd := dist_bd (m32 n) s
  by_cases h0 : isMay n = true
  · have hn : 0 ≤ n ∧ n ≤ 4611686018427387904 := by simpa [isMay] using h0
    by_cases h1 : isMay (n + dist (m32 n) s) = true
    · go_enter Try.func30, Try.ntmps30
      go_wp2_with (first | (go_at_call 38; refine (may_any _ _ (by omega)).mono ?_; rintro e w' ⟨rfl, rfl⟩) | (go_at_call 26; refine (wrap_any _ _ (by omega)).mono ?_; rintro e w' ⟨rfl, rfl⟩) | (go_at_call 39; refine (dist_any _ _ _ (by omega) (by omega)).mono ?_; rintro e w' ⟨rfl, rfl⟩))
      go_ret2
      exact ⟨by simp [unw, h0, h1], rfl⟩
    · go_enter Try.func30, Try.ntmps30
      go_wp2_with (first | (go_at_call 38; refine (may_any _ _ (by omega)).mono ?_; rintro e w' ⟨rfl, rfl⟩) | (go_at_call 26; refine (wrap_any _ _ (by omega)).mono ?_; rintro e w' ⟨rfl, rfl⟩) | (go_at_call 39; refine (dist_any _ _ _ (by omega) (by omega)).mono ?_; rintro e w' ⟨rfl, rfl⟩))
      go_ret2
      exact ⟨by simp [unw, h0, h1], rfl⟩
  · go_enter Try.func30, Try.ntmps30
    go_wp2_with (go_at_call 38; refine (may_any _ _ (by omega)).mono ?_; rintro e w' ⟨rfl, rfl⟩)
    go_ret2
    exact ⟨by simp [unw, h0], rfl⟩
end Go.Proofs.Ytegfmjkngbnnfaa.sq
