/-
  Contracts of package seq and of the reference package of layer 1: what each call answers, for every argument. No condition but that numbers fit their kinds.
-/
import Derived.Test.YtpoifoanigpncaaProg
import Derived.Test.YtpoifoanigpncaaAid
namespace Go.Proofs.Ytpoifoanigpncaa.sq
open Go.RowKit aid
set_option linter.unusedVariables false

def m32 (n : Int) : Int := n % 4294967296
def dist (a b : Int) : Int := (b - a + 2147483648) % 4294967296 - 2147483648
def isMay (n : Int) : Bool := decide (0 ≤ n ∧ n ≤ 4611686018427387904)

theorem dist_bd (a b : Int) : -2147483648 ≤ dist a b ∧ dist a b ≤ 2147483647 := by unfold dist; omega
theorem m32_bd (n : Int) : 0 ≤ m32 n ∧ m32 n ≤ 4294967295 := by unfold m32; omega

theorem wrap_any (n : Int) (w : World) (h : -9223372036854775808 ≤ n ∧ n ≤ 9223372036854775807) :
    Calls Try.prog 59 #[.int .i64 n] w fun e w' => e = .returned (.int .u32 (m32 n)) ∧ w = w' := by
  go_enter Try.func59, Try.ntmps59
  go_wp2
  go_ret
  exact ⟨ret_i (by unfold m32; simp), rfl⟩

theorem dist_any (a b : Int) (w : World) (ha : 0 ≤ a ∧ a ≤ 4294967295) (hb : 0 ≤ b ∧ b ≤ 4294967295) :
    Calls Try.prog 69 #[.int .u32 a, .int .u32 b] w fun e w' => e = .returned (.int .i64 (dist a b)) ∧ w = w' := by
  go_enter Try.func69, Try.ntmps69
  go_wp2
  go_ret
  refine ⟨ret_i ?_, rfl⟩
  have h := w32_bd ((b - a) % 4294967296)
  rw [w64 _ (by omega)]
  unfold dist wrap32
  omega

theorem mod_any (n : Int) (w : World) (h : -9223372036854775808 ≤ n ∧ n ≤ 9223372036854775807) :
    Calls Try.prog 42 #[.int .i64 n] w fun e w' => e = .returned (.int .i64 (m32 n)) ∧ w = w' := by
  go_enter Try.func42, Try.ntmps42
  go_wp2
  all_goals go_ret
  all_goals refine ⟨ret_i ?_, rfl⟩
  all_goals have ho := tmod_or n 4294967296 (by omega)
  all_goals unfold m32
  · rw [w64 _ (by omega)]; omega
  · omega

theorem rdist_any (a b : Int) (w : World) (ha : 0 ≤ a ∧ a ≤ 4294967295) (hb : 0 ≤ b ∧ b ≤ 4294967295) :
    Calls Try.prog 41 #[.int .i64 a, .int .i64 b] w fun e w' => e = .returned (.int .i64 (dist a b)) ∧ w = w' := by
  have hm := m32_bd (b - a)
  go_enter Try.func41, Try.ntmps41
  go_wp2_with (go_at_call 42; refine (mod_any _ _ (by omega)).mono ?_; rintro e w' ⟨rfl, rfl⟩)
  all_goals go_ret
  all_goals refine ⟨ret_i ?_, rfl⟩
  all_goals unfold m32 at *
  all_goals unfold dist
  all_goals omega

def unw (near s : Int) : Int × Bool :=
  if isMay near then (if isMay (near + dist (m32 near) s) then (near + dist (m32 near) s, true) else (0, false)) else (0, false)

end Go.Proofs.Ytpoifoanigpncaa.sq
