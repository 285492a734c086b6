/-
  Contracts of package octet: Rest.
-/
import Derived.Test.YtdfenlagokndkaaOctR
namespace Go.Proofs.Ytdfenlagokndkaa.oc
open Go.RowKit aid mem
set_option linter.unusedVariables false

theorem rest_nil (w : World) : Calls Try.prog 94 #[.pointer none] w fun e w' => e = .returned (.slice none 0 0) ∧ w = w' := by
  go_enter Try.func94, Try.ntmps94
  go_wp2
  go_ret
  exact ⟨rfl, rfl⟩
theorem rest_any (p : Nat) (S : List Nat) (l : List Int) (w : World) (hr : Rd w p S l) : Calls Try.prog 94 #[.pointer (some ⟨p, 0, none⟩)] w (RetRow l.length l w) := by
  obtain ⟨a, cap, h0, hs, _⟩ := hr.ex
  have hsm := hr.small
  go_enter Try.func94, Try.ntmps94
  go_wp2_with fail
  refine (fresh_any a l.length cap l _ hs hsm).mono ?_
  rintro e w1 ⟨v, rfl, hown, hbel⟩
  go_wp2_with fail
  go_ret
  exact ⟨v, rfl, hown, hbel⟩
end Go.Proofs.Ytdfenlagokndkaa.oc
