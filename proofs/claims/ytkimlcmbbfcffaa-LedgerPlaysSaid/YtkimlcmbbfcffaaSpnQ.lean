/-
  Spans, as the reference has them: Holds, Touch, Below, From; wider.
-/
import Derived.Test.YtkimlcmbbfcffaaSpnR
import Derived.Test.YtkimlcmbbfcffaaSpnY
namespace Go.Proofs.Ytkimlcmbbfcffaa.sp
open Go.RowKit aid mem
attribute [local go_sem ↓] Go.wp_at_zero Go.wp_at_succ
set_option linter.unusedVariables false

set_option maxRecDepth 100000 in
set_option maxHeartbeats 800000 in
theorem rholds_any (s t : Int × Int) (w : World) : Calls Try.prog 30 #[spV s, spV t] w (RetB (holdsB s t) w) := by
  have M0 := (m2_new w s t)
  have H : Hid (decide (meetP s t = ofP t) = holdsB s t) := Lib.hid (holds_eq s t)
  have HF := rof_any t
  have HG := rmeet_any s t
  generalize ofP t = n at *
  generalize meetP s t = m at *
  have HFF := Lib.hid HF
  have HGG := Lib.hid HG
  clear HF HG
  have H' : Hid ((m.1 == n.1 && m.2 == n.2) = holdsB s t) := Lib.hid (by rw [← H.out, Bool.eq_iff_iff]; simp [Prod.ext_iff])
  clear H
  have eqb := eq_sp m.1 m.2 n.1 n.2
  have eqg := eq_guard
  go_enter Try.func30, Try.ntmps30
  go_wp2_with fail
  generalize (w.alloc (.cells #[.int .i64 s.1, .int .i64 s.2] 32)).alloc (.cells #[.int .i64 t.1, .int .i64 t.2] 32) = W at *
  generalize w.heap.size = B at *
  have M1 := M0.later (Below.refl _ _).drew
  go_region_held3 (fun w' => w'.cell? ⟨B, 0, none⟩ = some (.int .i64 s.1) ∧ w'.cell? ⟨B, 1, none⟩ = some (.int .i64 s.2) ∧ w'.cell? ⟨B + 1, 0, none⟩ = some (.int .i64 t.1) ∧ w'.cell? ⟨B + 1, 1, none⟩ = some (.int .i64 t.2)) (first | exact M3.all | exact M2.all | exact M1.all | exact M0.all | go_keep) (first
    | (go_at_call 29; refine (HFF.out _).mono ?_; rintro e w3 ⟨rfl, h3⟩; have M3 := M2.later h3; clear M2 h3)
    | (go_at_call 35; refine (HGG.out _).mono ?_; rintro e w2 ⟨rfl, h2⟩; have M2 := M1.later h2; clear M1 h2))
  all_goals
    go_wp2
    go_ret
    exact ⟨ret_b H'.out, M3.below⟩

end Go.Proofs.Ytkimlcmbbfcffaa.sp
