/-
  Layer 6: what must come of fixed calls; the walks of the laws SpanTouches and SpanAsks.
-/
import Derived.Test.YtdadcbelbkhgoaaSpnG
import Derived.OpenShut
namespace Go.Proofs.Ytdadcbelbkhgoaa.sp
open Go.RowKit aid mem
attribute [local go_sem ↓] Go.wp_at_zero Go.wp_at_succ
set_option linter.unusedVariables false

set_option maxRecDepth 100000 in
set_option maxHeartbeats 1600000 in
theorem known_any (w : World) : Calls Try.prog 37 #[] w fun e w' => e = .returned (.bool true) ∧ Below w.heap.size w w' := by
  have M0 := m2_new w (2, 9) (5, 12)
  have HM := meet_any (2, 9) (5, 12)
  have HL := len_any (2, 9)
  have HT := touch_any (2, 9) (5, 12)
  have hm : meetP (2, 9) (5, 12) = (5, 9) := by decide
  have hl : lenI (2, 9) = 7 := by decide
  have ht : touchB (2, 9) (5, 12) = true := by decide
  have hh : hullP [(2, 9), (5, 12)] = (2, 12) := by decide
  rw [hm] at HM
  rw [hl] at HL
  rw [ht] at HT
  have e1 := eq_sp 5 9 5 9
  have e2 := eq_sp 2 12 2 12
  have eqg := eq_guard
  have HMM := Lib.hid HM
  have HLL := Lib.hid HL
  have HTT := Lib.hid HT
  have HH := Lib.hid hh
  clear HM HL HT hm hl ht hh
  go_enter Try.func37, Try.ntmps37
  go_wp2_with fail
  generalize (w.alloc (.cells #[.int .i64 2, .int .i64 9] 24)).alloc (.cells #[.int .i64 5, .int .i64 12] 24) = W at *
  generalize w.heap.size = B at M0 ⊢
  refine (HMM.out _).mono ?_
  rintro e w1 ⟨rfl, h1⟩
  have M1 := M0.later h1
  have c0 := M1.b0.c0; have c1 := M1.b0.c1; have d0 := M1.b1.c0; have d1 := M1.b1.c1
  clear M0 h1
  go_wp2_with fail
  refine (hull_any [(2, 9), (5, 12)] _ 2 2 _ (sls_two w1 (2, 9) (5, 12) _)).mono ?_
  rintro e w2 ⟨rfl, h2⟩
  rw [HH.out]
  have M2 := (M1.later (bal _)).later h2
  clear M1 h2 c0 c1 d0 d1
  have c0 := M2.b0.c0; have c1 := M2.b0.c1
  go_wp2_with fail
  refine (HLL.out _).mono ?_
  rintro e w3 ⟨rfl, h3⟩
  have M3 := M2.later h3
  clear M2 h3 c0 c1
  have c0 := M3.b0.c0; have c1 := M3.b0.c1; have d0 := M3.b1.c0; have d1 := M3.b1.c1
  go_wp2_with fail
  refine (HTT.out _).mono ?_
  rintro e w4 ⟨rfl, h4⟩
  have M4 := M3.later h4
  clear M3 h4 c0 c1 d0 d1
  go_wp2
  go_ret
  exact ⟨rfl, M4.below⟩

end Go.Proofs.Ytdadcbelbkhgoaa.sp
