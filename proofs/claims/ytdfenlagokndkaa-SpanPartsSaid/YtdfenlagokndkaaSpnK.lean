/-
  Layer 6: what must come of fixed calls; the walks of the laws SpanTouches and SpanAsks.
-/
import Derived.Test.YtdfenlagokndkaaSpnG
import Derived.OpenShut
namespace Go.Proofs.Ytdfenlagokndkaa.sp
open Go.RowKit aid mem
attribute [local go_sem ↓] Go.wp_at_zero Go.wp_at_succ
set_option linter.unusedVariables false

set_option maxRecDepth 100000 in
set_option maxHeartbeats 1600000 in
theorem known_any (w : World) : Calls Try.prog 22 #[] w fun e w' => e = .returned (.bool true) ∧ Below w.heap.size w w' := by
  have M0 := m2_new w (2, 9) (5, 12)
  have HM := meet_any (2, 9) (5, 12)
  have HL := len_any (2, 9)
  have HT := touch_any (2, 9) (5, 12)
  have hm : meetP (2, 9) (5, 12) = (5, 9) := by decide
  have hl : lenI (2, 9) = 7 := by decide
  have ht : touchB (2, 9) (5, 12) = true := by decide
  have hh : hullP [(2, 9), (5, 12)] = (2, 12) := by decide
  rw [hm] at HM
  rw [hl] at HL
  rw [ht] at HT
  have e1 := eq_sp 5 9 5 9
  have e2 := eq_sp 2 12 2 12
  have eqg := eq_guard
  have HMM := Lib.hid HM
  have HLL := Lib.hid HL
  have HTT := Lib.hid HT
  have HH := Lib.hid hh
  clear HM HL HT hm hl ht hh
  go_enter Try.func22, Try.ntmps22
  go_wp2_with fail
  generalize (w.alloc (.cells #[.int .i64 2, .int .i64 9] 43)).alloc (.cells #[.int .i64 5, .int .i64 12] 43) = W at *
  generalize w.heap.size = B at M0 ⊢
  refine (HMM.out _).mono ?_
  rintro e w1 ⟨rfl, h1⟩
  have M1 := M0.later h1
  have c0 := M1.b0.c0; have c1 := M1.b0.c1; have d0 := M1.b1.c0; have d1 := M1.b1.c1
  clear M0 h1
  go_wp2_with fail
  refine (hull_any [(2, 9), (5, 12)] _ 2 2 _ (sls_two w1 (2, 9) (5, 12) _)).mono ?_
  rintro e w2 ⟨rfl, h2⟩
  rw [HH.out]
  have M2 := (M1.later (bal _)).later h2
  clear M1 h2 c0 c1 d0 d1
  have c0 := M2.b0.c0; have c1 := M2.b0.c1
  go_wp2_with fail
  refine (HLL.out _).mono ?_
  rintro e w3 ⟨rfl, h3⟩
  have M3 := M2.later h3
  clear M2 h3 c0 c1
  have c0 := M3.b0.c0; have c1 := M3.b0.c1; have d0 := M3.b1.c0; have d1 := M3.b1.c1
  go_wp2_with fail
  refine (HTT.out _).mono ?_
  rintro e w4 ⟨rfl, h4⟩
  have M4 := M3.later h4
  clear M3 h4 c0 c1 d0 d1
  go_wp2
  go_ret
  exact ⟨rfl, M4.below⟩

set_option maxRecDepth 100000 in
set_option maxHeartbeats 6400000 in
theorem walk_SpanTouches (w : World) (s t : Int × Int) :
    Calls Try.prog 10 #[spV s, spV t] w fun e w' => e = .returned (.bool true) ∧ Below w.heap.size w w' := by
  have M0 := m2_new w s t
  have HT := touch_any s t
  cases hb : touchB s t with
  | false =>
    have hz := touch_meet s t hb
    have HM := Lib.hid (meet_any s t)
    have HL := len_any (meetP s t)
    rw [hz] at HL
    rw [hb] at HT
    generalize meetP s t = m at *
    have HTT := Lib.hid HT
    have HLL := Lib.hid HL
    clear HT HL hb hz
    go_enter Try.func10, Try.ntmps10
    go_wp2_with fail
    generalize (w.alloc (.cells #[.int .i64 s.1, .int .i64 s.2] 43)).alloc (.cells #[.int .i64 t.1, .int .i64 t.2] 43) = W at *
    generalize w.heap.size = B at M0 ⊢
    refine (known_any _).mono ?_
    rintro e w1 ⟨rfl, h1⟩
    have M1 := M0.later h1
    clear M0 h1
    have c0 := M1.b0.c0; have c1 := M1.b0.c1; have d0 := M1.b1.c0; have d1 := M1.b1.c1
    go_wp2_with fail
    refine (HTT.out _).mono ?_
    rintro e w2 ⟨rfl, h2⟩
    have M2 := M1.later h2
    clear M1 h2 c0 c1 d0 d1
    have c0 := M2.b0.c0; have c1 := M2.b0.c1; have d0 := M2.b1.c0; have d1 := M2.b1.c1
    go_wp2_with fail
    refine (HM.out _).mono ?_
    rintro e w3 ⟨rfl, h3⟩
    have M3 := M2.later h3
    clear M2 h3 c0 c1 d0 d1
    go_wp2_with fail
    refine (HLL.out _).mono ?_
    rintro e w4 ⟨rfl, h4⟩
    have M4 := M3.later h4
    clear M3 h4
    go_wp2_with fail
    refine (known_any _).mono ?_
    rintro e w5 ⟨rfl, h5⟩
    have M5 := M4.later h5
    clear M4 h5
    go_wp2
    go_ret
    exact ⟨rfl, M5.below⟩
  | true =>
    have hsum := touch_hull s t hb
    have hc := touch_comm s t
    have HR := touch_any t s
    rw [hc, hb] at HR
    rw [hb] at HT
    have HTT := Lib.hid HT
    have HRR := Lib.hid HR
    have HU := Lib.hid (hull_any [s, t])
    have HM := Lib.hid (meet_any s t)
    have HLS := Lib.hid (len_any s)
    have HLT := Lib.hid (len_any t)
    have HLU := Lib.hid (len_any (hullP [s, t]))
    have HLM := Lib.hid (len_any (meetP s t))
    have b1 := lenI_bd s
    have b2 := lenI_bd t
    have b3 := lenI_bd (hullP [s, t])
    have b4 := lenI_bd (meetP s t)
    generalize lenI s = n1 at *
    generalize lenI t = n2 at *
    generalize lenI (hullP [s, t]) = n3 at *
    generalize lenI (meetP s t) = n4 at *
    generalize hullP [s, t] = u at *
    generalize meetP s t = m at *
    have heq : (IntKind.i64.wrap (n3 + n4) == IntKind.i64.wrap (n1 + n2)) = true := by rw [hsum]; simp
    clear HT HR hb hc hsum
    go_enter Try.func10, Try.ntmps10
    go_wp2_with fail
    generalize (w.alloc (.cells #[.int .i64 s.1, .int .i64 s.2] 43)).alloc (.cells #[.int .i64 t.1, .int .i64 t.2] 43) = W at *
    generalize w.heap.size = B at M0 ⊢
    refine (known_any _).mono ?_
    rintro e w1 ⟨rfl, h1⟩
    have M1 := M0.later h1
    clear M0 h1
    have c0 := M1.b0.c0; have c1 := M1.b0.c1; have d0 := M1.b1.c0; have d1 := M1.b1.c1
    go_wp2_with fail
    refine (HTT.out _).mono ?_
    rintro e w2 ⟨rfl, h2⟩
    have M2 := M1.later h2
    clear M1 h2 c0 c1 d0 d1
    go_wp2_with fail
    go_region_held3 (fun w' => w'.cell? ⟨B, 0, none⟩ = some (.int .i64 s.1) ∧ w'.cell? ⟨B, 1, none⟩ = some (.int .i64 s.2) ∧ w'.cell? ⟨B + 1, 0, none⟩ = some (.int .i64 t.1) ∧ w'.cell? ⟨B + 1, 1, none⟩ = some (.int .i64 t.2)) (first | with_reducible exact M11.all | with_reducible exact M10.all | with_reducible exact M9.all | with_reducible exact M8.all | with_reducible exact M7.all | with_reducible exact M6.all | with_reducible exact M5.all | with_reducible exact M4.all | with_reducible exact M2.all | with_reducible exact (M2.later (bal _)).all | with_reducible exact (M2.later (Below.refl _ _).drew).all | with_reducible exact ((M2.later (bal _)).later (Below.refl _ _).drew).all | go_keep) (first
      | (go_at_call 40; (with_reducible refine (HU.out _ 2 2 _ ((sls_two _ s t _).later (Below.refl _ _).drew)).mono ?_); rintro e w4 ⟨rfl, h4⟩; have M4 := ((M2.later (bal _)).later (Below.refl _ _).drew).later h4; clear M2 h4)
      | (go_at_call 25; (with_reducible refine (HLU.out _).mono ?_); rintro e w5 ⟨rfl, h5⟩; have M5 := M4.later h5; clear M4 h5)
      | (go_at_call 34; (with_reducible refine (HM.out _).mono ?_); rintro e w6 ⟨rfl, h6⟩; have M6 := M5.later h6; clear M5 h6)
      | (go_at_call 25; (with_reducible refine (HLM.out _).mono ?_); rintro e w7 ⟨rfl, h7⟩; have M7 := M6.later h7; clear M6 h7)
      | (go_at_call 25; (with_reducible refine (HLS.out _).mono ?_); rintro e w8 ⟨rfl, h8⟩; have M8 := M7.later h8; clear M7 h8)
      | (go_at_call 25; (with_reducible refine (HLT.out _).mono ?_); rintro e w9 ⟨rfl, h9⟩; have M9 := M8.later h9; clear M8 h9)
      | (go_at_call 31; (with_reducible refine (HRR.out _).mono ?_); rintro e w10 ⟨rfl, h10⟩; have M10 := M9.later h10; clear M9 h10)
      | (go_at_call 22; (with_reducible refine (known_any _).mono ?_); rintro e w11 ⟨rfl, h11⟩; have M11 := M10.later h11; clear M10 h11))
    all_goals
      go_wp2
      go_ret
      exact ⟨rfl, M11.below⟩
end Go.Proofs.Ytdfenlagokndkaa.sp
