/-
  Layer 6: the walk of the law SpanAsks.
-/
import Derived.Test.YtdfenlagokndkaaSpnO
namespace Go.Proofs.Ytdfenlagokndkaa.sp
open Go.RowKit aid mem
attribute [local go_sem ↓] Go.wp_at_zero Go.wp_at_succ
set_option linter.unusedVariables false

set_option maxRecDepth 100000 in
set_option maxHeartbeats 6400000 in
theorem asks_lt (w : World) (s t : Int × Int) (o : Int) (h1 : s.1 < t.1) :
    Calls Try.prog 6 #[spV s, spV t, .int .i64 o] w fun e w' => e = .returned (.bool true) ∧ Below w.heap.size w w' := by
  have M0 := m2_new w s t
  have hk : cmpI s t = -1 := by unfold cmpI; rw [if_neg (by intro e; rw [e] at h1; omega), if_pos (by omega)]
  have eqb : True := trivial
  have e1 : True := trivial
  have HK0 := compare_any s t
  rw [hk] at HK0
  have HK := Lib.hid HK0
  clear HK0 hk
  go_enter Try.func6, Try.ntmps6
  go_wp2_with fail
  generalize (w.alloc (.cells #[.int .i64 s.1, .int .i64 s.2] 43)).alloc (.cells #[.int .i64 t.1, .int .i64 t.2] 43) = W at *
  generalize w.heap.size = B at M0 ⊢
  refine (known_any _).mono ?_
  rintro e w1 ⟨rfl, h1⟩
  have M1 := M0.later h1
  clear M0 h1
  have c0 := M1.b0.c0; have c1 := M1.b0.c1; have d0 := M1.b1.c0; have d1 := M1.b1.c1
  go_wp2_with fail
  clear eqb e1 c0 c1 d0 d1
  have K0 := M1.later (Below.refl _ _).drew
  clear M1
  go_region_held3 (fun w' => w'.cell? ⟨B, 0, none⟩ = some (.int .i64 s.1) ∧ w'.cell? ⟨B, 1, none⟩ = some (.int .i64 s.2) ∧ w'.cell? ⟨B + 1, 0, none⟩ = some (.int .i64 t.1) ∧ w'.cell? ⟨B + 1, 1, none⟩ = some (.int .i64 t.2)) (first | with_reducible exact K12.all | with_reducible exact K11.all | with_reducible exact K10.all | with_reducible exact K9.all | with_reducible exact K8.all | with_reducible exact K7.all | with_reducible exact K6.all | with_reducible exact K5.all | with_reducible exact K4.all | with_reducible exact K3.all | with_reducible exact K2.all | with_reducible exact K1.all | with_reducible exact K0.all | go_keep) (first
    | (go_at_call 23; (with_reducible refine (may_any s.1 s.2 _).mono ?_); rintro e v1 ⟨rfl, h⟩; have K1 := K0.later h; clear K0 h)
    | (go_at_call 24; (with_reducible refine (rmay_any s _).mono ?_); rintro e v2 ⟨rfl, h⟩; have K2 := K1.later h; clear K1 h)
    | (go_at_call 25; (with_reducible refine (len_any s _).mono ?_); rintro e v3 ⟨rfl, h⟩; have K3 := K2.later h; clear K2 h)
    | (go_at_call 26; (with_reducible refine (rlen_any s _).mono ?_); rintro e v4 ⟨rfl, h⟩; have K4 := K3.later h; clear K3 h)
    | (go_at_call 27; (with_reducible refine (has_any s o _).mono ?_); rintro e v5 ⟨rfl, h⟩; have K5 := K4.later h; clear K4 h)
    | (go_at_call 28; (with_reducible refine (rhas_any s o _).mono ?_); rintro e v6 ⟨rfl, h⟩; have K6 := K5.later h; clear K5 h)
    | (go_at_call 29; (with_reducible refine (holds_any s t _).mono ?_); rintro e v7 ⟨rfl, h⟩; have K7 := K6.later h; clear K6 h)
    | (go_at_call 30; (with_reducible refine (rholds_any s t _).mono ?_); rintro e v8 ⟨rfl, h⟩; have K8 := K7.later h; clear K7 h)
    | (go_at_call 31; (with_reducible refine (touch_any s t _).mono ?_); rintro e v9 ⟨rfl, h⟩; have K9 := K8.later h; clear K8 h)
    | (go_at_call 32; (with_reducible refine (rtouch_any s t _).mono ?_); rintro e v10 ⟨rfl, h⟩; have K10 := K9.later h; clear K9 h)
    | (go_at_call 33; (with_reducible refine (HK.out _).mono ?_); rintro e v11 ⟨rfl, h⟩; have K11 := K10.later h; clear K10 h)
    | (go_at_call 22; (with_reducible refine (known_any _).mono ?_); rintro e v12 ⟨rfl, h⟩; have K12 := K11.later h; clear K11 h))
  all_goals
    go_wp2
    go_ret
    exact ⟨rfl, K12.below⟩
set_option maxRecDepth 100000 in
set_option maxHeartbeats 6400000 in
theorem asks_eqlt (w : World) (s t : Int × Int) (o : Int) (h1 : s.1 = t.1) (h2 : s.2 < t.2) :
    Calls Try.prog 6 #[spV s, spV t, .int .i64 o] w fun e w' => e = .returned (.bool true) ∧ Below w.heap.size w w' := by
  have M0 := m2_new w s t
  have hk : cmpI s t = -1 := by unfold cmpI; rw [if_neg (by intro e; rw [e] at h2; omega), if_pos (by omega)]
  have eqb : True := trivial
  have e1 : (s.1 == t.1) = true := by simpa using h1
  have h3 : t.1 ≤ s.1 := by omega
  clear h1
  have HK0 := compare_any s t
  rw [hk] at HK0
  have HK := Lib.hid HK0
  clear HK0 hk
  go_enter Try.func6, Try.ntmps6
  go_wp2_with fail
  generalize (w.alloc (.cells #[.int .i64 s.1, .int .i64 s.2] 43)).alloc (.cells #[.int .i64 t.1, .int .i64 t.2] 43) = W at *
  generalize w.heap.size = B at M0 ⊢
  refine (known_any _).mono ?_
  rintro e w1 ⟨rfl, h1⟩
  have M1 := M0.later h1
  clear M0 h1
  have c0 := M1.b0.c0; have c1 := M1.b0.c1; have d0 := M1.b1.c0; have d1 := M1.b1.c1
  go_wp2_with fail
  clear eqb e1 c0 c1 d0 d1
  have K0 := M1.later (Below.refl _ _).drew
  clear M1
  go_region_held3 (fun w' => w'.cell? ⟨B, 0, none⟩ = some (.int .i64 s.1) ∧ w'.cell? ⟨B, 1, none⟩ = some (.int .i64 s.2) ∧ w'.cell? ⟨B + 1, 0, none⟩ = some (.int .i64 t.1) ∧ w'.cell? ⟨B + 1, 1, none⟩ = some (.int .i64 t.2)) (first | with_reducible exact K12.all | with_reducible exact K11.all | with_reducible exact K10.all | with_reducible exact K9.all | with_reducible exact K8.all | with_reducible exact K7.all | with_reducible exact K6.all | with_reducible exact K5.all | with_reducible exact K4.all | with_reducible exact K3.all | with_reducible exact K2.all | with_reducible exact K1.all | with_reducible exact K0.all | go_keep) (first
    | (go_at_call 23; (with_reducible refine (may_any s.1 s.2 _).mono ?_); rintro e v1 ⟨rfl, h⟩; have K1 := K0.later h; clear K0 h)
    | (go_at_call 24; (with_reducible refine (rmay_any s _).mono ?_); rintro e v2 ⟨rfl, h⟩; have K2 := K1.later h; clear K1 h)
    | (go_at_call 25; (with_reducible refine (len_any s _).mono ?_); rintro e v3 ⟨rfl, h⟩; have K3 := K2.later h; clear K2 h)
    | (go_at_call 26; (with_reducible refine (rlen_any s _).mono ?_); rintro e v4 ⟨rfl, h⟩; have K4 := K3.later h; clear K3 h)
    | (go_at_call 27; (with_reducible refine (has_any s o _).mono ?_); rintro e v5 ⟨rfl, h⟩; have K5 := K4.later h; clear K4 h)
    | (go_at_call 28; (with_reducible refine (rhas_any s o _).mono ?_); rintro e v6 ⟨rfl, h⟩; have K6 := K5.later h; clear K5 h)
    | (go_at_call 29; (with_reducible refine (holds_any s t _).mono ?_); rintro e v7 ⟨rfl, h⟩; have K7 := K6.later h; clear K6 h)
    | (go_at_call 30; (with_reducible refine (rholds_any s t _).mono ?_); rintro e v8 ⟨rfl, h⟩; have K8 := K7.later h; clear K7 h)
    | (go_at_call 31; (with_reducible refine (touch_any s t _).mono ?_); rintro e v9 ⟨rfl, h⟩; have K9 := K8.later h; clear K8 h)
    | (go_at_call 32; (with_reducible refine (rtouch_any s t _).mono ?_); rintro e v10 ⟨rfl, h⟩; have K10 := K9.later h; clear K9 h)
    | (go_at_call 33; (with_reducible refine (HK.out _).mono ?_); rintro e v11 ⟨rfl, h⟩; have K11 := K10.later h; clear K10 h)
    | (go_at_call 22; (with_reducible refine (known_any _).mono ?_); rintro e v12 ⟨rfl, h⟩; have K12 := K11.later h; clear K11 h))
  all_goals
    go_wp2
    go_ret
    exact ⟨rfl, K12.below⟩
set_option maxRecDepth 100000 in
set_option maxHeartbeats 6400000 in
theorem asks_same (w : World) (s t : Int × Int) (o : Int) (h1 : s.1 = t.1) (h2 : s.2 = t.2) :
    Calls Try.prog 6 #[spV s, spV t, .int .i64 o] w fun e w' => e = .returned (.bool true) ∧ Below w.heap.size w w' := by
  have M0 := m2_new w s t
  have hk : cmpI s t = 0 := by unfold cmpI; rw [if_pos (Prod.ext h1 h2)]
  have hne : (s.1 == t.1 && s.2 == t.2) = true := by simp [h1, h2]
  have eqb0 := eq_sp s.1 s.2 t.1 t.2
  rw [hne] at eqb0
  have eqb := eqb0
  have eqg := eq_guard
  have e1 : (s.1 == t.1) = true := by simpa using h1
  have h3 : t.1 ≤ s.1 := by omega
  have h4 : t.2 ≤ s.2 := by omega
  clear h1 h2 hne eqb0
  have HK0 := compare_any s t
  rw [hk] at HK0
  have HK := Lib.hid HK0
  clear HK0 hk
  go_enter Try.func6, Try.ntmps6
  go_wp2_with fail
  generalize (w.alloc (.cells #[.int .i64 s.1, .int .i64 s.2] 43)).alloc (.cells #[.int .i64 t.1, .int .i64 t.2] 43) = W at *
  generalize w.heap.size = B at M0 ⊢
  refine (known_any _).mono ?_
  rintro e w1 ⟨rfl, h1⟩
  have M1 := M0.later h1
  clear M0 h1
  have c0 := M1.b0.c0; have c1 := M1.b0.c1; have d0 := M1.b1.c0; have d1 := M1.b1.c1
  go_wp2_with fail
  clear eqb e1 c0 c1 d0 d1
  have K0 := M1.later (Below.refl _ _).drew
  clear M1
  go_region_held3 (fun w' => w'.cell? ⟨B, 0, none⟩ = some (.int .i64 s.1) ∧ w'.cell? ⟨B, 1, none⟩ = some (.int .i64 s.2) ∧ w'.cell? ⟨B + 1, 0, none⟩ = some (.int .i64 t.1) ∧ w'.cell? ⟨B + 1, 1, none⟩ = some (.int .i64 t.2)) (first | with_reducible exact K12.all | with_reducible exact K11.all | with_reducible exact K10.all | with_reducible exact K9.all | with_reducible exact K8.all | with_reducible exact K7.all | with_reducible exact K6.all | with_reducible exact K5.all | with_reducible exact K4.all | with_reducible exact K3.all | with_reducible exact K2.all | with_reducible exact K1.all | with_reducible exact K0.all | go_keep) (first
    | (go_at_call 23; (with_reducible refine (may_any s.1 s.2 _).mono ?_); rintro e v1 ⟨rfl, h⟩; have K1 := K0.later h; clear K0 h)
    | (go_at_call 24; (with_reducible refine (rmay_any s _).mono ?_); rintro e v2 ⟨rfl, h⟩; have K2 := K1.later h; clear K1 h)
    | (go_at_call 25; (with_reducible refine (len_any s _).mono ?_); rintro e v3 ⟨rfl, h⟩; have K3 := K2.later h; clear K2 h)
    | (go_at_call 26; (with_reducible refine (rlen_any s _).mono ?_); rintro e v4 ⟨rfl, h⟩; have K4 := K3.later h; clear K3 h)
    | (go_at_call 27; (with_reducible refine (has_any s o _).mono ?_); rintro e v5 ⟨rfl, h⟩; have K5 := K4.later h; clear K4 h)
    | (go_at_call 28; (with_reducible refine (rhas_any s o _).mono ?_); rintro e v6 ⟨rfl, h⟩; have K6 := K5.later h; clear K5 h)
    | (go_at_call 29; (with_reducible refine (holds_any s t _).mono ?_); rintro e v7 ⟨rfl, h⟩; have K7 := K6.later h; clear K6 h)
    | (go_at_call 30; (with_reducible refine (rholds_any s t _).mono ?_); rintro e v8 ⟨rfl, h⟩; have K8 := K7.later h; clear K7 h)
    | (go_at_call 31; (with_reducible refine (touch_any s t _).mono ?_); rintro e v9 ⟨rfl, h⟩; have K9 := K8.later h; clear K8 h)
    | (go_at_call 32; (with_reducible refine (rtouch_any s t _).mono ?_); rintro e v10 ⟨rfl, h⟩; have K10 := K9.later h; clear K9 h)
    | (go_at_call 33; (with_reducible refine (HK.out _).mono ?_); rintro e v11 ⟨rfl, h⟩; have K11 := K10.later h; clear K10 h)
    | (go_at_call 22; (with_reducible refine (known_any _).mono ?_); rintro e v12 ⟨rfl, h⟩; have K12 := K11.later h; clear K11 h))
  all_goals
    go_wp2
    go_ret
    exact ⟨rfl, K12.below⟩
set_option maxRecDepth 100000 in
set_option maxHeartbeats 6400000 in
theorem asks_gt (w : World) (s t : Int × Int) (o : Int) (h1 : t.1 < s.1) :
    Calls Try.prog 6 #[spV s, spV t, .int .i64 o] w fun e w' => e = .returned (.bool true) ∧ Below w.heap.size w w' := by
  have M0 := m2_new w s t
  have hk : cmpI s t = 1 := by unfold cmpI; rw [if_neg (by intro e; rw [e] at h1; omega), if_neg (by omega)]
  have e1 : (s.1 == t.1) = false := by rw [Bool.eq_false_iff]; intro hx; simp at hx; omega
  have hne : (s.1 == t.1 && s.2 == t.2) = false := by rw [Bool.eq_false_iff]; intro hx; simp at hx; omega
  have eqb0 := eq_sp s.1 s.2 t.1 t.2
  rw [hne] at eqb0
  have eqb := eqb0
  have eqg := eq_guard
  clear hne eqb0
  have HK0 := compare_any s t
  rw [hk] at HK0
  have HK := Lib.hid HK0
  clear HK0 hk
  go_enter Try.func6, Try.ntmps6
  go_wp2_with fail
  generalize (w.alloc (.cells #[.int .i64 s.1, .int .i64 s.2] 43)).alloc (.cells #[.int .i64 t.1, .int .i64 t.2] 43) = W at *
  generalize w.heap.size = B at M0 ⊢
  refine (known_any _).mono ?_
  rintro e w1 ⟨rfl, h1⟩
  have M1 := M0.later h1
  clear M0 h1
  have c0 := M1.b0.c0; have c1 := M1.b0.c1; have d0 := M1.b1.c0; have d1 := M1.b1.c1
  go_wp2_with fail
  clear eqb e1 c0 c1 d0 d1
  have K0 := M1.later (Below.refl _ _).drew
  clear M1
  go_region_held3 (fun w' => w'.cell? ⟨B, 0, none⟩ = some (.int .i64 s.1) ∧ w'.cell? ⟨B, 1, none⟩ = some (.int .i64 s.2) ∧ w'.cell? ⟨B + 1, 0, none⟩ = some (.int .i64 t.1) ∧ w'.cell? ⟨B + 1, 1, none⟩ = some (.int .i64 t.2)) (first | with_reducible exact K12.all | with_reducible exact K11.all | with_reducible exact K10.all | with_reducible exact K9.all | with_reducible exact K8.all | with_reducible exact K7.all | with_reducible exact K6.all | with_reducible exact K5.all | with_reducible exact K4.all | with_reducible exact K3.all | with_reducible exact K2.all | with_reducible exact K1.all | with_reducible exact K0.all | go_keep) (first
    | (go_at_call 23; (with_reducible refine (may_any s.1 s.2 _).mono ?_); rintro e v1 ⟨rfl, h⟩; have K1 := K0.later h; clear K0 h)
    | (go_at_call 24; (with_reducible refine (rmay_any s _).mono ?_); rintro e v2 ⟨rfl, h⟩; have K2 := K1.later h; clear K1 h)
    | (go_at_call 25; (with_reducible refine (len_any s _).mono ?_); rintro e v3 ⟨rfl, h⟩; have K3 := K2.later h; clear K2 h)
    | (go_at_call 26; (with_reducible refine (rlen_any s _).mono ?_); rintro e v4 ⟨rfl, h⟩; have K4 := K3.later h; clear K3 h)
    | (go_at_call 27; (with_reducible refine (has_any s o _).mono ?_); rintro e v5 ⟨rfl, h⟩; have K5 := K4.later h; clear K4 h)
    | (go_at_call 28; (with_reducible refine (rhas_any s o _).mono ?_); rintro e v6 ⟨rfl, h⟩; have K6 := K5.later h; clear K5 h)
    | (go_at_call 29; (with_reducible refine (holds_any s t _).mono ?_); rintro e v7 ⟨rfl, h⟩; have K7 := K6.later h; clear K6 h)
    | (go_at_call 30; (with_reducible refine (rholds_any s t _).mono ?_); rintro e v8 ⟨rfl, h⟩; have K8 := K7.later h; clear K7 h)
    | (go_at_call 31; (with_reducible refine (touch_any s t _).mono ?_); rintro e v9 ⟨rfl, h⟩; have K9 := K8.later h; clear K8 h)
    | (go_at_call 32; (with_reducible refine (rtouch_any s t _).mono ?_); rintro e v10 ⟨rfl, h⟩; have K10 := K9.later h; clear K9 h)
    | (go_at_call 33; (with_reducible refine (HK.out _).mono ?_); rintro e v11 ⟨rfl, h⟩; have K11 := K10.later h; clear K10 h)
    | (go_at_call 22; (with_reducible refine (known_any _).mono ?_); rintro e v12 ⟨rfl, h⟩; have K12 := K11.later h; clear K11 h))
  all_goals
    go_wp2
    go_ret
    exact ⟨rfl, K12.below⟩
set_option maxRecDepth 100000 in
set_option maxHeartbeats 6400000 in
theorem asks_eqgt (w : World) (s t : Int × Int) (o : Int) (h1 : s.1 = t.1) (h2 : t.2 < s.2) :
    Calls Try.prog 6 #[spV s, spV t, .int .i64 o] w fun e w' => e = .returned (.bool true) ∧ Below w.heap.size w w' := by
  have M0 := m2_new w s t
  have hk : cmpI s t = 1 := by unfold cmpI; rw [if_neg (by intro e; rw [e] at h2; omega), if_neg (by omega)]
  have e1 : (s.1 == t.1) = true := by simpa using h1
  have h3 : t.1 ≤ s.1 := by omega
  have hne : (s.1 == t.1 && s.2 == t.2) = false := by rw [Bool.eq_false_iff]; intro hx; simp at hx; omega
  have eqb0 := eq_sp s.1 s.2 t.1 t.2
  rw [hne] at eqb0
  have eqb := eqb0
  have eqg := eq_guard
  clear hne eqb0
  clear h1
  have HK0 := compare_any s t
  rw [hk] at HK0
  have HK := Lib.hid HK0
  clear HK0 hk
  go_enter Try.func6, Try.ntmps6
  go_wp2_with fail
  generalize (w.alloc (.cells #[.int .i64 s.1, .int .i64 s.2] 43)).alloc (.cells #[.int .i64 t.1, .int .i64 t.2] 43) = W at *
  generalize w.heap.size = B at M0 ⊢
  refine (known_any _).mono ?_
  rintro e w1 ⟨rfl, h1⟩
  have M1 := M0.later h1
  clear M0 h1
  have c0 := M1.b0.c0; have c1 := M1.b0.c1; have d0 := M1.b1.c0; have d1 := M1.b1.c1
  go_wp2_with fail
  clear eqb e1 c0 c1 d0 d1
  have K0 := M1.later (Below.refl _ _).drew
  clear M1
  go_region_held3 (fun w' => w'.cell? ⟨B, 0, none⟩ = some (.int .i64 s.1) ∧ w'.cell? ⟨B, 1, none⟩ = some (.int .i64 s.2) ∧ w'.cell? ⟨B + 1, 0, none⟩ = some (.int .i64 t.1) ∧ w'.cell? ⟨B + 1, 1, none⟩ = some (.int .i64 t.2)) (first | with_reducible exact K12.all | with_reducible exact K11.all | with_reducible exact K10.all | with_reducible exact K9.all | with_reducible exact K8.all | with_reducible exact K7.all | with_reducible exact K6.all | with_reducible exact K5.all | with_reducible exact K4.all | with_reducible exact K3.all | with_reducible exact K2.all | with_reducible exact K1.all | with_reducible exact K0.all | go_keep) (first
    | (go_at_call 23; (with_reducible refine (may_any s.1 s.2 _).mono ?_); rintro e v1 ⟨rfl, h⟩; have K1 := K0.later h; clear K0 h)
    | (go_at_call 24; (with_reducible refine (rmay_any s _).mono ?_); rintro e v2 ⟨rfl, h⟩; have K2 := K1.later h; clear K1 h)
    | (go_at_call 25; (with_reducible refine (len_any s _).mono ?_); rintro e v3 ⟨rfl, h⟩; have K3 := K2.later h; clear K2 h)
    | (go_at_call 26; (with_reducible refine (rlen_any s _).mono ?_); rintro e v4 ⟨rfl, h⟩; have K4 := K3.later h; clear K3 h)
    | (go_at_call 27; (with_reducible refine (has_any s o _).mono ?_); rintro e v5 ⟨rfl, h⟩; have K5 := K4.later h; clear K4 h)
    | (go_at_call 28; (with_reducible refine (rhas_any s o _).mono ?_); rintro e v6 ⟨rfl, h⟩; have K6 := K5.later h; clear K5 h)
    | (go_at_call 29; (with_reducible refine (holds_any s t _).mono ?_); rintro e v7 ⟨rfl, h⟩; have K7 := K6.later h; clear K6 h)
    | (go_at_call 30; (with_reducible refine (rholds_any s t _).mono ?_); rintro e v8 ⟨rfl, h⟩; have K8 := K7.later h; clear K7 h)
    | (go_at_call 31; (with_reducible refine (touch_any s t _).mono ?_); rintro e v9 ⟨rfl, h⟩; have K9 := K8.later h; clear K8 h)
    | (go_at_call 32; (with_reducible refine (rtouch_any s t _).mono ?_); rintro e v10 ⟨rfl, h⟩; have K10 := K9.later h; clear K9 h)
    | (go_at_call 33; (with_reducible refine (HK.out _).mono ?_); rintro e v11 ⟨rfl, h⟩; have K11 := K10.later h; clear K10 h)
    | (go_at_call 22; (with_reducible refine (known_any _).mono ?_); rintro e v12 ⟨rfl, h⟩; have K12 := K11.later h; clear K11 h))
  all_goals
    go_wp2
    go_ret
    exact ⟨rfl, K12.below⟩

theorem walk_SpanAsks (w : World) (s t : Int × Int) (o : Int) (ho : -9223372036854775808 ≤ o ∧ o ≤ 9223372036854775807) :
    Calls Try.prog 6 #[spV s, spV t, .int .i64 o] w fun e w' => e = .returned (.bool true) ∧ Below w.heap.size w w' := by
  by_cases h1 : s.1 < t.1
  · exact asks_lt w s t o h1
  · by_cases h2 : t.1 < s.1
    · exact asks_gt w s t o h2
    · by_cases h3 : s.2 < t.2
      · exact asks_eqlt w s t o (by omega) h3
      · by_cases h4 : t.2 < s.2
        · exact asks_eqgt w s t o (by omega) h4
        · exact asks_same w s t o (by omega) (by omega)
end Go.Proofs.Ytdfenlagokndkaa.sp
