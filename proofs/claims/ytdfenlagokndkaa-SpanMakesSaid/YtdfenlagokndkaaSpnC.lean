/-
  Layer 6: the walk of the law SpanMakes.
-/
import Derived.Test.YtdfenlagokndkaaSpnO
namespace Go.Proofs.Ytdfenlagokndkaa.sp
open Go.RowKit aid mem
attribute [local go_sem ↓] Go.wp_at_zero Go.wp_at_succ
set_option linter.unusedVariables false

theorem eq_same (m : Int × Int) : ∀ w : World, (Op.equalIn 10000 43 (.agg #[.int .i64 m.1, .int .i64 m.2]) (.agg #[.int .i64 m.1, .int .i64 m.2])).run Try.prog w = .ok true w := fun w => by
  rw [eq_sp]
  simp

set_option maxRecDepth 100000 in
set_option maxHeartbeats 12800000 in
theorem walk_SpanMakes (w : World) (a : Option Addr) (n cap : Nat) (l : List (Int × Int)) (hl : SlS w a n cap l) (o : Int) (ho : -9223372036854775808 ≤ o ∧ o ≤ 9223372036854775807) :
    Calls Try.prog 7 #[.slice a n cap, .int .i64 o] w fun e w' => e = .returned (.bool true) ∧ Below w.heap.size w w' := by
  have hlen := hl.len
  have hle := hl.le
  have hmost := hl.most
  unfold maxLen at hmost
  have HL := Lib.hid hlen
  have HS := Lib.hid hl
  clear hlen hl
  have HU := Lib.hid (hull_any l)
  have HV := Lib.hid (rhull_any l)
  have eqh := eq_same (hullP l)
  have eqg := eq_guard
  generalize hullP l = u at *
  go_enter Try.func7, Try.ntmps7
  go_wp2_with fail
  refine (known_any _).mono ?_
  rintro e w1 ⟨rfl, h1⟩
  go_wp2_with fail
  go_loopw [5] (fun i wr => ∃ k : Nat, k ≤ n ∧ k ≤ 60 ∧ i = .int .i64 k ∧ Below w.heap.size w wr) (fun i _ => n - (intOf i).toNat)
  case atStart => exact ⟨0, Nat.zero_le _, by omega, rfl, h1⟩
  case round =>
    clear h1
    obtain ⟨k, hk, hk6, rfl, hB⟩ := hrel
    obtain ⟨wo, rfl⟩ : ∃ wo : World, wo = wr := ⟨_, rfl⟩
    by_cases hlt : k < n ∧ k < 60
    · obtain ⟨hkn, hk60⟩ := hlt
      obtain ⟨b, off, rfl, hc⟩ := (HS.out.later hB).cells (by omega)
      obtain ⟨m, hm⟩ : ∃ m : Nat, n = k + m + 1 := ⟨n - 1 - k, by omega⟩
      obtain ⟨n1, hn1⟩ : ∃ n1 : Nat, n = n1 + 1 := ⟨n - 1, by omega⟩
      have hw1 : IntKind.i64.wrap ((n : Int) - 1) = (n1 : Int) := by rw [IntWalk.i64_in _ (by omega)]; omega
      have hw2 : IntKind.i64.wrap ((n1 : Int) - (k : Int)) = (m : Int) := by rw [IntWalk.i64_in _ (by omega)]; omega
      have q1 : (0 : Int) ≤ (k : Int) := by omega
      have q2 : (k : Int) < (n : Int) := by omega
      have q3 : (0 : Int) ≤ (m : Int) := by omega
      have q4 : (m : Int) < (n : Int) := by omega
      obtain ⟨x0, x1⟩ := hc k (by omega)
      obtain ⟨y0, y1⟩ := hc m (by omega)
      have hbl : b < wo.heap.size := World.block_lt_of_cell? wo _ x0
      have nb : b ≠ wo.heap.size := by omega
      have nb1 : b ≠ wo.heap.size + 1 := by omega
      generalize l.getD k (0, 0) = s at *
      generalize l.getD m (0, 0) = t at *
      have HB := Lib.hid hB
      have z := hB.size
      have HNM := Lib.hid hm
      have HN1 := Lib.hid hn1
      have HM := Lib.hid (meet_any s t)
      have HRM := Lib.hid (rmeet_any s t)
      have HA := Lib.hid (below_any s o)
      have HRA := Lib.hid (rbelow_any s o)
      have HF := Lib.hid (from_any s o)
      have HRF := Lib.hid (rfrom_any s o)
      have eq1 := eq_same (meetP s t)
      have eq2 := eq_same (belowP s o)
      have eq3 := eq_same (fromP s o)
      generalize meetP s t = r1 at *
      generalize belowP s o = r2 at *
      generalize fromP s o = r3 at *
      clear hc hB hm hn1
      go_wp2_with fail
      go_region_held3 (fun w' => w'.cell? ⟨b, off + k * 2, none⟩ = some (.int .i64 s.1) ∧ w'.cell? ⟨b, off + k * 2 + 1, none⟩ = some (.int .i64 s.2) ∧ w'.cell? ⟨b, off + m * 2, none⟩ = some (.int .i64 t.1) ∧ w'.cell? ⟨b, off + m * 2 + 1, none⟩ = some (.int .i64 t.2)) (go_keep) (fail)
      · have K0 := (m2_new wo s t).later (Below.refl _ _).drew
        clear x0 x1 y0 y1 hbl nb nb1 q1 q2 q3 q4 hw1 hw2
        generalize ((wo.alloc (.cells #[.int .i64 s.1, .int .i64 s.2] 43)).alloc (.cells #[.int .i64 t.1, .int .i64 t.2] 43)).drew = W at *
        generalize wo.heap.size = H at K0 ⊢
        go_wp2_with fail
        have K1 := K0.later (Below.refl _ _).drew
        go_region_held3 (fun w' => w'.cell? ⟨H, 0, none⟩ = some (.int .i64 s.1) ∧ w'.cell? ⟨H, 1, none⟩ = some (.int .i64 s.2) ∧ w'.cell? ⟨H + 1, 0, none⟩ = some (.int .i64 t.1) ∧ w'.cell? ⟨H + 1, 1, none⟩ = some (.int .i64 t.2)) (first | with_reducible exact K7.all | with_reducible exact K6.all | with_reducible exact K5.all | with_reducible exact K4.all | with_reducible exact K3.all | with_reducible exact K2.all | with_reducible exact K1.all | with_reducible exact K0.all | go_keep) (first
          | (go_at_call 34; (with_reducible refine (HM.out _).mono ?_); rintro e v1 ⟨rfl, h⟩; have K2 := K1.later h; clear K1 h)
          | (go_at_call 35; (with_reducible refine (HRM.out _).mono ?_); rintro e v2 ⟨rfl, h⟩; have K3 := K2.later h; clear K2 h)
          | (go_at_call 36; (with_reducible refine (HA.out _).mono ?_); rintro e v3 ⟨rfl, h⟩; have K4 := K3.later h; clear K3 h)
          | (go_at_call 37; (with_reducible refine (HRA.out _).mono ?_); rintro e v4 ⟨rfl, h⟩; have K5 := K4.later h; clear K4 h)
          | (go_at_call 38; (with_reducible refine (HF.out _).mono ?_); rintro e v5 ⟨rfl, h⟩; have K6 := K5.later h; clear K5 h)
          | (go_at_call 39; (with_reducible refine (HRF.out _).mono ?_); rintro e v6 ⟨rfl, h⟩; have K7 := K6.later h; clear K6 h))
        all_goals
          have HK := Lib.hid (HB.out.trans (K7.below.mono z))
          clear K7
          go_wp2
          go_roundw
          case rel => exact ⟨k + 1, by omega, by omega, by go_num, HK.out⟩
          case measure => simp [intOf]; omega
      · have K0 := (m2_new wo t s).later (Below.refl _ _).drew
        clear x0 x1 y0 y1 hbl nb nb1 q1 q2 q3 q4 hw1 hw2
        generalize ((wo.alloc (.cells #[.int .i64 t.1, .int .i64 t.2] 43)).alloc (.cells #[.int .i64 s.1, .int .i64 s.2] 43)).drew = W at *
        generalize wo.heap.size = H at K0 ⊢
        go_wp2_with fail
        have K1 := K0.later (Below.refl _ _).drew
        go_region_held3 (fun w' => w'.cell? ⟨H + 1, 0, none⟩ = some (.int .i64 s.1) ∧ w'.cell? ⟨H + 1, 1, none⟩ = some (.int .i64 s.2) ∧ w'.cell? ⟨H, 0, none⟩ = some (.int .i64 t.1) ∧ w'.cell? ⟨H, 1, none⟩ = some (.int .i64 t.2)) (first | with_reducible exact ⟨K7.b1.c0, K7.b1.c1, K7.b0.c0, K7.b0.c1⟩ | with_reducible exact ⟨K6.b1.c0, K6.b1.c1, K6.b0.c0, K6.b0.c1⟩ | with_reducible exact ⟨K5.b1.c0, K5.b1.c1, K5.b0.c0, K5.b0.c1⟩ | with_reducible exact ⟨K4.b1.c0, K4.b1.c1, K4.b0.c0, K4.b0.c1⟩ | with_reducible exact ⟨K3.b1.c0, K3.b1.c1, K3.b0.c0, K3.b0.c1⟩ | with_reducible exact ⟨K2.b1.c0, K2.b1.c1, K2.b0.c0, K2.b0.c1⟩ | with_reducible exact ⟨K1.b1.c0, K1.b1.c1, K1.b0.c0, K1.b0.c1⟩ | with_reducible exact ⟨K0.b1.c0, K0.b1.c1, K0.b0.c0, K0.b0.c1⟩ | go_keep) (first
          | (go_at_call 34; (with_reducible refine (HM.out _).mono ?_); rintro e v1 ⟨rfl, h⟩; have K2 := K1.later h; clear K1 h)
          | (go_at_call 35; (with_reducible refine (HRM.out _).mono ?_); rintro e v2 ⟨rfl, h⟩; have K3 := K2.later h; clear K2 h)
          | (go_at_call 36; (with_reducible refine (HA.out _).mono ?_); rintro e v3 ⟨rfl, h⟩; have K4 := K3.later h; clear K3 h)
          | (go_at_call 37; (with_reducible refine (HRA.out _).mono ?_); rintro e v4 ⟨rfl, h⟩; have K5 := K4.later h; clear K4 h)
          | (go_at_call 38; (with_reducible refine (HF.out _).mono ?_); rintro e v5 ⟨rfl, h⟩; have K6 := K5.later h; clear K5 h)
          | (go_at_call 39; (with_reducible refine (HRF.out _).mono ?_); rintro e v6 ⟨rfl, h⟩; have K7 := K6.later h; clear K6 h))
        all_goals
          have HK := Lib.hid (HB.out.trans (K7.below.mono z))
          clear K7
          go_wp2
          go_roundw
          case rel => exact ⟨k + 1, by omega, by omega, by go_num, HK.out⟩
          case measure => simp [intOf]; omega
    · have HB := Lib.hid hB
      have hl' := HS.out.later hB
      clear hB
      by_cases hkn : k < n
      all_goals
        go_wp2_with fail
        refine (HU.out _ n cap _ hl').mono ?_
        rintro e w2 ⟨rfl, h2⟩
        have hl2 := hl'.later h2
        have HB2 := Lib.hid (HB.out.trans (h2.mono HB.out.size))
        clear hl' h2
        go_wp2_with fail
        refine (HV.out _ n cap _ hl2).mono ?_
        rintro e w3 ⟨rfl, h3⟩
        have HB3 := Lib.hid (HB2.out.trans (h3.mono HB2.out.size))
        clear hl2 h3
        go_wp2_with fail
        refine (known_any _).mono ?_
        rintro e w4 ⟨rfl, h4⟩
        have HB4 := Lib.hid (HB3.out.trans (h4.mono HB3.out.size))
        clear h4
        go_wp2
        go_ret
        exact ⟨rfl, HB4.out⟩
end Go.Proofs.Ytdfenlagokndkaa.sp
