/-
  Layer 12's law: the least one falls.
-/
import Derived.Test.YtgonfdedapnlnaaLowL
namespace Go.Proofs.Ytgonfdedapnlnaa.lo
open Go.RowKit aid mem
attribute [local go_sem ↓] Go.wp_at_zero Go.wp_at_succ
set_option linter.unusedVariables false

set_option maxRecDepth 100000 in
set_option maxHeartbeats 4000000 in
theorem walk_LowFalls (w : World) (win : Int) (hwin : -9223372036854775808 ≤ win ∧ win ≤ 9223372036854775807) (a : Option Addr) (n cap : Nat) (l : List Mk) (hl : Ma w a n cap l) (p : Int) (hp : -9223372036854775808 ≤ p ∧ p ≤ 9223372036854775807) (q : Int) (hq : -9223372036854775808 ≤ q ∧ q ≤ 9223372036854775807) :
    Calls Try.prog 4 #[.int .i64 win, .slice a n cap, .int .i64 p, .int .i64 q] w fun x w' => x = .returned (.bool true) ∧ Below w.heap.size w w' := by
  have hb := Below.refl w.heap.size w
  have hle := hl.le
  have hmost := hl.most
  unfold maxLen at hmost
  have HC := Lib.hid hl.cells
  clear hl
  by_cases hw : 1 ≤ win ∧ win ≤ 4611686018427387904
  case neg =>
    have HN := Lib.hid (fun W => new_bad (w := W) hw)
    clear hw
    go_enter Try.func4, Try.ntmps4
    go_wp2_with (first
      | (go_at_call 6; (with_reducible refine (known_b hb).mono ?_); clear hb; rintro e w1 ⟨rfl, hb⟩)
      | (go_at_call 7; (with_reducible refine (HN.out _).mono ?_); rintro e w2 ⟨rfl, rfl⟩))
    go_ret
    exact ⟨rfl, hb⟩
  case pos =>
    have HNE := Lib.hid hw
    clear hw
    go_enter Try.func4, Try.ntmps4
    go_wp2_with (first
      | (go_at_call 6; (with_reducible refine (known_b hb).mono ?_); clear hb; rintro e w1 ⟨rfl, hb⟩)
      | (go_at_call 7; (with_reducible refine (new_ls hb HNE.out).mono ?_); clear hb; rintro x w1 ⟨b, rfl, S, q1, q2⟩; clear q1 q2))
    go_loopw [11] (fun i wr => ∃ (j : Nat) (last : Int) (had k : List Mk), i = .int .i64 j ∧ j ≤ n ∧ j ≤ 100 ∧ LS w b win last had k j wr) (fun i _ => 100 - (intOf i).toNat)
    case atStart => exact ⟨0, 0, [], [], rfl, by omega, by omega, S⟩
    case round =>
      clear S
      obtain ⟨j, last, had, k, rfl, hj, hj2, S⟩ := hrel
      by_cases hlt : j < n ∧ j < 100
      · obtain ⟨h1, h2⟩ := hlt
        obtain ⟨B, off, rfl, hc⟩ := HC.out (by omega)
        have HCC := Lib.hid (hc j h1)
        have c0 := cell_later S.below HCC.out.1
        have c1 := cell_later S.below HCC.out.2
        clear hc
        generalize l.getD j (0, 0) = m at *
        obtain ⟨t, v⟩ := m
        dsimp only at *
        by_cases hr : last ≤ t ∧ t ≤ 4611686018427387904 ∧ 0 ≤ v ∧ v ≤ 4611686018427387904
        · obtain ⟨r1, r2, r3, r4⟩ := hr
          have HA := Lib.hid (fun W (S : LS w b win last had k j W) => add_ls S (by omega) t v r1 r2 r3 r4)
          have hres := mres_last S.hk S.win.1 (m := (t, v)) r1 r2 r3 r4
          have HKL := Lib.hid (fun W (S : LS w b win t (had ++ [(t, v)]) (kstep win k (t, v)) (j + 1) W) => min_gen S (by omega) t)
          dsimp only at hres
          generalize kstep win k (t, v) = k2 at *
          generalize mres win t k2 t = rr at *
          obtain ⟨x1, x2⟩ := rr
          obtain ⟨hx2, hx1⟩ := hres
          dsimp only at hx2 hx1
          subst hx2
          go_wp2_with fail
          replace S := S.later (Below.refl wr.heap.size wr).drew
          go_region_held3 (fun w' => w'.cell? ⟨B, off + j * 2, none⟩ = some (.int .i64 t) ∧ w'.cell? ⟨B, off + j * 2 + 1, none⟩ = some (.int .i64 v)) (first | go_keep | exact ⟨cell_later S.below HCC.out.1, cell_later S.below HCC.out.2⟩)
            ((go_at_call 10; (with_reducible refine (HA.out _ S).mono ?_); clear S; rintro x w3 ⟨rfl, S, q1, q2⟩; clear q1 q2))
          clear c0 c1
          have c0 := cell_later S.below HCC.out.1
          have c1 := cell_later S.below HCC.out.2
          go_wp2_with (first
            | (go_at_call 11; (with_reducible refine (HKL.out _ S).mono ?_); clear S; rintro x w4 ⟨rfl, S, q1⟩; clear q1; clear c0 c1; have c0 := cell_later S.below HCC.out.1; have c1 := cell_later S.below HCC.out.2))
          go_roundw
          case rel => exact ⟨j + 1, t, _, k2, by go_num, by omega, by omega, S⟩
          case measure => simp [intOf]; omega
        · have HA := Lib.hid (fun W (S : LS w b win last had k j W) => add_bad_ls S t v (by omega))
          go_wp2_with fail
          replace S := S.later (Below.refl wr.heap.size wr).drew
          go_region_held3 (fun w' => w'.cell? ⟨B, off + j * 2, none⟩ = some (.int .i64 t) ∧ w'.cell? ⟨B, off + j * 2 + 1, none⟩ = some (.int .i64 v)) (first | go_keep | exact ⟨cell_later S.below HCC.out.1, cell_later S.below HCC.out.2⟩)
            ((go_at_call 10; (with_reducible refine (HA.out _ S).mono ?_); clear S; rintro x w3 ⟨rfl, S, q1⟩; clear q1))
          go_wp2_with fail
          go_roundw
          case rel => exact ⟨j + 1, last, had, k, by go_num, by omega, by omega, ⟨S.st, S.hk, S.win, by have := S.kl; omega, S.below, S.le⟩⟩
          case measure => simp [intOf]; omega
      · clear HC
        have HMO := Lib.hid (fun T1 T2 (h : T1 ≤ T2) => mres_mono (win := win) (last := last) S.hk.up h)
        obtain ⟨lo, hlo⟩ : ∃ lo, lo = min p q := ⟨_, rfl⟩
        obtain ⟨hi, hhi⟩ : ∃ hi, hi = max p q := ⟨_, rfl⟩
        have hle2 : lo ≤ hi := by omega
        have HM := Lib.hid (fun W T (S : LS w b win last had k j W) => min_gen S (by omega) T)
        by_cases hpq : p ≤ q
        · have hmono := HMO.out p q hpq
          obtain ⟨u, hu⟩ : ∃ u, mres win last k p = u := ⟨_, rfl⟩
          obtain ⟨z, hz⟩ : ∃ z, mres win last k q = z := ⟨_, rfl⟩
          rw [hu, hz] at hmono
          have HU := Lib.hid hu
          have HZ := Lib.hid hz
          clear hu hz HMO hlo hhi hle2
          obtain ⟨u1, u2⟩ := u
          obtain ⟨z1, z2⟩ := z
          dsimp only at hmono
          have HMN := Lib.hid hmono
          clear hmono
          cases u2 <;> cases z2
          all_goals
            first
              | have hle3 := HMN.out rfl rfl
              | skip
            by_cases h1 : j < n
            · have h2 : ¬ j < 100 := by omega
              go_wp2_with (first
                | (go_at_call 11; (with_reducible refine (HM.out _ _ S).mono ?_); clear S; rintro x w4 ⟨rfl, S, q1⟩; clear q1; first | rw [HU.out] | rw [HZ.out])
                | (go_at_call 6; (with_reducible refine (known_b S.below).mono ?_); rintro e w5 ⟨rfl, hb⟩))
              all_goals
                go_ret
                exact ⟨rfl, hb⟩
            · go_wp2_with (first
                | (go_at_call 11; (with_reducible refine (HM.out _ _ S).mono ?_); clear S; rintro x w4 ⟨rfl, S, q1⟩; clear q1; first | rw [HU.out] | rw [HZ.out])
                | (go_at_call 6; (with_reducible refine (known_b S.below).mono ?_); rintro e w5 ⟨rfl, hb⟩))
              all_goals
                go_ret
                exact ⟨rfl, hb⟩
        · have hqp : q ≤ p := by omega
          have hmono := HMO.out q p hqp
          obtain ⟨u, hu⟩ : ∃ u, mres win last k q = u := ⟨_, rfl⟩
          obtain ⟨z, hz⟩ : ∃ z, mres win last k p = z := ⟨_, rfl⟩
          rw [hu, hz] at hmono
          have HU := Lib.hid hu
          have HZ := Lib.hid hz
          clear hu hz HMO hlo hhi hle2
          obtain ⟨u1, u2⟩ := u
          obtain ⟨z1, z2⟩ := z
          dsimp only at hmono
          have HMN := Lib.hid hmono
          clear hmono
          cases u2 <;> cases z2
          all_goals
            first
              | have hle3 := HMN.out rfl rfl
              | skip
            by_cases h1 : j < n
            · have h2 : ¬ j < 100 := by omega
              go_wp2_with (first
                | (go_at_call 11; (with_reducible refine (HM.out _ _ S).mono ?_); clear S; rintro x w4 ⟨rfl, S, q1⟩; clear q1; first | rw [HU.out] | rw [HZ.out])
                | (go_at_call 6; (with_reducible refine (known_b S.below).mono ?_); rintro e w5 ⟨rfl, hb⟩))
              all_goals
                go_ret
                exact ⟨rfl, hb⟩
            · go_wp2_with (first
                | (go_at_call 11; (with_reducible refine (HM.out _ _ S).mono ?_); clear S; rintro x w4 ⟨rfl, S, q1⟩; clear q1; first | rw [HU.out] | rw [HZ.out])
                | (go_at_call 6; (with_reducible refine (known_b S.below).mono ?_); rintro e w5 ⟨rfl, hb⟩))
              all_goals
                go_ret
                exact ⟨rfl, hb⟩
end Go.Proofs.Ytgonfdedapnlnaa.lo
