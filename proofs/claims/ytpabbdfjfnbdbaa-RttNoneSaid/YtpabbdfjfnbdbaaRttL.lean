/-
  Layer 11's laws: an estimate that is none; the same time again and again; limits.
-/
import Derived.Test.YtpabbdfjfnbdbaaRttT
import Derived.Test.YtpabbdfjfnbdbaaRttO
namespace Go.Proofs.Ytpabbdfjfnbdbaa.rt
open Go.RowKit aid mem
attribute [local go_sem ↓] Go.wp_at_zero Go.wp_at_succ
set_option linter.unusedVariables false

set_option maxHeartbeats 2000000 in
theorem walk_RttNone (r : Int) (hr : -9223372036854775808 ≤ r ∧ r ≤ 9223372036854775807) (w : World) : Calls Try.prog 6 #[.int .i64 r] w fun x w' => x = .returned (.bool true) ∧ Below w.heap.size w w' := by
  have HN := Lib.hid (fun W => none_q W)
  go_enter Try.func6, Try.ntmps6
  have hb := Below.refl w.heap.size w
  go_wp2_with (first
    | (go_at_call 7; (with_reducible refine (known_b hb).mono ?_); clear hb; rintro e w1 ⟨rfl, hb⟩)
    | (go_at_call 13; (with_reducible refine ((HN.out _).2.2.2.2.2.2.2 _).below.mono ?_); rintro e w1 ⟨rfl, h2⟩; replace hb := hb.trans (h2.mono hb.size); clear h2)
    | (go_at_call 12; (with_reducible refine (HN.out _).2.2.2.2.2.2.1.below.mono ?_); rintro e w1 ⟨rfl, h2⟩; replace hb := hb.trans (h2.mono hb.size); clear h2)
    | (go_at_call 10; (with_reducible refine (HN.out _).2.2.2.2.2.1.below.mono ?_); rintro e w1 ⟨rfl, h2⟩; replace hb := hb.trans (h2.mono hb.size); clear h2)
    | (go_at_call 17; (with_reducible refine (HN.out _).2.2.2.2.1.below.mono ?_); rintro e w1 ⟨rfl, h2⟩; replace hb := hb.trans (h2.mono hb.size); clear h2)
    | (go_at_call 20; (with_reducible refine (HN.out _).2.2.2.1.below.mono ?_); rintro e w1 ⟨rfl, h2⟩; replace hb := hb.trans (h2.mono hb.size); clear h2)
    | (go_at_call 19; (with_reducible refine (HN.out _).2.2.1.below.mono ?_); rintro e w1 ⟨rfl, h2⟩; replace hb := hb.trans (h2.mono hb.size); clear h2)
    | (go_at_call 18; (with_reducible refine (HN.out _).2.1.below.mono ?_); rintro e w1 ⟨rfl, h2⟩; replace hb := hb.trans (h2.mono hb.size); clear h2)
    | (go_at_call 16; (with_reducible refine (HN.out _).1.below.mono ?_); rintro e w1 ⟨rfl, h2⟩; replace hb := hb.trans (h2.mono hb.size); clear h2))
  go_ret
  exact ⟨rfl, hb⟩

theorem ret_v {k : IntKind} {a b : Int} (h : a = b) : Value.int k a = Value.int k b := by rw [h]
/-- behind so many samples of one time -/
def st (l m r : Int) : Nat → Es
  | 0 => ⟨l, m, 0, 0, false, 0⟩
  | k + 1 => smp (st l m r k) r
def vd (v : Int) : Nat → Int
  | 0 => v
  | k + 1 => 3 * vd v k / 4
theorem far_self (r : Int) : far r r = 0 := by unfold far; simp
theorem st_succ (l m r : Int) (k : Nat) : st l m r (k + 1) = ⟨l, m, r, vd (r / 2) k, true, 0⟩ := by
  induction k with
  | zero => rfl
  | succ k ih =>
    show smp (st l m r (k + 1)) r = _
    rw [ih]
    unfold smp
    dsimp only
    rw [if_pos rfl, far_self]
    have h1 : (7 * r + r) / 8 = r := by omega
    rw [h1]
    simp only [vd, Int.add_zero]
theorem vd_mono {a b : Int} (h : a ≤ b) (k : Nat) : vd a k ≤ vd b k := by
  induction k with
  | zero => exact h
  | succ k ih => simp only [vd]; omega
theorem vd_pos {a : Int} (h : 0 ≤ a) (k : Nat) : 0 ≤ vd a k := by
  induction k with
  | zero => exact h
  | succ k ih => simp only [vd]; omega
theorem vd_100 : vd 34359738368 100 = 0 := by decide +kernel
theorem st_101 {l m r : Int} (hr : 0 ≤ r ∧ r ≤ 68719476736) : st l m r 101 = ⟨l, m, r, 0, true, 0⟩ := by
  rw [st_succ]
  have h1 := vd_mono (a := r / 2) (b := 34359738368) (by omega) 100
  rw [vd_100] at h1
  have h2 := vd_pos (a := r / 2) (by omega) 100
  rw [show vd (r / 2) 100 = 0 from by omega]
theorem rto_bck {e : Es} (h : Ok e) : rto (bck e) = min (2 * rto e) e.most := by
  have hb := h.rto_bd
  have h1 := h.l1
  unfold bck
  split
  · omega
  · rename_i hn
    unfold rto at *
    show min (2 * dn (low e) e.dbl) e.most = _
    omega
theorem bck_most (e : Es) : (bck e).most = e.most := by unfold bck; split <;> rfl
theorem bck_least (e : Es) : (bck e).least = e.least := by unfold bck; split <;> rfl
theorem rto_st {l m r : Int} (hr : 0 ≤ r) : rto ⟨l, m, r, 0, true, 0⟩ = min (max (r + 1) l) m := rfl

set_option maxRecDepth 100000 in
set_option maxHeartbeats 2000000 in
theorem walk_RttSteady (l : Int) (hl : -9223372036854775808 ≤ l ∧ l ≤ 9223372036854775807) (m : Int) (hm : -9223372036854775808 ≤ m ∧ m ≤ 9223372036854775807) (r : Int) (hr : -9223372036854775808 ≤ r ∧ r ≤ 9223372036854775807) (d : Int) (hd : 0 ≤ d ∧ d ≤ 255) (w : World) :
    Calls Try.prog 5 #[.int .i64 l, .int .i64 m, .int .i64 r, .int .u8 d] w fun x w' => x = .returned (.bool true) ∧ Below w.heap.size w w' := by
  have hb := Below.refl w.heap.size w
  by_cases hlm : 1 ≤ l ∧ l ≤ m ∧ m ≤ 68719476736
  case neg =>
    have HN := Lib.hid (fun W => new_bad (w := W) hlm)
    clear hlm
    go_enter Try.func5, Try.ntmps5
    go_wp2_with (first
      | (go_at_call 7; (with_reducible refine (known_b hb).mono ?_); clear hb; rintro e w1 ⟨rfl, hb⟩)
      | (go_at_call 8; (with_reducible refine (HN.out _).mono ?_); rintro e w2 ⟨rfl, rfl⟩))
    go_ret
    exact ⟨rfl, hb⟩
  case pos =>
    have HNE := Lib.hid hlm
    by_cases hrr : 0 ≤ r ∧ r ≤ 68719476736
    case neg =>
      go_enter Try.func5, Try.ntmps5
      by_cases hr0 : r < 0
      · go_wp2_with (first
          | (go_at_call 7; (with_reducible refine (known_es S).mono ?_); clear S; rintro e w1 ⟨rfl, S⟩)
          | (go_at_call 7; (with_reducible refine (known_b hb).mono ?_); clear hb; rintro e w1 ⟨rfl, hb⟩)
          | (go_at_call 8; (with_reducible refine (new_es hb HNE.out).mono ?_); rintro e w2 ⟨b, rfl, S⟩))
        go_ret
        exact ⟨rfl, S.below⟩
      · have hr1 : 68719476736 < r := by omega
        go_wp2_with (first
          | (go_at_call 7; (with_reducible refine (known_es S).mono ?_); clear S; rintro e w1 ⟨rfl, S⟩)
          | (go_at_call 7; (with_reducible refine (known_b hb).mono ?_); clear hb; rintro e w1 ⟨rfl, hb⟩)
          | (go_at_call 8; (with_reducible refine (new_es hb HNE.out).mono ?_); rintro e w2 ⟨b, rfl, S⟩))
        go_ret
        exact ⟨rfl, S.below⟩
    case pos =>
      have HRR := Lib.hid hrr
      have H101 := Lib.hid (st_101 (l := l) (m := m) hrr)
      have HRT := Lib.hid (rto_st (l := l) (m := m) hrr.1)
      obtain ⟨hr0, hr1⟩ := hrr
      obtain ⟨hl1, hlm1, hm1⟩ := hlm
      go_enter Try.func5, Try.ntmps5
      go_wp2_with (first
        | (go_at_call 7; (with_reducible refine (known_b hb).mono ?_); clear hb; rintro e w1 ⟨rfl, hb⟩)
        | (go_at_call 8; (with_reducible refine (new_es hb HNE.out).mono ?_); rintro e w2 ⟨b, rfl, S⟩))
      go_loopw [11] (fun i wr => ∃ k : Nat, i = .int .i64 k ∧ k ≤ 101 ∧ ES w b (st l m r k) wr) (fun i _ => 101 - (intOf i).toNat)
      case atStart => exact ⟨0, rfl, by omega, S⟩
      case round =>
        clear S hb
        obtain ⟨k, rfl, hk, S⟩ := hrel
        by_cases hlt : k < 101
        · go_wp2_with (go_at_call 13; (with_reducible refine (sample_es S HRR.out).mono ?_); rintro e w3 ⟨rfl, S2, q⟩; clear q S)
          go_roundw
          case rel => exact ⟨k + 1, by go_num, by omega, S2⟩
          case measure => simp [intOf]; omega
        · obtain rfl : k = 101 := by omega
          rw [H101.out] at S
          go_wp2_with (first
            | (go_at_call 18; (with_reducible refine (srtt_es S).mono ?_); clear S; rintro e w1 ⟨rfl, S⟩)
            | (go_at_call 19; (with_reducible refine (var_es S).mono ?_); clear S; rintro e w1 ⟨rfl, S⟩)
            | (go_at_call 16; (with_reducible refine (rto_es S).mono ?_); clear S; rintro e w1 ⟨rfl, S⟩; rw [HRT.out]))
          all_goals
            go_loopw [12, 13] (fun t i wr => ∃ (k : Nat) (e : Es), i = .int .i64 k ∧ (k : Int) ≤ d % 70 ∧ t = .int .i64 (rto e) ∧ e.most = m ∧ ES w b e wr) (fun _ i _ => 70 - (intOf i).toNat)
            case atStart => exact ⟨0, _, rfl, by simp; omega, ret_v (by rw [HRT.out]; omega), rfl, S⟩
            case round =>
              clear S
              obtain ⟨k, e, rfl, hk, rfl, hem, S⟩ := hrel
              have hbd := S.ok.rto_bd
              have h36 := S.ok.m36
              have hl1' := S.ok.l1
              have HB := Lib.hid (rto_bck S.ok)
              have HM := Lib.hid (bck_most e)
              by_cases hlt : (k : Int) < d % 70
              · have HS := Lib.hid (fun W (S : ES w b e W) => backoff_es S)
                clear hbd h36 hl1' hlm1
                have hbd := S.ok.rto_bd
                have h36 := S.ok.m36
                have hl1' := S.ok.l1
                rw [hem] at HB hbd h36
                rw [hem] at HM
                generalize bck e = e2 at *
                generalize rto e = x at *
                by_cases hx : 2 * x < m
                · have hy : rto e2 = 2 * x := by rw [HB.out]; omega
                  have HY := Lib.hid hy
                  clear hy
                  go_wp2_with (first
                    | (go_at_call 12; (with_reducible refine (HS.out _ S).mono ?_); clear S; rintro e w3 ⟨rfl, S, q⟩; clear q)
                    | (go_at_call 16; (with_reducible refine (rto_es S).mono ?_); clear S; rintro e w3 ⟨rfl, S⟩; rw [HY.out]))
                  go_roundw
                  case rel => exact ⟨k + 1, e2, by go_num, by omega, by rw [HY.out], HM.out, S⟩
                  case measure => simp [intOf]; omega
                · have hy : rto e2 = m := by rw [HB.out]; omega
                  have HY := Lib.hid hy
                  clear hy
                  go_wp2_with (first
                    | (go_at_call 12; (with_reducible refine (HS.out _ S).mono ?_); clear S; rintro e w3 ⟨rfl, S, q⟩; clear q)
                    | (go_at_call 16; (with_reducible refine (rto_es S).mono ?_); clear S; rintro e w3 ⟨rfl, S⟩; rw [HY.out]))
                  all_goals
                    go_roundw
                    case rel => exact ⟨k + 1, e2, by go_num, by omega, by (try rw [HY.out]) <;> (congr 1; omega), HM.out, S⟩
                    case measure => simp [intOf]; omega
              · go_wp2_with (go_at_call 7; (with_reducible refine (known_es S).mono ?_); clear S; rintro e w1 ⟨rfl, S⟩)
                go_ret
                exact ⟨rfl, S.below⟩
end Go.Proofs.Ytpabbdfjfnbdbaa.rt
