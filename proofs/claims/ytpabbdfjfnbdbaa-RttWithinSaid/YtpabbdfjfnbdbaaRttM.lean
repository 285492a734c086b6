/-
  Layer 11's law: limits.
-/
import Derived.Test.YtpabbdfjfnbdbaaRttL
namespace Go.Proofs.Ytpabbdfjfnbdbaa.rt
open Go.RowKit aid mem
attribute [local go_sem ↓] Go.wp_at_zero Go.wp_at_succ
set_option linter.unusedVariables false

/-- the smoothed time lies between the samples -/
def Mid (e : Es) (lo hi : Int) : Prop := e.has = true → lo ≤ e.srtt ∧ e.srtt ≤ hi
theorem mid_smp {e : Es} {lo hi r : Int} (h : Mid e lo hi) : Mid (smp e r) (min lo r) (max hi r) ∧ (smp e r).has = true := by
  unfold smp Mid at *
  split
  · rename_i hh
    have := h hh
    exact ⟨fun _ => ⟨by simp only; omega, by simp only; omega⟩, rfl⟩
  · exact ⟨fun _ => ⟨by simp only; omega, by simp only; omega⟩, rfl⟩
theorem mid_bck {e : Es} {lo hi : Int} (h : Mid e lo hi) : Mid (bck e) lo hi := by unfold bck Mid at *; split <;> exact h
theorem smp_most (e : Es) (r : Int) : (smp e r).most = e.most ∧ (smp e r).least = e.least := by unfold smp; split <;> exact ⟨rfl, rfl⟩
theorem sample_bad_es {w0 w : World} {B : Nat} {e : Es} (h : ES w0 B e w) {r : Int} (hr : ¬ (0 ≤ r ∧ r ≤ 68719476736)) : Calls Try.prog 13 #[.pointer (some ⟨B, 0, none⟩), .int .i64 r] w fun x w' => x = .returned (.int .i64 3) ∧ ES w0 B e w' :=
  (sample_bad hr).mono fun x w' ⟨h1, h2⟩ => ⟨h1, h2 ▸ h⟩

set_option maxRecDepth 100000 in
set_option maxHeartbeats 2000000 in
theorem walk_RttWithin (w : World) (l : Int) (hl : -9223372036854775808 ≤ l ∧ l ≤ 9223372036854775807) (m : Int) (hm : -9223372036854775808 ≤ m ∧ m ≤ 9223372036854775807) (a : Option Addr) (n cap : Nat) (ops : List OpV) (hops : OpA w a n cap ops) :
    Calls Try.prog 4 #[.int .i64 l, .int .i64 m, .slice a n cap] w fun x w' => x = .returned (.bool true) ∧ Below w.heap.size w w' := by
  have hb := Below.refl w.heap.size w
  have hle := hops.le
  have hmost := hops.most
  unfold maxLen at hmost
  have HC := Lib.hid hops.cells
  clear hops
  by_cases hlm : 1 ≤ l ∧ l ≤ m ∧ m ≤ 68719476736
  case neg =>
    have HN := Lib.hid (fun W => new_bad (w := W) hlm)
    clear hlm
    go_enter Try.func4, Try.ntmps4
    go_wp2_with (first
      | (go_at_call 7; (with_reducible refine (known_b hb).mono ?_); clear hb; rintro e w1 ⟨rfl, hb⟩)
      | (go_at_call 8; (with_reducible refine (HN.out _).mono ?_); rintro e w2 ⟨rfl, rfl⟩))
    go_ret
    exact ⟨rfl, hb⟩
  case pos =>
    have HNE := Lib.hid hlm
    go_enter Try.func4, Try.ntmps4
    go_wp2_with (first
      | (go_at_call 7; (with_reducible refine (known_b hb).mono ?_); clear hb; rintro e w1 ⟨rfl, hb⟩)
      | (go_at_call 8; (with_reducible refine (new_es hb HNE.out).mono ?_); rintro e w2 ⟨b, rfl, S⟩))
    obtain ⟨hl1, hlm1, hm1⟩ := hlm
    go_loopw [9, 10, 11] (fun u v i wr => ∃ (k : Nat) (e : Es) (lo hi : Int), i = .int .i64 k ∧ u = .int .i64 lo ∧ v = .int .i64 hi ∧ k ≤ n ∧ k ≤ 300 ∧ Hid (Mid e lo hi) ∧ e.least = l ∧ e.most = m ∧ ES w b e wr) (fun _ _ i _ => 300 - (intOf i).toNat)
    case atStart => exact ⟨0, _, _, _, rfl, rfl, rfl, by omega, by omega, Lib.hid (fun h => by cases h), rfl, rfl, S⟩
    case round =>
      clear S hb
      obtain ⟨k, e, lo, hi, rfl, rfl, rfl, hk, hk3, HM, hel, hem, S⟩ := hrel
      by_cases hlt : k < n ∧ k < 300
      · obtain ⟨h1, h2⟩ := hlt
        obtain ⟨B, off, rfl, hc⟩ := HC.out (by omega)
        obtain ⟨c0, c1⟩ := hc k h1
        have HLT := Lib.hid (show B < w.heap.size from World.block_lt_of_cell? w _ c1)
        replace c0 := S.below.cell (p := ⟨B, off + k * 2, none⟩) (World.block_lt_of_cell? w _ c0) |>.trans c0
        replace c1 := S.below.cell (p := ⟨B, off + k * 2 + 1, none⟩) (World.block_lt_of_cell? w _ c1) |>.trans c1
        clear hc
        generalize ops.getD k default = q at *
        obtain ⟨back, r⟩ := q
        dsimp only at c0 c1
        cases back with
        | true =>
          have HS := Lib.hid (backoff_es S)
          have hM2 := mid_bck HM.out
          have e1 := bck_least e
          have e2' := bck_most e
          have hrb := S.ok.bck.rto_bd
          rw [hel] at e1
          rw [hem] at e2'
          rw [e1, e2'] at hrb
          clear HM S
          generalize bck e = e2 at *
          obtain ⟨hr1, hr2⟩ := hrb
          cases hh : e2.has with
          | false =>
            have HH := Lib.hid hh
            have HM2 := Lib.hid hM2
            clear hh hM2
            go_wp2_with (first
              | (go_at_call 12; (with_reducible refine HS.out.mono ?_); clear HS; rintro e w3 ⟨rfl, S, q⟩; clear q)
              | (go_at_call 16; (with_reducible refine (rto_es S).mono ?_); clear S; rintro e w3 ⟨rfl, S⟩)
              | (go_at_call 17; (with_reducible refine (has_es S).mono ?_); clear S; rintro e w3 ⟨rfl, S⟩; rw [HH.out]))
            go_roundw
            case rel => exact ⟨k + 1, e2, lo, hi, by go_num, rfl, rfl, by omega, by omega, HM2, e1, e2', S⟩
            case measure => simp [intOf]; omega
          | true =>
            have HH := Lib.hid hh
            have HM2 := Lib.hid hM2
            obtain ⟨g1, g2⟩ := hM2 hh
            clear hh hM2
            go_wp2_with (first
              | (go_at_call 12; (with_reducible refine HS.out.mono ?_); clear HS; rintro e w3 ⟨rfl, S, q⟩; clear q)
              | (go_at_call 16; (with_reducible refine (rto_es S).mono ?_); clear S; rintro e w3 ⟨rfl, S⟩)
              | (go_at_call 18; (with_reducible refine (srtt_es S).mono ?_); clear S; rintro e w3 ⟨rfl, S⟩)
              | (go_at_call 17; (with_reducible refine (has_es S).mono ?_); clear S; rintro e w3 ⟨rfl, S⟩; rw [HH.out]))
            go_roundw
            case rel => exact ⟨k + 1, e2, lo, hi, by go_num, rfl, rfl, by omega, by omega, HM2, e1, e2', S⟩
            case measure => simp [intOf]; omega
        | false =>
          by_cases hr : 0 ≤ r ∧ r ≤ 68719476736
          · have HS := Lib.hid (sample_es S hr)
            obtain ⟨hM2, hh⟩ := mid_smp (r := r) HM.out
            have e1 := (smp_most e r).2
            have e2' := (smp_most e r).1
            have hrb := (S.ok.smp hr).rto_bd
            rw [hel] at e1
            rw [hem] at e2'
            rw [e1, e2'] at hrb
            have hc1 := c1
            have HC1 := Lib.hid (fun W (h : Kept [b] wr W) => h.cell (p := ⟨B, off + k * 2 + 1, none⟩) (by have := S.le; have := HLT.out; simp; omega) c1)
            clear HM S
            generalize smp e r = e2 at *
            obtain ⟨hr1, hr2⟩ := hrb
            obtain ⟨g1, g2⟩ := hM2 hh
            have HH := Lib.hid hh
            have HM2 := Lib.hid hM2
            clear hh hM2
            by_cases hA : r < lo <;> by_cases hB : hi < r
            all_goals
              first
                | have hA' : r ≤ e2.srtt := by omega
                | have hA' : lo ≤ e2.srtt := by omega
              first
                | have hB' : e2.srtt ≤ r := by omega
                | have hB' : e2.srtt ≤ hi := by omega
              go_wp2_with (first
                | (go_at_call 13; (with_reducible refine HS.out.mono ?_); clear HS; rintro e w3 ⟨rfl, S, q⟩; clear c1; have c1 := HC1.out _ q)
                | (go_at_call 16; (with_reducible refine (rto_es S).mono ?_); clear S; rintro e w3 ⟨rfl, S⟩)
                | (go_at_call 18; (with_reducible refine (srtt_es S).mono ?_); clear S; rintro e w3 ⟨rfl, S⟩)
                | (go_at_call 17; (with_reducible refine (has_es S).mono ?_); clear S; rintro e w3 ⟨rfl, S⟩; rw [HH.out]))
              go_roundw
              case rel => exact ⟨k + 1, e2, min lo r, max hi r, by go_num, ret_v (by omega), ret_v (by omega), by omega, by omega, HM2, e1, e2', S⟩
              case measure => simp [intOf]; omega
          · have HS := Lib.hid (sample_bad_es S hr)
            have hrb := S.ok.rto_bd
            rw [hel, hem] at hrb
            obtain ⟨hr1, hr2⟩ := hrb
            clear S
            cases hh : e.has with
            | false =>
              have HH := Lib.hid hh
              clear hh
              go_wp2_with (first
                | (go_at_call 13; (with_reducible refine HS.out.mono ?_); clear HS; rintro e w3 ⟨rfl, S⟩)
                | (go_at_call 16; (with_reducible refine (rto_es S).mono ?_); clear S; rintro e w3 ⟨rfl, S⟩)
                | (go_at_call 17; (with_reducible refine (has_es S).mono ?_); clear S; rintro e w3 ⟨rfl, S⟩; rw [HH.out]))
              go_roundw
              case rel => exact ⟨k + 1, e, lo, hi, by go_num, rfl, rfl, by omega, by omega, HM, hel, hem, S⟩
              case measure => simp [intOf]; omega
            | true =>
              have HH := Lib.hid hh
              obtain ⟨g1, g2⟩ := HM.out hh
              clear hh
              go_wp2_with (first
                | (go_at_call 13; (with_reducible refine HS.out.mono ?_); clear HS; rintro e w3 ⟨rfl, S⟩)
                | (go_at_call 16; (with_reducible refine (rto_es S).mono ?_); clear S; rintro e w3 ⟨rfl, S⟩)
                | (go_at_call 18; (with_reducible refine (srtt_es S).mono ?_); clear S; rintro e w3 ⟨rfl, S⟩)
                | (go_at_call 17; (with_reducible refine (has_es S).mono ?_); clear S; rintro e w3 ⟨rfl, S⟩; rw [HH.out]))
              go_roundw
              case rel => exact ⟨k + 1, e, lo, hi, by go_num, rfl, rfl, by omega, by omega, HM, hel, hem, S⟩
              case measure => simp [intOf]; omega
      · by_cases h1 : k < n
        · have h2 : ¬ k < 300 := by omega
          go_wp2_with (go_at_call 7; (with_reducible refine (known_es S).mono ?_); clear S; rintro e w1 ⟨rfl, S⟩)
          go_ret
          exact ⟨rfl, S.below⟩
        · go_wp2_with (go_at_call 7; (with_reducible refine (known_es S).mono ?_); clear S; rintro e w1 ⟨rfl, S⟩)
          go_ret
          exact ⟨rfl, S.below⟩
end Go.Proofs.Ytpabbdfjfnbdbaa.rt
