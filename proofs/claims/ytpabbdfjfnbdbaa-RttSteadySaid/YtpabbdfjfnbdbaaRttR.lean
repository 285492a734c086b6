/-
  The reference's estimates; what is the document's; the fixed calls.
-/
import Derived.Test.YtpabbdfjfnbdbaaRttW
namespace Go.Proofs.Ytpabbdfjfnbdbaa.rt
open Go.RowKit aid mem
attribute [local go_sem ↓] Go.wp_at_zero Go.wp_at_succ
set_option linter.unusedVariables false

abbrev rsV (e : Es) : Value := .agg (cellsE e)
theorem bal2 {w : World} (a b : Obj) : Below w.heap.size w ((w.alloc a).alloc b) := ((Below.refl _ _).alloc (Nat.le_refl _) _).alloc (by simp) _
theorem right_any (l m : Int) (w : World) : Calls Try.prog 9 #[.int .i64 l, .int .i64 m] w fun x w' => x = .returned (.bool (decide (1 ≤ l ∧ l ≤ m ∧ m ≤ 68719476736))) ∧ w = w' := by
  go_enter Try.func9, Try.ntmps9
  by_cases h1 : 1 ≤ l <;> by_cases h2 : m ≤ 68719476736 <;> go_wp2
  all_goals
    go_ret
    exact ⟨ret_b (by simp [*] <;> omega), rfl⟩
set_option maxHeartbeats 1000000 in
theorem rsample_any {w : World} {e : Es} (ho : Ok e) {r : Int} (hr : 0 ≤ r ∧ r ≤ 68719476736) : Calls Try.prog 14 #[rsV e, .int .i64 r] w
    fun x w' => x = .returned (rsV (smp e r)) ∧ Below w.heap.size w w' := by
  have s0 := ho.s0; have s1 := ho.s1; have v0 := ho.v0; have v1 := ho.v1
  obtain ⟨least, most, srtt, vary, has, dbl⟩ := e
  dsimp only at *
  clear ho
  by_cases hc : srtt - r < 0
  · have hf : far srtt r = r - srtt := if_pos (by omega)
    have hg : smp ⟨least, most, srtt, vary, has, dbl⟩ r = if has then ⟨least, most, (7 * srtt + r) / 8, (3 * vary + (r - srtt)) / 4, true, 0⟩ else ⟨least, most, r, r / 2, true, 0⟩ := by unfold smp; dsimp only; rw [hf]
    rw [hg]
    clear hg hf
    go_enter Try.func14, Try.ntmps14
    cases has with
    | false =>
      go_wp2_with fail
      exact bodyPost_ret (v := rsV ⟨least, most, r, r / 2, true, 0⟩) (by simp [results, Try.results14, go_sem]) rfl ⟨rfl, bal2 _ _⟩
    | true =>
      go_wp2_with fail
      exact bodyPost_ret (v := rsV ⟨least, most, (7 * srtt + r) / 8, (3 * vary + (r - srtt)) / 4, true, 0⟩) (by simp [results, Try.results14, go_sem]) rfl ⟨rfl, bal2 _ _⟩
  · have hf : far srtt r = srtt - r := by unfold far; split <;> omega
    have hg : smp ⟨least, most, srtt, vary, has, dbl⟩ r = if has then ⟨least, most, (7 * srtt + r) / 8, (3 * vary + (srtt - r)) / 4, true, 0⟩ else ⟨least, most, r, r / 2, true, 0⟩ := by unfold smp; dsimp only; rw [hf]
    rw [hg]
    clear hg hf
    go_enter Try.func14, Try.ntmps14
    cases has with
    | false =>
      go_wp2_with fail
      exact bodyPost_ret (v := rsV ⟨least, most, r, r / 2, true, 0⟩) (by simp [results, Try.results14, go_sem]) rfl ⟨rfl, bal2 _ _⟩
    | true =>
      go_wp2_with fail
      exact bodyPost_ret (v := rsV ⟨least, most, (7 * srtt + r) / 8, (3 * vary + (srtt - r)) / 4, true, 0⟩) (by simp [results, Try.results14, go_sem]) rfl ⟨rfl, bal2 _ _⟩
set_option maxHeartbeats 1000000 in
theorem rrto_any {w : World} {e : Es} (ho : Ok e) : Calls Try.prog 21 #[rsV e] w
    fun x w' => x = .returned (.int .i64 (rto e)) ∧ Below w.heap.size w w' := by
  have s0 := ho.s0; have s1 := ho.s1; have v0 := ho.v0; have v1 := ho.v1
  have HL := Lib.hid (show low e = max (if e.has then e.srtt + max (4 * e.vary) 1 else 1000000) e.least from rfl)
  have HR := Lib.hid (show rto e = min (dn (low e) e.dbl) e.most from rfl)
  have hl := ho.low1
  have HM := Lib.hid (fun k (h : k ≤ e.dbl) => dn_up hl.1 h)
  generalize rto e = r at *
  generalize low e = T at *
  have hd := ho.d37
  have hm36 := ho.m36
  obtain ⟨least, most, srtt, vary, has, dbl⟩ := e
  dsimp only at *
  clear ho
  go_enter Try.func21, Try.ntmps21
  cases has with
  | false =>
    go_wp2_with fail
    all_goals
      go_loop [3, 4] (fun t i => ∃ k : Nat, i = .int .i64 k ∧ t = .int .i64 (dn T k) ∧ k ≤ dbl ∧ (k = 0 ∨ dn T k < 2 * most)) (fun _ i => dbl - (intOf i).toNat)
      case atStart => exact ⟨0, rfl, by simp [dn]; have := HL.out; simp at this; omega, Nat.zero_le _, .inl rfl⟩
      case round =>
        obtain ⟨k, rfl, rfl, hk, hb⟩ := hrel
        have HK := Lib.hid (HM.out k hk)
        have HS := Lib.hid (show dn T (k + 1) = 2 * dn T k from rfl)
        have hk0 : dn T k ≤ 343597383680 := by
          rcases hb with rfl | hb
          · simp [dn]; omega
          · omega
        have hk1 : 1 ≤ dn T k := by have := dn_ge hl.1 k; omega
        generalize hX : dn T k = x at *
        have HX := Lib.hid hX
        clear hX
        by_cases hlt : k < dbl
        · by_cases hmo : x < most
          · go_wp2
            go_round
            case rel => exact ⟨k + 1, by go_num, by rw [HS.out], by omega, .inr (by rw [HS.out]; omega)⟩
            case measure => simp [intOf]; omega
          · go_wp2
            all_goals
              go_ret
              exact ⟨ret_i (by have := HK.out; rw [HR.out]; omega), (Below.refl _ _).alloc (Nat.le_refl _) _⟩
        · obtain rfl : k = dbl := by omega
          go_wp2
          all_goals
            go_ret
            exact ⟨ret_i (by rw [HR.out, HX.out]; omega), (Below.refl _ _).alloc (Nat.le_refl _) _⟩
  | true =>
    go_wp2_with fail
    all_goals
      go_loop [3, 4] (fun t i => ∃ k : Nat, i = .int .i64 k ∧ t = .int .i64 (dn T k) ∧ k ≤ dbl ∧ (k = 0 ∨ dn T k < 2 * most)) (fun _ i => dbl - (intOf i).toNat)
      case atStart => exact ⟨0, rfl, by simp [dn]; have := HL.out; simp at this; omega, Nat.zero_le _, .inl rfl⟩
      case round =>
        obtain ⟨k, rfl, rfl, hk, hb⟩ := hrel
        have HK := Lib.hid (HM.out k hk)
        have HS := Lib.hid (show dn T (k + 1) = 2 * dn T k from rfl)
        have hk0 : dn T k ≤ 343597383680 := by
          rcases hb with rfl | hb
          · simp [dn]; omega
          · omega
        have hk1 : 1 ≤ dn T k := by have := dn_ge hl.1 k; omega
        generalize hX : dn T k = x at *
        have HX := Lib.hid hX
        clear hX
        by_cases hlt : k < dbl
        · by_cases hmo : x < most
          · go_wp2
            go_round
            case rel => exact ⟨k + 1, by go_num, by rw [HS.out], by omega, .inr (by rw [HS.out]; omega)⟩
            case measure => simp [intOf]; omega
          · go_wp2
            all_goals
              go_ret
              exact ⟨ret_i (by have := HK.out; rw [HR.out]; omega), (Below.refl _ _).alloc (Nat.le_refl _) _⟩
        · obtain rfl : k = dbl := by omega
          go_wp2
          all_goals
            go_ret
            exact ⟨ret_i (by rw [HR.out, HX.out]; omega), (Below.refl _ _).alloc (Nat.le_refl _) _⟩
end Go.Proofs.Ytpabbdfjfnbdbaa.rt
