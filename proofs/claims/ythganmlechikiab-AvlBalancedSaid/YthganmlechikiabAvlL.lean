/-
  Layer 8's law: trees are balanced.
-/
import Derived.Test.YthganmlechikiabAvlU
import Derived.Test.YthganmlechikiabAvlO
namespace Go.Proofs.Ythganmlechikiab.av
open Go.RowKit aid mem
attribute [local go_sem ↓] Go.wp_at_zero Go.wp_at_succ
set_option linter.unusedVariables false

theorem least_18 : T.least 18 = 6764 := by decide
theorem least_bd {k : Nat} (h : k ≤ 18) : T.least k ≤ 6764 := by have := T.least_mono h; rw [least_18] at this; exact this
set_option maxHeartbeats 1000000 in
theorem least_any (h : Nat) (hh : h ≤ 16) (w : World) : Calls Try.prog 28 #[.int .i64 (h : Int)] w fun e w' => e = .returned (.int .i64 (T.least h : Int)) ∧ w = w' := by
  go_enter Try.func28, Try.ntmps28
  go_wp2
  go_loop [3, 4, 5] (fun a b i => ∃ k : Nat, k ≤ h ∧ i = .int .i64 k ∧ a = .int .i64 (T.least k : Int) ∧ b = .int .i64 (T.least (k + 1) : Int)) (fun _ _ i => h - (intOf i).toNat)
  case atStart => exact ⟨0, Nat.zero_le _, rfl, rfl, rfl⟩
  case round =>
    obtain ⟨k, hk, rfl, rfl, rfl⟩ := hrel
    by_cases hlt : k < h
    · have b1 := least_bd (k := k) (by omega)
      have b2 := least_bd (k := k + 1) (by omega)
      have HS : Hid ((T.least (k + 1 + 1) : Int) = (T.least k : Int) + (T.least (k + 1) : Int) + 1) := Lib.hid (by show ((T.least k + T.least (k + 1) + 1 : Nat) : Int) = _; omega)
      generalize T.least k = x at *
      generalize hY : T.least (k + 1) = y at *
      have HY := Lib.hid hY
      clear hY
      go_wp2
      go_round
      case rel => exact ⟨k + 1, by omega, by go_num, by rw [HY.out], by rw [HS.out]⟩
      case measure => simp [intOf]; omega
    · obtain rfl : k = h := by omega
      go_wp2
      go_ret
      exact ⟨rfl, rfl⟩

theorem eq_z {a b : Nat} (h : a = 0 ↔ b = 0) : ((a : Int) == 0) = ((b : Int) == 0) := by
  rw [Bool.eq_iff_iff]; simp; exact h
theorem ht_nil {t : T} : (t.ht = 0) ↔ (t.size = 0) := by rw [T.ht_zero, T.size_zero]
set_option maxRecDepth 100000 in
set_option maxHeartbeats 4000000 in
theorem walk_AvlBalanced (w : World) (a : Option Addr) (n cap : Nat) (l : List OpV) (hl : OpA w a n cap l) :
    Calls Try.prog 5 #[.slice a n cap] w fun e w' => e = .returned (.bool true) ∧ Below w.heap.size w w' := by
  have hle := hl.le
  have hmost := hl.most
  unfold maxLen at hmost
  have HC := Lib.hid hl.cells
  clear hl
  go_enter Try.func5, Try.ntmps5
  go_wp2_with (first
    | (go_at_call 8; (with_reducible refine (known_any _).mono ?_); rintro e w1 ⟨rfl, hB1⟩)
    | (go_at_call 9; (with_reducible refine (new_ts hB1).mono ?_); rintro e w2 ⟨b, rfl, S2, q1, q2⟩; clear q1 q2))
  go_loopw [4] (fun i wr => ∃ (k : Nat) (t : T), i = .int .i64 k ∧ k ≤ n ∧ k ≤ 1000 ∧ t.size ≤ k ∧ T.Bal t ∧ TS w wr b t) (fun i _ => n - (intOf i).toNat)
  case atStart => exact ⟨0, .nil, rfl, Nat.zero_le _, by omega, Nat.zero_le _, trivial, S2⟩
  case round =>
    clear S2 hB1
    obtain ⟨k, t, rfl, hkn, hk, hts, hbal, S⟩ := hrel
    obtain ⟨wo, rfl⟩ : ∃ wo : World, wo = wr := ⟨_, rfl⟩
    have hBo := S.below
    by_cases hlt : k < n ∧ k < 1000
    · obtain ⟨h1, h2⟩ := hlt
      obtain ⟨B, off, rfl, hc⟩ := HC.out (by omega)
      obtain ⟨c0, c1, c2⟩ := hc k h1
      replace c0 := hBo.cell (p := ⟨B, off + k * 3, none⟩) (World.block_lt_of_cell? w _ c0) |>.trans c0
      replace c1 := hBo.cell (p := ⟨B, off + k * 3 + 1, none⟩) (World.block_lt_of_cell? w _ c1) |>.trans c1
      clear c2 hc hBo
      have HBAL := Lib.hid hbal
      clear hbal
      generalize l.getD k default = q at *
      obtain ⟨out, key, v⟩ := q
      dsimp only at c0 c1
      have HP := Lib.hid (put_ts key 0 S (by omega))
      have HD := Lib.hid (delete_ts key S (by omega))
      have HL := Lib.hid (fun (t' : T) (hb : T.Bal t') (hs : t'.size ≤ 1000) => T.ht_bd hb (by omega))
      have HF := Lib.hid (fun (t' : T) (hb : T.Bal t') => T.least_le hb)
      cases out with
      | true =>
        go_wp2_with (first
          | (go_at_call 26; (with_reducible refine HD.out.mono ?_); rintro e w3 ⟨rfl, S3, q1⟩; clear q1; have z := T.del_size key t; have HB3 := Lib.hid (T.del_Bal key HBAL.out).1; generalize T.del key t = t3 at *; have hh := HL.out t3 HB3.out (by omega); have hf := HF.out t3 HB3.out; have HZ := Lib.hid (@ht_nil t3))
          | (go_at_call 27; (with_reducible refine (height_any S3.tree.o).mono ?_); rintro e w4 ⟨rfl, rfl⟩)
          | (go_at_call 28; (with_reducible refine (least_any _ hh _).mono ?_); rintro e w4 ⟨rfl, rfl⟩)
          | (go_at_call 12; (with_reducible refine (tlen_any S3.tree.o).mono ?_); rintro e w4 ⟨rfl, rfl⟩))
        · exfalso
          have hx : (((t3.ht : Int) < 0 ∨ 40 < (t3.ht : Int)) ∨ t3.size < T.least t3.ht) ∨ (!(((t3.ht : Int) == 0) == ((t3.size : Int) == 0))) = true := by assumption
          rw [eq_z HZ.out] at hx
          simp at hx
          omega
        · go_roundw
          case rel => exact ⟨k + 1, t3, by go_num, by omega, by omega, by omega, HB3.out, S3⟩
          case measure => simp [intOf]; omega
      | false =>
        go_wp2_with (first
          | (go_at_call 16; (with_reducible refine HP.out.mono ?_); rintro e w3 ⟨rfl, S3, q1⟩; clear q1; have z := T.ins_size key 0 t; have HB3 := Lib.hid (T.ins_Bal key 0 HBAL.out).1; generalize T.ins key 0 t = t3 at *; have hh := HL.out t3 HB3.out (by omega); have hf := HF.out t3 HB3.out; have HZ := Lib.hid (@ht_nil t3))
          | (go_at_call 27; (with_reducible refine (height_any S3.tree.o).mono ?_); rintro e w4 ⟨rfl, rfl⟩)
          | (go_at_call 28; (with_reducible refine (least_any _ hh _).mono ?_); rintro e w4 ⟨rfl, rfl⟩)
          | (go_at_call 12; (with_reducible refine (tlen_any S3.tree.o).mono ?_); rintro e w4 ⟨rfl, rfl⟩))
        · exfalso
          have hx : (((t3.ht : Int) < 0 ∨ 40 < (t3.ht : Int)) ∨ t3.size < T.least t3.ht) ∨ (!(((t3.ht : Int) == 0) == ((t3.size : Int) == 0))) = true := by assumption
          rw [eq_z HZ.out] at hx
          simp at hx
          omega
        · go_roundw
          case rel => exact ⟨k + 1, t3, by go_num, by omega, by omega, by omega, HB3.out, S3⟩
          case measure => simp [intOf]; omega
    · clear HC
      by_cases h1 : k < n
      · have h2 : ¬ k < 1000 := by omega
        go_wp2_with (go_at_call 8; (with_reducible refine (known_any _).mono ?_); rintro e w1 ⟨rfl, hB1⟩)
        go_ret
        exact ⟨rfl, hBo.trans (hB1.mono hBo.size)⟩
      · go_wp2_with (go_at_call 8; (with_reducible refine (known_any _).mono ?_); rintro e w1 ⟨rfl, hB1⟩)
        go_ret
        exact ⟨rfl, hBo.trans (hB1.mono hBo.size)⟩
end Go.Proofs.Ythganmlechikiab.av
