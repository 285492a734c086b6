/-
  The reference's Same, of two lists of spans.
-/
import Derived.Test.YtdoedcfmhdnbgaaSpnS
import Derived.Laws.StructEq
namespace Go.Proofs.Ytdoedcfmhdnbgaa.sp
open Go.RowKit aid mem
attribute [local go_sem ↓] Go.wp_at_zero Go.wp_at_succ
set_option linter.unusedVariables false

theorem eq_spB (x y : Int × Int) (w : World) : (Op.equalIn 10000 24 (.agg #[.int .i64 x.1, .int .i64 x.2]) (.agg #[.int .i64 y.1, .int .i64 y.2])).run Try.prog w = .ok (decide (x = y)) w := by
  rw [eq_sp]
  congr 1
  rw [Bool.eq_iff_iff]
  simp [Prod.ext_iff]
theorem take_eq_succ {l r : List (Int × Int)} {k : Nat} (h : l.take k = r.take k) (hk : k < l.length) (hr : k < r.length) : (l.take (k + 1) = r.take (k + 1)) ↔ l.getD k (0, 0) = r.getD k (0, 0) := by
  have e1 := List.take_succ_eq_append_getElem hk
  have e2 := List.take_succ_eq_append_getElem hr
  rw [e1, e2, h, List.append_right_inj]
  simp [List.getD, hk, hr]
theorem bdN (w : World) (n : Nat) : Below w.heap.size w (w.drewN n) := ⟨rfl, rfl, rfl, Nat.le_refl _, fun _ _ => rfl⟩

set_option maxRecDepth 100000 in
set_option maxHeartbeats 3200000 in
theorem rsame_any {w : World} {a b : Option Addr} {n m c d : Nat} {l r : List (Int × Int)} (ho : SlS w a n c l) (hq : SlS w b m d r) :
    Calls Try.prog 32 #[.slice a n c, .slice b m d] w fun e w' => e = .returned (.bool (decide (l = r))) ∧ Below w.heap.size w w' := by
  have hmo := ho.most
  have hleo := ho.le
  have hmq := hq.most
  have hleq := hq.le
  have hl1 := ho.len
  have hl2 := hq.len
  unfold maxLen at hmo hmq
  by_cases hnm : n = m
  · subst hnm
    have H1 := Lib.hid ho.cells
    have H2 := Lib.hid hq.cells
    have HL := Lib.hid (And.intro hl1 hl2)
    clear ho hq hl1 hl2
    go_enter Try.func32, Try.ntmps32
    go_wp2_with fail
    go_loopw [5] (fun i wr => ∃ k nq : Nat, k ≤ n ∧ i = .int .i64 k ∧ wr = w.drewN nq ∧ Hid (l.take k = r.take k)) (fun i _ => n - (intOf i).toNat)
    case atStart => exact ⟨0, 0, Nat.zero_le _, rfl, rfl, Lib.hid rfl⟩
    case round =>
      obtain ⟨k, nq, hk, rfl, rfl, HT⟩ := hrel
      have hk0 : (0 : Int) ≤ (k : Int) := by omega
      by_cases hlt : k < n
      · obtain ⟨b1, o1, rfl, hc1⟩ := H1.out (by omega)
        obtain ⟨b2, o2, rfl, hc2⟩ := H2.out (by omega)
        obtain ⟨g1, g2⟩ := hc1 k hlt
        obtain ⟨g3, g4⟩ := hc2 k hlt
        have hk1 : (k : Int) < (n : Int) := by omega
        have hst := take_eq_succ HT.out (by rw [HL.out.1]; exact hlt) (by rw [HL.out.2]; exact hlt)
        generalize l.getD k (0, 0) = x at *
        generalize r.getD k (0, 0) = y at *
        have HST := Lib.hid hst
        clear hc1 hc2 hst
        have eqg := eq_guard
        by_cases hxy : x = y
        · have eqb : ∀ w, (Op.equalIn 10000 24 (.agg #[.int .i64 x.1, .int .i64 x.2]) (.agg #[.int .i64 y.1, .int .i64 y.2])).run Try.prog w = .ok true w := fun w => by rw [eq_spB, hxy]; simp
          have H' := Lib.hid (HST.out.2 hxy)
          clear hxy HST
          go_wp2_with fail
          go_quiet (fail)
          clear eqb eqg
          go_wp2
          go_roundw
          case rel => exact ⟨k + 1, _, by omega, by go_num, rfl, H'⟩
          case measure => simp [intOf]; omega
        · have eqb : ∀ w, (Op.equalIn 10000 24 (.agg #[.int .i64 x.1, .int .i64 x.2]) (.agg #[.int .i64 y.1, .int .i64 y.2])).run Try.prog w = .ok false w := fun w => by rw [eq_spB, decide_eq_false hxy]
          have H' : Hid (decide (l = r) = false) := Lib.hid (decide_eq_false (fun e => hxy (HST.out.1 (by rw [e]))))
          clear hxy HST
          go_wp2_with fail
          go_quiet (fail)
          clear eqb eqg
          go_wp2
          go_ret
          exact ⟨ret_b H'.out.symm, ⟨rfl, rfl, rfl, Nat.le_refl _, fun _ _ => rfl⟩⟩
      · have H' : Hid (decide (l = r) = true) := Lib.hid (decide_eq_true (by have := HT.out; rw [List.take_of_length_le (by rw [HL.out.1]; omega), List.take_of_length_le (by rw [HL.out.2]; omega)] at this; exact this))
        clear HT
        go_wp2
        go_ret
        exact ⟨ret_b H'.out.symm, bdN w nq⟩
  · have H' : Hid (decide (l = r) = false) := Lib.hid (decide_eq_false (fun e => hnm (by rw [← hl1, ← hl2, e])))
    clear ho hq hl1 hl2
    go_enter Try.func32, Try.ntmps32
    go_wp2_with fail
    go_ret
    exact ⟨ret_b H'.out.symm, Below.refl _ _⟩
end Go.Proofs.Ytdoedcfmhdnbgaa.sp
