/-
  Layer 8's law: keys about a key, at a place, from one on: what they are in a list; is what was told in a place.
-/
import Derived.Test.YthganmlechikiabAvlE
namespace Go.Proofs.Ythganmlechikiab.av
open Go.RowKit aid mem rng
attribute [local go_sem ↓] Go.wp_at_zero Go.wp_at_succ
set_option linter.unusedVariables false

theorem le_take {l : Ps} {key : Int} (hu : T.Up l) : l.filter (fun x => decide (x.1 ≤ key)) = l.take (if hasL l key then rkL l key + 1 else rkL l key) := by
  induction l with
  | nil => simp
  | cons x l ih =>
    have hp := List.pairwise_cons.1 hu
    have e : hasL (x :: l) key = ((x.1 == key) || hasL l key) := rfl
    by_cases hx : x.1 < key
    · rw [rk_cons_lo hx, List.filter_cons, if_pos (by simp; omega), ih hp.2, e, show (x.1 == key) = false from by simp; omega, Bool.false_or]
      split <;> (rw [Nat.add_comm 1]; simp)
    · rw [rk_cons_hi hu (by omega), e]
      have hn : hasL l key = false := by
        unfold hasL
        rw [List.any_eq_false]
        intro y hy
        have := hp.1 y hy
        simp; omega
      have hnone : l.filter (fun y => decide (y.1 ≤ key)) = [] := List.filter_eq_nil_iff.2 (fun y hy => by have := hp.1 y hy; simp; omega)
      rw [hn, List.filter_cons, hnone]
      by_cases hk : x.1 = key
      · subst hk; simp
      · rw [if_neg (by simp; omega)]
        simp [hk]
theorem ge_drop {l : Ps} {key : Int} (hu : T.Up l) : l.filter (fun x => decide (key ≤ x.1)) = l.drop (rkL l key) := by
  induction l with
  | nil => rfl
  | cons x l ih =>
    have hp := List.pairwise_cons.1 hu
    by_cases hx : x.1 < key
    · rw [rk_cons_lo hx, List.filter_cons, if_neg (by simp; omega), ih hp.2, Nat.add_comm 1]; rfl
    · rw [rk_cons_hi hu (by omega), List.filter_eq_self.2]
      · rfl
      · intro y hy
        rcases List.mem_cons.1 hy with rfl | hy
        · simp; omega
        · have := hp.1 y hy; simp; omega
theorem fl_at {l : Ps} {key : Int} (hu : T.Up l) : flL l key = atL l (if hasL l key then (rkL l key : Int) else (rkL l key : Int) - 1) := by
  unfold flL
  rw [le_take hu]
  have hk := rk_le l key
  cases hz : hasL l key with
  | true =>
    have hlt : rkL l key < l.length := by
      rw [has_at hu] at hz
      simp at hz
      exact hz.1
    simp only [if_true]
    unfold atL
    rw [if_pos (by omega)]
    generalize rkL l key = r at *
    rw [List.getLast?_take]
    simp [show (r : Int).toNat = r from by omega, hlt]
  | false =>
    simp only [Bool.false_eq_true, if_false]
    unfold atL
    generalize rkL l key = r at *
    cases r with
    | zero => simp
    | succ r =>
      rw [if_pos (by omega), List.getLast?_take]
      rw [show ((r + 1 : Nat) : Int) - 1 = (r : Int) from by omega]
      simp [show r < l.length from by omega]
theorem ce_at {l : Ps} {key : Int} (hu : T.Up l) : ceL l key = atL l (rkL l key : Int) := by
  unfold ceL atL
  rw [ge_drop hu, if_pos (by omega), List.head?_drop]
  simp

set_option maxHeartbeats 1000000 in
theorem is_none {w : World} {a : Option Addr} {n cap : Nat} {l : Ps} (h : PrA w a n cap l) (i : Int) (hi : atL l i = none) (hn : n ≤ 1000000) :
    Calls Try.prog 23 #[.slice a n cap, .int .i64 i, .int .i64 0, .int .i64 0, .bool false] w fun e w' => e = .returned (.bool true) ∧ w = w' := by
  have hor : i < 0 ∨ (n : Int) ≤ i := by
    unfold atL at hi
    split at hi
    · have := List.getElem?_eq_none_iff.1 hi
      rw [h.len] at this
      omega
    · omega
  clear h hi
  by_cases h0 : i < 0
  · go_enter Try.func23, Try.ntmps23
    go_wp2
    go_ret
    exact ⟨rfl, rfl⟩
  · have h1 : (n : Int) ≤ i := by omega
    go_enter Try.func23, Try.ntmps23
    go_wp2
    go_ret
    exact ⟨rfl, rfl⟩
set_option maxHeartbeats 1000000 in
theorem is_some {w : World} {a : Option Addr} {n cap : Nat} {l : Ps} (h : PrA w a n cap l) (i : Int) {x : Int × Int} (hi : atL l i = some x) (hn : n ≤ 1000000) :
    Calls Try.prog 23 #[.slice a n cap, .int .i64 i, .int .i64 x.1, .int .i64 x.2, .bool true] w fun e w' => e = .returned (.bool true) ∧ w = w' := by
  obtain ⟨k, rfl, hk, hx⟩ : ∃ k : Nat, i = (k : Int) ∧ k < n ∧ l.getD k (0, 0) = x := by
    unfold atL at hi
    split at hi
    · rename_i h0
      obtain ⟨hlt, he⟩ := List.getElem?_eq_some_iff.1 hi
      refine ⟨i.toNat, by omega, by rw [← h.len]; exact hlt, ?_⟩
      simp [List.getD, hlt, he]
    · cases hi
  have hle := h.le
  have hmost := h.most
  unfold maxLen at hmost
  rcases h.cells with ⟨_, h0⟩ | ⟨b, off, rfl, hc⟩
  · omega
  obtain ⟨c0, c1⟩ := hc k hk
  rw [hx] at c0 c1
  clear hc hx hi h
  obtain ⟨x1, x2⟩ := x
  dsimp only at *
  have eqb := eq_pair x1 x2 x1 x2
  have eqg := eq_guard
  have t1 : (x1 == x1) = true := by simp
  have t2 : (x2 == x2) = true := by simp
  have hk0 : (0 : Int) ≤ (k : Int) := by omega
  have hk1 : (k : Int) < (n : Int) := by omega
  go_enter Try.func23, Try.ntmps23
  go_wp2
  go_ret
  exact ⟨rfl, rfl⟩
end Go.Proofs.Ythganmlechikiab.av
