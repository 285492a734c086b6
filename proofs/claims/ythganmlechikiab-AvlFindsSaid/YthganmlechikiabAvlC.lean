/-
  Layer 8's reference: putting into and deleting from a list of pairs.
-/
import Derived.Test.YthganmlechikiabAvlZ
namespace Go.Proofs.Ythganmlechikiab.av
open Go.RowKit aid mem rng
attribute [local go_sem ↓] Go.wp_at_zero Go.wp_at_succ
set_option linter.unusedVariables false

/-! ### Lists -/
theorem lo_take {l : Ps} {key : Int} (hu : T.Up l) : l.filter (fun x => x.1 < key) = l.take (rkL l key) := by
  induction l with
  | nil => rfl
  | cons x l ih =>
    have hp := List.pairwise_cons.1 hu
    by_cases hx : x.1 < key
    · rw [rk_cons_lo hx, List.filter_cons, if_pos (by simpa using hx), ih hp.2, Nat.add_comm 1]; rfl
    · rw [rk_cons_hi hu (by omega), List.filter_eq_nil_iff.2]
      · rfl
      · intro y hy
        rcases List.mem_cons.1 hy with rfl | hy
        · simpa using hx
        · have := hp.1 y hy; simp; omega
theorem hi_drop {l : Ps} {key : Int} (hu : T.Up l) : l.filter (fun x => key < x.1) = l.drop (if hasL l key then rkL l key + 1 else rkL l key) := by
  induction l with
  | nil => simp [hasL]
  | cons x l ih =>
    have hp := List.pairwise_cons.1 hu
    have e : hasL (x :: l) key = ((x.1 == key) || hasL l key) := rfl
    by_cases hx : x.1 < key
    · rw [rk_cons_lo hx, List.filter_cons, if_neg (by simp; omega), ih hp.2, e, show (x.1 == key) = false from by simp; omega, Bool.false_or]
      split <;> (rw [Nat.add_comm 1]; simp)
    · rw [rk_cons_hi hu (by omega), e]
      have hn : hasL l key = false := by
        unfold hasL
        rw [List.any_eq_false]
        intro y hy
        have := hp.1 y hy
        simp; omega
      have hall : l.filter (fun y => key < y.1) = l := List.filter_eq_self.2 (fun y hy => by have := hp.1 y hy; simp; omega)
      rw [hn, List.filter_cons, hall]
      by_cases hk : x.1 = key
      · subst hk; simp
      · rw [if_pos (by simp; omega)]
        simp [hk]
theorem putL_cut {l : Ps} {k v : Int} (hu : T.Up l) : T.putL k v l = l.take (rkL l k) ++ [(k, v)] ++ l.drop (if hasL l k then rkL l k + 1 else rkL l k) := by
  unfold T.putL
  rw [lo_take hu, hi_drop hu]
  simp
theorem delL_has {l : Ps} {k : Int} (hu : T.Up l) (h : hasL l k = true) : T.delL k l = l.take (rkL l k) ++ l.drop (rkL l k + 1) := by
  unfold T.delL
  rw [lo_take hu, hi_drop hu, if_pos h]
theorem delL_not {l : Ps} {k : Int} (hu : T.Up l) (h : hasL l k = false) : T.delL k l = l := by
  unfold T.delL
  rw [lo_take hu, hi_drop hu, if_neg (by rw [h]; simp), List.take_append_drop]
theorem has_lt {l : Ps} {k : Int} (hu : T.Up l) (h : hasL l k = true) : rkL l k < l.length := by
  rw [has_at hu] at h
  simp at h
  exact h.1

/-! ### Pieces -/
theorem PrA.take {w : World} {a : Option Addr} {n cap : Nat} {l : Ps} (h : PrA w a n cap l) {i : Nat} (hi : i ≤ n) : PrA w a i cap (l.take i) :=
  ⟨by have := h.len; simp; omega, Nat.le_trans hi h.le, h.most, h.cells.imp id (fun ⟨b, off, ha, hc⟩ => ⟨b, off, ha, fun j hj => by
    have e : (l.take i).getD j (0, 0) = l.getD j (0, 0) := by simp [List.getD, hj]
    rw [e]; exact hc j (by omega)⟩)⟩
theorem PrA.drop {w : World} {b off n cap : Nat} {l : Ps} (h : PrA w (some ⟨b, off, none⟩) n cap l) {i : Nat} (hi : i ≤ n) : PrA w (some ⟨b, off + i * 2, none⟩) (n - i) (cap - i) (l.drop i) := by
  refine ⟨by have := h.len; simp; omega, by have := h.le; omega, by have := h.most; omega, .inr ⟨b, off + i * 2, rfl, fun j hj => ?_⟩⟩
  rcases h.cells with ⟨h0, _⟩ | ⟨b', off', ha, hc⟩
  · cases h0
  · injection ha with ha
    injection ha with h1 h2
    subst h1 h2
    have e : (l.drop i).getD j (0, 0) = l.getD (i + j) (0, 0) := by simp [List.getD]
    rw [e, show off + i * 2 + j * 2 = off + (i + j) * 2 from by omega]
    exact hc (i + j) (by omega)
theorem pr_empty (w : World) (x : Addr) (c : Nat) (hc : c ≤ maxLen) : PrA w (some ⟨x.block, x.off, none⟩) 0 c [] := ⟨rfl, Nat.zero_le _, hc, .inr ⟨_, _, rfl, fun i hi => by omega⟩⟩
theorem PrA.src {w : World} {a : Option Addr} {n cap : Nat} {l : Ps} (h : PrA w a n cap l) : Src Try.prog 2 28 (.slice a n cap) n (prCells l) w := by
  have hl : (prCells l).length = n * 2 := by rw [prCells_len, h.len]
  have h1 : ∀ u ∈ prCells l, u.oneCell' = true := by
    intro u hu
    unfold prCells at hu
    obtain ⟨x, _, hx⟩ := List.mem_flatMap.1 hu
    simp at hx
    rcases hx with rfl | rfl <;> rfl
  rcases h.cells with ⟨rfl, h0⟩ | ⟨b, off, rfl, hc⟩
  · have hn : n = 0 := by have := h.le; omega
    subst hn
    obtain rfl : l = [] := List.eq_nil_of_length_eq_zero h.len
    exact Src.ofNil w Try.underlying28 cap
  · refine Src.ofSlice w Try.underlying28 ⟨b, off, none⟩ n cap _ hl ?_ h1
    intro j u hu
    have hj : j < n * 2 := by rw [← hl]; exact (List.getElem?_eq_some_iff.1 hu).1
    have hadd : (⟨b, off, none⟩ : Addr).add j = ⟨b, off + j, none⟩ := by unfold Addr.add; split <;> simp_all
    rw [hadd]
    obtain ⟨c0, c1⟩ := hc (j / 2) (by omega)
    obtain ⟨e0, e1⟩ := prCells_get l (j / 2) (by rw [h.len]; omega)
    by_cases hp : j % 2 = 0
    · rw [show j = j / 2 * 2 from by omega] at hu ⊢
      rw [e0] at hu
      cases hu
      exact c0
    · rw [show j = j / 2 * 2 + 1 from by omega] at hu ⊢
      rw [e1] at hu
      cases hu
      rw [← Nat.add_assoc]
      exact c1

/-- a list of pairs is handed back, in memory of its own -/
def RetP (L : Ps) (w : World) (e : Ending) (w' : World) : Prop := ∃ a n cap, e = .returned (.slice a n cap) ∧ w'.ownsRow w.heap.size 37 2 (.slice a n cap) n (prCells L) ∧ Below w.heap.size w w'
theorem grown_below {w w1 : World} {v : Value} {B : Nat} (hg : w.grownBy w1 v.ownBlock) (hB : B ≤ w.heap.size) (hv : ∀ k, v.ownBlock = some k → B ≤ k) : Below B w w1 :=
  ⟨hg.os, hg.tape, hg.output, hg.size, fun k hk => hg.block k (by omega) (fun e => by have := hv k e.symm; omega)⟩
theorem prCells_append (l r : Ps) : prCells (l ++ r) = prCells l ++ prCells r := by simp [prCells]
theorem own_empty (w : World) : (w.alloc (.cells #[] 37)).ownsRow w.heap.size 37 2 (.slice (some ⟨w.heap.size, 0, none⟩) 0 0) 0 [] :=
  ⟨rfl, .inr ⟨w.heap.size, 0, #[], rfl, Nat.le_refl _, heap_alloc_new w _, Nat.le_refl _, by unfold maxLen; omega, rfl, rfl⟩⟩
theorem own_alloc {w : World} {base : Nat} {e : TypeId} {size : Nat} {v : Value} {n : Nat} {xs : List Value} (h : w.ownsRow base e size v n xs) (o : Obj) : (w.alloc o).ownsRow base e size v n xs :=
  own_steps h (fun k o' _ ho => ((bal' o).block k (lt_of_block ho)).trans ho)
theorem pair_src (X : World) (k v : Int) : Src Try.prog 2 28 (.slice (some ⟨X.heap.size, 0, none⟩) 1 1) 1 [.int .i64 k, .int .i64 v] (X.alloc (.cells #[.int .i64 k, .int .i64 v] 37)) := by
  refine Src.ofSlice _ Try.underlying28 ⟨X.heap.size, 0, none⟩ 1 1 _ rfl ?_ (by simp [Value.oneCell'])
  intro j u hu
  have := cell_of_row (X.alloc (.cells #[.int .i64 k, .int .i64 v] 37)) X.heap.size j _ _ (0, 0) (heap_alloc_new X _)
  have hadd : (⟨X.heap.size, 0, none⟩ : Addr).add j = ⟨X.heap.size, 0 + j, none⟩ := by unfold Addr.add; split <;> simp_all
  rw [hadd, Nat.zero_add, this, ← hu]
  simp
-- PUT
end Go.Proofs.Ythganmlechikiab.av
