/-
  Layer 8's reference: lists of pairs in memory; how many are below; is a key there.
-/
import Derived.Test.YthganmlechikiabAvlN
namespace Go.Proofs.Ythganmlechikiab.av
open Go.RowKit aid mem rng
attribute [local go_sem ↓] Go.wp_at_zero Go.wp_at_succ
set_option linter.unusedVariables false

/-- a list of pairs that is read -/
structure PrA (w : World) (a : Option Addr) (n cap : Nat) (l : Ps) : Prop where
  len : l.length = n
  le : n ≤ cap
  most : cap ≤ maxLen
  cells : (a = none ∧ cap = 0) ∨ ∃ b off, a = some ⟨b, off, none⟩ ∧ ∀ i, i < n → w.cell? ⟨b, off + i * 2, none⟩ = some (.int .i64 (l.getD i (0, 0)).1) ∧ w.cell? ⟨b, off + i * 2 + 1, none⟩ = some (.int .i64 (l.getD i (0, 0)).2)
theorem PrA.later {w w' : World} {a : Option Addr} {n cap : Nat} {l : Ps} (h : PrA w a n cap l) (hb : Below w.heap.size w w') : PrA w' a n cap l :=
  ⟨h.len, h.le, h.most, h.cells.imp id (fun ⟨b, off, ha, hc⟩ => ⟨b, off, ha, fun i hi => ⟨ck hb (hc i hi).1, ck hb (hc i hi).2⟩⟩)⟩
theorem prCells_get : ∀ (l : Ps) (i : Nat), i < l.length → (prCells l)[i * 2]? = some (.int .i64 (l.getD i (0, 0)).1) ∧ (prCells l)[i * 2 + 1]? = some (.int .i64 (l.getD i (0, 0)).2) := by
  intro l
  induction l with
  | nil => intro i hi; simp at hi
  | cons x l ih =>
    intro i hi
    have e : prCells (x :: l) = .int .i64 x.1 :: .int .i64 x.2 :: prCells l := rfl
    rw [e]
    cases i with
    | zero => exact ⟨rfl, rfl⟩
    | succ i =>
      have := ih i (by simpa using hi)
      rw [show (i + 1) * 2 = i * 2 + 1 + 1 from by omega]
      simpa using this
theorem own_pr {w : World} {base : Nat} {v : Value} {n : Nat} {l : Ps} (h : w.ownsRow base 37 2 v n (prCells l)) : ∃ a cap, v = .slice a n cap ∧ PrA w a n cap l := by
  have hl : l.length = n := by have := h.1; rw [prCells_len] at this; omega
  rcases h.2 with ⟨rfl, rfl⟩ | ⟨g, cap, cur, rfl, hb, hg, hn, hm, hc, ht⟩
  · exact ⟨none, 0, rfl, hl, Nat.le_refl _, by unfold maxLen; omega, .inl ⟨rfl, rfl⟩⟩
  · refine ⟨_, cap, rfl, hl, hn, hm, .inr ⟨g, 0, rfl, fun i hi => ?_⟩⟩
    obtain ⟨e1, e2⟩ := prCells_get l i (by omega)
    rw [← ht, List.getElem?_take] at e1 e2
    rw [if_pos (by omega)] at e1 e2
    rw [Nat.zero_add, cell_of_row w g _ cur _ (0, 0) hg, cell_of_row w g _ cur _ (0, 0) hg]
    exact ⟨by simpa using e1, by simpa using e2⟩

theorem rk_nil (key : Int) : rkL [] key = 0 := rfl
theorem rk_cons_lo {x : Int × Int} {l : Ps} {key : Int} (h : x.1 < key) : rkL (x :: l) key = 1 + rkL l key := by unfold rkL; rw [List.filter_cons, if_pos (by simpa using h)]; simp; omega
theorem rk_cons_hi {x : Int × Int} {l : Ps} {key : Int} (hu : T.Up (x :: l)) (h : key ≤ x.1) : rkL (x :: l) key = 0 := by
  have hp := List.pairwise_cons.1 hu
  unfold rkL
  rw [List.filter_eq_nil_iff.2]
  · rfl
  · intro y hy
    rcases List.mem_cons.1 hy with rfl | hy
    · simp; omega
    · have := hp.1 y hy; simp; omega
theorem drop_get {l : Ps} {k : Nat} (h : k < l.length) : l.drop k = l.getD k (0, 0) :: l.drop (k + 1) := by
  rw [show l.getD k (0, 0) = l[k] from by simp [List.getD, h]]
  exact List.drop_eq_getElem_cons h

set_option maxHeartbeats 1000000 in
theorem rrank_any {w : World} {a : Option Addr} {n cap : Nat} {l : Ps} (h : PrA w a n cap l) (hu : T.Up l) (key : Int) (hn : n ≤ 1000000) :
    Calls Try.prog 18 #[.slice a n cap, .int .i64 key] w fun e w' => e = .returned (.int .i64 (rkL l key : Int)) ∧ w = w' := by
  have HC := Lib.hid h.cells
  have hlen := h.len
  have hle := h.le
  have HL := Lib.hid hlen
  have HU := Lib.hid hu
  clear h hlen hu
  go_enter Try.func18, Try.ntmps18
  go_wp2
  go_loop [5] (fun i => ∃ k : Nat, k ≤ n ∧ i = .int .i64 k ∧ Hid (rkL l key = k + rkL (l.drop k) key)) (fun i => n - (intOf i).toNat)
  case atStart => exact ⟨0, Nat.zero_le _, rfl, Lib.hid (by simp)⟩
  case round =>
    obtain ⟨k, hk, rfl, HR⟩ := hrel
    by_cases hlt : k < n
    · rcases HC.out with ⟨_, h0⟩ | ⟨b, off, rfl, hc⟩
      · omega
      · obtain ⟨c0, _⟩ := hc k hlt
        have HD := Lib.hid (drop_get (l := l) (k := k) (by rw [HL.out]; exact hlt))
        generalize l.getD k (0, 0) = x at *
        clear hc
        by_cases hx : x.1 < key
        · go_wp2
          go_round
          case rel => exact ⟨k + 1, by omega, by go_num, Lib.hid (by rw [HR.out, HD.out, rk_cons_lo hx]; omega)⟩
          case measure => simp [intOf]; omega
        · go_wp2
          go_ret
          exact ⟨ret_i (by rw [HR.out, HD.out, rk_cons_hi (by rw [← HD.out]; exact (List.Pairwise.sublist (List.drop_sublist k l) HU.out)) (by omega)]; rfl), rfl⟩
    · obtain rfl : k = n := by omega
      go_wp2
      go_ret
      exact ⟨ret_i (by rw [HR.out, List.drop_eq_nil_of_le (by rw [HL.out]; exact Nat.le_refl _)]; rfl), rfl⟩

/-- is a key there -/
def hasL (l : Ps) (key : Int) : Bool := l.any (fun x => x.1 == key)
theorem has_at {l : Ps} {key : Int} (hu : T.Up l) : hasL l key = (decide (rkL l key < l.length) && ((l.getD (rkL l key) (0, 0)).1 == key)) := by
  induction l with
  | nil => rfl
  | cons x l ih =>
    have hp := List.pairwise_cons.1 hu
    have e : hasL (x :: l) key = ((x.1 == key) || hasL l key) := rfl
    by_cases hx : x.1 < key
    · rw [rk_cons_lo hx, e, ih hp.2, Nat.add_comm 1]
      rw [show (x.1 == key) = false from by simp; omega]
      simp
    · rw [rk_cons_hi hu (by omega), e]
      have hn : hasL l key = false := by
        unfold hasL
        rw [List.any_eq_false]
        intro y hy
        have := hp.1 y hy
        simp; omega
      rw [hn]
      simp
set_option maxHeartbeats 1000000 in
theorem rhas_any {w : World} {a : Option Addr} {n cap : Nat} {l : Ps} (h : PrA w a n cap l) (hu : T.Up l) (key : Int) (hn : n ≤ 1000000) :
    Calls Try.prog 19 #[.slice a n cap, .int .i64 key] w fun e w' => e = .returned (.bool (hasL l key)) ∧ w = w' := by
  have HC := Lib.hid h.cells
  have HR := Lib.hid (rrank_any h hu key hn)
  have HH := Lib.hid (has_at (key := key) hu)
  have hle := h.le
  have hmost := h.most
  unfold maxLen at hmost
  have hk := rk_le l key
  rw [h.len] at hk
  rw [h.len] at HH
  generalize rkL l key = k at *
  generalize hasL l key = z at *
  clear h hu
  by_cases hlt : k < n
  · rcases HC.out with ⟨_, h0⟩ | ⟨b, off, rfl, hc⟩
    · omega
    · obtain ⟨c0, _⟩ := hc k hlt
      generalize l.getD k (0, 0) = x at *
      clear hc HC
      go_enter Try.func19, Try.ntmps19
      go_wp2_with (go_at_call 18; (with_reducible refine HR.out.mono ?_); rintro e w' ⟨rfl, rfl⟩)
      go_ret
      exact ⟨ret_b (by rw [HH.out]; simp [hlt]), rfl⟩
  · clear HC
    go_enter Try.func19, Try.ntmps19
    go_wp2_with (go_at_call 18; (with_reducible refine HR.out.mono ?_); rintro e w' ⟨rfl, rfl⟩)
    go_ret
    exact ⟨ret_b (by rw [HH.out]; simp [hlt]), rfl⟩
end Go.Proofs.Ythganmlechikiab.av
