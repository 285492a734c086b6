/-
  slices.Grow over spans.
-/
import Derived.Test.YtgjkbejlfclpoaaRunC
import Derived.Test.YtgjkbejlfclpoaaCpy
namespace Go.Proofs.Ytgjkbejlfclpoaa.rn
open Go.RowKit Go.Shelf aid mem rng sp
attribute [local go_sem ↓] Go.wp_at_zero Go.wp_at_succ
set_option linter.unusedVariables false
set_option linter.unusedSimpArgs false

def GrowPost (a : Option Addr) (n cap k : Nat) (l : List Sp) (w : World) (e : Ending) (w' : World) : Prop :=
  ∃ a' cap', e = .returned (.slice a' n cap') ∧ SlR w' 24 2 a' n cap' (spCells l) ∧ n + k ≤ cap' ∧ Below w.heap.size w w' ∧ ∀ b ∈ blk a' cap', b ∈ blk a cap ∨ w.heap.size ≤ b
theorem grow_new {w : World} {n cap cap' m : Nat} {l : List Sp} {olds Z1 : List Value} {zs : Array Value} (a : Option Addr) (k : Nat) (ho : olds.take (n * 2) = spCells l) (hol : olds.length = cap * 2) (hl : l.length = n) (hn : n ≤ cap) (hz1 : Z1.length = m * 2) (hz2 : zs.size = (cap' - (cap + m)) * 2)
    (hc : cap + m ≤ cap') (hm : cap' ≤ maxLen) (hk : n + k ≤ cap') (w' : World) (hw : w' = w.drew.alloc (.cells ((olds ++ Z1).toArray ++ zs) 24)) : GrowPost a n cap k l w (.returned (.slice (some ⟨w.heap.size, 0, none⟩) n cap')) w' := by
  subst hw
  have hx : w.drew.heap.size = w.heap.size := rfl
  refine ⟨_, cap', rfl, SlP.slr (P := []) (R := olds.drop (n * 2) ++ Z1 ++ zs.toList) ⟨?_, rfl, by rw [spCells_len, hl], by omega, hm, ?_⟩, hk, ?_, fun b hb => .inr ?_⟩
  · have := heap_alloc_new w.drew (.cells ((olds ++ Z1).toArray ++ zs) 24)
    rw [hx] at this
    rw [this]
    congr 2
    apply Array.ext'
    simp only [Array.toList_append, List.nil_append]
    rw [← ho, ← List.append_assoc, ← List.append_assoc, List.take_append_drop]
  · simp only [List.length_append, List.length_drop, spCells_len, hl, hol, hz1, Array.length_toList, hz2]
    omega
  · exact ⟨rfl, rfl, rfl, by simp, fun k hk => Below.heap_alloc w.drew _ k hk⟩
  · by_cases h0 : cap' = 0
    · subst h0; simp [blk_zero] at hb
    · rw [blk_some _ _ _ (by omega)] at hb
      simp at hb
      omega
set_option maxHeartbeats 1000000 in
theorem grow_any {w : World} {a : Option Addr} {n cap : Nat} {l : List Sp} (h : SlR w 24 2 a n cap (spCells l)) (k : Nat) (hk : n + k ≤ 100000) : Calls Try.prog 68 #[.slice a n cap, .int .i64 k] w (GrowPost a n cap k l w) := by
  obtain ⟨i0, hi, hz0, hz1, hz2⟩ := info_split info_span
  have hle := h.le
  have hmost := h.most
  have hlen := row_len h
  unfold maxLen at hmost
  by_cases hroom : n + k ≤ cap
  · have HF := Lib.hid (show GrowPost a n cap k l w (.returned (.slice a n cap)) w from ⟨a, cap, rfl, h, hroom, Below.refl _ _, fun b hb => .inl hb⟩)
    clear h
    go_enter Try.func68, Try.ntmps68
    go_wp2
    go_ret
    exact HF.out
  · obtain ⟨m, hm⟩ : ∃ m : Nat, (k : Int) - ((cap : Int) - (n : Int)) = (m : Int) := ⟨n + k - cap, by omega⟩
    have hm0 : 0 < m := by omega
    have hcm : cap + m = n + k := by omega
    have HCM := Lib.hid hcm
    have hcap : ¬ (2 ^ 63 - 1 < cap) := by omega
    have hol : ∃ olds : List Value, (Builtin.firstCells i0.size cap (.slice a cap cap)).run Try.prog w.drew = .ok olds.toArray w.drew ∧ olds.take (n * 2) = spCells l ∧ olds.length = cap * 2 := by
      by_cases h0 : cap = 0
      · subst h0
        obtain rfl : n = 0 := by omega
        obtain rfl : l = [] := List.eq_nil_of_length_eq_zero (by omega)
        refine ⟨[], ?_, rfl, rfl⟩
        cases a with
        | none => exact run_firstCells_none w.drew i0.size 0 0 0
        | some y => exact run_firstCells_some w.drew i0.size 0 y 0 0 [] (by simp) (fun j v hj => by simp at hj)
      · obtain ⟨g, off, P, R, rfl, hp⟩ := h.slp (by omega)
        have hpl := hp.p; have hpr := hp.room; have hpn := hp.len
        refine ⟨(spCells l ++ R).take (cap * 2), ?_, ?_, ?_⟩
        · refine run_firstCells_some w.drew i0.size cap ⟨g, off, none⟩ cap cap _ (by rw [List.length_take, List.length_append, hz1]; omega) (fun j v hj => ?_)
          have hj1 := (List.getElem?_eq_some_iff.1 hj).1
          rw [List.length_take] at hj1
          rw [addr_add]
          have := cell_of_row w g (off + j) _ _ (0, 0) hp.heap
          refine (show w.drew.cell? ⟨g, off + j, none⟩ = w.cell? ⟨g, off + j, none⟩ from rfl).trans (this.trans ?_)
          rw [List.getElem?_toArray, List.append_assoc, List.getElem?_append_right (by omega), ← hj, List.getElem?_take, if_pos (by omega), hpl]
          congr 1
          omega
        · rw [List.take_take, show min (n * 2) (cap * 2) = n * 2 by omega, ← hpn]
          exact List.take_left
        · rw [List.length_take, List.length_append]; omega
    obtain ⟨olds, ho1, ho2, ho3⟩ := hol
    have HG := Lib.hid (fun (cap' : Nat) (h1 : cap + m ≤ cap') (h2 : cap' ≤ maxLen) (w' : World) (hw : w' = w.drew.alloc (.cells ((olds ++ (Builtin.zeroCells (Value.cells (.agg #[.int .i64 0, .int .i64 0])) m).toList).toArray ++ Builtin.zeroCells (Value.cells (.agg #[.int .i64 0, .int .i64 0])) (cap' - (cap + m))) 24)) =>
      grow_new a k ho2 ho3 hlen hle (m := m) (by rw [Array.length_toList, size_zeroCells]; rfl) (by rw [size_zeroCells]; rfl) h1 h2 (by omega) w' hw)
    have HO := Lib.hid ho1
    clear h ho1 ho2 ho3 hlen hcm
    go_enter Try.func68, Try.ntmps68
    go_wp2_with (at_builtin; go_must (refine wpList_append_zeros _ rfl (.tmp 20) (.tmp 21) 28 3 rfl 24 i0 (.agg #[.int .i64 0, .int .i64 0]) .i64 Try.underlying28 Try.underlying3 hi hz0 (by omega) a cap cap olds rfl HO.out m rfl hm0 (by omega) (by have := HCM.out; unfold maxLen; omega) (by have := HCM.out; rw [hz2]; omega) ?_); intro cap' hc1 hc2 w3 hw3; unfold maxLen at hc2; have hnc : n ≤ cap' := by omega)
    go_ret
    exact HG.out cap' hc1 (by unfold maxLen; exact hc2) _ hw3.out
end Go.Proofs.Ytgjkbejlfclpoaa.rn
