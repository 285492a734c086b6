/-
  Alarms in memory: rows, maps, a clock.
-/
import Derived.Test.YtnioaaahkhephaaProg
import Derived.Test.YtnioaaahkhephaaKp
import Derived.Laws.StructEq
import Derived.Deep.DrawnRows
import Derived.Maps.OwnSet
import Derived.Test.YtnioaaahkhephaaAlmX
import Derived.Test.YtnioaaahkhephaaOwn
namespace Go.Proofs.Ytnioaaahkhephaa.al
open Go.RowKit Go.Maps aid mem
attribute [local go_sem ↓] Go.wp_at_zero Go.wp_at_succ
set_option linter.unusedVariables false
set_option linter.unusedSimpArgs false

def cel (l : List Al) : List Value := l.flatMap (fun x => [.int .i64 x.1, .int .i64 x.2])
theorem cel_len (l : List Al) : (cel l).length = l.length * 2 := by
  induction l with
  | nil => rfl
  | cons x l ih => simp only [cel, List.flatMap_cons, List.length_append, List.length_cons, List.length_nil] at *; omega
theorem cel_snoc (l : List Al) (x : Al) : cel (l ++ [x]) = cel l ++ [.int .i64 x.1, .int .i64 x.2] := by simp [cel]
theorem cel_append (l r : List Al) : cel (l ++ r) = cel l ++ cel r := by simp [cel]
theorem cel_get (l : List Al) : ∀ i, i < l.length → (cel l)[i * 2]? = some (.int .i64 (g l i).1) ∧ (cel l)[i * 2 + 1]? = some (.int .i64 (g l i).2) := by
  induction l with
  | nil => intro i h; simp at h
  | cons x l ih =>
    intro i h
    cases i with
    | zero => exact ⟨rfl, rfl⟩
    | succ i =>
      have := ih i (by simpa using h)
      rw [show (i + 1) * 2 = i * 2 + 2 by omega]
      exact this
theorem cel_set : ∀ (l : List Al) (i : Nat) (x : Al), i < l.length → ((cel l).set (i * 2) (.int .i64 x.1)).set (i * 2 + 1) (.int .i64 x.2) = cel (l.set i x) := by
  intro l
  induction l with
  | nil => intro i x h; simp at h
  | cons y l ih =>
    intro i x h
    cases i with
    | zero => rfl
    | succ i =>
      have := ih i x (by simpa using h)
      rw [show (i + 1) * 2 = i * 2 + 2 by omega]
      show (Value.int .i64 y.1 :: Value.int .i64 y.2 :: (((cel l).set (i * 2) (.int .i64 x.1)).set (i * 2 + 1) (.int .i64 x.2))) = _
      rw [this]; rfl
theorem cel_take (l : List Al) (n : Nat) : (cel l).take (n * 2) = cel (l.take n) := by
  induction l generalizing n with
  | nil => simp [cel]
  | cons x l ih =>
    cases n with
    | zero => simp [cel]
    | succ n =>
      rw [show (n + 1) * 2 = n * 2 + 2 by omega]
      show (Value.int .i64 x.1 :: Value.int .i64 x.2 :: (cel l).take (n * 2)) = _
      rw [ih]; rfl
theorem cel_one (l : List Al) : ∀ u ∈ cel l, u.oneCell' = true := by
  intro u hu
  simp only [cel, List.mem_flatMap] at hu
  obtain ⟨x, _, hx⟩ := hu
  simp at hx
  rcases hx with rfl | rfl <;> rfl
/-- a row of one's own, of pairs -/
def PRow (w : World) (e : TypeId) (v : Value) (l : List Al) : Prop := w.ownsRow 0 e 2 v l.length (cel l)
theorem PRow.read {w : World} {e : TypeId} {v : Value} {l : List Al} (h : PRow w e v l) {i : Nat} (hi : i < l.length) : ∃ b cap, v = .slice (some ⟨b, 0, none⟩) l.length cap ∧ l.length ≤ cap ∧ cap ≤ maxLen ∧ (∃ cur, w.heap[b]? = some (.cells cur e (0, 0))) ∧
    (∀ k, k < l.length → w.cell? ⟨b, k * 2, none⟩ = some (.int .i64 (g l k).1) ∧ w.cell? ⟨b, k * 2 + 1, none⟩ = some (.int .i64 (g l k).2)) ∧ (∀ k, w.frozen? ⟨b, k, none⟩ = false) := by
  rcases h.2 with ⟨_, h0⟩ | ⟨b, cap, cur, rfl, hb, hg, hn, hm, hc, ht⟩
  · omega
  · refine ⟨b, cap, rfl, hn, hm, ⟨cur, hg⟩, fun k hk => ?_, fun k => by simp [World.frozen?, hg]⟩
    obtain ⟨e0, e1⟩ := cel_get l k hk
    rw [← ht, List.getElem?_take, if_pos (by omega)] at e0 e1
    rw [cell_of_row w b _ cur _ (0, 0) hg, cell_of_row w b _ cur _ (0, 0) hg]
    exact ⟨by simpa using e0, by simpa using e1⟩
theorem PRow.set {w : World} {e : TypeId} {b n cap : Nat} {l : List Al} (h : PRow w e (.slice (some ⟨b, 0, none⟩) n cap) l) {i : Nat} (hi : i < l.length) (x : Al) :
    PRow ((w.setCell ⟨b, i * 2, none⟩ (.int .i64 x.1)).setCell ⟨b, i * 2 + 1, none⟩ (.int .i64 x.2)) e (.slice (some ⟨b, 0, none⟩) n cap) (l.set i x) := by
  rcases h.2 with ⟨h0, _⟩ | ⟨b', cap', cur, hv, hb, hg, hn, hm, hc, ht⟩
  · cases h0
  · injection hv with e1 e2 e3
    injection e1 with e1
    injection e1 with e1
    subst e1; subst e2; subst e3
    refine ⟨by rw [cel_len], .inr ⟨b, cap, _, by rw [List.length_set], hb, heap_setCell_same _ b _ _ _ _ (heap_setCell_same w b _ _ _ _ hg), by rw [List.length_set]; exact hn, hm, by simp [hc], ?_⟩⟩
    rw [List.length_set]
    simp only [Array.toList_setIfInBounds, List.take_set]
    rw [ht, cel_set l i x hi]
theorem PRow.set2 {w : World} {e : TypeId} {b n cap : Nat} {l : List Al} (h : PRow w e (.slice (some ⟨b, 0, none⟩) n cap) l) {i : Nat} (hi : i < l.length) (t : Int) :
    PRow (w.setCell ⟨b, i * 2 + 1, none⟩ (.int .i64 t)) e (.slice (some ⟨b, 0, none⟩) n cap) (l.set i ((g l i).1, t)) := by
  rcases h.2 with ⟨h0, _⟩ | ⟨b', cap', cur, hv, hb, hg, hn, hm, hc, ht⟩
  · cases h0
  · injection hv with e1 e2 e3
    injection e1 with e1
    injection e1 with e1
    subst e1; subst e2; subst e3
    refine ⟨by rw [cel_len], .inr ⟨b, cap, _, by rw [List.length_set], hb, heap_setCell_same w b _ _ _ _ hg, by rw [List.length_set]; exact hn, hm, by simp [hc], ?_⟩⟩
    rw [List.length_set]
    simp only [Array.toList_setIfInBounds, List.take_set]
    rw [ht, ← cel_set l i _ hi]
    congr 1
    apply List.ext_getElem?
    intro j
    rw [List.getElem?_set]
    split
    · rename_i e1
      subst e1
      rw [if_pos (by rw [cel_len]; omega)]
      exact (cel_get l i hi).1
    · rfl
theorem PRow.cut {w : World} {e : TypeId} {b n cap : Nat} {l : List Al} (h : PRow w e (.slice (some ⟨b, 0, none⟩) n cap) l) {m : Nat} (hm : m ≤ l.length) : PRow w e (.slice (some ⟨b, 0, none⟩) m cap) (l.take m) := by
  have hlm : (l.take m).length = m := by rw [List.length_take]; omega
  rcases h.2 with ⟨h0, _⟩ | ⟨b', cap', cur, hv, hb, hg, hn, hmx, hc, ht⟩
  · cases h0
  · injection hv with e1 e2 e3
    injection e1 with e1
    injection e1 with e1
    subst e1; subst e2; subst e3
    refine ⟨by rw [cel_len], .inr ⟨b, cap, cur, by rw [hlm], hb, hg, by rw [hlm]; omega, hmx, hc, ?_⟩⟩
    rw [hlm, ← cel_take, ← ht, List.take_take, Nat.min_eq_left (by omega)]
theorem PRow.step {w w' : World} {e : TypeId} {v : Value} {l : List Al} (h : PRow w e v l) (hk : ∀ k o, v.ownBlock = some k → w.heap[k]? = some o → w'.heap[k]? = some o) : PRow w' e v l := own_step h hk
/-- a map from ints to ints -/
abbrev MapAt (w : World) (b n : Nat) (D : DataW Unit) : Prop := w.ownsMap Try.prog 3 (plainElem Try.prog 3) b n D
theorem keyed : Keyed Try.prog 3 := int_keyed Try.underlying3
theorem zero_int (w : World) : (zeroValue 3).run Try.prog w = .ok (.int .i64 0) w := by kernel_rfl
theorem map_tight {w : World} {b n : Nat} {D : DataW Unit} (h : MapAt w b n D) : MapAt w b (Maps.size D) D := by
  obtain ⟨es, clock, hb, F, hs, hD⟩ := h
  refine ⟨es, clock, hb, F, ?_, hD⟩
  rw [hD, size_eq, length_read]; exact Nat.le_refl _
theorem map_block {w w' : World} {b n : Nat} {D : DataW Unit} (h : MapAt w b n D) (hk : ∀ o, w.heap[b]? = some o → w'.heap[b]? = some o) : MapAt w' b n D := by
  obtain ⟨es, clock, hb, F, hs, hD⟩ := h
  exact ⟨es, clock, hk _ hb, F, hs, hD⟩
theorem map_no_cells {w : World} {b n : Nat} {D : DataW Unit} (h : MapAt w b n D) {cs : Array Value} {t : TypeId} {z : Nat × Nat} (hc : w.heap[b]? = some (.cells cs t z)) : False := by
  obtain ⟨es, clock, hb, _⟩ := h
  rw [hb] at hc; cases hc
/-- m[k] = v as a step of a region that draws its order -/
theorem step_mapUpdate {w : World} {ops : Array Oper} {o : Oper} {a : Act} {K : Act → World → Prop} {Q : Exit → Act → World → Prop} {E : Prop} (hgd : o.guard = none) (m x v : Operand)
    (ho : o.op = Op.mapUpdate 57 m x v) (b n : Nat) (D : DataW Unit) (hm : a.eval m = .map (some b)) (hown : MapAt w b n D) (hn : n < maxLen) (key val : Int) (hx : a.eval x = .int .i64 key) (hv : a.eval v = .int .i64 val)
    (hkw : -9223372036854775808 ≤ key ∧ key ≤ 9223372036854775807) (hvw : -9223372036854775808 ≤ val ∧ val ≤ 9223372036854775807)
    (h : ∀ w', MapAt w' b (n + 1) (D.put (kl key) (.lit (.int .i64 val))) → w.grownBy w' (some b) → K (a.put o.dst undef) w') :
    if Region.wanted o (yielded ops a.tmps) = true then Oper.wp Try.prog o a w K Q else E := by
  have hw : Region.wanted o (yielded ops a.tmps) = true := by simp [Region.wanted, hgd]
  rw [if_pos hw]
  obtain ⟨w', hrun, r1, r2⟩ := hown.update keyed Try.underlying57 hn (keyOf_int_mk Try.underlying3 (q := .i64) (a := key) (WalkArith.wf_i64 hkw)) (plainElem_int Try.underlying3 (q := .i64) (a := val) (WalkArith.wf_i64 hvw))
  unfold Oper.wp
  simp [execOp, ho, hm, hx, hv, hrun, Result.andThen]
  exact h w' r1 r2
end Go.Proofs.Ytnioaaahkhephaa.al
