/-
  What is asked of lists of pairs: the key at a place, the keys about a key, how many are below. Imports nothing of the program.
-/
import Derived.Test.YtdoedcfmhdnbgaaBavX
namespace Go.Proofs.Ytdoedcfmhdnbgaa.bv
set_option linter.unusedVariables false

abbrev Ps := List (Int × Vt)
/-- the pair at a place -/
def atL (l : Ps) (i : Int) : Option (Int × Vt) := if 0 ≤ i then l[i.toNat]? else none
theorem atL_nil (i : Int) : atL [] i = none := by unfold atL; split <;> simp
theorem atL_lo {l r : Ps} {x : Int × Vt} {i : Int} (h : i < (l.length : Int)) : atL (l ++ x :: r) i = atL l i := by
  unfold atL
  by_cases h0 : 0 ≤ i
  · rw [if_pos h0, if_pos h0, List.getElem?_append_left (by omega)]
  · rw [if_neg h0, if_neg h0]
theorem atL_eq {l r : Ps} {x : Int × Vt} {i : Int} (h : i = (l.length : Int)) : atL (l ++ x :: r) i = some x := by
  unfold atL
  subst h
  rw [if_pos (by omega), List.getElem?_append_right (by simp)]
  simp
theorem atL_hi {l r : Ps} {x : Int × Vt} {i : Int} (h : (l.length : Int) < i) : atL (l ++ x :: r) i = atL r (i - ((l.length : Int) + 1)) := by
  unfold atL
  rw [if_pos (by omega), if_pos (by omega), List.getElem?_append_right (by omega)]
  rw [show i.toNat - l.length = (i - ((l.length : Int) + 1)).toNat + 1 from by omega]
  simp
theorem atL_zero {l : Ps} : atL l 0 = l.head? := by cases l <;> rfl

/-- the last pair whose key is not above -/
def flL (l : Ps) (key : Int) : Option (Int × Vt) := (l.filter (fun x => decide (x.1 ≤ key))).getLast?
/-- the first pair whose key is not below -/
def ceL (l : Ps) (key : Int) : Option (Int × Vt) := (l.filter (fun x => decide (key ≤ x.1))).head?
/-- how many are below -/
def rkL (l : Ps) (key : Int) : Nat := (l.filter (fun x => decide (x.1 < key))).length
theorem fl_hi {l r : Ps} {k key : Int} {v : Vt} (h : T.Up (l ++ (k, v) :: r)) (hk : key < k) : flL (l ++ (k, v) :: r) key = flL l key := by
  obtain ⟨_, _, _, h4, _⟩ := T.up_node.1 h
  unfold flL
  rw [List.filter_append, List.filter_cons, if_neg (by simp; omega), (List.filter_eq_nil_iff (l := r)).2 (fun x hx => by have := h4 x hx; simp; omega), List.append_nil]
theorem fl_lo {l r : Ps} {k key : Int} {v : Vt} (hk : k ≤ key) : flL (l ++ (k, v) :: r) key = (flL r key).or (some (k, v)) := by
  unfold flL
  rw [List.filter_append, List.filter_cons, if_pos (by simpa using hk)]
  generalize r.filter _ = q
  generalize l.filter _ = p
  cases e : q.getLast? with
  | none => rw [List.getLast?_eq_none_iff.1 e]; simp
  | some y =>
    rw [List.getLast?_append]
    have : ((k, v) :: q).getLast? = some y := by
      rw [List.getLast?_cons, e]; rfl
    rw [this]; simp
theorem ce_lo {l r : Ps} {k key : Int} {v : Vt} (h : T.Up (l ++ (k, v) :: r)) (hk : k < key) : ceL (l ++ (k, v) :: r) key = ceL r key := by
  obtain ⟨_, _, h3, _, _⟩ := T.up_node.1 h
  unfold ceL
  rw [List.filter_append, List.filter_cons, if_neg (by simp; omega), List.filter_eq_nil_iff.2 (fun x hx => by have := h3 x hx; simp; omega), List.nil_append]
theorem ce_hi {l r : Ps} {k key : Int} {v : Vt} (hk : key ≤ k) : ceL (l ++ (k, v) :: r) key = (ceL l key).or (some (k, v)) := by
  unfold ceL
  rw [List.filter_append, List.filter_cons, if_pos (by simpa using hk), List.head?_append]
  simp
theorem rk_lo {l r : Ps} {k key : Int} {v : Vt} (h : T.Up (l ++ (k, v) :: r)) (hk : k < key) : rkL (l ++ (k, v) :: r) key = l.length + 1 + rkL r key := by
  obtain ⟨_, _, h3, _, _⟩ := T.up_node.1 h
  unfold rkL
  rw [List.filter_append, List.filter_cons, if_pos (by simpa using hk), List.length_append, List.length_cons, List.filter_eq_self.2 (fun x hx => by have := h3 x hx; simp; omega)]
  omega
theorem rk_hi {l r : Ps} {k key : Int} {v : Vt} (h : T.Up (l ++ (k, v) :: r)) (hk : key ≤ k) : rkL (l ++ (k, v) :: r) key = rkL l key := by
  obtain ⟨_, _, _, h4, _⟩ := T.up_node.1 h
  unfold rkL
  rw [List.filter_append, List.filter_cons, if_neg (by simp; omega), (List.filter_eq_nil_iff (l := r)).2 (fun x hx => by have := h4 x hx; simp; omega), List.append_nil]
theorem rk_le (l : Ps) (key : Int) : rkL l key ≤ l.length := List.length_filter_le _ _
end Go.Proofs.Ytdoedcfmhdnbgaa.bv
