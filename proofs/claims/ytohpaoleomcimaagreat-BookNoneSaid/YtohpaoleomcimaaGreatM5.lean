/-
  Several texts in one: BavX BavY BrdX BrdS BokN BavW BavB BavP BavT BavU
-/
import Derived.WalkKit
import Derived.Test.YtohpaoleomcimaaGreatProg
import Derived.Laws.StructEq
import Derived.Deep.DrawnRows
import Derived.Test.YtohpaoleomcimaaGreatM4
/-!   Balanced trees as data: putting, deleting, order, balance, heights. Imports nothing of the program.
-/
namespace Go.Proofs.YtohpaoleomcimaaGreat.bv
set_option linter.unusedVariables false

abbrev Vt := Int × Int
inductive T where
  | nil : T
  | node (l : T) (k : Int) (v : Vt) (r : T) : T
deriving DecidableEq

namespace T
def size : T → Nat
  | nil => 0
  | node l _ _ r => l.size + 1 + r.size
def ht : T → Nat
  | nil => 0
  | node l _ _ r => 1 + max l.ht r.ht
def toL : T → List (Int × Vt)
  | nil => []
  | node l k v r => l.toL ++ (k, v) :: r.toL
def raiseL (l : T) (k : Int) (v : Vt) (r : T) : T :=
  match l with
  | nil => nil
  | node ll lk lv lr =>
    if lr.ht > ll.ht then
      match lr with
      | nil => nil
      | node a mk mv b => node (node ll lk lv a) mk mv (node b k v r)
    else node ll lk lv (node lr k v r)
def raiseR (l : T) (k : Int) (v : Vt) (r : T) : T :=
  match r with
  | nil => nil
  | node rl rk rv rr =>
    if rl.ht > rr.ht then
      match rl with
      | nil => nil
      | node a mk mv b => node (node l k v a) mk mv (node b rk rv rr)
    else node (node l k v rl) rk rv rr
def bal (l : T) (k : Int) (v : Vt) (r : T) : T :=
  if l.ht > r.ht + 1 then raiseL l k v r else if r.ht > l.ht + 1 then raiseR l k v r else node l k v r
def ins (k : Int) (v : Vt) : T → T
  | nil => node nil k v nil
  | node l k' v' r => if k < k' then bal (ins k v l) k' v' r else if k' < k then bal l k' v' (ins k v r) else node l k v r
def first : T → Int × Vt
  | nil => (0, (0, 0))
  | node nil k v _ => (k, v)
  | node l _ _ _ => l.first
def del (k : Int) : T → T
  | nil => nil
  | node l k' v' r => if k < k' then bal (del k l) k' v' r else if k' < k then bal l k' v' (del k r) else
      if r = nil then l else bal l r.first.1 r.first.2 (del r.first.1 r)

theorem size_toL (t : T) : t.toL.length = t.size := by
  induction t with
  | nil => rfl
  | node l k v r ihl ihr => simp [toL, size, ihl, ihr]; omega
theorem ht_le (t : T) : t.ht ≤ t.size := by
  induction t with
  | nil => exact Nat.le_refl _
  | node l k v r ihl ihr => simp only [ht, size]; omega
theorem size_zero {t : T} : t.size = 0 ↔ t = nil := by cases t <;> simp [size]
theorem ht_zero {t : T} : t.ht = 0 ↔ t = nil := by
  cases t with
  | nil => simp [ht]
  | node => simp [ht]

theorem raiseL_toL (l : T) (k : Int) (v : Vt) (r : T) (h : l ≠ nil) : (raiseL l k v r).toL = l.toL ++ (k, v) :: r.toL := by
  cases l with
  | nil => exact absurd rfl h
  | node ll lk lv lr =>
    unfold raiseL
    by_cases hh : lr.ht > ll.ht
    · simp only [if_pos hh]
      cases lr with
      | nil => simp [ht] at hh
      | node a mk mv b => simp [toL]
    · simp [if_neg hh, toL]
theorem raiseR_toL (l : T) (k : Int) (v : Vt) (r : T) (h : r ≠ nil) : (raiseR l k v r).toL = l.toL ++ (k, v) :: r.toL := by
  cases r with
  | nil => exact absurd rfl h
  | node rl rk rv rr =>
    unfold raiseR
    by_cases hh : rl.ht > rr.ht
    · simp only [if_pos hh]
      cases rl with
      | nil => simp [ht] at hh
      | node a mk mv b => simp [toL]
    · simp [if_neg hh, toL]
theorem bal_toL (l : T) (k : Int) (v : Vt) (r : T) : (bal l k v r).toL = l.toL ++ (k, v) :: r.toL := by
  unfold bal
  by_cases h1 : l.ht > r.ht + 1
  · rw [if_pos h1]; exact raiseL_toL l k v r (fun e => by subst e; simp [ht] at h1)
  · rw [if_neg h1]
    by_cases h2 : r.ht > l.ht + 1
    · rw [if_pos h2]; exact raiseR_toL l k v r (fun e => by subst e; simp [ht] at h2)
    · rw [if_neg h2]; rfl
theorem bal_size (l : T) (k : Int) (v : Vt) (r : T) : (bal l k v r).size = l.size + 1 + r.size := by
  rw [← size_toL, bal_toL, List.length_append, List.length_cons, size_toL, size_toL]; omega
theorem ins_size (k : Int) (v : Vt) (t : T) : (ins k v t).size = t.size ∨ (ins k v t).size = t.size + 1 := by
  induction t with
  | nil => right; rfl
  | node l k' v' r ihl ihr =>
    simp only [ins]
    by_cases h1 : k < k'
    · rw [if_pos h1, bal_size]; simp only [size]; omega
    · rw [if_neg h1]
      by_cases h2 : k' < k
      · rw [if_pos h2, bal_size]; simp only [size]; omega
      · rw [if_neg h2]; exact .inl rfl
theorem del_size (k : Int) (t : T) : (del k t).size = t.size ∨ (del k t).size + 1 = t.size := by
  induction t generalizing k with
  | nil => left; rfl
  | node l k' v' r ihl ihr =>
    simp only [del]
    have hl := ihl k
    have hr := ihr k
    have hr2 := ihr r.first.1
    by_cases h1 : k < k'
    · rw [if_pos h1, bal_size]; simp only [size]; omega
    · rw [if_neg h1]
      by_cases h2 : k' < k
      · rw [if_pos h2, bal_size]; simp only [size]; omega
      · rw [if_neg h2]
        by_cases h3 : r = nil
        · rw [if_pos h3]; subst h3; exact .inr rfl
        · rw [if_neg h3, bal_size]; simp only [size]; omega

/-! ### Order -/
/-- keys rise -/
def Up (l : List (Int × Vt)) : Prop := l.Pairwise (fun a b => a.1 < b.1)
theorem up_node {l r : List (Int × Vt)} {k : Int} {v : Vt} : Up (l ++ (k, v) :: r) ↔ Up l ∧ Up r ∧ (∀ x ∈ l, x.1 < k) ∧ (∀ x ∈ r, k < x.1) ∧ (∀ x ∈ l, ∀ y ∈ r, x.1 < y.1) := by
  unfold Up
  rw [List.pairwise_append, List.pairwise_cons]
  constructor
  · rintro ⟨a, ⟨b, c⟩, d⟩
    exact ⟨a, c, fun x hx => d x hx _ (List.mem_cons_self ..), b, fun x hx y hy => d x hx y (List.mem_cons_of_mem _ hy)⟩
  · rintro ⟨a, b, c, d, e⟩
    refine ⟨a, ⟨d, b⟩, fun x hx y hy => ?_⟩
    rcases List.mem_cons.1 hy with rfl | hy
    · exact c x hx
    · exact e x hx y hy
/-- the list with a key's value -/
def putL (k : Int) (v : Vt) (l : List (Int × Vt)) : List (Int × Vt) := l.filter (fun x => x.1 < k) ++ (k, v) :: l.filter (fun x => k < x.1)
def delL (k : Int) (l : List (Int × Vt)) : List (Int × Vt) := l.filter (fun x => x.1 < k) ++ l.filter (fun x => k < x.1)
theorem lo_all {l : List (Int × Vt)} {k : Int} (h : ∀ x ∈ l, x.1 < k) : l.filter (fun x => x.1 < k) = l ∧ l.filter (fun x => k < x.1) = [] :=
  ⟨List.filter_eq_self.2 (fun x hx => by simpa using h x hx), List.filter_eq_nil_iff.2 (fun x hx => by have := h x hx; simp; omega)⟩
theorem hi_all {l : List (Int × Vt)} {k : Int} (h : ∀ x ∈ l, k < x.1) : l.filter (fun x => x.1 < k) = [] ∧ l.filter (fun x => k < x.1) = l :=
  ⟨List.filter_eq_nil_iff.2 (fun x hx => by have := h x hx; simp; omega), List.filter_eq_self.2 (fun x hx => by simpa using h x hx)⟩
theorem ins_toL (k : Int) (v : Vt) (t : T) (h : Up t.toL) : (ins k v t).toL = putL k v t.toL := by
  induction t with
  | nil => rfl
  | node l k' v' r ihl ihr =>
    obtain ⟨hl, hr, hlk, hrk, _⟩ := up_node.1 h
    simp only [ins]
    by_cases h1 : k < k'
    · rw [if_pos h1, bal_toL, ihl hl]
      obtain ⟨e1, e2⟩ := hi_all (l := r.toL) (k := k) (fun x hx => by have := hrk x hx; omega)
      simp only [putL, toL, List.filter_append, List.filter_cons, e1, e2]
      rw [if_neg (by simp; omega), if_pos (by simpa using h1)]
      simp
    · rw [if_neg h1]
      by_cases h2 : k' < k
      · rw [if_pos h2, bal_toL, ihr hr]
        obtain ⟨e1, e2⟩ := lo_all (l := l.toL) (k := k) (fun x hx => by have := hlk x hx; omega)
        simp only [putL, toL, List.filter_append, List.filter_cons, e1, e2]
        rw [if_pos (by simpa using h2), if_neg (by simp; omega)]
        simp
      · rw [if_neg h2]
        obtain rfl : k = k' := by omega
        obtain ⟨e1, e2⟩ := lo_all hlk
        obtain ⟨f1, f2⟩ := hi_all hrk
        simp only [putL, toL, List.filter_append, List.filter_cons, e1, e2, f1, f2]
        simp
theorem first_toL (t : T) (h : t ≠ nil) : t.toL.head? = some t.first := by
  induction t with
  | nil => exact absurd rfl h
  | node l k v r ihl ihr =>
    cases l with
    | nil => rfl
    | node ll lk lv lr =>
      have := ihl (by simp)
      show ((node ll lk lv lr).toL ++ _).head? = _
      rw [List.head?_append, this]
      rfl
theorem first_cons (t : T) (h : t ≠ nil) : ∃ r, t.toL = t.first :: r := by
  have := first_toL t h
  cases e : t.toL with
  | nil => rw [e] at this; cases this
  | cons x r => rw [e] at this; cases this; exact ⟨r, rfl⟩
theorem del_toL (k : Int) (t : T) (h : Up t.toL) : (del k t).toL = delL k t.toL := by
  induction t generalizing k with
  | nil => rfl
  | node l k' v' r ihl ihr =>
    obtain ⟨hl, hr, hlk, hrk, _⟩ := up_node.1 h
    simp only [del]
    by_cases h1 : k < k'
    · rw [if_pos h1, bal_toL, ihl k hl]
      obtain ⟨e1, e2⟩ := hi_all (l := r.toL) (k := k) (fun x hx => by have := hrk x hx; omega)
      simp only [delL, toL, List.filter_append, List.filter_cons, e1, e2]
      rw [if_neg (by simp; omega), if_pos (by simpa using h1)]
      simp
    · rw [if_neg h1]
      by_cases h2 : k' < k
      · rw [if_pos h2, bal_toL, ihr k hr]
        obtain ⟨e1, e2⟩ := lo_all (l := l.toL) (k := k) (fun x hx => by have := hlk x hx; omega)
        simp only [delL, toL, List.filter_append, List.filter_cons, e1, e2]
        rw [if_pos (by simpa using h2), if_neg (by simp; omega)]
        simp
      · rw [if_neg h2]
        obtain rfl : k = k' := by omega
        obtain ⟨e1, e2⟩ := lo_all hlk
        obtain ⟨f1, f2⟩ := hi_all hrk
        have hd : delL k (node l k v' r).toL = l.toL ++ r.toL := by
          simp only [delL, toL, List.filter_append, List.filter_cons, e1, e2, f1, f2]
          simp
        rw [hd]
        by_cases h3 : r = nil
        · rw [if_pos h3]; subst h3; simp [toL]
        · rw [if_neg h3, bal_toL, ihr _ hr]
          obtain ⟨q, hq⟩ := first_cons r h3
          rw [hq] at hr ⊢
          have hq2 := List.pairwise_cons.1 hr
          obtain ⟨g1, g2⟩ := hi_all (l := q) (k := r.first.1) hq2.1
          simp only [delL, List.filter_cons, g1, g2]
          simp
theorem putL_up {k : Int} {v : Vt} {l : List (Int × Vt)} (h : Up l) : Up (putL k v l) := by
  refine up_node.2 ⟨List.Pairwise.filter _ h, List.Pairwise.filter _ h, fun x hx => by simpa using (List.mem_filter.1 hx).2, fun x hx => by simpa using (List.mem_filter.1 hx).2, fun x hx y hy => ?_⟩
  have a : x.1 < k := by simpa using (List.mem_filter.1 hx).2
  have b : k < y.1 := by simpa using (List.mem_filter.1 hy).2
  omega
theorem delL_up {k : Int} {l : List (Int × Vt)} (h : Up l) : Up (delL k l) := by
  have := putL_up (k := k) (v := (0, 0)) h
  obtain ⟨a, b, c, d, e⟩ := up_node.1 this
  unfold delL Up
  rw [List.pairwise_append]
  exact ⟨a, b, e⟩

/-! ### Balance -/
def Bal : T → Prop
  | nil => True
  | node l _ _ r => Bal l ∧ Bal r ∧ l.ht ≤ r.ht + 1 ∧ r.ht ≤ l.ht + 1
theorem bal_Bal {l r : T} (k : Int) (v : Vt) (hl : Bal l) (hr : Bal r) (h1 : l.ht ≤ r.ht + 2) (h2 : r.ht ≤ l.ht + 2) :
    Bal (bal l k v r) ∧ max l.ht r.ht ≤ (bal l k v r).ht ∧ (bal l k v r).ht ≤ 1 + max l.ht r.ht ∧ (l.ht ≤ r.ht + 1 → r.ht ≤ l.ht + 1 → (bal l k v r).ht = 1 + max l.ht r.ht) := by
  unfold bal
  by_cases c1 : l.ht > r.ht + 1
  · rw [if_pos c1]
    cases l with
    | nil => simp [ht] at c1
    | node ll lk lv lr =>
      obtain ⟨b1, b2, b3, b4⟩ := hl
      simp only [ht] at *
      unfold raiseL
      by_cases c2 : lr.ht > ll.ht
      · simp only [if_pos c2]
        cases lr with
        | nil => simp [ht] at c2
        | node a mk mv b =>
          obtain ⟨d1, d2, d3, d4⟩ := b2
          simp only [ht, Bal] at *
          refine ⟨⟨⟨b1, d1, ?_, ?_⟩, ⟨d2, hr, ?_, ?_⟩, ?_, ?_⟩, ?_, ?_, ?_⟩ <;> omega
      · simp only [if_neg c2, ht, Bal]
        refine ⟨⟨b1, ⟨b2, hr, ?_, ?_⟩, ?_, ?_⟩, ?_, ?_, ?_⟩ <;> omega
  · rw [if_neg c1]
    by_cases c3 : r.ht > l.ht + 1
    · rw [if_pos c3]
      cases r with
      | nil => simp [ht] at c3
      | node rl rk rv rr =>
        obtain ⟨b1, b2, b3, b4⟩ := hr
        simp only [ht] at *
        unfold raiseR
        by_cases c2 : rl.ht > rr.ht
        · simp only [if_pos c2]
          cases rl with
          | nil => simp [ht] at c2
          | node a mk mv b =>
            obtain ⟨d1, d2, d3, d4⟩ := b1
            simp only [ht, Bal] at *
            refine ⟨⟨⟨hl, d1, ?_, ?_⟩, ⟨d2, b2, ?_, ?_⟩, ?_, ?_⟩, ?_, ?_, ?_⟩ <;> omega
        · simp only [if_neg c2, ht, Bal]
          refine ⟨⟨⟨hl, b1, ?_, ?_⟩, b2, ?_, ?_⟩, ?_, ?_, ?_⟩ <;> omega
    · rw [if_neg c3]
      simp only [ht, Bal]
      refine ⟨⟨hl, hr, ?_, ?_⟩, ?_, ?_, ?_⟩ <;> first | omega | simp
theorem ins_Bal (k : Int) (v : Vt) {t : T} (h : Bal t) : Bal (ins k v t) ∧ t.ht ≤ (ins k v t).ht ∧ (ins k v t).ht ≤ t.ht + 1 := by
  induction t with
  | nil => simp [ins, Bal, ht]
  | node l k' v' r ihl ihr =>
    obtain ⟨b1, b2, b3, b4⟩ := h
    obtain ⟨l1, l2, l3⟩ := ihl b1
    obtain ⟨r1, r2, r3⟩ := ihr b2
    simp only [ins]
    by_cases h1 : k < k'
    · rw [if_pos h1]
      obtain ⟨q1, q2, q3, q4⟩ := bal_Bal (l := ins k v l) (r := r) k' v' l1 b2 (by omega) (by omega)
      refine ⟨q1, ?_, ?_⟩
      · simp only [ht]
        by_cases c : (ins k v l).ht ≤ r.ht + 1
        · rw [q4 c (by omega)]; omega
        · omega
      · simp only [ht]
        omega
    · rw [if_neg h1]
      by_cases h2 : k' < k
      · rw [if_pos h2]
        obtain ⟨q1, q2, q3, q4⟩ := bal_Bal (l := l) (r := ins k v r) k' v' b1 r1 (by omega) (by omega)
        refine ⟨q1, ?_, ?_⟩
        · simp only [ht]
          by_cases c : (ins k v r).ht ≤ l.ht + 1
          · rw [q4 (by omega) c]; omega
          · omega
        · simp only [ht]
          omega
      · rw [if_neg h2]
        simp only [ht]
        exact ⟨⟨b1, b2, b3, b4⟩, by omega, by omega⟩
theorem del_Bal (k : Int) {t : T} (h : Bal t) : Bal (del k t) ∧ (del k t).ht ≤ t.ht ∧ t.ht ≤ (del k t).ht + 1 := by
  induction t generalizing k with
  | nil => simp [del, Bal, ht]
  | node l k' v' r ihl ihr =>
    obtain ⟨b1, b2, b3, b4⟩ := h
    obtain ⟨l1, l2, l3⟩ := ihl k b1
    obtain ⟨r1, r2, r3⟩ := ihr k b2
    simp only [del]
    by_cases h1 : k < k'
    · rw [if_pos h1]
      obtain ⟨q1, q2, q3, q4⟩ := bal_Bal (l := del k l) (r := r) k' v' l1 b2 (by omega) (by omega)
      refine ⟨q1, ?_, ?_⟩
      · simp only [ht]; omega
      · simp only [ht]
        by_cases c : r.ht ≤ (del k l).ht + 1
        · rw [q4 (by omega) c]; omega
        · omega
    · rw [if_neg h1]
      by_cases h2 : k' < k
      · rw [if_pos h2]
        obtain ⟨q1, q2, q3, q4⟩ := bal_Bal (l := l) (r := del k r) k' v' b1 r1 (by omega) (by omega)
        refine ⟨q1, ?_, ?_⟩
        · simp only [ht]; omega
        · simp only [ht]
          by_cases c : l.ht ≤ (del k r).ht + 1
          · rw [q4 c (by omega)]; omega
          · omega
      · rw [if_neg h2]
        by_cases h3 : r = nil
        · rw [if_pos h3]; subst h3; simp only [ht] at *; exact ⟨b1, by omega, by omega⟩
        · rw [if_neg h3]
          obtain ⟨s1, s2, s3⟩ := ihr r.first.1 b2
          obtain ⟨q1, q2, q3, q4⟩ := bal_Bal (l := l) (r := del r.first.1 r) r.first.1 r.first.2 b1 s1 (by omega) (by omega)
          refine ⟨q1, ?_, ?_⟩
          · simp only [ht]; omega
          · simp only [ht]
            by_cases c : l.ht ≤ (del r.first.1 r).ht + 1
            · rw [q4 c (by omega)]; omega
            · omega
/-- how many keys at least -/
def least : Nat → Nat
  | 0 => 0
  | 1 => 1
  | n + 2 => least n + least (n + 1) + 1
theorem least_step (n : Nat) : least n ≤ least (n + 1) := by
  cases n with
  | zero => exact Nat.zero_le _
  | succ n => show _ ≤ least n + least (n + 1) + 1; omega
theorem least_mono {a b : Nat} (h : a ≤ b) : least a ≤ least b := by
  induction h with
  | refl => exact Nat.le_refl _
  | step _ ih => exact Nat.le_trans ih (least_step _)
theorem least_le {t : T} (h : Bal t) : least t.ht ≤ t.size := by
  induction t with
  | nil => exact Nat.le_refl _
  | node l k v r ihl ihr =>
    obtain ⟨b1, b2, b3, b4⟩ := h
    have hl := ihl b1
    have hr := ihr b2
    simp only [ht, size]
    by_cases c : l.ht ≤ r.ht
    · rw [Nat.max_eq_right c]
      cases e : r.ht with
      | zero => show 1 ≤ _; omega
      | succ n =>
        rw [Nat.add_comm 1]
        show least n + least (n + 1) + 1 ≤ _
        have := least_mono (a := n) (b := l.ht) (by omega)
        rw [e] at hr
        omega
    · rw [Nat.max_eq_left (by omega)]
      cases e : l.ht with
      | zero => show 1 ≤ _; omega
      | succ n =>
        rw [Nat.add_comm 1]
        show least n + least (n + 1) + 1 ≤ _
        have := least_mono (a := n) (b := r.ht) (by omega)
        rw [e] at hl
        omega
theorem least_17 : least 17 = 4180 := by decide
theorem ht_bd {t : T} (h : Bal t) (hs : t.size ≤ 4000) : t.ht ≤ 16 := by
  have := least_le h
  by_cases c : t.ht ≤ 16
  · exact c
  · have := least_mono (a := 17) (b := t.ht) (by omega)
    rw [least_17] at this
    omega
end T
end Go.Proofs.YtohpaoleomcimaaGreat.bv
/-!   What is asked of lists of pairs: the key at a place, the keys about a key, how many are below. Imports nothing of the program.
-/
namespace Go.Proofs.YtohpaoleomcimaaGreat.bv
set_option linter.unusedVariables false

abbrev Ps := List (Int × Vt)
/-- the pair at a place -/
def atL (l : Ps) (i : Int) : Option (Int × Vt) := if 0 ≤ i then l[i.toNat]? else none
theorem atL_nil (i : Int) : atL [] i = none := by unfold atL; split <;> simp
theorem atL_lo {l r : Ps} {x : Int × Vt} {i : Int} (h : i < (l.length : Int)) : atL (l ++ x :: r) i = atL l i := by
  unfold atL
  by_cases h0 : 0 ≤ i
  · rw [if_pos h0, if_pos h0, List.getElem?_append_left (by omega)]
  · rw [if_neg h0, if_neg h0]
theorem atL_eq {l r : Ps} {x : Int × Vt} {i : Int} (h : i = (l.length : Int)) : atL (l ++ x :: r) i = some x := by
  unfold atL
  subst h
  rw [if_pos (by omega), List.getElem?_append_right (by simp)]
  simp
theorem atL_hi {l r : Ps} {x : Int × Vt} {i : Int} (h : (l.length : Int) < i) : atL (l ++ x :: r) i = atL r (i - ((l.length : Int) + 1)) := by
  unfold atL
  rw [if_pos (by omega), if_pos (by omega), List.getElem?_append_right (by omega)]
  rw [show i.toNat - l.length = (i - ((l.length : Int) + 1)).toNat + 1 from by omega]
  simp
theorem atL_zero {l : Ps} : atL l 0 = l.head? := by cases l <;> rfl

/-- the last pair whose key is not above -/
def flL (l : Ps) (key : Int) : Option (Int × Vt) := (l.filter (fun x => decide (x.1 ≤ key))).getLast?
/-- the first pair whose key is not below -/
def ceL (l : Ps) (key : Int) : Option (Int × Vt) := (l.filter (fun x => decide (key ≤ x.1))).head?
/-- how many are below -/
def rkL (l : Ps) (key : Int) : Nat := (l.filter (fun x => decide (x.1 < key))).length
theorem fl_hi {l r : Ps} {k key : Int} {v : Vt} (h : T.Up (l ++ (k, v) :: r)) (hk : key < k) : flL (l ++ (k, v) :: r) key = flL l key := by
  obtain ⟨_, _, _, h4, _⟩ := T.up_node.1 h
  unfold flL
  rw [List.filter_append, List.filter_cons, if_neg (by simp; omega), (List.filter_eq_nil_iff (l := r)).2 (fun x hx => by have := h4 x hx; simp; omega), List.append_nil]
theorem fl_lo {l r : Ps} {k key : Int} {v : Vt} (hk : k ≤ key) : flL (l ++ (k, v) :: r) key = (flL r key).or (some (k, v)) := by
  unfold flL
  rw [List.filter_append, List.filter_cons, if_pos (by simpa using hk)]
  generalize r.filter _ = q
  generalize l.filter _ = p
  cases e : q.getLast? with
  | none => rw [List.getLast?_eq_none_iff.1 e]; simp
  | some y =>
    rw [List.getLast?_append]
    have : ((k, v) :: q).getLast? = some y := by
      rw [List.getLast?_cons, e]; rfl
    rw [this]; simp
theorem ce_lo {l r : Ps} {k key : Int} {v : Vt} (h : T.Up (l ++ (k, v) :: r)) (hk : k < key) : ceL (l ++ (k, v) :: r) key = ceL r key := by
  obtain ⟨_, _, h3, _, _⟩ := T.up_node.1 h
  unfold ceL
  rw [List.filter_append, List.filter_cons, if_neg (by simp; omega), List.filter_eq_nil_iff.2 (fun x hx => by have := h3 x hx; simp; omega), List.nil_append]
theorem ce_hi {l r : Ps} {k key : Int} {v : Vt} (hk : key ≤ k) : ceL (l ++ (k, v) :: r) key = (ceL l key).or (some (k, v)) := by
  unfold ceL
  rw [List.filter_append, List.filter_cons, if_pos (by simpa using hk), List.head?_append]
  simp
theorem rk_lo {l r : Ps} {k key : Int} {v : Vt} (h : T.Up (l ++ (k, v) :: r)) (hk : k < key) : rkL (l ++ (k, v) :: r) key = l.length + 1 + rkL r key := by
  obtain ⟨_, _, h3, _, _⟩ := T.up_node.1 h
  unfold rkL
  rw [List.filter_append, List.filter_cons, if_pos (by simpa using hk), List.length_append, List.length_cons, List.filter_eq_self.2 (fun x hx => by have := h3 x hx; simp; omega)]
  omega
theorem rk_hi {l r : Ps} {k key : Int} {v : Vt} (h : T.Up (l ++ (k, v) :: r)) (hk : key ≤ k) : rkL (l ++ (k, v) :: r) key = rkL l key := by
  obtain ⟨_, _, _, h4, _⟩ := T.up_node.1 h
  unfold rkL
  rw [List.filter_append, List.filter_cons, if_neg (by simp; omega), (List.filter_eq_nil_iff (l := r)).2 (fun x hx => by have := h4 x hx; simp; omega), List.append_nil]
theorem rk_le (l : Ps) (key : Int) : rkL l key ≤ l.length := List.length_filter_le _ _
end Go.Proofs.YtohpaoleomcimaaGreat.bv
/-!   Package board: what stands in its tree, as lists.
-/
namespace Go.Proofs.YtohpaoleomcimaaGreat.bd
open Go.RowKit aid sp rn bv
set_option linter.unusedVariables false
set_option linter.unusedSimpArgs false

/-- a span under its key -/
abbrev ky (x : Sp) : Int × Vt := (x.1, x)
theorem Rn.apart : ∀ {l : List Sp}, Rn l → ∀ x ∈ l, ∀ y ∈ l, x.1 < y.1 → x.2 < y.1 := by
  intro l
  induction l with
  | nil => intro _ x hx; simp at hx
  | cons a l ih =>
    intro h x hx y hy hlt
    have ha := h.head
    rcases List.mem_cons.1 hx with e1 | x1
    · rcases List.mem_cons.1 hy with e2 | y1
      · subst e1; subst e2; omega
      · subst e1; exact h.lt y1
    · rcases List.mem_cons.1 hy with e2 | y1
      · subst e2; have := h.lt x1; have := ha.2.1; omega
      · exact ih h.tail x x1 y y1 hlt
theorem up_ky : ∀ {l : List Sp}, Rn l → T.Up (l.map ky) := by
  intro l h
  refine List.pairwise_map.2 ?_
  refine h.up.imp_of_mem (fun {a b} ha hb hab => ?_)
  have := (h.ok a ha).2.1
  show a.1 < b.1
  omega
/-- a row that rises, cut at a key -/
theorem cut_key : ∀ {l : List Sp} (f : Int), Rn l → l = l.filter (fun x => decide (x.1 < f)) ++ l.filter (fun x => decide (f ≤ x.1)) := by
  intro l f
  induction l with
  | nil => intro _; rfl
  | cons x l ih =>
    intro h
    by_cases c : x.1 < f
    · rw [List.filter_cons_of_pos (by simpa using c), List.filter_cons_of_neg (by simpa using c), List.cons_append, ← ih h.tail]
    · rw [List.filter_cons_of_neg (by simpa using c), List.filter_cons_of_pos (by simp; omega)]
      have hx := h.head
      have h1 : l.filter (fun x => decide (x.1 < f)) = [] := List.filter_eq_nil_iff.2 (fun y hy => by have := h.lt hy; have := hx.2.1; simp; omega)
      have h2 : l.filter (fun x => decide (f ≤ x.1)) = l := List.filter_eq_self.2 (fun y hy => by have := h.lt hy; have := hx.2.1; simp; omega)
      rw [h1, h2]
      rfl
/-- from where a rise begins -/
def firstK (l : List Sp) (o : Int) : Int := ((flL (l.map ky) o).map (fun x => x.1)).getD o
def riseL (l : List Sp) (o : Int) : List Sp := l.filter (fun x => decide (firstK l o ≤ x.1))
theorem rise_kv (l : List Sp) (k : Int) : (l.map ky).filter (fun x => decide (k ≤ x.1)) = (l.filter (fun x => decide (k ≤ x.1))).map ky := by
  rw [List.filter_map]; rfl
theorem rise_spec {l : List Sp} (h : Rn l) (o : Int) : ∃ P, l = P ++ riseL l o ∧ ∀ x ∈ P, x.2 < o := by
  refine ⟨l.filter (fun x => decide (x.1 < firstK l o)), cut_key _ h, fun x hx => ?_⟩
  obtain ⟨hxl, hx1⟩ := List.mem_filter.1 hx
  have hx2 : x.1 < firstK l o := by simpa using hx1
  cases hf : flL (l.map ky) o with
  | none =>
    have e : firstK l o = o := by unfold firstK; rw [hf]; rfl
    rw [e] at hx2
    unfold flL at hf
    have := (List.filter_eq_nil_iff (l := l.map ky)).1 (List.getLast?_eq_none_iff.1 hf) (ky x) (List.mem_map.2 ⟨x, hxl, rfl⟩)
    simp at this
    omega
  | some p =>
    have e : firstK l o = p.1 := by unfold firstK; rw [hf]; rfl
    rw [e] at hx2
    unfold flL at hf
    have hm := List.mem_of_getLast? hf
    obtain ⟨m1, m2⟩ := List.mem_filter.1 hm
    obtain ⟨y, hy, rfl⟩ := List.mem_map.1 m1
    have := Rn.apart h x hxl y hy hx2
    have : y.1 ≤ o := by simpa using m2
    omega

/-! ### parts -/
theorem meet_out {x s : Sp} (hx : ROk x) (h : x.2 ≤ s.1 ∨ s.2 ≤ x.1) : lenI (meetP x s) = 0 := by
  by_cases c : lenI s = 0
  · exact meet_none hx c
  · have hs := len_pos_ok c
    rw [meet_len hx.ok hs.ok, if_neg (by have := hx.2.1; have := hs.2.1; omega)]
theorem parts_out {l : List Sp} {s : Sp} (hl : ∀ x ∈ l, ROk x) (h : ∀ x ∈ l, x.2 ≤ s.1 ∨ s.2 ≤ x.1) : partsL l s = [] := by
  unfold partsL
  refine List.flatMap_eq_nil_iff.2 (fun x hx => ?_)
  unfold ne
  rw [if_pos (meet_out (hl x hx) (h x hx))]
/-- the parts of what a rise tells -/
theorem parts_rise {l : List Sp} (h : Rn l) (s : Sp) : partsL (riseL l s.1) s = partsL l s := by
  obtain ⟨P, e, hP⟩ := rise_spec h s.1
  have h' := h
  rw [e] at h'
  have : partsL l s = partsL P s ++ partsL (riseL l s.1) s := by rw [← parts_append, ← e]
  rw [this, parts_out h'.left.ok (fun x hx => .inl (by have := hP x hx; omega)), List.nil_append]
theorem rise_rn {l : List Sp} (h : Rn l) (o : Int) : Rn (riseL l o) := by
  obtain ⟨P, e, hP⟩ := rise_spec h o
  rw [e] at h
  exact h.right
theorem parts_stop {R pre rest : List Sp} {x s : Sp} (h : Rn R) (e : R = pre ++ x :: rest) (hx : s.2 ≤ x.1) : partsL R s = partsL pre s := by
  subst e
  rw [parts_append, parts_out h.right.ok (fun y hy => by
    rcases List.mem_cons.1 hy with rfl | hy
    · exact .inr hx
    · have := h.right.lt hy; have := h.right.head.2.1; exact .inr (by omega)), List.append_nil]
theorem parts_snoc (pre : List Sp) (x s : Sp) : partsL (pre ++ [x]) s = partsL pre s ++ ne (meetP x s) := by rw [parts_append]; unfold partsL; simp
theorem parts_pre {R pre : List Sp} {x s : Sp} (h : pre ++ [x] <+: R) : partsL pre s ++ ne (meetP x s) <+: partsL R s := by
  obtain ⟨t, rfl⟩ := h
  rw [← parts_snoc, parts_append (pre ++ [x]) t]
  exact List.prefix_append _ _
theorem of_prefix {R pre : List Sp} {x : Sp} (h : pre ++ [x] <+: R) : ∃ rest, R = pre ++ x :: rest := by
  obtain ⟨t, rfl⟩ := h
  exact ⟨t, by simp⟩
theorem parts_in {l : List Sp} {s : Sp} (h : Rn l) (hs : Ok s) (hi : ∀ x ∈ l, s.1 ≤ x.1 ∧ x.2 ≤ s.2) : partsL l s = l := by
  obtain ⟨h1, h2, _⟩ := parts_spec s h
  refine Rn.ext h1 h (fun o => ?_)
  rw [h2, fit_of hs]
  refine ⟨fun q => q.1, fun q => ⟨q, ?_⟩⟩
  obtain ⟨x, hx, a, b⟩ := q
  have := hi x hx
  omega

/-! ### near -/
def nearL (l : List Sp) (s : Sp) : List Sp := l.filter (fun x => touchB x s)
theorem near_append (l r : List Sp) (s : Sp) : nearL (l ++ r) s = nearL l s ++ nearL r s := List.filter_append ..
theorem near_snoc (l : List Sp) (x s : Sp) : nearL (l ++ [x]) s = nearL l s ++ (if touchB x s = true then [x] else []) := by
  rw [near_append]; unfold nearL; simp only [List.filter_cons, List.filter_nil]
theorem near_out {l : List Sp} {s : Sp} (hl : ∀ x ∈ l, ROk x) (hs : ROk s) (h : ∀ x ∈ l, x.2 < s.1 ∨ s.2 < x.1) : nearL l s = [] := by
  refine List.filter_eq_nil_iff.2 (fun x hx => ?_)
  rw [touch_rok (hl x hx) hs]
  have := h x hx
  simp
  omega
theorem near_rise {l : List Sp} {s : Sp} (h : Rn l) (hs : ROk s) : nearL (riseL l s.1) s = nearL l s := by
  obtain ⟨P, e, hP⟩ := rise_spec h s.1
  have h' := h
  rw [e] at h'
  have : nearL l s = nearL P s ++ nearL (riseL l s.1) s := by rw [← near_append, ← e]
  rw [this, near_out h'.left.ok hs (fun x hx => .inl (hP x hx)), List.nil_append]
theorem near_stop {R pre rest : List Sp} {x s : Sp} (h : Rn R) (hs : ROk s) (e : R = pre ++ x :: rest) (hx : s.2 < x.1) : nearL R s = nearL pre s := by
  subst e
  rw [near_append, near_out h.right.ok hs (fun y hy => by
    rcases List.mem_cons.1 hy with rfl | hy
    · exact .inr hx
    · have := h.right.lt hy; have := h.right.head.2.1; exact .inr (by omega)), List.append_nil]
theorem near_cut {l A B D : List Sp} {s : Sp} (h : Rn l) (hs : ROk s) (hc : Cut3 l s A B D) : nearL l s = B := by
  have he := hc.eq
  have hl := h
  rw [he] at hl
  rw [he, near_append, near_append, near_out hl.left.left.ok hs (fun x hx => .inl (hc.a x hx)), near_out hl.right.ok hs (fun x hx => .inr (hc.d x hx)), List.append_nil, List.nil_append]
  refine List.filter_eq_self.2 (fun x hx => ?_)
  rw [touch_rok (hl.left.right.ok x hx) hs]
  have := hc.b x hx
  simp
  omega
/-! ### the tree -/
theorem del_ky {P Q : List Sp} {x : Sp} (h : Rn (P ++ x :: Q)) : T.delL x.1 ((P ++ x :: Q).map ky) = (P ++ Q).map ky := by
  have hp : ∀ y ∈ P, y.1 < x.1 := fun y hy => by
    have h1 := (List.pairwise_append.1 h.up).2.2 y hy x (by simp)
    have := (h.left.ok y hy).2.1
    omega
  have hq : ∀ y ∈ Q, x.1 < y.1 := fun y hy => by
    have := h.right.lt hy
    have := h.right.head.2.1
    omega
  unfold T.delL
  rw [List.filter_map, List.filter_map, ← List.map_append]
  congr 1
  rw [List.filter_append, List.filter_append]
  show (P.filter (fun y => decide (y.1 < x.1)) ++ (x :: Q).filter (fun y => decide (y.1 < x.1))) ++ (P.filter (fun y => decide (x.1 < y.1)) ++ (x :: Q).filter (fun y => decide (x.1 < y.1))) = P ++ Q
  rw [List.filter_eq_self.2 (fun y hy => by simpa using hp y hy), (List.filter_eq_nil_iff (l := x :: Q)).2 (fun y hy => by
    rcases List.mem_cons.1 hy with rfl | hy
    · simp
    · have := hq y hy; simp; omega), (List.filter_eq_nil_iff (l := P)).2 (fun y hy => by have := hp y hy; simp; omega), List.filter_cons_of_neg (by simp), List.filter_eq_self.2 (fun y hy => by simpa using hq y hy)]
  simp
theorem put_ky {P Q : List Sp} {x : Sp} (h : Rn (P ++ x :: Q)) : T.putL x.1 x ((P ++ Q).map ky) = (P ++ x :: Q).map ky := by
  have hp : ∀ y ∈ P, y.1 < x.1 := fun y hy => by
    have h1 := (List.pairwise_append.1 h.up).2.2 y hy x (by simp)
    have := (h.left.ok y hy).2.1
    omega
  have hq : ∀ y ∈ Q, x.1 < y.1 := fun y hy => by
    have := h.right.lt hy
    have := h.right.head.2.1
    omega
  unfold T.putL
  rw [List.filter_map, List.filter_map]
  show ((P ++ Q).filter (fun y => decide (y.1 < x.1))).map ky ++ ky x :: ((P ++ Q).filter (fun y => decide (x.1 < y.1))).map ky = _
  rw [List.filter_append, List.filter_append, (List.filter_eq_self (l := P)).2 (fun y hy => by simpa using hp y hy), (List.filter_eq_nil_iff (l := Q)).2 (fun y hy => by have := hq y hy; simp; omega), (List.filter_eq_nil_iff (l := P)).2 (fun y hy => by have := hp y hy; simp; omega), (List.filter_eq_self (l := Q)).2 (fun y hy => by simpa using hq y hy)]
  simp
theorem Rn.skip {P Q : List Sp} {x : Sp} (h : Rn (P ++ x :: Q)) : Rn (P ++ Q) :=
  ⟨fun y hy => h.ok y (by rcases List.mem_append.1 hy with q | q <;> simp [q]), by
    obtain ⟨a, b, c⟩ := List.pairwise_append.1 h.up
    exact List.pairwise_append.2 ⟨a, (List.pairwise_cons.1 b).2, fun y hy z hz => c y hy z (List.mem_cons_of_mem _ hz)⟩⟩

/-! ### drop -/
def dropL (l : List Sp) (o : Int) : List Sp := l.flatMap (fun x => ne (fromP x o))
theorem drop_cons (x : Sp) (l : List Sp) (o : Int) : dropL (x :: l) o = ne (fromP x o) ++ dropL l o := by unfold dropL; simp
theorem from_self {x : Sp} (hx : ROk x) {o : Int} (h : o ≤ x.1) : fromP x o = x := by
  rw [from_rok hx.ok]
  have := hx.2.1
  unfold betw
  rw [if_neg (by omega)]
  exact Prod.ext (by simp only; omega) rfl
theorem ne_self {x : Sp} (hx : ROk x) : ne x = [x] := by
  unfold ne
  rw [if_neg (by rw [len_rok hx]; have := hx.2.1; omega)]
theorem drop_all {l : List Sp} {o : Int} (hl : ∀ x ∈ l, ROk x) (h : ∀ x ∈ l, o ≤ x.1) : dropL l o = l := by
  induction l with
  | nil => rfl
  | cons x l ih =>
    rw [drop_cons, from_self (hl x (by simp)) (h x (by simp)), ne_self (hl x (by simp)), ih (fun y hy => hl y (List.mem_cons_of_mem _ hy)) (fun y hy => h y (List.mem_cons_of_mem _ hy))]
    rfl
theorem drop_head {x : Sp} {l : List Sp} {o : Int} (h : Rn (x :: l)) (ho : o ≤ x.1) : dropL (x :: l) o = x :: l :=
  drop_all h.ok (fun y hy => by
    rcases List.mem_cons.1 hy with rfl | hy
    · exact ho
    · have := h.lt hy; have := h.head.2.1; omega)
/-- a span that reaches over the offset is cut there -/
theorem drop_over {x : Sp} {l : List Sp} {o : Int} (h : Rn (x :: l)) (ho : x.1 < o) (hr : lenI (fromP x o) ≠ 0) : Rn (fromP x o :: l) ∧ dropL (fromP x o :: l) o = dropL (x :: l) o ∧ fromP x o = (o, x.2) := by
  have hx := h.head
  have e : fromP x o = (o, x.2) := by
    rw [from_rok hx.ok] at hr ⊢
    unfold betw at hr ⊢
    by_cases c : x.2 ≤ max x.1 o
    · rw [if_pos c] at hr; exact absurd rfl hr
    · rw [if_neg c]; exact Prod.ext (by simp only; omega) rfl
  have hk : ROk (fromP x o) := len_pos_ok hr
  refine ⟨⟨fun y hy => ?_, ?_⟩, ?_, e⟩
  · rcases List.mem_cons.1 hy with rfl | hy
    · exact hk
    · exact h.ok y (List.mem_cons_of_mem _ hy)
  · refine List.pairwise_cons.2 ⟨fun y hy => ?_, (List.pairwise_cons.1 h.up).2⟩
    have := h.lt hy
    rw [e]
    exact this
  · rw [drop_cons, drop_cons, from_self hk (by rw [e]; exact Int.le_refl _)]
theorem drop_gone {x : Sp} {l : List Sp} {o : Int} (hr : lenI (fromP x o) = 0) : dropL (x :: l) o = dropL l o := by
  rw [drop_cons]; unfold ne; rw [if_pos hr]; rfl
theorem drop_eq {l : List Sp} {u o : Int} (hl : ∀ x ∈ l, ROk x) (h : ∀ x ∈ l, u ≤ x.1) (h0 : 0 ≤ u) (h1 : u ≤ o) (h2 : o ≤ 4611686018427387904) : dropL l o = refWo l (u, o) := by
  unfold refWo
  have hk : Ok (u, o) := ⟨h0, h1, h2⟩
  rw [len_ok hk]
  by_cases c : o - u = 0
  · rw [if_pos c]
    exact drop_all hl (fun x hx => by have := h x hx; omega)
  · rw [if_neg c]
    have key : ∀ m : List Sp, (∀ x ∈ m, ROk x) → (∀ x ∈ m, u ≤ x.1) → dropL m o = woL m (u, o) := by
      intro m
      induction m with
      | nil => intro _ _; rfl
      | cons x m ih =>
        intro h1 h2
        rw [drop_cons, wo_cons, ih (fun y hy => h1 y (List.mem_cons_of_mem _ hy)) (fun y hy => h2 y (List.mem_cons_of_mem _ hy))]
        have hx := h1 x (by simp)
        have hu := h2 x (by simp)
        have : ne (belowP x u) = [] := by
          rw [below_rok hx.ok]
          unfold betw
          rw [if_pos (by omega)]
          rfl
        rw [this]
        rfl
    exact key l hl h
end Go.Proofs.YtohpaoleomcimaaGreat.bd
/-!   Package board: a board as numbers and a list.
-/
namespace Go.Proofs.YtohpaoleomcimaaGreat.bd
open Go.RowKit aid sp rn bv
set_option linter.unusedVariables false
set_option linter.unusedSimpArgs false

structure Bs where
  una : Int
  nxt : Int
  l : List Sp
structure BOk (s : Bs) : Prop where
  lo : 0 ≤ s.una
  le : s.una ≤ s.nxt
  hi : s.nxt ≤ 4611686018427387904
  buf : s.nxt - s.una ≤ 65536
  rn : Rn s.l
  ins : ∀ x ∈ s.l, s.una ≤ x.1 ∧ x.2 ≤ s.nxt
  len : s.l.length ≤ 4096
abbrev Bs.zero : Bs := ⟨0, 0, []⟩
theorem bok_zero : BOk Bs.zero := ⟨Int.le_refl _, Int.le_refl _, by decide, by decide, Rn.nil, fun x hx => by simp at hx, by simp⟩
def newS (u : Int) : Bs := ⟨u, u, []⟩
theorem bok_new {u : Int} (h0 : 0 ≤ u) (h1 : u ≤ 4611686018427387904) : BOk (newS u) := ⟨h0, Int.le_refl _, h1, by simp [newS], Rn.nil, fun x hx => by simp [newS] at hx, by simp [newS]⟩
theorem rn_in_bd {l : List Sp} {a c : Int} (h : Rn l) (hi : ∀ o, In l o → a ≤ o ∧ o < c) : ∀ y ∈ l, a ≤ y.1 ∧ y.2 ≤ c := fun y hy => by
  obtain ⟨k1, k2, k3⟩ := h.ok y hy
  have h1 := hi y.1 ⟨y, hy, Int.le_refl _, k2⟩
  have h2 := hi (y.2 - 1) ⟨y, hy, by omega, by omega⟩
  omega
theorem in_bd {l : List Sp} {a c : Int} (hi : ∀ y ∈ l, a ≤ y.1 ∧ y.2 ≤ c) : ∀ o, In l o → a ≤ o ∧ o < c := fun o ⟨y, hy, h1, h2⟩ => by
  have := hi y hy
  omega
theorem BOk.flight {s : Bs} (h : BOk s) : Ok (s.una, s.nxt) := ⟨h.lo, h.le, h.hi⟩
theorem BOk.all {s : Bs} (h : BOk s) : partsL s.l (s.una, s.nxt) = s.l := parts_in h.rn h.flight h.ins
theorem BOk.bytes {s : Bs} (h : BOk s) : withinL s.l (s.una, s.nxt) = bytesL s.l := by
  obtain ⟨_, _, h3, _⟩ := parts_spec (s.una, s.nxt) h.rn
  rw [← h3, h.all]
theorem rn_small : ∀ {l : List Sp} (a c : Int), Rn l → a ≤ c → (∀ y ∈ l, a ≤ y.1 ∧ y.2 ≤ c) → 0 ≤ bytesL l ∧ bytesL l ≤ c - a := by
  intro l
  induction l with
  | nil => intro a c _ h _; rw [bytes_nil]; omega
  | cons x l ih =>
    intro a c h hac hi
    have hx := hi x (by simp)
    have hk := h.head
    have hl := len_rok hk
    have h1 := ih x.2 c h.tail (by have := hk.2.1; omega) (fun y hy => ⟨by have := h.lt hy; omega, (hi y (List.mem_cons_of_mem _ hy)).2⟩)
    rw [bytes_cons]
    have := hk.2.1
    omega

/-! ### Sent, Ack, Sack -/
def sentN (s : Bs) (t : Int) : Int × Bs := if t < s.nxt ∨ 4611686018427387904 < t ∨ 65536 < t - s.una then (3, s) else (0, ⟨s.una, t, s.l⟩)
def ackN (s : Bs) (t : Int) : Int × Int × Bs :=
  if t < s.una then (0, 11, s) else if s.nxt < t then (0, 12, s) else (lenI (s.una, t) - withinL s.l (s.una, t), 0, ⟨t, s.nxt, refWo s.l (s.una, t)⟩)
def sackN (s : Bs) (y : Sp) : Int × Int × Bs :=
  if lenI y = 0 then (0, 3, s) else if s.nxt < y.2 then (0, 12, s) else
    if 4096 < (refWi s.l (fromP y s.una)).length then (0, 4, s) else (bytesL (refWi s.l (fromP y s.una)) - bytesL s.l, 0, ⟨s.una, s.nxt, refWi s.l (fromP y s.una)⟩)
theorem sent_ok {s : Bs} (h : BOk s) (t : Int) : BOk (sentN s t).2 := by
  unfold sentN
  split
  · exact h
  · have := h.le
    exact ⟨h.lo, by simp only; omega, by simp only; omega, by simp only; omega, h.rn, fun x hx => by have := h.ins x hx; simp only; omega, h.len⟩
theorem drop_len : ∀ (l : List Sp) (o : Int), (dropL l o).length ≤ l.length := by
  intro l o
  induction l with
  | nil => exact Nat.le_refl _
  | cons x l ih =>
    rw [drop_cons, List.length_append, List.length_cons]
    have : (ne (fromP x o)).length ≤ 1 := by unfold ne; split <;> simp
    omega
theorem BOk.drop {s : Bs} (h : BOk s) {t : Int} (h1 : s.una ≤ t) (h2 : t ≤ s.nxt) : dropL s.l t = refWo s.l (s.una, t) :=
  drop_eq h.rn.ok (fun x hx => (h.ins x hx).1) h.lo h1 (by have := h.hi; omega)
theorem wo_all {l : List Sp} {s : Sp} (hl : Rn l) (hs : Ok s) : Rn (refWo l s) ∧ ∀ o, In (refWo l s) o ↔ In l o ∧ ¬ (s.1 ≤ o ∧ o < s.2) := by
  unfold refWo
  by_cases c : lenI s = 0
  · rw [if_pos c]
    rw [len_ok hs] at c
    exact ⟨hl, fun o => ⟨fun h => ⟨h, by omega⟩, fun h => h.1⟩⟩
  · rw [if_neg c]
    obtain ⟨a, b, _⟩ := wo_spec hl (rok_of hs c)
    exact ⟨a, b⟩
theorem ack_ok {s : Bs} (h : BOk s) (t : Int) : BOk (ackN s t).2.2 := by
  unfold ackN
  split
  · exact h
  · split
    · exact h
    · rename_i h1 h2
      have hle := h.le; have hhi := h.hi; have hlo := h.lo; have hbf := h.buf
      have hk : Ok (s.una, t) := ⟨h.lo, by simp only; omega, by simp only; omega⟩
      obtain ⟨r1, r2⟩ := wo_all h.rn hk
      have hd := h.drop (t := t) (by omega) (by omega)
      refine ⟨by simp only; omega, by simp only; omega, hhi, by simp only; omega, r1, ?_, ?_⟩
      · refine rn_in_bd r1 (fun o ho => ?_)
        obtain ⟨i1, i2⟩ := (r2 o).1 ho
        have := in_bd h.ins o i1
        simp only at i2 ⊢
        omega
      · show (refWo s.l (s.una, t)).length ≤ 4096
        rw [← hd]
        exact Nat.le_trans (drop_len _ _) h.len
theorem from_ok' (y : Sp) (u : Int) (h : lenI (fromP y u) ≠ 0) : ROk (fromP y u) ∧ u ≤ (fromP y u).1 ∧ (fromP y u).2 ≤ y.2 := by
  have hk := len_pos_ok h
  refine ⟨hk, ?_⟩
  unfold fromP betw at h hk ⊢
  by_cases c : (fitP y.1 y.2).2 ≤ max (fitP y.1 y.2).1 u
  · rw [if_pos c] at h; exact absurd rfl h
  · rw [if_neg c] at hk ⊢
    simp only
    refine ⟨by omega, ?_⟩
    unfold fitP at c ⊢
    by_cases d : mayB y.1 y.2 = true
    · rw [if_pos d]; exact Int.le_refl _
    · rw [if_neg d] at c; simp only at c; omega
theorem sack_ok {s : Bs} (h : BOk s) (y : Sp) : BOk (sackN s y).2.2 := by
  unfold sackN
  split
  · exact h
  · split
    · exact h
    · split
      · exact h
      · rename_i h1 h2 h3
        refine ⟨h.lo, h.le, h.hi, h.buf, ?_, ?_, by simp only; omega⟩
        · by_cases c : lenI (fromP y s.una) = 0
          · show Rn (refWi _ _); unfold refWi; rw [if_pos c]; exact h.rn
          · exact (wi_spec h.rn (len_pos_ok c)).1
        · by_cases c : lenI (fromP y s.una) = 0
          · show ∀ x ∈ refWi _ _, _; unfold refWi; rw [if_pos c]; exact h.ins
          · obtain ⟨k1, k2, k3⟩ := from_ok' y s.una c
            obtain ⟨w1, w2, _⟩ := wi_spec h.rn k1
            refine rn_in_bd w1 (fun o ho => ?_)
            show s.una ≤ o ∧ o < s.nxt
            rcases (w2 o).1 ho with q | q
            · exact in_bd h.ins o q
            · omega
theorem len00 : lenI (0, 0) = 0 := by decide
theorem ne00 : ne (0, 0) = [] := by unfold ne; rw [if_pos len00]
theorem rn_nil_of {l : List Sp} (h : Rn l) (hb : bytesL l = 0) : l = [] := by
  cases l with
  | nil => rfl
  | cons x l =>
    exfalso
    rw [bytes_cons, len_rok h.head] at hb
    have := h.tail.bytes.1
    have := h.head.2.1
    omega
/-- what is in already changes nothing -/
theorem wi_same {l : List Sp} {x : Sp} (h : Rn l) (he : lenI x - withinL l x = 0) : refWi l x = l := by
  by_cases c : lenI x = 0
  · unfold refWi; rw [if_pos c]
  · have hx := len_pos_ok c
    obtain ⟨g1, g2, g3, g4⟩ := gaps_all x h
    rw [he] at g4
    rw [g2] at g1
    have hg := rn_nil_of g1 g4
    obtain ⟨w1, w2, _⟩ := wi_spec h hx
    refine Rn.ext w1 h (fun o => ?_)
    rw [w2]
    refine ⟨fun q => ?_, fun q => .inl q⟩
    rcases q with q | q
    · exact q
    · rcases Classical.em (In l o) with e | e
      · exact e
      · have := (g3 o).2 ⟨by rw [fit_of hx.ok]; exact q, e⟩
        rw [hg] at this
        exact absurd this In.nil
/-- how many are missing -/
def missN (l : List Sp) (x : Sp) : Int := lenI x - withinL l x
theorem wi_miss {l : List Sp} {x : Sp} (h : Rn l) : bytesL (refWi l x) - bytesL l = missN l x := by
  by_cases c : lenI x = 0
  · unfold refWi missN
    rw [if_pos c, c]
    have : withinL l x = 0 := by
      obtain ⟨_, _, h3, _⟩ := parts_spec x h
      rw [← h3, parts_none h.ok c]; rfl
    omega
  · exact (wi_spec h (len_pos_ok c)).2.2
theorem within_lt {l : List Sp} (h : Rn l) (x : Sp) : 0 ≤ withinL l x ∧ withinL l x ≤ lenI x := by
  have h1 := (gaps_all x h).2.2.2
  have h2 := (gaps_all x h).1
  have h3 := (gaps_all x h).2.1
  rw [h3] at h2
  have := h2.bytes.1
  have := (within_le x h.ok).1
  omega
/-! ### High, Holes, Has -/
def highN (s : Bs) : Int := (s.l.getLast?.map (fun x => x.2)).getD s.una
def holesC : List Sp → Int → List Sp
  | [], _ => []
  | x :: l, f => ne (f, x.1) ++ holesC l x.2
theorem holes_eq : ∀ {l : List Sp} {f h : Int}, Rn l → 0 ≤ f → (∀ x ∈ l, f ≤ x.1) → h ≤ 4611686018427387904 → h = (l.getLast?.map (fun x => x.2)).getD f → holesC l f = gapsC l (f, h) := by
  intro l
  induction l with
  | nil =>
    intro f h _ _ _ _ e
    have e : h = f := e
    subst e
    show [] = ne (h, h)
    unfold ne
    rw [if_pos]
    unfold lenI fitP
    split <;> simp
  | cons x l ih =>
    intro f h hr h0 hf h1 e
    have hx := hr.head
    have hfx := hf x (by simp)
    have e2 : h = (l.getLast?.map (fun x => x.2)).getD x.2 := by
      rw [e]
      cases l with
      | nil => rfl
      | cons y r => rw [List.getLast?_cons_cons]; cases hq : (y :: r).getLast? with
        | none => simp at hq
        | some z => rfl
    have hxh : x.2 ≤ h := by
      rw [e2]
      cases hq : l.getLast? with
      | none => exact Int.le_refl _
      | some z =>
        have hz := List.mem_of_getLast? hq
        have := hr.lt hz
        have := (hr.ok z (List.mem_cons_of_mem _ hz)).2.1
        show x.2 ≤ z.2
        omega
    have hk : Ok (f, h) := ⟨h0, by simp only; have := hx.2.1; omega, h1⟩
    show ne (f, x.1) ++ holesC l x.2 = ne (belowP (f, h) x.1) ++ gapsC l (fromP (f, h) x.2)
    have a : ne (f, x.1) = ne (belowP (f, h) x.1) := by
      rw [below_rok hk]
      unfold betw
      simp only
      have hm : min h x.1 = x.1 := by have := hx.2.1; omega
      rw [hm]
      by_cases c : x.1 ≤ f
      · rw [if_pos c]
        have : x.1 = f := by omega
        rw [ne00]
        unfold ne
        rw [if_pos (by unfold lenI fitP; split <;> simp <;> omega)]
      · rw [if_neg c]
    rw [a]
    congr 1
    by_cases c : h ≤ x.2
    · have hh : h = x.2 := by omega
      have hl : l = [] := by
        cases l with
        | nil => rfl
        | cons y r =>
          exfalso
          have hz : ∃ z, (y :: r).getLast? = some z := by cases hq : (y :: r).getLast? with
            | none => simp at hq
            | some z => exact ⟨z, rfl⟩
          obtain ⟨z, hz⟩ := hz
          rw [hz] at e2
          have e2 : h = z.2 := e2
          have hzm := List.mem_of_getLast? hz
          have := hr.lt hzm
          have := (hr.ok z (List.mem_cons_of_mem _ hzm)).2.1
          omega
      subst hl
      show [] = ne (fromP (f, h) x.2)
      have e0 : fromP (f, h) x.2 = (0, 0) := by
        rw [from_rok hk]
        unfold betw
        rw [if_pos (by show h ≤ max f x.2; omega)]
      rw [e0, ne00]
    · have : fromP (f, h) x.2 = (x.2, h) := by
        rw [from_rok hk]
        unfold betw
        simp only
        rw [if_neg (by have := hx.2.1; omega)]
        exact Prod.ext (by simp only; have := hx.2.1; omega) rfl
      rw [this]
      exact ih hr.tail (by have := hx.1; have := hx.2.1; omega) (fun y hy => by have := hr.lt hy; omega) h1 e2
theorem high_bd {s : Bs} (h : BOk s) : s.una ≤ highN s ∧ highN s ≤ s.nxt := by
  unfold highN
  cases hq : s.l.getLast? with
  | none => exact ⟨Int.le_refl _, h.le⟩
  | some z =>
    have hz := List.mem_of_getLast? hq
    have := h.ins z hz
    have := (h.rn.ok z hz).2.1
    exact ⟨by show s.una ≤ z.2; omega, by show z.2 ≤ s.nxt; omega⟩
theorem BOk.holes {s : Bs} (h : BOk s) : holesC s.l s.una = gapsL s.l (s.una, highN s) := by
  obtain ⟨b1, b2⟩ := high_bd h
  have hk : Ok (s.una, highN s) := ⟨h.lo, b1, by have := h.hi; simp only; omega⟩
  rw [holes_eq (h := highN s) h.rn h.lo (fun x hx => (h.ins x hx).1) hk.2.2 rfl, ← (gaps_all (s.una, highN s) h.rn).2.1]
  congr 1
  refine (parts_in h.rn hk (fun x hx => ⟨(h.ins x hx).1, ?_⟩)).symm
  show x.2 ≤ highN s
  unfold highN
  cases hq : s.l.getLast? with
  | none =>
    rw [List.getLast?_eq_none_iff] at hq
    rw [hq] at hx
    simp at hx
  | some z =>
    show x.2 ≤ z.2
    have hz := List.mem_of_getLast? hq
    rcases Int.lt_or_le z.1 x.1 with c | c
    · exfalso
      obtain ⟨r, e⟩ := List.getLast?_eq_some_iff.1 hq
      have hr := h.rn
      rw [e] at hr hx
      rcases List.mem_append.1 hx with q | q
      · have := (List.pairwise_append.1 hr.up).2.2 x q z (by simp)
        have := (hr.left.ok x q).2.1
        omega
      · simp at q; subst q; omega
    · rcases Int.lt_or_eq_of_le c with d | d
      · have := Rn.apart h.rn x hx z hz d
        have := (h.rn.ok z hz).2.1
        omega
      · obtain ⟨r, e⟩ := List.getLast?_eq_some_iff.1 hq
        have hr := h.rn
        rw [e] at hr hx
        rcases List.mem_append.1 hx with q | q
        · have := (List.pairwise_append.1 hr.up).2.2 x q z (by simp)
          have := (hr.left.ok x q).2.1
          omega
        · simp at q; subst q; exact Int.le_refl _
def hasN (s : Bs) (y : Sp) : Bool := decide (missN s.l (fromP y s.una) = 0)
end Go.Proofs.YtohpaoleomcimaaGreat.bd
/-!   Package book: how many bytes are under way, as numbers.
-/
namespace Go.Proofs.YtohpaoleomcimaaGreat.bk
open Go.RowKit aid mem sp rn bd
set_option linter.unusedVariables false
set_option linter.unusedSimpArgs false

theorem within_from {s : Bs} (h : BOk s) (y : Sp) : withinL s.l y = withinL s.l (fromP y s.una) ∨ (lenI y = 0 ∧ withinL s.l y = 0) := by
  by_cases c : lenI y = 0
  · refine .inr ⟨c, ?_⟩
    obtain ⟨_, _, h3, _⟩ := parts_spec y h.rn
    rw [← h3, parts_none h.rn.ok c]; rfl
  · have hy := len_pos_ok c
    refine .inl ?_
    have key : ∀ l : List Sp, (∀ x ∈ l, ROk x) → (∀ x ∈ l, s.una ≤ x.1) → withinL l y = withinL l (fromP y s.una) := by
      intro l
      induction l with
      | nil => intro _ _; rfl
      | cons x l ih =>
        intro h1 h2
        have hx := h1 x (by simp)
        have hu := h2 x (by simp)
        have e : lenI (meetP x y) = lenI (meetP x (fromP y s.una)) := by
          by_cases c2 : lenI (fromP y s.una) = 0
          · rw [meet_none hx c2, meet_len hx.ok hy.ok]
            rw [from_rok hy.ok] at c2
            unfold betw at c2
            by_cases c3 : y.2 ≤ max y.1 s.una
            · rw [if_neg (by have := hx.2.1; omega)]
            · rw [if_neg c3, len_ok (x := (max y.1 s.una, y.2)) ⟨by have := hy.1; simp only; omega, by simp only; omega, hy.2.2⟩] at c2
              simp only at c2
              omega
          · have hk := len_pos_ok c2
            rw [meet_len hx.ok hy.ok, meet_len hx.ok hk.ok]
            rw [from_rok hy.ok] at hk ⊢
            unfold betw at hk ⊢
            by_cases c3 : y.2 ≤ max y.1 s.una
            · rw [if_pos c3] at hk
              exact absurd hk.2.1 (by decide)
            · rw [if_neg c3]
              simp only
              have e1 : max x.1 (max y.1 s.una) = max x.1 y.1 := by omega
              rw [e1]
        show lenI (meetP x y) + withinL l y = lenI (meetP x (fromP y s.una)) + withinL l (fromP y s.una)
        rw [e, ih (fun z hz => h1 z (List.mem_cons_of_mem _ hz)) (fun z hz => h2 z (List.mem_cons_of_mem _ hz))]
    exact key s.l h.rn.ok (fun x hx => (h.ins x hx).1)
/-- how many of a record's bytes have not come -/
def missR (s : Bs) (r : Rc) : Int := lenI (fromP (r.f, r.t) s.una) - withinL s.l (r.f, r.t)
theorem miss_bd {s : Bs} (h : BOk s) (r : Rc) : 0 ≤ missR s r ∧ missR s r ≤ 4611686018427387904 := by
  unfold missR
  have h0 := lenI_bd (fromP (r.f, r.t) s.una)
  rcases within_from h (r.f, r.t) with e | ⟨e1, e2⟩
  · rw [e]
    have := within_lt h.rn (fromP (r.f, r.t) s.una)
    omega
  · rw [e2]
    omega
/-- how many bytes are under way, as the program counts: from a number on -/
def pipeF (s : Bs) : List Rc → Int → Int
  | [], a => a
  | r :: l, a => if 0 < missR s r ∧ (9223372036854775807 - a).tdiv (missR s r) < r.out then 9223372036854775807 else pipeF s l (a + r.out * missR s r)
/-- what is sent is no less than nothing -/
def Outs (N : List Nd) : Prop := ∀ x ∈ N, 0 ≤ x.2.out ∧ x.2.out ≤ 4611686018427387904
theorem pipe_bd {a m o : Int} (ha : 0 ≤ a ∧ a ≤ 9223372036854775807) (hm : 0 ≤ m) (ho : 0 ≤ o) (h : ¬ (0 < m ∧ (9223372036854775807 - a).tdiv m < o)) : 0 ≤ o * m ∧ a + o * m ≤ 9223372036854775807 := by
  have h1 : 0 ≤ o * m := Int.mul_nonneg ho hm
  refine ⟨h1, ?_⟩
  by_cases c : 0 < m
  · have h2 : o ≤ (9223372036854775807 - a).tdiv m := by
      rcases Int.lt_or_le ((9223372036854775807 - a).tdiv m) o with q | q
      · exact absurd ⟨c, q⟩ h
      · exact q
    have h3 : (9223372036854775807 - a).tdiv m * m ≤ 9223372036854775807 - a := by
      rw [Int.tdiv_eq_ediv_of_nonneg (by omega)]
      exact Int.ediv_mul_le _ (by omega)
    have h4 : o * m ≤ (9223372036854775807 - a).tdiv m * m := Int.mul_le_mul_of_nonneg_right h2 hm
    omega
  · have : m = 0 := by omega
    rw [this]
    omega
theorem tdiv_bd {a m : Int} (ha : 0 ≤ a ∧ a ≤ 9223372036854775807) (hm : 0 < m) : 0 ≤ (9223372036854775807 - a).tdiv m ∧ (9223372036854775807 - a).tdiv m ≤ 9223372036854775807 := by
  rw [Int.tdiv_eq_ediv_of_nonneg (by omega)]
  have h1 : 0 ≤ (9223372036854775807 - a) / m := Int.ediv_nonneg (by omega) (by omega)
  have h2 : (9223372036854775807 - a) / m ≤ 9223372036854775807 - a := Int.ediv_le_self _ (by omega)
  omega
end Go.Proofs.YtohpaoleomcimaaGreat.bk
/-!   Package avl: nodes in memory; making, putting, deleting.
-/
namespace Go.Proofs.YtohpaoleomcimaaGreat.bv
open Go.RowKit aid mem
attribute [local go_sem ↓] Go.wp_at_zero Go.wp_at_succ
set_option linter.unusedVariables false

theorem bal' {w : World} (o : Obj) : Below w.heap.size w (w.alloc o) := (Below.refl _ _).alloc (Nat.le_refl _) _
/-- the block of a node -/
abbrev ndB (l : T) (k : Int) (v : Vt) (r : T) (pl pr : Option Addr) : Obj :=
  .cells #[.int .i64 k, .int .i64 v.1, .int .i64 v.2, .pointer pl, .pointer pr, .int .i64 ((l.size + 1 + r.size : Nat) : Int), .int .i64 ((1 + max l.ht r.ht : Nat) : Int)] 176 (0, 0)
/-- a tree lies where a pointer leads -/
def NdAt (w : World) : Option Addr → T → Prop
  | p, .nil => p = none
  | p, .node l k v r => ∃ b pl pr, p = some ⟨b, 0, none⟩ ∧ w.heap[b]? = some (ndB l k v r pl pr) ∧ NdAt w pl l ∧ NdAt w pr r

theorem NdAt.keepT {w w' : World} (hk : ∀ (b : Nat) (cs : Array Value), w.heap[b]? = some (.cells cs 176 (0, 0)) → w'.heap[b]? = w.heap[b]?) : ∀ {t : T} {p : Option Addr}, NdAt w p t → NdAt w' p t := by
  intro t
  induction t with
  | nil => intro p h; exact h
  | node l k v r ihl ihr =>
    rintro p ⟨b, pl, pr, rfl, hb, hl, hr⟩
    exact ⟨b, pl, pr, rfl, (hk b _ hb).trans hb, ihl hl, ihr hr⟩
theorem NdAt.later {w w' : World} {t : T} {p : Option Addr} (h : NdAt w p t) (hb : Below w.heap.size w w') : NdAt w' p t :=
  h.keepT (fun b _ hc => hb.block b (lt_of_block hc))
theorem NdAt.nil {w : World} {t : T} (h : NdAt w none t) : t = .nil := by
  cases t with
  | nil => rfl
  | node l k v r => obtain ⟨b, _, _, h, _⟩ := h; cases h
/-- the six cells of a node -/
structure Cs (w : World) (b : Nat) (k : Int) (v : Vt) (pl pr : Option Addr) (n h : Nat) : Prop where
  c0 : w.cell? ⟨b, 0, none⟩ = some (.int .i64 k)
  c1 : w.cell? ⟨b, 1, none⟩ = some (.int .i64 v.1) ∧ w.cell? ⟨b, 2, none⟩ = some (.int .i64 v.2)
  c2 : w.cell? ⟨b, 3, none⟩ = some (.pointer pl)
  c3 : w.cell? ⟨b, 4, none⟩ = some (.pointer pr)
  c4 : w.cell? ⟨b, 5, none⟩ = some (.int .i64 (n : Int))
  c5 : w.cell? ⟨b, 6, none⟩ = some (.int .i64 (h : Int))
theorem cs_of {w : World} {b : Nat} {l r : T} {k : Int} {v : Vt} {pl pr : Option Addr} (h : w.heap[b]? = some (ndB l k v r pl pr)) : Cs w b k v pl pr (l.size + 1 + r.size) (1 + max l.ht r.ht) :=
  ⟨(cell_of_row w b 0 _ _ (0, 0) h).trans rfl, ⟨(cell_of_row w b 1 _ _ (0, 0) h).trans rfl, (cell_of_row w b 2 _ _ (0, 0) h).trans rfl⟩, (cell_of_row w b 3 _ _ (0, 0) h).trans rfl, (cell_of_row w b 4 _ _ (0, 0) h).trans rfl, (cell_of_row w b 5 _ _ (0, 0) h).trans rfl, (cell_of_row w b 6 _ _ (0, 0) h).trans rfl⟩

theorem count_any {t : T} {p : Option Addr} {w : World} (h : NdAt w p t) : Calls Tryz.prog 121 #[.pointer p] w fun e w' => e = .returned (.int .i64 (t.size : Int)) ∧ w = w' := by
  cases t with
  | nil =>
    obtain rfl : p = none := h
    go_enter Tryz.func121, Tryz.ntmps121
    go_wp2
    go_ret
    exact ⟨rfl, rfl⟩
  | node l k v r =>
    obtain ⟨b, pl, pr, rfl, hb, _, _⟩ := h
    have c4 := (cs_of hb).c4
    show Calls _ _ _ _ fun e w' => e = .returned (.int .i64 ((l.size + 1 + r.size : Nat) : Int)) ∧ _
    generalize l.size + 1 + r.size = n at *
    clear hb
    go_enter Tryz.func121, Tryz.ntmps121
    go_wp2
    go_ret
    exact ⟨rfl, rfl⟩
theorem tall_any {t : T} {p : Option Addr} {w : World} (h : NdAt w p t) : Calls Tryz.prog 148 #[.pointer p] w fun e w' => e = .returned (.int .i64 (t.ht : Int)) ∧ w = w' := by
  cases t with
  | nil =>
    obtain rfl : p = none := h
    go_enter Tryz.func148, Tryz.ntmps148
    go_wp2
    go_ret
    exact ⟨rfl, rfl⟩
  | node l k v r =>
    obtain ⟨b, pl, pr, rfl, hb, _, _⟩ := h
    have c5 := (cs_of hb).c5
    show Calls _ _ _ _ fun e w' => e = .returned (.int .i64 ((1 + max l.ht r.ht : Nat) : Int)) ∧ _
    generalize 1 + max l.ht r.ht = n at *
    clear hb
    go_enter Tryz.func148, Tryz.ntmps148
    go_wp2
    go_ret
    exact ⟨rfl, rfl⟩

/-- what is handed back is a tree -/
def RetT (t : T) (w : World) (e : Ending) (w' : World) : Prop := ∃ p, e = .returned (.pointer p) ∧ NdAt w' p t ∧ Below w.heap.size w w'

theorem nd_new {w : World} {l r : T} {k : Int} {v : Vt} {pl pr : Option Addr} (hl : NdAt w pl l) (hr : NdAt w pr r) : NdAt (w.alloc (ndB l k v r pl pr)) (some ⟨w.heap.size, 0, none⟩) (.node l k v r) :=
  ⟨w.heap.size, pl, pr, rfl, heap_alloc_new w _, hl.later (bal' _), hr.later (bal' _)⟩

theorem nd_new' {w : World} {l r : T} {k : Int} {v : Vt} {pl pr : Option Addr} (hl : NdAt w pl l) (hr : NdAt w pr r) (n h : Int) (hn : n = (l.size : Int) + 1 + (r.size : Int)) (hh : h = 1 + max (l.ht : Int) (r.ht : Int)) :
    NdAt (w.alloc (.cells #[.int .i64 k, .int .i64 v.1, .int .i64 v.2, .pointer pl, .pointer pr, .int .i64 n, .int .i64 h] 176)) (some ⟨w.heap.size, 0, none⟩) (.node l k v r) := by
  obtain rfl : n = ((l.size + 1 + r.size : Nat) : Int) := by omega
  obtain rfl : h = ((1 + max l.ht r.ht : Nat) : Int) := by omega
  exact nd_new hl hr
set_option maxHeartbeats 1000000 in
theorem join_any {l r : T} {pl pr : Option Addr} (k : Int) (v : Vt) {w : World} (hl : NdAt w pl l) (hr : NdAt w pr r) (hs : l.size + r.size ≤ 1000000) :
    Calls Tryz.prog 138 #[.pointer pl, .int .i64 k, .agg #[.int .i64 v.1, .int .i64 v.2], .pointer pr] w (RetT (.node l k v r) w) := by
  have a1 := l.ht_le
  have a2 := r.ht_le
  have bb := bal' (w := w) (.cells #[.int .i64 v.1, .int .i64 v.2] 24)
  have x1 := heap_alloc_new w (.cells #[.int .i64 v.1, .int .i64 v.2] 24)
  generalize hW : w.alloc (.cells #[.int .i64 v.1, .int .i64 v.2] 24) = W at *
  have HL := Lib.hid (hl.later bb.drew)
  have HR := Lib.hid (hr.later bb.drew)
  have HB := Lib.hid bb.drew
  have HE := Lib.hid (nd_new' (k := k) (v := v) (hl.later bb.drew) (hr.later bb.drew))
  have c0 := (cell_of_row W w.heap.size 0 _ _ (0, 0) x1).trans rfl
  have c1 := (cell_of_row W w.heap.size 1 _ _ (0, 0) x1).trans rfl
  have hz : W.drew.heap.size = w.heap.size + 1 := by show W.heap.size = _; rw [← hW]; simp
  rw [hz] at HE
  have w1 : IntKind.i64.wrap ((l.size : Int) + 1) = (l.size : Int) + 1 := IntWalk.i64_in _ (by omega)
  have w2 : IntKind.i64.wrap ((l.size : Int) + 1 + (r.size : Int)) = (l.size : Int) + 1 + (r.size : Int) := IntWalk.i64_in _ (by omega)
  have w3 : IntKind.i64.wrap (1 + (l.ht : Int)) = 1 + (l.ht : Int) := IntWalk.i64_in _ (by omega)
  have w4 : IntKind.i64.wrap (1 + (r.ht : Int)) = 1 + (r.ht : Int) := IntWalk.i64_in _ (by omega)
  clear hl hr bb x1 hz
  subst hW
  go_enter Tryz.func138, Tryz.ntmps138
  go_wp2_with fail
  go_region_held3 (fun w' => w'.cell? ⟨w.heap.size, 0, none⟩ = some (.int .i64 v.1) ∧ w'.cell? ⟨w.heap.size, 1, none⟩ = some (.int .i64 v.2)) (first | exact ⟨c0, c1⟩ | go_keep) (first
    | (go_at_call 121; first | ((with_reducible refine (count_any HL.out).mono ?_); rintro e w' ⟨rfl, rfl⟩) | ((with_reducible refine (count_any HR.out).mono ?_); rintro e w' ⟨rfl, rfl⟩))
    | (go_at_call 148; first | ((with_reducible refine (tall_any HL.out).mono ?_); rintro e w' ⟨rfl, rfl⟩) | ((with_reducible refine (tall_any HR.out).mono ?_); rintro e w' ⟨rfl, rfl⟩)))
  go_wp2
  all_goals
    go_ret
    exact ⟨_, rfl, HE.out _ _ (by omega) (by omega), HB.out.trans (bal' _ |>.mono HB.out.size)⟩
end Go.Proofs.YtohpaoleomcimaaGreat.bv
/-!   Package avl: above, raising, balance.
-/
namespace Go.Proofs.YtohpaoleomcimaaGreat.bv
open Go.RowKit aid mem
attribute [local go_sem ↓] Go.wp_at_zero Go.wp_at_succ
set_option linter.unusedVariables false

/-- a node with its parts lies at block b -/
structure NdB (w : World) (b : Nat) (l : T) (k : Int) (v : Vt) (r : T) (pl pr : Option Addr) : Prop where
  here : w.heap[b]? = some (ndB l k v r pl pr)
  left : NdAt w pl l
  right : NdAt w pr r
theorem NdB.later {w w' : World} {b : Nat} {l r : T} {k : Int} {v : Vt} {pl pr : Option Addr} (h : NdB w b l k v r pl pr) (hb : Below w.heap.size w w') : NdB w' b l k v r pl pr :=
  ⟨(hb.block b (lt_of_block h.here)).trans h.here, h.left.later hb, h.right.later hb⟩
theorem NdB.at_ {w : World} {b : Nat} {l r : T} {k : Int} {v : Vt} {pl pr : Option Addr} (h : NdB w b l k v r pl pr) : NdAt w (some ⟨b, 0, none⟩) (.node l k v r) := ⟨b, pl, pr, rfl, h.here, h.left, h.right⟩
theorem NdB.cs {w : World} {b : Nat} {l r : T} {k : Int} {v : Vt} {pl pr : Option Addr} (h : NdB w b l k v r pl pr) : Cs w b k v pl pr (l.size + 1 + r.size) (1 + max l.ht r.ht) := cs_of h.here
theorem NdAt.drew {w : World} {p : Option Addr} {t : T} (h : NdAt w p t) : NdAt w.drew p t := h.later (Below.refl _ _).drew
theorem NdAt.drewN {w : World} {p : Option Addr} {t : T} (h : NdAt w p t) (n : Nat) : NdAt (w.drewN n) p t := NdAt.keepT (w := w) (w' := w.drewN n) (fun _ _ _ => rfl) h
theorem below_drewN (w : World) (n : Nat) : Below w.heap.size w (w.drewN n) := ⟨rfl, rfl, rfl, Nat.le_refl _, fun _ _ => rfl⟩
theorem tall_q {w : World} {p : Option Addr} {t : T} (h : NdAt w p t) (n : Nat) : Calls Tryz.prog 148 #[.pointer p] (w.drewN n) fun e w'' => e = .returned (.int .i64 (t.ht : Int)) ∧ ∃ m, w'' = w.drewN m :=
  (tall_any (h.drewN n)).mono fun _ _ h => ⟨h.1, n, h.2.symm⟩

set_option maxRecDepth 100000 in
set_option maxHeartbeats 1000000 in
theorem above_any {l r : T} {pl pr : Option Addr} {b : Nat} {k : Int} {v : Vt} {w : World} (c0 : w.cell? ⟨b, 0, none⟩ = some (.int .i64 k)) (c1 : (w.cell? ⟨b, 1, none⟩ = some (.int .i64 v.1) ∧ w.cell? ⟨b, 2, none⟩ = some (.int .i64 v.2))) (hl : NdAt w pl l) (hr : NdAt w pr r) (hs : l.size + r.size ≤ 1000000) :
    Calls Tryz.prog 151 #[.pointer (some ⟨b, 0, none⟩), .pointer pl, .pointer pr] w (RetT (.node l k v r) w) := by
  have HL := Lib.hid hl.drew
  have HR := Lib.hid hr.drew
  have HB := Lib.hid (Below.refl w.heap.size w).drew
  clear hl hr
  go_enter Tryz.func151, Tryz.ntmps151
  go_wp2
  go_region_held3 (fun w' => w'.cell? ⟨b, 0, none⟩ = some (.int .i64 k) ∧ (w'.cell? ⟨b, 1, none⟩ = some (.int .i64 v.1) ∧ w'.cell? ⟨b, 2, none⟩ = some (.int .i64 v.2))) (first | exact ⟨c0, c1⟩ | go_keep) (
    (go_at_call 138; (with_reducible refine (join_any k v HL.out HR.out hs).mono ?_); rintro e w2 ⟨p, rfl, hn, hb⟩; have g0 := (hb.cell (World.block_lt_of_cell? w _ c0)).trans c0; have g1 := (hb.cell (World.block_lt_of_cell? w _ c1.1)).trans c1.1; have g2 := (hb.cell (World.block_lt_of_cell? w _ c1.2)).trans c1.2))
  all_goals
    go_wp2
    go_ret
    exact ⟨p, rfl, hn, HB.out.trans hb⟩

/-- what lies while two parts are joined: a node with another one below it, a third one's key and value, a tree -/
structure StD (w0 w : World) (x y b : Nat) (o : T) (xk : Int) (xv : Vt) (i j : T) (yk : Int) (yv : Vt) (k : Int) (v : Vt) (r : T) (po pi pj pr : Option Addr) : Prop where
  xc : w.cell? ⟨x, 0, none⟩ = some (.int .i64 xk) ∧ (w.cell? ⟨x, 1, none⟩ = some (.int .i64 xv.1) ∧ w.cell? ⟨x, 2, none⟩ = some (.int .i64 xv.2))
  yc : w.cell? ⟨y, 0, none⟩ = some (.int .i64 yk) ∧ (w.cell? ⟨y, 1, none⟩ = some (.int .i64 yv.1) ∧ w.cell? ⟨y, 2, none⟩ = some (.int .i64 yv.2))
  bc : w.cell? ⟨b, 0, none⟩ = some (.int .i64 k) ∧ (w.cell? ⟨b, 1, none⟩ = some (.int .i64 v.1) ∧ w.cell? ⟨b, 2, none⟩ = some (.int .i64 v.2))
  x2 : w.cell? ⟨x, 3, none⟩ = some (.pointer po) ∨ w.cell? ⟨x, 4, none⟩ = some (.pointer po)
  ys : w.cell? ⟨y, 3, none⟩ = some (.pointer pi) ∧ w.cell? ⟨y, 4, none⟩ = some (.pointer pj)
  no : NdAt w po o
  ni : NdAt w pi i
  nj : NdAt w pj j
  nr : NdAt w pr r
  below : Below w0.heap.size w0 w
theorem ck {w w' : World} {p : Addr} {v : Value} (hb : Below w.heap.size w w') (h : w.cell? p = some v) : w'.cell? p = some v := (hb.cell (World.block_lt_of_cell? w _ h)).trans h
theorem ck2 {w w' : World} {p q : Addr} {u v : Value} (hb : Below w.heap.size w w') (h : w.cell? p = some u ∧ w.cell? q = some v) : w'.cell? p = some u ∧ w'.cell? q = some v := ⟨ck hb h.1, ck hb h.2⟩
theorem StD.later {w0 w w' : World} {x y b : Nat} {o i j r : T} {xk yk k : Int} {xv yv v : Vt} {po pi pj pr : Option Addr} (h : StD w0 w x y b o xk xv i j yk yv k v r po pi pj pr) (hb : Below w.heap.size w w') : StD w0 w' x y b o xk xv i j yk yv k v r po pi pj pr :=
  ⟨⟨ck hb h.xc.1, ck2 hb h.xc.2⟩, ⟨ck hb h.yc.1, ck2 hb h.yc.2⟩, ⟨ck hb h.bc.1, ck2 hb h.bc.2⟩, h.x2.imp (ck hb) (ck hb), ⟨ck hb h.ys.1, ck hb h.ys.2⟩, h.no.later hb, h.ni.later hb, h.nj.later hb, h.nr.later hb, h.below.trans (hb.mono h.below.size)⟩

/-- at a node's block: its cells -/
theorem NdB.c (w : World) {b : Nat} {l r : T} {k : Int} {v : Vt} {pl pr : Option Addr} (h : NdB w b l k v r pl pr) : (w.cell? ⟨b, 0, none⟩ = some (.int .i64 k) ∧ (w.cell? ⟨b, 1, none⟩ = some (.int .i64 v.1) ∧ w.cell? ⟨b, 2, none⟩ = some (.int .i64 v.2))) ∧ w.cell? ⟨b, 3, none⟩ = some (.pointer pl) ∧ w.cell? ⟨b, 4, none⟩ = some (.pointer pr) :=
  ⟨⟨h.cs.c0, h.cs.c1⟩, h.cs.c2, h.cs.c3⟩

set_option maxRecDepth 100000 in
set_option maxHeartbeats 2000000 in
theorem raiseL_any {l r : T} {pl pr : Option Addr} {b : Nat} {k : Int} {v : Vt} {w : World} (c0 : w.cell? ⟨b, 0, none⟩ = some (.int .i64 k)) (c1 : (w.cell? ⟨b, 1, none⟩ = some (.int .i64 v.1) ∧ w.cell? ⟨b, 2, none⟩ = some (.int .i64 v.2))) (hl : NdAt w pl l) (hr : NdAt w pr r) (hn : l ≠ .nil) (hs : l.size + r.size ≤ 1000000) :
    Calls Tryz.prog 149 #[.pointer (some ⟨b, 0, none⟩), .pointer pl, .pointer pr] w (RetT (T.raiseL l k v r) w) := by
  cases l with
  | nil => exact absurd rfl hn
  | node ll lk lv lr =>
    obtain ⟨bl, pll, plr, rfl, hb, hll, hlr⟩ := hl
    have N : NdB w bl ll lk lv lr pll plr := ⟨hb, hll, hlr⟩
    obtain ⟨d01, d2, d3⟩ := N.c
    by_cases hc : lr.ht > ll.ht
    · cases lr with
      | nil => simp [T.ht] at hc
      | node a mk mv c =>
        obtain ⟨bm, pa, pc, rfl, hm, ha, hcc⟩ := hlr
        have M : NdB w bm a mk mv c pa pc := ⟨hm, ha, hcc⟩
        obtain ⟨e01, e2, e3⟩ := M.c
        have S0 : StD w w bl bm b ll lk lv a c mk mv k v r pll pa pc pr := ⟨d01, e01, ⟨c0, c1⟩, .inl d2, ⟨e2, e3⟩, hll, ha, hcc, hr, Below.refl _ _⟩
        have HS : Hid (∀ n, StD w (w.drewN n) bl bm b ll lk lv a c mk mv k v r pll pa pc pr ∧ (w.drewN n).cell? ⟨bl, 3, none⟩ = some (.pointer pll)) := Lib.hid (fun n => ⟨S0.later (below_drewN w n), d2⟩)
        have HM : Hid (NdAt w (some ⟨bm, 0, none⟩) (.node a mk mv c)) := Lib.hid M.at_
        have HLL := Lib.hid hll
        have hs1 : ll.size + a.size ≤ 1000000 := by simp only [T.size] at hs; omega
        have hs2 : c.size + r.size ≤ 1000000 := by simp only [T.size] at hs; omega
        have hs3 : (T.node ll lk lv a).size + (T.node c k v r).size ≤ 1000000 := by simp only [T.size] at hs ⊢; omega
        have HT : Hid (T.raiseL (.node ll lk lv (.node a mk mv c)) k v r = .node (.node ll lk lv a) mk mv (.node c k v r)) := Lib.hid (by simp only [T.raiseL, if_pos hc])
        generalize T.raiseL (.node ll lk lv (.node a mk mv c)) k v r = t at *
        clear hll ha hcc hr hn N M hb hm S0 hs e01 d01
        go_enter Tryz.func149, Tryz.ntmps149
        go_wp2
        go_quiet ((go_at_call 148; with_reducible (first | exact tall_q HM.out _ | exact tall_q HLL.out _)))
        go_wp2
        obtain ⟨S1, f2⟩ := HS.out nq
        have f3 := S1.ys.1
        have f4 := S1.ys.2
        generalize w.drewN nq = W at *
        clear HS HM HLL d2 d3 e2 e3 c0 c1
        have S2 := S1.later (Below.refl W.heap.size W).drew
        have G : W.drew.cell? ⟨bl, 3, none⟩ = some (.pointer pll) := f2
        clear S1
        go_region_held3 (fun w' => w'.cell? ⟨bl, 3, none⟩ = some (.pointer pll) ∧ w'.cell? ⟨bm, 3, none⟩ = some (.pointer pa) ∧ w'.cell? ⟨bm, 4, none⟩ = some (.pointer pc)) (with_reducible first | exact ⟨G, S2.ys⟩ | exact ⟨GA, SA.ys⟩ | exact ⟨GB, SB.ys⟩ | exact ⟨GC, SC.ys⟩ | go_keep) (first
          | (go_at_call 151; (with_reducible refine (above_any S2.xc.1 S2.xc.2 S2.no S2.ni hs1).mono ?_); rintro e w2 ⟨p1, rfl, hp1, hb⟩; have GA := ck hb G; have SA := S2.later hb; clear S2 G hb)
          | (go_at_call 151; (with_reducible refine (above_any S2.bc.1 S2.bc.2 S2.nj S2.nr hs2).mono ?_); rintro e w2 ⟨p2, rfl, hp2, hb⟩; have GB := ck hb G; have SB := S2.later hb; clear S2 G hb)
          | (go_at_call 151; (with_reducible refine (above_any SA.bc.1 SA.bc.2 SA.nj SA.nr hs2).mono ?_); rintro e w3 ⟨p2, rfl, hp2, hb⟩; have GC := ck hb GA; have SC := SA.later hb; replace hp1 := hp1.later hb; clear SA GA hb)
          | (go_at_call 151; (with_reducible refine (above_any SB.xc.1 SB.xc.2 SB.no SB.ni hs1).mono ?_); rintro e w3 ⟨p1, rfl, hp1, hb⟩; have GC := ck hb GB; have SC := SB.later hb; replace hp2 := hp2.later hb; clear SB GB hb)
          | (go_at_call 151; (with_reducible refine (above_any SC.yc.1 SC.yc.2 hp1 hp2 hs3).mono ?_); rintro e w4 ⟨p3, rfl, hp3, hb⟩; have GA := ck hb GC; have SA := SC.later hb; clear SC GC hb))
        all_goals
          go_wp2
          go_ret
          exact ⟨p3, rfl, by rw [HT.out]; exact hp3, SA.below⟩
    · have S0 : StD w w bl bl b ll lk lv ll lr lk lv k v r pll pll plr pr := ⟨d01, d01, ⟨c0, c1⟩, .inl d2, ⟨d2, d3⟩, hll, hll, hlr, hr, Below.refl _ _⟩
      have HS : Hid (∀ n, StD w (w.drewN n) bl bl b ll lk lv ll lr lk lv k v r pll pll plr pr) := Lib.hid (fun n => S0.later (below_drewN w n))
      have HM := Lib.hid hlr
      have HLL := Lib.hid hll
      have hs1 : lr.size + r.size ≤ 1000000 := by simp only [T.size] at hs; omega
      have hs2 : ll.size + (T.node lr k v r).size ≤ 1000000 := by simp only [T.size] at hs ⊢; omega
      have HT : Hid (T.raiseL (.node ll lk lv lr) k v r = .node ll lk lv (.node lr k v r)) := Lib.hid (by simp only [T.raiseL, if_neg hc])
      generalize T.raiseL (.node ll lk lv lr) k v r = t at *
      clear hll hlr hr hn N hb S0 hs d01
      go_enter Tryz.func149, Tryz.ntmps149
      go_wp2
      go_quiet ((go_at_call 148; with_reducible (first | exact tall_q HM.out _ | exact tall_q HLL.out _)))
      go_wp2
      have S1 := HS.out nq
      have f3 := S1.ys.1
      have f4 := S1.ys.2
      generalize w.drewN nq = W at *
      clear HS HM HLL d2 d3 c0 c1
      have S2 := S1.later (Below.refl W.heap.size W).drew
      clear S1
      go_region_held3 (fun w' => w'.cell? ⟨bl, 3, none⟩ = some (.pointer pll) ∧ w'.cell? ⟨bl, 4, none⟩ = some (.pointer plr)) (with_reducible first | exact S2.ys | exact SA.ys | exact SB.ys | go_keep) (first
        | (go_at_call 151; (with_reducible refine (above_any S2.bc.1 S2.bc.2 S2.nj S2.nr hs1).mono ?_); rintro e w2 ⟨p1, rfl, hp1, hb⟩; have SA := S2.later hb; clear S2 hb)
        | (go_at_call 151; (with_reducible refine (above_any SA.xc.1 SA.xc.2 SA.no hp1 hs2).mono ?_); rintro e w4 ⟨p3, rfl, hp3, hb⟩; have SB := SA.later hb; clear hp1 hb))
      all_goals
        go_wp2
        go_ret
        exact ⟨p3, rfl, by rw [HT.out]; exact hp3, SB.below⟩

set_option maxRecDepth 100000 in
set_option maxHeartbeats 2000000 in
theorem raiseR_any {l r : T} {pl pr : Option Addr} {b : Nat} {k : Int} {v : Vt} {w : World} (c0 : w.cell? ⟨b, 0, none⟩ = some (.int .i64 k)) (c1 : (w.cell? ⟨b, 1, none⟩ = some (.int .i64 v.1) ∧ w.cell? ⟨b, 2, none⟩ = some (.int .i64 v.2))) (hl : NdAt w pl l) (hr : NdAt w pr r) (hn : r ≠ .nil) (hs : l.size + r.size ≤ 1000000) :
    Calls Tryz.prog 150 #[.pointer (some ⟨b, 0, none⟩), .pointer pl, .pointer pr] w (RetT (T.raiseR l k v r) w) := by
  cases r with
  | nil => exact absurd rfl hn
  | node rl rk rv rr =>
    obtain ⟨br, prl, prr, rfl, hb, hrl, hrr⟩ := hr
    have N : NdB w br rl rk rv rr prl prr := ⟨hb, hrl, hrr⟩
    obtain ⟨d01, d2, d3⟩ := N.c
    by_cases hc : rl.ht > rr.ht
    · cases rl with
      | nil => simp [T.ht] at hc
      | node a mk mv c =>
        obtain ⟨bm, pa, pc, rfl, hm, ha, hcc⟩ := hrl
        have M : NdB w bm a mk mv c pa pc := ⟨hm, ha, hcc⟩
        obtain ⟨e01, e2, e3⟩ := M.c
        have S0 : StD w w br bm b rr rk rv a c mk mv k v l prr pa pc pl := ⟨d01, e01, ⟨c0, c1⟩, .inr d3, ⟨e2, e3⟩, hrr, ha, hcc, hl, Below.refl _ _⟩
        have HS : Hid (∀ n, StD w (w.drewN n) br bm b rr rk rv a c mk mv k v l prr pa pc pl ∧ (w.drewN n).cell? ⟨br, 4, none⟩ = some (.pointer prr)) := Lib.hid (fun n => ⟨S0.later (below_drewN w n), d3⟩)
        have HM : Hid (NdAt w (some ⟨bm, 0, none⟩) (.node a mk mv c)) := Lib.hid M.at_
        have HLL := Lib.hid hrr
        have hs1 : l.size + a.size ≤ 1000000 := by simp only [T.size] at hs; omega
        have hs2 : c.size + rr.size ≤ 1000000 := by simp only [T.size] at hs; omega
        have hs3 : (T.node l k v a).size + (T.node c rk rv rr).size ≤ 1000000 := by simp only [T.size] at hs ⊢; omega
        have HT : Hid (T.raiseR l k v (.node (.node a mk mv c) rk rv rr) = .node (.node l k v a) mk mv (.node c rk rv rr)) := Lib.hid (by simp only [T.raiseR, if_pos hc])
        generalize T.raiseR l k v (.node (.node a mk mv c) rk rv rr) = t at *
        clear hrr ha hcc hl hn N M hb hm S0 hs e01 d01
        go_enter Tryz.func150, Tryz.ntmps150
        go_wp2
        go_quiet ((go_at_call 148; with_reducible (first | exact tall_q HM.out _ | exact tall_q HLL.out _)))
        go_wp2
        obtain ⟨S1, f2⟩ := HS.out nq
        have f3 := S1.ys.1
        have f4 := S1.ys.2
        generalize w.drewN nq = W at *
        clear HS HM HLL d2 d3 e2 e3 c0 c1
        have S2 := S1.later (Below.refl W.heap.size W).drew
        have G : W.drew.cell? ⟨br, 4, none⟩ = some (.pointer prr) := f2
        clear S1
        go_region_held3 (fun w' => w'.cell? ⟨br, 4, none⟩ = some (.pointer prr) ∧ w'.cell? ⟨bm, 3, none⟩ = some (.pointer pa) ∧ w'.cell? ⟨bm, 4, none⟩ = some (.pointer pc)) (with_reducible first | exact ⟨G, S2.ys⟩ | exact ⟨GA, SA.ys⟩ | exact ⟨GB, SB.ys⟩ | exact ⟨GC, SC.ys⟩ | go_keep) (first
          | (go_at_call 151; (with_reducible refine (above_any S2.bc.1 S2.bc.2 S2.nr S2.ni hs1).mono ?_); rintro e w2 ⟨p1, rfl, hp1, hb⟩; have GA := ck hb G; have SA := S2.later hb; clear S2 G hb)
          | (go_at_call 151; (with_reducible refine (above_any S2.xc.1 S2.xc.2 S2.nj S2.no hs2).mono ?_); rintro e w2 ⟨p2, rfl, hp2, hb⟩; have GB := ck hb G; have SB := S2.later hb; clear S2 G hb)
          | (go_at_call 151; (with_reducible refine (above_any SA.xc.1 SA.xc.2 SA.nj SA.no hs2).mono ?_); rintro e w3 ⟨p2, rfl, hp2, hb⟩; have GC := ck hb GA; have SC := SA.later hb; replace hp1 := hp1.later hb; clear SA GA hb)
          | (go_at_call 151; (with_reducible refine (above_any SB.bc.1 SB.bc.2 SB.nr SB.ni hs1).mono ?_); rintro e w3 ⟨p1, rfl, hp1, hb⟩; have GC := ck hb GB; have SC := SB.later hb; replace hp2 := hp2.later hb; clear SB GB hb)
          | (go_at_call 151; (with_reducible refine (above_any SC.yc.1 SC.yc.2 hp1 hp2 hs3).mono ?_); rintro e w4 ⟨p3, rfl, hp3, hb⟩; have GA := ck hb GC; have SA := SC.later hb; clear SC GC hb))
        all_goals
          go_wp2
          go_ret
          exact ⟨p3, rfl, by rw [HT.out]; exact hp3, SA.below⟩
    · have S0 : StD w w br br b rr rk rv rl rr rk rv k v l prr prl prr pl := ⟨d01, d01, ⟨c0, c1⟩, .inr d3, ⟨d2, d3⟩, hrr, hrl, hrr, hl, Below.refl _ _⟩
      have HS : Hid (∀ n, StD w (w.drewN n) br br b rr rk rv rl rr rk rv k v l prr prl prr pl) := Lib.hid (fun n => S0.later (below_drewN w n))
      have HM := Lib.hid hrl
      have HLL := Lib.hid hrr
      have hs1 : l.size + rl.size ≤ 1000000 := by simp only [T.size] at hs; omega
      have hs2 : (T.node l k v rl).size + rr.size ≤ 1000000 := by simp only [T.size] at hs ⊢; omega
      have HT : Hid (T.raiseR l k v (.node rl rk rv rr) = .node (.node l k v rl) rk rv rr) := Lib.hid (by simp only [T.raiseR, if_neg hc])
      generalize T.raiseR l k v (.node rl rk rv rr) = t at *
      clear hrl hrr hl hn N hb S0 hs d01
      go_enter Tryz.func150, Tryz.ntmps150
      go_wp2
      go_quiet ((go_at_call 148; with_reducible (first | exact tall_q HM.out _ | exact tall_q HLL.out _)))
      go_wp2
      have S1 := HS.out nq
      have f3 := S1.ys.1
      have f4 := S1.ys.2
      generalize w.drewN nq = W at *
      clear HS HM HLL d2 d3 c0 c1
      have S2 := S1.later (Below.refl W.heap.size W).drew
      clear S1
      go_region_held3 (fun w' => w'.cell? ⟨br, 3, none⟩ = some (.pointer prl) ∧ w'.cell? ⟨br, 4, none⟩ = some (.pointer prr)) (with_reducible first | exact S2.ys | exact SA.ys | exact SB.ys | go_keep) (first
        | (go_at_call 151; (with_reducible refine (above_any S2.bc.1 S2.bc.2 S2.nr S2.ni hs1).mono ?_); rintro e w2 ⟨p1, rfl, hp1, hb⟩; have SA := S2.later hb; clear S2 hb)
        | (go_at_call 151; (with_reducible refine (above_any SA.xc.1 SA.xc.2 hp1 SA.no hs2).mono ?_); rintro e w4 ⟨p3, rfl, hp3, hb⟩; have SB := SA.later hb; clear hp1 hb))
      all_goals
        go_wp2
        go_ret
        exact ⟨p3, rfl, by rw [HT.out]; exact hp3, SB.below⟩

set_option maxRecDepth 100000 in
set_option maxHeartbeats 2000000 in
theorem balance_any {l r : T} {pl pr : Option Addr} {b : Nat} {k : Int} {v : Vt} {w : World} (c0 : w.cell? ⟨b, 0, none⟩ = some (.int .i64 k)) (c1 : (w.cell? ⟨b, 1, none⟩ = some (.int .i64 v.1) ∧ w.cell? ⟨b, 2, none⟩ = some (.int .i64 v.2))) (hl : NdAt w pl l) (hr : NdAt w pr r) (hs : l.size + r.size ≤ 1000000) :
    Calls Tryz.prog 137 #[.pointer (some ⟨b, 0, none⟩), .pointer pl, .pointer pr] w (RetT (T.bal l k v r) w) := by
  have HL := Lib.hid hl
  have HR := Lib.hid hr
  have a1 := l.ht_le
  have a2 := r.ht_le
  by_cases h1 : l.ht > r.ht + 1
  · have HC := Lib.hid (raiseL_any c0 c1 hl hr (fun e => by subst e; simp [T.ht] at h1) hs)
    have HT : Hid (T.bal l k v r = T.raiseL l k v r) := Lib.hid (by unfold T.bal; rw [if_pos h1])
    generalize T.bal l k v r = t at *
    clear hl hr c0 c1
    go_enter Tryz.func137, Tryz.ntmps137
    go_wp2_with (first
      | (go_at_call 148; first | ((with_reducible refine (tall_any HL.out).mono ?_); rintro e w' ⟨rfl, rfl⟩) | ((with_reducible refine (tall_any HR.out).mono ?_); rintro e w' ⟨rfl, rfl⟩))
      | (go_at_call 149; (with_reducible refine HC.out.mono ?_); rintro e w' ⟨p, rfl, hp, hb⟩))
    go_ret
    exact ⟨p, rfl, by rw [HT.out]; exact hp, hb⟩
  · by_cases h2 : r.ht > l.ht + 1
    · have HC := Lib.hid (raiseR_any c0 c1 hl hr (fun e => by subst e; simp [T.ht] at h2) hs)
      have HT : Hid (T.bal l k v r = T.raiseR l k v r) := Lib.hid (by unfold T.bal; rw [if_neg h1, if_pos h2])
      generalize T.bal l k v r = t at *
      clear hl hr c0 c1
      go_enter Tryz.func137, Tryz.ntmps137
      go_wp2_with (first
        | (go_at_call 148; first | ((with_reducible refine (tall_any HL.out).mono ?_); rintro e w' ⟨rfl, rfl⟩) | ((with_reducible refine (tall_any HR.out).mono ?_); rintro e w' ⟨rfl, rfl⟩))
        | (go_at_call 150; (with_reducible refine HC.out.mono ?_); rintro e w' ⟨p, rfl, hp, hb⟩))
      go_ret
      exact ⟨p, rfl, by rw [HT.out]; exact hp, hb⟩
    · have HC := Lib.hid (above_any c0 c1 hl hr hs)
      have HT : Hid (T.bal l k v r = T.node l k v r) := Lib.hid (by unfold T.bal; rw [if_neg h1, if_neg h2])
      generalize T.bal l k v r = t at *
      clear hl hr c0 c1
      go_enter Tryz.func137, Tryz.ntmps137
      go_wp2_with (first
        | (go_at_call 148; first | ((with_reducible refine (tall_any HL.out).mono ?_); rintro e w' ⟨rfl, rfl⟩) | ((with_reducible refine (tall_any HR.out).mono ?_); rintro e w' ⟨rfl, rfl⟩))
        | (go_at_call 151; (with_reducible refine HC.out.mono ?_); rintro e w' ⟨p, rfl, hp, hb⟩))
      go_ret
      exact ⟨p, rfl, by rw [HT.out]; exact hp, hb⟩
end Go.Proofs.YtohpaoleomcimaaGreat.bv
/-!   Package avl: putting, the node at a place, deleting.
-/
namespace Go.Proofs.YtohpaoleomcimaaGreat.bv
open Go.RowKit aid mem
attribute [local go_sem ↓] Go.wp_at_zero Go.wp_at_succ
set_option linter.unusedVariables false

/-- a node, and a span in its box -/
structure NdV (w : World) (b : Nat) (l : T) (k : Int) (v : Vt) (r : T) (pl pr : Option Addr) (x : Nat) (u : Vt) : Prop where
  nd : NdB w b l k v r pl pr
  x0 : w.cell? ⟨x, 0, none⟩ = some (.int .i64 u.1)
  x1 : w.cell? ⟨x, 1, none⟩ = some (.int .i64 u.2)
section
variable {w w' : World} {b x : Nat} {l r : T} {k : Int} {v u : Vt} {pl pr : Option Addr}
theorem NdV.later (h : NdV w b l k v r pl pr x u) (hb : Below w.heap.size w w') : NdV w' b l k v r pl pr x u := ⟨h.nd.later hb, ck hb h.x0, ck hb h.x1⟩
theorem NdV.cs (h : NdV w b l k v r pl pr x u) : Cs w b k v pl pr (l.size + 1 + r.size) (1 + max l.ht r.ht) := h.nd.cs
theorem NdV.left (h : NdV w b l k v r pl pr x u) : NdAt w pl l := h.nd.left
theorem NdV.right (h : NdV w b l k v r pl pr x u) : NdAt w pr r := h.nd.right
theorem box_sp (w : World) (v : Vt) : (w.alloc (.cells #[.int .i64 v.1, .int .i64 v.2] 24)).cell? ⟨w.heap.size, 0, none⟩ = some (.int .i64 v.1) ∧ (w.alloc (.cells #[.int .i64 v.1, .int .i64 v.2] 24)).cell? ⟨w.heap.size, 1, none⟩ = some (.int .i64 v.2) := by
  have x1 := heap_alloc_new w (.cells #[.int .i64 v.1, .int .i64 v.2] 24)
  exact ⟨(cell_of_row _ w.heap.size 0 _ _ (0, 0) x1).trans rfl, (cell_of_row _ w.heap.size 1 _ _ (0, 0) x1).trans rfl⟩
end
set_option maxRecDepth 100000 in
set_option maxHeartbeats 4000000 in
theorem with_any (k : Int) (v : Vt) : ∀ (t : T) {p : Option Addr} {w : World}, NdAt w p t → t.size ≤ 900000 →
    Calls Tryz.prog 124 #[.pointer p, .int .i64 k, .agg #[.int .i64 v.1, .int .i64 v.2]] w (RetT (T.ins k v t) w) := by
  intro t
  induction t with
  | nil =>
    intro p w h hs
    obtain rfl : p = none := h
    have bb := bal' (w := w) (.cells #[.int .i64 v.1, .int .i64 v.2] 24)
    have bx := box_sp w v
    have x0 := bx.1; have x1 := bx.2
    have HB := Lib.hid bb
    clear bb bx
    have HJ := Lib.hid (join_any (l := .nil) (r := .nil) (pl := none) (pr := none) k v (w := w.alloc (.cells #[.int .i64 v.1, .int .i64 v.2] 24)) rfl rfl (by simp [T.size]))
    go_enter Tryz.func124, Tryz.ntmps124
    go_wp2_with (go_at_call 138; (with_reducible refine HJ.out.mono ?_); rintro e w' ⟨p, rfl, hp, hb⟩)
    go_ret
    exact ⟨p, rfl, hp, HB.out.trans (hb.mono HB.out.size)⟩
  | node l k' v' r ihl ihr =>
    intro p w h hs
    obtain ⟨b, pl, pr, rfl, hb, hl, hr⟩ := h
    have bb := bal' (w := w) (.cells #[.int .i64 v.1, .int .i64 v.2] 24)
    have bx := box_sp w v
    generalize hWd : w.alloc (.cells #[.int .i64 v.1, .int .i64 v.2] 24) = w0 at *
    have N : NdV w0 b l k' v' r pl pr w.heap.size v := ⟨(NdB.later ⟨hb, hl, hr⟩ bb), bx.1, bx.2⟩
    obtain ⟨d01, d2, d3⟩ := N.nd.c
    have x0 := bx.1; have x1 := bx.2
    have d0 := d01.1
    have ND := N.later (Below.refl w0.heap.size w0).drew
    have HB := Lib.hid bb.drew
    simp only [T.size] at hs
    have z1 := T.ins_size k v l
    have z2 := T.ins_size k v r
    clear hb N bb bx
    by_cases h1 : k < k'
    · have HT : Hid (T.ins k v (.node l k' v' r) = T.bal (T.ins k v l) k' v' r) := Lib.hid (by simp only [T.ins, if_pos h1])
      have hs1 : l.size ≤ 900000 := by omega
      have hs2 : (T.ins k v l).size + r.size ≤ 1000000 := by omega
      have HI := Lib.hid (fun (w' : World) (h : NdAt w' pl l) => ihl h hs1)
      generalize T.ins k v (.node l k' v' r) = t at *
      generalize T.ins k v l = q at *
      clear ihl ihr z1 z2 hl hr d01
      subst hWd
      go_enter Tryz.func124, Tryz.ntmps124
      go_wp2
      go_region_held3 (fun w' => w'.cell? ⟨b, 3, none⟩ = some (.pointer pl) ∧ w'.cell? ⟨b, 4, none⟩ = some (.pointer pr) ∧ w'.cell? ⟨w.heap.size, 0, none⟩ = some (.int .i64 v.1) ∧ w'.cell? ⟨w.heap.size, 1, none⟩ = some (.int .i64 v.2)) (with_reducible first | exact ⟨ND.cs.c2, ND.cs.c3, ND.x0, ND.x1⟩ | exact ⟨NA.cs.c2, NA.cs.c3, NA.x0, NA.x1⟩ | exact ⟨NC.cs.c2, NC.cs.c3, NC.x0, NC.x1⟩ | go_keep) (first
        | (go_at_call 124; (with_reducible refine (HI.out _ ND.left).mono ?_); rintro e w2 ⟨p1, rfl, hp1, hb⟩; have NA := ND.later hb; have BA := HB.out.trans (hb.mono HB.out.size); clear ND hb)
        | (go_at_call 137; (with_reducible refine (balance_any NA.cs.c0 NA.cs.c1 hp1 NA.right hs2).mono ?_); rintro e w2 ⟨p2, rfl, hp2, hb⟩; have NC := NA.later hb; have BC := BA.trans (hb.mono BA.size); clear NA hb))
      all_goals
        go_wp2
        go_ret
        exact ⟨p2, rfl, by rw [HT.out]; exact hp2, BC⟩
    · by_cases h2 : k' < k
      · have HT : Hid (T.ins k v (.node l k' v' r) = T.bal l k' v' (T.ins k v r)) := Lib.hid (by simp only [T.ins, if_neg h1, if_pos h2])
        have hs1 : r.size ≤ 900000 := by omega
        have hs2 : l.size + (T.ins k v r).size ≤ 1000000 := by omega
        have HI := Lib.hid (fun (w' : World) (h : NdAt w' pr r) => ihr h hs1)
        generalize T.ins k v (.node l k' v' r) = t at *
        generalize T.ins k v r = q at *
        clear ihl ihr z1 z2 hl hr d01
        subst hWd
        go_enter Tryz.func124, Tryz.ntmps124
        go_wp2
        go_region_held3 (fun w' => w'.cell? ⟨b, 3, none⟩ = some (.pointer pl) ∧ w'.cell? ⟨b, 4, none⟩ = some (.pointer pr) ∧ w'.cell? ⟨w.heap.size, 0, none⟩ = some (.int .i64 v.1) ∧ w'.cell? ⟨w.heap.size, 1, none⟩ = some (.int .i64 v.2)) (with_reducible first | exact ⟨ND.cs.c2, ND.cs.c3, ND.x0, ND.x1⟩ | exact ⟨NA.cs.c2, NA.cs.c3, NA.x0, NA.x1⟩ | exact ⟨NC.cs.c2, NC.cs.c3, NC.x0, NC.x1⟩ | go_keep) (first
          | (go_at_call 124; (with_reducible refine (HI.out _ ND.right).mono ?_); rintro e w2 ⟨p1, rfl, hp1, hb⟩; have NA := ND.later hb; have BA := HB.out.trans (hb.mono HB.out.size); clear ND hb)
          | (go_at_call 137; (with_reducible refine (balance_any NA.cs.c0 NA.cs.c1 NA.left hp1 hs2).mono ?_); rintro e w2 ⟨p2, rfl, hp2, hb⟩; have NC := NA.later hb; have BC := BA.trans (hb.mono BA.size); clear NA hb))
        all_goals
          go_wp2
          go_ret
          exact ⟨p2, rfl, by rw [HT.out]; exact hp2, BC⟩
      · have HT : Hid (T.ins k v (.node l k' v' r) = .node l k v r) := Lib.hid (by simp only [T.ins, if_neg h1, if_neg h2])
        have hs2 : l.size + r.size ≤ 1000000 := by omega
        generalize T.ins k v (.node l k' v' r) = t at *
        clear ihl ihr z1 z2 hl hr d01
        subst hWd
        go_enter Tryz.func124, Tryz.ntmps124
        go_wp2
        go_region_held3 (fun w' => w'.cell? ⟨b, 3, none⟩ = some (.pointer pl) ∧ w'.cell? ⟨b, 4, none⟩ = some (.pointer pr) ∧ w'.cell? ⟨w.heap.size, 0, none⟩ = some (.int .i64 v.1) ∧ w'.cell? ⟨w.heap.size, 1, none⟩ = some (.int .i64 v.2)) (with_reducible first | exact ⟨ND.cs.c2, ND.cs.c3, ND.x0, ND.x1⟩ | exact ⟨NC.cs.c2, NC.cs.c3, NC.x0, NC.x1⟩ | go_keep) (first
          | (go_at_call 138; (with_reducible refine (join_any k v ND.left ND.right hs2).mono ?_); rintro e w2 ⟨p2, rfl, hp2, hb⟩; have NC := ND.later hb; have BC := HB.out.trans (hb.mono HB.out.size); clear hb))
        all_goals
          go_wp2
          go_ret
          exact ⟨p2, rfl, by rw [HT.out]; exact hp2, BC⟩

/-- a pointer leads to a node with a pair; or it is none -/
def NodeOf (w : World) (q : Option Addr) : Option (Int × Vt) → Prop
  | none => q = none
  | some x => ∃ b, q = some ⟨b, 0, none⟩ ∧ w.cell? ⟨b, 0, none⟩ = some (.int .i64 x.1) ∧ w.cell? ⟨b, 1, none⟩ = some (.int .i64 x.2.1) ∧ w.cell? ⟨b, 2, none⟩ = some (.int .i64 x.2.2)
theorem NodeOf.later {w w' : World} {q : Option Addr} {o : Option (Int × Vt)} (h : NodeOf w q o) (hb : Below w.heap.size w w') : NodeOf w' q o := by
  cases o with
  | none => exact h
  | some x => obtain ⟨b, rfl, h0, h1⟩ := h; exact ⟨b, rfl, ck hb h0, ck2 hb h1⟩
/-- what is handed back is a node -/
def RetN (o : Option (Int × Vt)) (w : World) (e : Ending) (w' : World) : Prop := ∃ q, e = .returned (.pointer q) ∧ NodeOf w q o ∧ w = w'

set_option maxRecDepth 100000 in
set_option maxHeartbeats 4000000 in
theorem at_any {t : T} {p : Option Addr} {w : World} (h : NdAt w p t) (i : Int) (hi : -9223372036854775808 ≤ i ∧ i ≤ 9223372036854775807) (hs : t.size ≤ 1000000) :
    Calls Tryz.prog 125 #[.pointer p, .int .i64 i] w (RetN (atL t.toL i) w) := by
  have HN := Lib.hid h
  obtain ⟨o, ho⟩ : ∃ o, o = atL t.toL i := ⟨_, rfl⟩
  rw [← ho]
  have HO := Lib.hid ho
  clear ho h
  go_enter Tryz.func125, Tryz.ntmps125
  go_wp2
  go_loopg [0, 1] t.size (fun n s0 s1 wr => ∃ (t' : T) (p' : Option Addr) (i' : Int), s0 = .pointer p' ∧ s1 = .int .i64 i' ∧ t'.size = n ∧ NdAt w p' t' ∧ Hid (o = atL t'.toL i') ∧ t'.size ≤ 1000000 ∧ -9223372036854775808 ≤ i' ∧ i' ≤ 9223372036854775807 ∧ wr = w)
  case atStart => exact ⟨t, p, i, rfl, rfl, rfl, HN.out, HO, hs, hi.1, hi.2, rfl⟩
  case round =>
    clear HN HO hi hs
    obtain ⟨t', p', i', rfl, rfl, rfl, hn, HO, hs, h1, h2, rfl⟩ := hrel
    cases t' with
    | nil =>
      obtain rfl : p' = none := hn
      go_wp2
      go_ret
      exact ⟨none, rfl, by rw [HO.out, show T.nil.toL = [] from rfl, atL_nil]; rfl, rfl⟩
    | node l k v r =>
      obtain ⟨b, pl, pr, rfl, hb, hl, hr⟩ := hn
      obtain ⟨c0, c1, c2, c3, _, _⟩ := cs_of hb
      have HL := Lib.hid hl
      have HR := Lib.hid hr
      have hz := T.size_toL l
      simp only [T.size] at hs
      have HA := Lib.hid (show ∀ i : Int, i < (l.size : Int) → atL (T.node l k v r).toL i = atL l.toL i from fun i hi => atL_lo (by rw [hz]; exact hi))
      have HB := Lib.hid (show ∀ i : Int, i = (l.size : Int) → atL (T.node l k v r).toL i = some (k, v) from fun i hi => atL_eq (by rw [hz]; exact hi))
      have HC := Lib.hid (show ∀ i : Int, (l.size : Int) < i → atL (T.node l k v r).toL i = atL r.toL (i - ((l.size : Int) + 1)) from fun i hi => by rw [← hz] at hi ⊢; exact atL_hi hi)
      have HZ : Hid ((T.node l k v r).size = l.size + 1 + r.size) := Lib.hid rfl
      clear hb hl hr hz
      go_wp2_with (go_at_call 121; (with_reducible refine (count_any HL.out).mono ?_); rintro e w' ⟨rfl, rfl⟩)
      · have hlt : i' < (l.size : Int) := by omega
        go_roundg l.size
        case measure => rw [HZ.out]; omega
        case rel => exact ⟨l, pl, i', rfl, rfl, rfl, HL.out, Lib.hid (by rw [HO.out, HA.out i' hlt]), by omega, h1, h2, rfl⟩
      · have heq : i' = (l.size : Int) := by
          have h : (i' == (l.size : Int)) = true := by assumption
          simpa using h
        go_ret
        exact ⟨_, rfl, by rw [HO.out, HB.out _ heq]; exact ⟨b, rfl, c0, c1⟩, rfl⟩
      · have hgt : (l.size : Int) < i' := by
          have h : (i' == (l.size : Int)) = false := by assumption
          have h' : ¬ i' = (l.size : Int) := by simpa using h
          omega
        go_roundg r.size
        case measure => rw [HZ.out]; omega
        case rel => exact ⟨r, pr, i' - ((l.size : Int) + 1), rfl, rfl, rfl, HR.out, Lib.hid (by rw [HO.out, HC.out i' hgt]), by omega, by omega, by omega, rfl⟩

set_option maxRecDepth 100000 in
set_option maxHeartbeats 4000000 in
theorem without_any : ∀ (t : T) (k : Int) {p : Option Addr} {w : World}, NdAt w p t → t.size ≤ 900000 →
    Calls Tryz.prog 122 #[.pointer p, .int .i64 k] w (RetT (T.del k t) w) := by
  intro t
  induction t with
  | nil =>
    intro k p w h hs
    obtain rfl : p = none := h
    go_enter Tryz.func122, Tryz.ntmps122
    go_wp2_with fail
    go_ret
    exact ⟨none, rfl, rfl, Below.refl _ _⟩
  | node l k' v' r ihl ihr =>
    intro k p w h hs
    obtain ⟨b, pl, pr, rfl, hb, hl, hr⟩ := h
    have N : NdB w b l k' v' r pl pr := ⟨hb, hl, hr⟩
    obtain ⟨d01, d2, d3⟩ := N.c
    have d0 := d01.1
    have ND := N.later (Below.refl w.heap.size w).drew
    have HB := Lib.hid (Below.refl w.heap.size w).drew
    simp only [T.size] at hs
    have z1 := T.del_size k l
    have z2 := T.del_size k r
    clear hb N
    by_cases h1 : k < k'
    · have HT : Hid (T.del k (.node l k' v' r) = T.bal (T.del k l) k' v' r) := Lib.hid (by simp only [T.del, if_pos h1])
      have hs1 : l.size ≤ 900000 := by omega
      have hs2 : (T.del k l).size + r.size ≤ 1000000 := by omega
      have HI := Lib.hid (fun (w' : World) (h : NdAt w' pl l) => ihl k h hs1)
      generalize T.del k (.node l k' v' r) = t at *
      generalize T.del k l = q at *
      clear ihl ihr z1 z2 hl hr d01
      go_enter Tryz.func122, Tryz.ntmps122
      go_wp2
      go_region_held3 (fun w' => w'.cell? ⟨b, 3, none⟩ = some (.pointer pl) ∧ w'.cell? ⟨b, 4, none⟩ = some (.pointer pr)) (with_reducible first | exact ⟨ND.cs.c2, ND.cs.c3⟩ | exact ⟨NA.cs.c2, NA.cs.c3⟩ | exact ⟨NC.cs.c2, NC.cs.c3⟩ | go_keep) (first
        | (go_at_call 122; (with_reducible refine (HI.out _ ND.left).mono ?_); rintro e w2 ⟨p1, rfl, hp1, hb⟩; have NA := ND.later hb; have BA := HB.out.trans hb; clear ND hb)
        | (go_at_call 137; (with_reducible refine (balance_any NA.cs.c0 NA.cs.c1 hp1 NA.right hs2).mono ?_); rintro e w2 ⟨p2, rfl, hp2, hb⟩; have NC := NA.later hb; have BC := BA.trans (hb.mono BA.size); clear NA hb))
      all_goals
        go_wp2
        go_ret
        exact ⟨p2, rfl, by rw [HT.out]; exact hp2, BC⟩
    · by_cases h2 : k' < k
      · have HT : Hid (T.del k (.node l k' v' r) = T.bal l k' v' (T.del k r)) := Lib.hid (by simp only [T.del, if_neg h1, if_pos h2])
        have hs1 : r.size ≤ 900000 := by omega
        have hs2 : l.size + (T.del k r).size ≤ 1000000 := by omega
        have HI := Lib.hid (fun (w' : World) (h : NdAt w' pr r) => ihr k h hs1)
        generalize T.del k (.node l k' v' r) = t at *
        generalize T.del k r = q at *
        clear ihl ihr z1 z2 hl hr d01
        go_enter Tryz.func122, Tryz.ntmps122
        go_wp2
        go_region_held3 (fun w' => w'.cell? ⟨b, 3, none⟩ = some (.pointer pl) ∧ w'.cell? ⟨b, 4, none⟩ = some (.pointer pr)) (with_reducible first | exact ⟨ND.cs.c2, ND.cs.c3⟩ | exact ⟨NA.cs.c2, NA.cs.c3⟩ | exact ⟨NC.cs.c2, NC.cs.c3⟩ | go_keep) (first
          | (go_at_call 122; (with_reducible refine (HI.out _ ND.right).mono ?_); rintro e w2 ⟨p1, rfl, hp1, hb⟩; have NA := ND.later hb; have BA := HB.out.trans hb; clear ND hb)
          | (go_at_call 137; (with_reducible refine (balance_any NA.cs.c0 NA.cs.c1 NA.left hp1 hs2).mono ?_); rintro e w2 ⟨p2, rfl, hp2, hb⟩; have NC := NA.later hb; have BC := BA.trans (hb.mono BA.size); clear NA hb))
        all_goals
          go_wp2
          go_ret
          exact ⟨p2, rfl, by rw [HT.out]; exact hp2, BC⟩
      · cases r with
        | nil =>
          obtain rfl : pr = none := hr
          have HT : Hid (T.del k (.node l k' v' .nil) = l) := Lib.hid (by simp only [T.del, if_neg h1, if_neg h2, if_pos])
          generalize T.del k (.node l k' v' .nil) = t at *
          have HL := Lib.hid hl
          clear ihl ihr z1 z2 hl d01 ND
          go_enter Tryz.func122, Tryz.ntmps122
          go_wp2_with fail
          go_ret
          exact ⟨_, rfl, by rw [HT.out]; exact HL.out, Below.refl _ _⟩
        | node rl rk rv rr =>
          obtain ⟨br, x1, x2, rfl, hbr, hx1, hx2⟩ := hr
          have hr : NdAt w (some ⟨br, 0, none⟩) (.node rl rk rv rr) := ⟨br, x1, x2, rfl, hbr, hx1, hx2⟩
          generalize hR : T.node rl rk rv rr = R at *
          have hRn : R ≠ .nil := by subst hR; simp
          obtain ⟨⟨fk, fv⟩, hf'⟩ : ∃ x, x = R.first := ⟨_, rfl⟩
          have hf := hf'.symm
          clear hf'
          have z3 := T.del_size fk R
          have HT : Hid (T.del k (.node l k' v' R) = T.bal l fk fv (T.del fk R)) := Lib.hid (by simp only [T.del, if_neg h1, if_neg h2, if_neg hRn, hf])
          have hs1 : R.size ≤ 900000 := by omega
          have hs2 : l.size + (T.del fk R).size ≤ 1000000 := by omega
          have hs3 : R.size ≤ 1000000 := by omega
          have HI := Lib.hid (fun (w' : World) (h : NdAt w' (some ⟨br, 0, none⟩) R) => ihr fk h hs1)
          have HAT : Hid (Calls Tryz.prog 125 #[.pointer (some ⟨br, 0, none⟩), .int .i64 0] w (RetN (some (fk, fv)) w)) := Lib.hid (by
            have := at_any hr 0 (by omega) hs3
            rwa [atL_zero, T.first_toL R hRn, hf] at this)
          generalize T.del k (.node l k' v' R) = t at *
          generalize T.del fk R = q at *
          clear ihl ihr z1 z2 z3 hl hr d01 hbr hx1 hx2 hR hf hRn
          go_enter Tryz.func122, Tryz.ntmps122
          go_wp2_with (go_at_call 125; (with_reducible refine HAT.out.mono ?_); rintro e w' ⟨q0, rfl, ⟨bn, rfl, g0, g1⟩, rfl⟩)
          have G0 : w.drew.cell? ⟨bn, 0, none⟩ = some (.int .i64 fk) := g0
          have G1 : (w.drew.cell? ⟨bn, 1, none⟩ = some (.int .i64 fv.1) ∧ w.drew.cell? ⟨bn, 2, none⟩ = some (.int .i64 fv.2)) := g1
          go_region_held3 (fun w' => w'.cell? ⟨b, 3, none⟩ = some (.pointer pl) ∧ w'.cell? ⟨b, 4, none⟩ = some (.pointer (some ⟨br, 0, none⟩)) ∧ w'.cell? ⟨bn, 0, none⟩ = some (.int .i64 fk)) (with_reducible first | exact ⟨ND.cs.c2, ND.cs.c3, G0⟩ | exact ⟨NA.cs.c2, NA.cs.c3, GA0⟩ | exact ⟨NC.cs.c2, NC.cs.c3, GC0⟩ | go_keep) (first
            | (go_at_call 122; (with_reducible refine (HI.out _ ND.right).mono ?_); rintro e w2 ⟨p1, rfl, hp1, hb⟩; have NA := ND.later hb; have BA := HB.out.trans hb; have GA0 := ck hb G0; have GA1 := ck2 hb G1; clear ND hb G0 G1)
            | (go_at_call 137; (with_reducible refine (balance_any GA0 GA1 NA.left hp1 hs2).mono ?_); rintro e w2 ⟨p2, rfl, hp2, hb⟩; have NC := NA.later hb; have BC := BA.trans (hb.mono BA.size); have GC0 := ck hb GA0; clear NA hb))
          all_goals
            go_wp2
            go_ret
            exact ⟨p2, rfl, by rw [HT.out]; exact hp2, BC⟩
end Go.Proofs.YtohpaoleomcimaaGreat.bv
/-!   Package avl: what a tree does.
-/
namespace Go.Proofs.YtohpaoleomcimaaGreat.bv
open Go.RowKit aid mem
attribute [local go_sem ↓] Go.wp_at_zero Go.wp_at_succ
set_option linter.unusedVariables false

/-- block b is a tree's, with what lies below it -/
def TrAt (w : World) (b : Nat) (t : T) : Prop := ∃ q, w.heap[b]? = some (.cells #[.pointer q] 162 (0, 0)) ∧ NdAt w q t
theorem TrAt.later {w w' : World} {b : Nat} {t : T} (h : TrAt w b t) (hb : Below w.heap.size w w') : TrAt w' b t := by
  obtain ⟨q, h1, h2⟩ := h
  exact ⟨q, (hb.block b (lt_of_block h1)).trans h1, h2.later hb⟩
theorem TrAt.lt {w : World} {b : Nat} {t : T} (h : TrAt w b t) : b < w.heap.size := by obtain ⟨q, h1, _⟩ := h; exact lt_of_block h1
/-- a tree that is not the one that was written stays as it was -/
theorem TrAt.keep {w w' : World} {b c : Nat} {t u : T} (h : TrAt w b t) (hc : TrAt w c u) (hk : Kept [c] w w') (hn : b ≠ c) : TrAt w' b t := by
  obtain ⟨q, h1, h2⟩ := h
  obtain ⟨q', h3, _⟩ := hc
  refine ⟨q, hk.heap (by simpa using hn) h1, h2.keepT (fun x cs hx => ?_)⟩
  refine hk.block x (lt_of_block hx) ?_
  simp only [List.mem_singleton]
  rintro rfl
  rw [h3] at hx
  simp at hx
/-- where a pointer leads: to a tree; or it is none -/
def TrO (w : World) (p : Option Addr) (t : T) : Prop := (p = none ∧ t = .nil) ∨ ∃ b, p = some ⟨b, 0, none⟩ ∧ TrAt w b t
theorem TrAt.o {w : World} {b : Nat} {t : T} (h : TrAt w b t) : TrO w (some ⟨b, 0, none⟩) t := .inr ⟨b, rfl, h⟩
theorem trO_none (w : World) : TrO w none .nil := .inl ⟨rfl, rfl⟩

theorem top_any {w : World} {p : Option Addr} {t : T} (h : TrO w p t) : Calls Tryz.prog 120 #[.pointer p] w fun e w' => ∃ q, e = .returned (.pointer q) ∧ NdAt w q t ∧ w = w' := by
  rcases h with ⟨rfl, rfl⟩ | ⟨b, rfl, q, h1, h2⟩
  · go_enter Tryz.func120, Tryz.ntmps120
    go_wp2
    go_ret
    exact ⟨none, rfl, rfl, rfl⟩
  · have c0 : w.cell? ⟨b, 0, none⟩ = some (.pointer q) := (cell_of_row w b 0 _ _ (0, 0) h1).trans rfl
    have HN := Lib.hid h2
    clear h2
    go_enter Tryz.func120, Tryz.ntmps120
    go_wp2
    go_ret
    exact ⟨q, rfl, HN.out, rfl⟩

theorem new_any (w : World) : Calls Tryz.prog 102 #[] w fun e w' => e = .returned (.pointer (some ⟨w.heap.size, 0, none⟩)) ∧ TrAt w' w.heap.size .nil ∧ Below w.heap.size w w' := by
  have h1 : TrAt (w.alloc (.cells #[.pointer none] 162)) w.heap.size .nil := ⟨none, heap_alloc_new w _, rfl⟩
  have H1 := Lib.hid h1
  clear h1
  go_enter Tryz.func102, Tryz.ntmps102
  go_wp2
  go_ret
  exact ⟨rfl, H1.out, bal' _⟩

theorem tlen_any {w : World} {p : Option Addr} {t : T} (h : TrO w p t) : Calls Tryz.prog 94 #[.pointer p] w fun e w' => e = .returned (.int .i64 (t.size : Int)) ∧ w = w' := by
  have H := Lib.hid h
  clear h
  go_enter Tryz.func94, Tryz.ntmps94
  go_wp2_with (first
    | (go_at_call 120; (with_reducible refine (top_any H.out).mono ?_); rintro e w' ⟨q, rfl, hq, rfl⟩)
    | (go_at_call 121; (with_reducible refine (count_any hq).mono ?_); rintro e w' ⟨rfl, rfl⟩))
  go_ret
  exact ⟨rfl, rfl⟩
/-- a tree's root is set -/
theorem set_root {w : World} {b : Nat} {q q' : Option Addr} {t' : T} (h : w.heap[b]? = some (.cells #[.pointer q] 162 (0, 0))) (hq : NdAt w q' t') : TrAt (w.setCell ⟨b, 0, none⟩ (.pointer q')) b t' := by
  refine ⟨q', (heap_setCell_same _ b 0 _ _ _ h).trans rfl, hq.keepT (fun x cs hx => ?_)⟩
  refine Below.heap_setCell w ⟨b, 0, none⟩ _ x ?_
  rintro rfl
  rw [h] at hx
  simp at hx

theorem kset1 (w : World) (b : Nat) (u : Value) : Kept [b] w (w.setCell ⟨b, 0, none⟩ u) := (Kept.refl [b] w).setCell (.inl (by simp)) u
set_option maxRecDepth 100000 in
set_option maxHeartbeats 4000000 in
theorem put_any {w : World} {b : Nat} {t : T} (k : Int) (v : Vt) (h : TrAt w b t) (hs : t.size ≤ 900000) :
    Calls Tryz.prog 97 #[.pointer (some ⟨b, 0, none⟩), .int .i64 k, .agg #[.int .i64 v.1, .int .i64 v.2]] w fun e w' => e = .returned (.bool (decide (t.size < (T.ins k v t).size))) ∧ TrAt w' b (T.ins k v t) ∧ Kept [b] w w' := by
  obtain ⟨q, h1, h2⟩ := h
  have bb := bal' (w := w) (.cells #[.int .i64 v.1, .int .i64 v.2] 24)
  have bx := box_sp w v
  have hbl := lt_of_block h1
  have hbn : w.heap.size ∉ [b] := by simp; omega
  have h1' := (bb.block _ hbl).trans h1
  have h2' := h2.later bb
  generalize hWd : w.alloc (.cells #[.int .i64 v.1, .int .i64 v.2] 24) = w0 at *
  have x0 : w0.drew.cell? ⟨w.heap.size, 0, none⟩ = _ := bx.1
  have x1 : w0.drew.cell? ⟨w.heap.size, 1, none⟩ = _ := bx.2
  have c0 : w0.drew.cell? ⟨b, 0, none⟩ = some (.pointer q) := (cell_of_row w0 b 0 _ _ (0, 0) h1').trans rfl
  have HT : Hid (TrO w0 (some ⟨b, 0, none⟩) t) := Lib.hid (TrAt.o ⟨q, h1', h2'⟩)
  have HW := Lib.hid (with_any k v t h2'.drew hs)
  have H1 := Lib.hid (show w0.drew.heap[b]? = _ from h1')
  have HB := Lib.hid bb.drew
  generalize T.ins k v t = t' at *
  clear h1 h2 h1' h2' bb bx
  subst hWd
  go_enter Tryz.func97, Tryz.ntmps97
  go_wp2_with fail
  refine (tlen_any HT.out).mono ?_
  rintro e w' ⟨rfl, rfl⟩
  go_wp2_with fail
  refine wp_region_noPanic ?_
  refine wp_region_held_drew (S := (fun w' => w'.cell? ⟨w.heap.size, 0, none⟩ = some (.int .i64 v.1) ∧ w'.cell? ⟨w.heap.size, 1, none⟩ = some (.int .i64 v.2))) (by kernel_rfl) ?_ (fun hHeld => ?_)
  · ((try dsimp only); exact ⟨x0, x1⟩)
  refine wpAnyH_take (i := 0) (oi := _) (v := ?_) rfl (by kernel_rfl) (by kernel_rfl) (by kernel_rfl) (fun _ _ _ h => h) (Or.inl ⟨by rfl, ?_⟩) (by assumption) ?_
  rotate_left
  · (first | (intro v hSw; (try dsimp only at hSw); go_simp; done) | (intro v hSw; (try dsimp only at hSw); go_simp; with_reducible rfl))
  refine wpAnyH_take (i := 1) (oi := _) (v := ?_) rfl (by kernel_rfl) (by kernel_rfl) (by kernel_rfl) (fun _ _ _ h => h) (Or.inl ⟨by rfl, ?_⟩) (by assumption) ?_
  rotate_left
  · (first | (intro v hSw; (try dsimp only at hSw); go_simp; done) | (intro v hSw; (try dsimp only at hSw); go_simp; with_reducible rfl))
  refine wpAnyH_take (i := 2) (oi := _) (v := ?_) rfl (by kernel_rfl) (by kernel_rfl) (by kernel_rfl) (fun _ _ _ h => h) (Or.inl ⟨by rfl, ?_⟩) (by assumption) ?_
  rotate_left
  · (first | (intro v hSw; (try dsimp only at hSw); go_simp; done) | (intro v hSw; (try dsimp only at hSw); go_simp; with_reducible rfl))
  refine wpAnyH_take (i := 3) (oi := _) (v := ?_) rfl (by kernel_rfl) (by kernel_rfl) (by kernel_rfl) (fun _ _ _ h => h) (Or.inl ⟨by rfl, ?_⟩) (by assumption) ?_
  rotate_left
  · (first | (intro v hSw; (try dsimp only at hSw); go_simp; done) | (intro v hSw; (try dsimp only at hSw); go_simp; with_reducible rfl))
  refine wpAnyH_take (i := 5) (oi := _) (v := ?_) rfl (by kernel_rfl) (by kernel_rfl) (by kernel_rfl) (fun _ _ _ h => h) (Or.inl ⟨by rfl, ?_⟩) (by assumption) ?_
  rotate_left
  · (first | (intro v hSw; (try dsimp only at hSw); go_simp; done) | (intro v hSw; (try dsimp only at hSw); go_simp; with_reducible rfl))
  refine wpAnyH_take (i := 6) (oi := _) (v := ?_) rfl (by kernel_rfl) (by kernel_rfl) (by kernel_rfl) (fun _ _ _ h => h) (Or.inl ⟨by rfl, ?_⟩) (by assumption) ?_
  rotate_left
  · (first | (intro v hSw; (try dsimp only at hSw); go_simp; done) | (intro v hSw; (try dsimp only at hSw); go_simp; with_reducible rfl))
  refine wpAnyH_ready (rs := [4]) (by kernel_rfl) (by simp) ?_
  refine AllReadyH.cons (o := _) rfl (fun K hK => ?_) ?_
  · go_simp
    refine hK.out _ _ ?_ (fun hHeld => ?_)
    · ((try dsimp only); exact ⟨x0, x1⟩)
    clear hK K
    refine wpAnyH_ready (rs := [7]) (by kernel_rfl) (by simp) ?_
    refine AllReadyH.cons (o := _) rfl (fun K hK => ?_) ?_
    · go_simp
      (refine HW.out.mono ?_)
      rintro e w1 ⟨q', rfl, hq', hb⟩
      have d1 := ck hb c0
      have y0 := ck hb x0
      have y1 := ck hb x1
      have H2 := Lib.hid ((hb.block b (lt_of_block H1.out)).trans H1.out)
      have g1 : w1.frozen? ⟨b, 0, none⟩ = false := (by simp [World.frozen?, H2.out])
      have HN := Lib.hid (set_root H2.out hq')
      clear hq'
      refine hK.out _ _ ?_ (fun hHeld => ?_)
      · ((try dsimp only); exact ⟨y0, y1⟩)
      clear hK K
      refine wpAnyH_take (i := 8) (oi := _) (v := ?_) rfl (by kernel_rfl) (by kernel_rfl) (by kernel_rfl) (fun _ _ _ h => h) (Or.inl ⟨by rfl, ?_⟩) (by assumption) ?_
      rotate_left
      · (first | (intro v hSw; (try dsimp only at hSw); go_simp; done) | (intro v hSw; (try dsimp only at hSw); go_simp; with_reducible rfl))
      refine wpAnyH_take (i := 9) (oi := _) (v := ?_) rfl (by kernel_rfl) (by kernel_rfl) (by kernel_rfl) (fun _ _ _ h => h) (Or.inl ⟨by rfl, ?_⟩) (by assumption) ?_
      rotate_left
      · (first | (intro v hSw; (try dsimp only at hSw); go_simp; done) | (intro v hSw; (try dsimp only at hSw); go_simp; with_reducible rfl))
      refine wpAnyH_ready (rs := [10]) (by kernel_rfl) (by simp) ?_
      refine AllReadyH.cons (o := _) rfl (fun K hK => ?_) ?_
      · go_simp
        refine hK.out _ _ ?_ (fun hHeld => ?_)
        · ((try dsimp only); exact ⟨(kset1 w1 b _).cell hbn y0, (kset1 w1 b _).cell hbn y1⟩)
        clear hK K
        refine wpAnyH_done (by kernel_rfl) ?_ _
        refine NoPanic.normal ?_
        go_wp2_with (go_at_call 94; (with_reducible refine (tlen_any HN.out.o).mono ?_); rintro e w' ⟨rfl, rfl⟩)
        go_ret
        exact ⟨ret_b (by simp), HN.out, ((Kept.of_below (HB.out.trans (hb.mono HB.out.size)) (Nat.le_refl _) [b]).trans (kset1 w1 b _) (by simp))⟩
      exact AllReadyH.nil
    exact AllReadyH.nil
  exact AllReadyH.nil

set_option maxHeartbeats 1000000 in
theorem delete_any {w : World} {b : Nat} {t : T} (k : Int) (h : TrAt w b t) (hs : t.size ≤ 900000) :
    Calls Tryz.prog 95 #[.pointer (some ⟨b, 0, none⟩), .int .i64 k] w fun e w' => e = .returned (.bool (decide ((T.del k t).size < t.size))) ∧ TrAt w' b (T.del k t) ∧ Kept [b] w w' := by
  obtain ⟨q, h1, h2⟩ := h
  have c0 : w.cell? ⟨b, 0, none⟩ = some (.pointer q) := (cell_of_row w b 0 _ _ (0, 0) h1).trans rfl
  have HT : Hid (TrO w (some ⟨b, 0, none⟩) t) := Lib.hid (TrAt.o ⟨q, h1, h2⟩)
  have HW := Lib.hid (without_any t k h2 hs)
  have H1 := Lib.hid h1
  generalize T.del k t = t' at *
  clear h1 h2
  go_enter Tryz.func95, Tryz.ntmps95
  go_wp2_with (first
    | (go_at_call 94; (with_reducible refine (tlen_any HT.out).mono ?_); rintro e w' ⟨rfl, rfl⟩)
    | (go_at_call 122; (with_reducible refine HW.out.mono ?_); rintro e w1 ⟨q', rfl, hq', hb⟩; have d1 := ck hb c0; have H2 := Lib.hid ((hb.block b (lt_of_block H1.out)).trans H1.out); have g1 : w1.frozen? ⟨b, 0, none⟩ = false := (by simp [World.frozen?, H2.out]); have HN := Lib.hid (set_root H2.out hq'); clear hq' c0)
    | (go_at_call 94; (with_reducible refine (tlen_any HN.out.o).mono ?_); rintro e w' ⟨rfl, rfl⟩))
  go_ret
  exact ⟨ret_b (by simp), HN.out, ((Kept.of_below hb (Nat.le_refl _) [b]).trans ((Kept.refl [b] w1).setCell (.inl (by simp)) _) (by simp))⟩

theorem put_none (w : World) (k : Int) (v : Vt) : Calls Tryz.prog 97 #[.pointer none, .int .i64 k, .agg #[.int .i64 v.1, .int .i64 v.2]] w fun e w' => e = .returned (.bool false) ∧ Below w.heap.size w w' := by
  go_enter Tryz.func97, Tryz.ntmps97
  go_wp2_with fail
  go_ret
  exact ⟨rfl, bal' _⟩
theorem delete_none (w : World) (k : Int) : Calls Tryz.prog 95 #[.pointer none, .int .i64 k] w fun e w' => e = .returned (.bool false) ∧ w = w' := by
  go_enter Tryz.func95, Tryz.ntmps95
  go_wp2_with fail
  go_ret
  exact ⟨rfl, rfl⟩
theorem clone_none (w : World) : Calls Tryz.prog 86 #[.pointer none] w fun e w' => e = .returned (.pointer none) ∧ w = w' := by
  go_enter Tryz.func86, Tryz.ntmps86
  go_wp2_with fail
  go_ret
  exact ⟨rfl, rfl⟩
theorem clone_any {w : World} {b : Nat} {t : T} (h : TrAt w b t) : Calls Tryz.prog 86 #[.pointer (some ⟨b, 0, none⟩)] w fun e w' => e = .returned (.pointer (some ⟨w.heap.size, 0, none⟩)) ∧ TrAt w' w.heap.size t ∧ Below w.heap.size w w' := by
  obtain ⟨q, h1, h2⟩ := h
  have c0 : w.cell? ⟨b, 0, none⟩ = some (.pointer q) := (cell_of_row w b 0 _ _ (0, 0) h1).trans rfl
  have HN : Hid (TrAt (w.alloc (.cells #[.pointer q] 162)) w.heap.size t) := Lib.hid ⟨q, heap_alloc_new w _, h2.later (bal' _)⟩
  clear h1 h2
  go_enter Tryz.func86, Tryz.ntmps86
  go_wp2_with fail
  go_ret
  exact ⟨rfl, HN.out, bal' _⟩

/-- a node of the bigger or none: a node (floor, ceil) -/
def RetNB (o : Option (Int × Vt)) (w : World) (e : Ending) (w' : World) : Prop := ∃ q, e = .returned (.pointer q) ∧ NodeOf w' q o ∧ Below w.heap.size w w'

set_option maxRecDepth 100000 in
set_option maxHeartbeats 4000000 in
theorem floor_any {t : T} {p : Option Addr} {w : World} (h : NdAt w p t) (key : Int) (hu : T.Up t.toL) :
    Calls Tryz.prog 144 #[.pointer p, .int .i64 key] w (RetNB (flL t.toL key) w) := by
  have HN := Lib.hid h
  have HU := Lib.hid hu
  obtain ⟨o, ho⟩ : ∃ o, o = flL t.toL key := ⟨_, rfl⟩
  rw [← ho]
  have HO : Hid (o = (flL t.toL key).or none) := Lib.hid (by rw [ho]; simp)
  clear ho h hu
  go_enter Tryz.func144, Tryz.ntmps144
  go_wp2
  go_loopg [0, 5] t.size (fun n s0 s5 wr => ∃ (t' : T) (p' q' : Option Addr) (o' : Option (Int × Vt)), s0 = .pointer p' ∧ s5 = .pointer q' ∧ t'.size = n ∧ NdAt wr p' t' ∧ NodeOf wr q' o' ∧ Hid (T.Up t'.toL) ∧ Hid (o = (flL t'.toL key).or o') ∧ Below w.heap.size w wr)
  case atStart => exact ⟨t, p, none, none, rfl, rfl, rfl, HN.out, rfl, HU, HO, Below.refl _ _⟩
  case round =>
    clear HN HO HU
    obtain ⟨t', p', q', o', rfl, rfl, rfl, hn, hq, HU, HO, hB⟩ := hrel
    cases t' with
    | nil =>
      obtain rfl : p' = none := hn
      have HQ := Lib.hid hq
      clear hq
      go_wp2
      go_ret
      exact ⟨q', rfl, by rw [HO.out]; exact HQ.out, hB⟩
    | node l k v r =>
      obtain ⟨b, pl, pr, rfl, hb, hl, hr⟩ := hn
      obtain ⟨c0, c1, c2, c3, _, _⟩ := cs_of hb
      have HL := Lib.hid hl
      have HR := Lib.hid hr
      have HQ := Lib.hid hq
      have hup := T.up_node.1 HU.out
      have HUL := Lib.hid hup.1
      have HUR := Lib.hid hup.2.1
      clear hup
      have HA := Lib.hid (show key < k → flL (T.node l k v r).toL key = flL l.toL key from fun hk => fl_hi HU.out hk)
      have HB := Lib.hid (show k ≤ key → flL (T.node l k v r).toL key = (flL r.toL key).or (some (k, v)) from fun hk => fl_lo hk)
      have HZ : Hid ((T.node l k v r).size = l.size + 1 + r.size) := Lib.hid rfl
      clear hb hl hr hq
      by_cases hk : key < k
      · have HE := Lib.hid (HA.out hk)
        go_wp2
        go_roundg l.size
        case measure => rw [HZ.out]; omega
        case rel => exact ⟨l, pl, q', o', rfl, rfl, rfl, HL.out, HQ.out, HUL, Lib.hid (by rw [HO.out, HE.out]), hB⟩
      · have HE := Lib.hid (HB.out (by omega))
        go_wp2
        go_quiet (fail)
        go_wp2
        have hb2 := below_drewN wr nq
        go_roundg r.size
        case measure => rw [HZ.out]; omega
        case rel => exact ⟨r, pr, some ⟨b, 0, none⟩, some (k, v), rfl, rfl, rfl, HR.out.later hb2, ⟨b, rfl, ck hb2 c0, ck2 hb2 c1⟩, HUR, Lib.hid (by rw [HO.out, HE.out]; cases flL r.toL key <;> rfl), hB.trans (hb2.mono hB.size)⟩

end Go.Proofs.YtohpaoleomcimaaGreat.bv
/-!   Board's tree: what is asked of it.
-/
namespace Go.Proofs.YtohpaoleomcimaaGreat.bv
open Go.RowKit aid mem
attribute [local go_sem ↓] Go.wp_at_zero Go.wp_at_succ
set_option linter.unusedVariables false
set_option linter.unusedSimpArgs false

/-- three results -/
def tupO : Option (Int × Vt) → Value
  | none => .tuple #[.int .i64 0, .agg #[.int .i64 0, .int .i64 0], .bool false]
  | some x => .tuple #[.int .i64 x.1, .agg #[.int .i64 x.2.1, .int .i64 x.2.2], .bool true]
abbrev zS : Obj := .cells #[.int .i64 0, .int .i64 0] 24
abbrev vS (v : Vt) : Obj := .cells #[.int .i64 v.1, .int .i64 v.2] 24
theorem bx_c {W : World} {p : Nat} {v : Vt} (h : W.heap[p]? = some (vS v)) : W.cell? ⟨p, 0, none⟩ = some (.int .i64 v.1) ∧ W.cell? ⟨p, 1, none⟩ = some (.int .i64 v.2) ∧ W.frozen? ⟨p, 0, none⟩ = false ∧ W.frozen? ⟨p, 1, none⟩ = false :=
  ⟨(cell_of_row _ p 0 _ _ (0, 0) h).trans rfl, (cell_of_row _ p 1 _ _ (0, 0) h).trans rfl, by simp [World.frozen?, h], by simp [World.frozen?, h]⟩
theorem bx_put {w W : World} {v u : Vt} {p : Nat} (hp : W.heap[p]? = some (vS v)) (hge : w.heap.size ≤ p) (hb : Below w.heap.size w W) :
    ((W.setCell ⟨p, 0, none⟩ (.int .i64 u.1)).setCell ⟨p, 1, none⟩ (.int .i64 u.2)).heap[p]? = some (vS u) ∧ Below w.heap.size w ((W.setCell ⟨p, 0, none⟩ (.int .i64 u.1)).setCell ⟨p, 1, none⟩ (.int .i64 u.2)) := by
  have k : Kept [p] W ((W.setCell ⟨p, 0, none⟩ (.int .i64 u.1)).setCell ⟨p, 1, none⟩ (.int .i64 u.2)) := ((Kept.refl [p] W).setCell (.inl (by simp)) _).setCell (.inl (by simp)) _
  exact ⟨(heap_setCell_same _ _ _ _ _ _ ((heap_setCell_same W _ 0 _ _ _ hp).trans rfl)).trans rfl, hb.trans (k.below (B := w.heap.size) (fun k hk => by simp at hk; omega) hb.size)⟩
set_option maxHeartbeats 2000000 in
theorem told_none (w : World) : Calls Tryz.prog 126 #[.pointer none] w fun e w' => e = .returned (tupO none) ∧ Below w.heap.size w w' := by
  have x1 := heap_alloc_new w zS
  have HB := Lib.hid (bal' (w := w) zS).drew
  obtain ⟨c0, c1, f0, f1⟩ := bx_c (v := (0, 0)) x1
  clear x1
  go_enter Tryz.func126, Tryz.ntmps126
  go_wp2_with fail
  go_region
  have e0 : (w.alloc zS).drew.cell? ⟨w.heap.size, 0, none⟩ = some (.int .i64 0) := c0
  have e1 : (w.alloc zS).drew.cell? ⟨w.heap.size, 1, none⟩ = some (.int .i64 0) := c1
  go_wp2
  exact bodyPost_ret (v := .tuple #[.int .i64 0, .agg #[.int .i64 0, .int .i64 0], .bool false]) (by simp [results, Tryz.results126, go_sem, c0, c1, e0, e1]) rfl ⟨rfl, HB.out⟩
set_option maxHeartbeats 2000000 in
theorem told_some {w : World} {b : Nat} {x : Int × Vt} (c0 : w.cell? ⟨b, 0, none⟩ = some (.int .i64 x.1)) (c1 : w.cell? ⟨b, 1, none⟩ = some (.int .i64 x.2.1)) (c2 : w.cell? ⟨b, 2, none⟩ = some (.int .i64 x.2.2)) :
    Calls Tryz.prog 126 #[.pointer (some ⟨b, 0, none⟩)] w fun e w' => e = .returned (tupO (some x)) ∧ Below w.heap.size w w' := by
  have bb := bal' (w := w) zS
  have d0 := ck bb c0; have d1 := ck bb c1; have d2 := ck bb c2
  obtain ⟨z0, z1, f0, f1⟩ := bx_c (v := (0, 0)) (heap_alloc_new w zS)
  obtain ⟨y0, y1, g0, g1⟩ := bx_c (v := x.2) (W := (w.alloc (vS x.2)).drew) (heap_alloc_new w (vS x.2))
  have HB := Lib.hid (bal' (w := w) (vS x.2)).drew.drew
  clear bb
  go_enter Tryz.func126, Tryz.ntmps126
  go_wp2_with fail
  go_region
  go_wp2_with fail
  clear d0 d1 d2 z0 z1 f0 f1 c0 c1 c2
  go_region
  have e0 : (w.alloc (vS x.2)).drew.drew.cell? ⟨w.heap.size, 0, none⟩ = some (.int .i64 x.2.1) := y0
  have e1 : (w.alloc (vS x.2)).drew.drew.cell? ⟨w.heap.size, 1, none⟩ = some (.int .i64 x.2.2) := y1
  go_wp2
  exact bodyPost_ret (v := .tuple #[.int .i64 x.1, .agg #[.int .i64 x.2.1, .int .i64 x.2.2], .bool true]) (by simp [results, Tryz.results126, go_sem, y0, y1, e0, e1]) rfl ⟨rfl, HB.out⟩
theorem told_node {w : World} {q : Option Addr} {o : Option (Int × Vt)} (h : NodeOf w q o) : Calls Tryz.prog 126 #[.pointer q] w fun e w' => e = .returned (tupO o) ∧ Below w.heap.size w w' := by
  cases o with
  | none =>
    obtain rfl : q = none := h
    exact told_none w
  | some x =>
    obtain ⟨b, rfl, c0, c1, c2⟩ := h
    exact told_some c0 c1 c2
def oK (o : Option (Int × Vt)) : Int × Vt × Bool := match o with | none => (0, (0, 0), false) | some x => (x.1, x.2, true)
theorem tupO_eq (o : Option (Int × Vt)) : tupO o = .tuple #[.int .i64 (oK o).1, .agg #[.int .i64 (oK o).2.1.1, .int .i64 (oK o).2.1.2], .bool (oK o).2.2] := by cases o <;> rfl
set_option maxHeartbeats 2000000 in
theorem tat_any {w : World} {p : Option Addr} {t : T} (h : TrO w p t) (i : Int) (hi : -9223372036854775808 ≤ i ∧ i ≤ 9223372036854775807) (hs : t.size ≤ 1000000) : Calls Tryz.prog 98 #[.pointer p, .int .i64 i] w fun e w' => e = .returned (tupO (atL t.toL i)) ∧ Below w.heap.size w w' := by
  have bb := bal' (w := w) zS
  have HT : Hid (TrO (w.alloc zS) p t) := Lib.hid (by
    rcases h with ⟨e1, e2⟩ | ⟨b, e, hb⟩
    · exact .inl ⟨e1, e2⟩
    · exact .inr ⟨b, e, hb.later bb⟩)
  have HX := Lib.hid (heap_alloc_new w zS)
  have HB := Lib.hid bb
  clear bb h
  rw [tupO_eq]
  go_enter Tryz.func98, Tryz.ntmps98
  go_wp2_with fail
  refine (top_any HT.out).mono ?_
  rintro e w1 ⟨q, rfl, hq, rfl⟩
  have HQ := Lib.hid (at_any hq i hi hs)
  clear hq
  go_wp2_with fail
  refine HQ.out.mono ?_
  rintro e w2 ⟨q2, rfl, hq2, rfl⟩
  have HN := Lib.hid (told_node hq2)
  clear hq2 HQ
  go_wp2_with fail
  refine HN.out.mono ?_
  rintro e w3 ⟨rfl, hb3⟩
  rw [tupO_eq]
  have h3 := (hb3.block w.heap.size (by simp)).trans HX.out
  obtain ⟨z0, z1, f0, f1⟩ := bx_c (v := (0, 0)) h3
  obtain ⟨r1, r2⟩ := bx_put (v := (0, 0)) (u := (oK (atL t.toL i)).2.1) h3 (Nat.le_refl _) (HB.out.trans (hb3.mono HB.out.size))
  obtain ⟨y0, y1, _, _⟩ := bx_c r1
  have HR := Lib.hid r2
  clear r1 r2 h3 hb3 HN HT HX HB
  generalize ho : oK (atL t.toL i) = o at *
  have HO := Lib.hid ho
  clear ho
  obtain ⟨o1, o2, o3⟩ := o
  dsimp only at *
  go_wp2_with fail
  exact bodyPost_ret (v := .tuple #[.int .i64 o1, .agg #[.int .i64 o2.1, .int .i64 o2.2], .bool o3]) (by simp [results, Tryz.results98, go_sem, y0, y1]) rfl ⟨by rw [HO.out], HR.out⟩
set_option maxHeartbeats 2000000 in
theorem tfloor_any {w : World} {p : Option Addr} {t : T} (h : TrO w p t) (key : Int) (hu : T.Up t.toL) : Calls Tryz.prog 135 #[.pointer p, .int .i64 key] w fun e w' => e = .returned (tupO (flL t.toL key)) ∧ Below w.heap.size w w' := by
  have bb := bal' (w := w) zS
  have HT : Hid (TrO (w.alloc zS) p t) := Lib.hid (by
    rcases h with ⟨e1, e2⟩ | ⟨b, e, hb⟩
    · exact .inl ⟨e1, e2⟩
    · exact .inr ⟨b, e, hb.later bb⟩)
  have HX := Lib.hid (heap_alloc_new w zS)
  have HB := Lib.hid bb
  clear bb h
  rw [tupO_eq]
  have HU := Lib.hid hu
  clear hu
  go_enter Tryz.func135, Tryz.ntmps135
  go_wp2_with fail
  refine (top_any HT.out).mono ?_
  rintro e w1 ⟨q, rfl, hq, rfl⟩
  have HQ := Lib.hid (floor_any hq key HU.out)
  clear hq
  go_wp2_with fail
  refine HQ.out.mono ?_
  rintro e w2 ⟨q2, rfl, hq2, hb2⟩
  have HN := Lib.hid (told_node hq2)
  have HB2 := Lib.hid hb2
  clear hq2 HQ hb2
  go_wp2_with fail
  refine HN.out.mono ?_
  rintro e w3 ⟨rfl, hb3'⟩
  rw [tupO_eq]
  have hb3 := HB2.out.trans (hb3'.mono HB2.out.size)
  have h3 := (hb3.block w.heap.size (by simp)).trans HX.out
  obtain ⟨z0, z1, f0, f1⟩ := bx_c (v := (0, 0)) h3
  obtain ⟨r1, r2⟩ := bx_put (v := (0, 0)) (u := (oK (flL t.toL key)).2.1) h3 (Nat.le_refl _) (HB.out.trans (hb3.mono HB.out.size))
  obtain ⟨y0, y1, _, _⟩ := bx_c r1
  have HR := Lib.hid r2
  clear r1 r2 h3 hb3 hb3' HB2 HN HT HX HB
  generalize ho : oK (flL t.toL key) = o at *
  have HO := Lib.hid ho
  clear ho
  obtain ⟨o1, o2, o3⟩ := o
  dsimp only at *
  go_wp2_with fail
  exact bodyPost_ret (v := .tuple #[.int .i64 o1, .agg #[.int .i64 o2.1, .int .i64 o2.2], .bool o3]) (by simp [results, Tryz.results135, go_sem, y0, y1]) rfl ⟨by rw [HO.out], HR.out⟩
end Go.Proofs.YtohpaoleomcimaaGreat.bv
