/-
  Balanced trees as data: putting, deleting, order, balance, heights. Imports nothing of the program.
-/
import Derived.WalkKit
namespace Go.Proofs.Ytdoedcfmhdnbgaa.bv
set_option linter.unusedVariables false

abbrev Vt := Int × Int
inductive T where
  | nil : T
  | node (l : T) (k : Int) (v : Vt) (r : T) : T
deriving DecidableEq

namespace T
def size : T → Nat
  | nil => 0
  | node l _ _ r => l.size + 1 + r.size
def ht : T → Nat
  | nil => 0
  | node l _ _ r => 1 + max l.ht r.ht
def toL : T → List (Int × Vt)
  | nil => []
  | node l k v r => l.toL ++ (k, v) :: r.toL
def raiseL (l : T) (k : Int) (v : Vt) (r : T) : T :=
  match l with
  | nil => nil
  | node ll lk lv lr =>
    if lr.ht > ll.ht then
      match lr with
      | nil => nil
      | node a mk mv b => node (node ll lk lv a) mk mv (node b k v r)
    else node ll lk lv (node lr k v r)
def raiseR (l : T) (k : Int) (v : Vt) (r : T) : T :=
  match r with
  | nil => nil
  | node rl rk rv rr =>
    if rl.ht > rr.ht then
      match rl with
      | nil => nil
      | node a mk mv b => node (node l k v a) mk mv (node b rk rv rr)
    else node (node l k v rl) rk rv rr
def bal (l : T) (k : Int) (v : Vt) (r : T) : T :=
  if l.ht > r.ht + 1 then raiseL l k v r else if r.ht > l.ht + 1 then raiseR l k v r else node l k v r
def ins (k : Int) (v : Vt) : T → T
  | nil => node nil k v nil
  | node l k' v' r => if k < k' then bal (ins k v l) k' v' r else if k' < k then bal l k' v' (ins k v r) else node l k v r
def first : T → Int × Vt
  | nil => (0, (0, 0))
  | node nil k v _ => (k, v)
  | node l _ _ _ => l.first
def del (k : Int) : T → T
  | nil => nil
  | node l k' v' r => if k < k' then bal (del k l) k' v' r else if k' < k then bal l k' v' (del k r) else
      if r = nil then l else bal l r.first.1 r.first.2 (del r.first.1 r)

theorem size_toL (t : T) : t.toL.length = t.size := by
  induction t with
  | nil => rfl
  | node l k v r ihl ihr => simp [toL, size, ihl, ihr]; omega
theorem ht_le (t : T) : t.ht ≤ t.size := by
  induction t with
  | nil => exact Nat.le_refl _
  | node l k v r ihl ihr => simp only [ht, size]; omega
theorem size_zero {t : T} : t.size = 0 ↔ t = nil := by cases t <;> simp [size]
theorem ht_zero {t : T} : t.ht = 0 ↔ t = nil := by
  cases t with
  | nil => simp [ht]
  | node => simp [ht]

theorem raiseL_toL (l : T) (k : Int) (v : Vt) (r : T) (h : l ≠ nil) : (raiseL l k v r).toL = l.toL ++ (k, v) :: r.toL := by
  cases l with
  | nil => exact absurd rfl h
  | node ll lk lv lr =>
    unfold raiseL
    by_cases hh : lr.ht > ll.ht
    · simp only [if_pos hh]
      cases lr with
      | nil => simp [ht] at hh
      | node a mk mv b => simp [toL]
    · simp [if_neg hh, toL]
theorem raiseR_toL (l : T) (k : Int) (v : Vt) (r : T) (h : r ≠ nil) : (raiseR l k v r).toL = l.toL ++ (k, v) :: r.toL := by
  cases r with
  | nil => exact absurd rfl h
  | node rl rk rv rr =>
    unfold raiseR
    by_cases hh : rl.ht > rr.ht
    · simp only [if_pos hh]
      cases rl with
      | nil => simp [ht] at hh
      | node a mk mv b => simp [toL]
    · simp [if_neg hh, toL]
theorem bal_toL (l : T) (k : Int) (v : Vt) (r : T) : (bal l k v r).toL = l.toL ++ (k, v) :: r.toL := by
  unfold bal
  by_cases h1 : l.ht > r.ht + 1
  · rw [if_pos h1]; exact raiseL_toL l k v r (fun e => by subst e; simp [ht] at h1)
  · rw [if_neg h1]
    by_cases h2 : r.ht > l.ht + 1
    · rw [if_pos h2]; exact raiseR_toL l k v r (fun e => by subst e; simp [ht] at h2)
    · rw [if_neg h2]; rfl
theorem bal_size (l : T) (k : Int) (v : Vt) (r : T) : (bal l k v r).size = l.size + 1 + r.size := by
  rw [← size_toL, bal_toL, List.length_append, List.length_cons, size_toL, size_toL]; omega
theorem ins_size (k : Int) (v : Vt) (t : T) : (ins k v t).size = t.size ∨ (ins k v t).size = t.size + 1 := by
  induction t with
  | nil => right; rfl
  | node l k' v' r ihl ihr =>
    simp only [ins]
    by_cases h1 : k < k'
    · rw [if_pos h1, bal_size]; simp only [size]; omega
    · rw [if_neg h1]
      by_cases h2 : k' < k
      · rw [if_pos h2, bal_size]; simp only [size]; omega
      · rw [if_neg h2]; exact .inl rfl
theorem del_size (k : Int) (t : T) : (del k t).size = t.size ∨ (del k t).size + 1 = t.size := by
  induction t generalizing k with
  | nil => left; rfl
  | node l k' v' r ihl ihr =>
    simp only [del]
    have hl := ihl k
    have hr := ihr k
    have hr2 := ihr r.first.1
    by_cases h1 : k < k'
    · rw [if_pos h1, bal_size]; simp only [size]; omega
    · rw [if_neg h1]
      by_cases h2 : k' < k
      · rw [if_pos h2, bal_size]; simp only [size]; omega
      · rw [if_neg h2]
        by_cases h3 : r = nil
        · rw [if_pos h3]; subst h3; exact .inr rfl
        · rw [if_neg h3, bal_size]; simp only [size]; omega

/-! ### Order -/
/-- keys rise -/
def Up (l : List (Int × Vt)) : Prop := l.Pairwise (fun a b => a.1 < b.1)
theorem up_node {l r : List (Int × Vt)} {k : Int} {v : Vt} : Up (l ++ (k, v) :: r) ↔ Up l ∧ Up r ∧ (∀ x ∈ l, x.1 < k) ∧ (∀ x ∈ r, k < x.1) ∧ (∀ x ∈ l, ∀ y ∈ r, x.1 < y.1) := by
  unfold Up
  rw [List.pairwise_append, List.pairwise_cons]
  constructor
  · rintro ⟨a, ⟨b, c⟩, d⟩
    exact ⟨a, c, fun x hx => d x hx _ (List.mem_cons_self ..), b, fun x hx y hy => d x hx y (List.mem_cons_of_mem _ hy)⟩
  · rintro ⟨a, b, c, d, e⟩
    refine ⟨a, ⟨d, b⟩, fun x hx y hy => ?_⟩
    rcases List.mem_cons.1 hy with rfl | hy
    · exact c x hx
    · exact e x hx y hy
/-- the list with a key's value -/
def putL (k : Int) (v : Vt) (l : List (Int × Vt)) : List (Int × Vt) := l.filter (fun x => x.1 < k) ++ (k, v) :: l.filter (fun x => k < x.1)
def delL (k : Int) (l : List (Int × Vt)) : List (Int × Vt) := l.filter (fun x => x.1 < k) ++ l.filter (fun x => k < x.1)
theorem lo_all {l : List (Int × Vt)} {k : Int} (h : ∀ x ∈ l, x.1 < k) : l.filter (fun x => x.1 < k) = l ∧ l.filter (fun x => k < x.1) = [] :=
  ⟨List.filter_eq_self.2 (fun x hx => by simpa using h x hx), List.filter_eq_nil_iff.2 (fun x hx => by have := h x hx; simp; omega)⟩
theorem hi_all {l : List (Int × Vt)} {k : Int} (h : ∀ x ∈ l, k < x.1) : l.filter (fun x => x.1 < k) = [] ∧ l.filter (fun x => k < x.1) = l :=
  ⟨List.filter_eq_nil_iff.2 (fun x hx => by have := h x hx; simp; omega), List.filter_eq_self.2 (fun x hx => by simpa using h x hx)⟩
theorem ins_toL (k : Int) (v : Vt) (t : T) (h : Up t.toL) : (ins k v t).toL = putL k v t.toL := by
  induction t with
  | nil => rfl
  | node l k' v' r ihl ihr =>
    obtain ⟨hl, hr, hlk, hrk, _⟩ := up_node.1 h
    simp only [ins]
    by_cases h1 : k < k'
    · rw [if_pos h1, bal_toL, ihl hl]
      obtain ⟨e1, e2⟩ := hi_all (l := r.toL) (k := k) (fun x hx => by have := hrk x hx; omega)
      simp only [putL, toL, List.filter_append, List.filter_cons, e1, e2]
      rw [if_neg (by simp; omega), if_pos (by simpa using h1)]
      simp
    · rw [if_neg h1]
      by_cases h2 : k' < k
      · rw [if_pos h2, bal_toL, ihr hr]
        obtain ⟨e1, e2⟩ := lo_all (l := l.toL) (k := k) (fun x hx => by have := hlk x hx; omega)
        simp only [putL, toL, List.filter_append, List.filter_cons, e1, e2]
        rw [if_pos (by simpa using h2), if_neg (by simp; omega)]
        simp
      · rw [if_neg h2]
        obtain rfl : k = k' := by omega
        obtain ⟨e1, e2⟩ := lo_all hlk
        obtain ⟨f1, f2⟩ := hi_all hrk
        simp only [putL, toL, List.filter_append, List.filter_cons, e1, e2, f1, f2]
        simp
theorem first_toL (t : T) (h : t ≠ nil) : t.toL.head? = some t.first := by
  induction t with
  | nil => exact absurd rfl h
  | node l k v r ihl ihr =>
    cases l with
    | nil => rfl
    | node ll lk lv lr =>
      have := ihl (by simp)
      show ((node ll lk lv lr).toL ++ _).head? = _
      rw [List.head?_append, this]
      rfl
theorem first_cons (t : T) (h : t ≠ nil) : ∃ r, t.toL = t.first :: r := by
  have := first_toL t h
  cases e : t.toL with
  | nil => rw [e] at this; cases this
  | cons x r => rw [e] at this; cases this; exact ⟨r, rfl⟩
theorem del_toL (k : Int) (t : T) (h : Up t.toL) : (del k t).toL = delL k t.toL := by
  induction t generalizing k with
  | nil => rfl
  | node l k' v' r ihl ihr =>
    obtain ⟨hl, hr, hlk, hrk, _⟩ := up_node.1 h
    simp only [del]
    by_cases h1 : k < k'
    · rw [if_pos h1, bal_toL, ihl k hl]
      obtain ⟨e1, e2⟩ := hi_all (l := r.toL) (k := k) (fun x hx => by have := hrk x hx; omega)
      simp only [delL, toL, List.filter_append, List.filter_cons, e1, e2]
      rw [if_neg (by simp; omega), if_pos (by simpa using h1)]
      simp
    · rw [if_neg h1]
      by_cases h2 : k' < k
      · rw [if_pos h2, bal_toL, ihr k hr]
        obtain ⟨e1, e2⟩ := lo_all (l := l.toL) (k := k) (fun x hx => by have := hlk x hx; omega)
        simp only [delL, toL, List.filter_append, List.filter_cons, e1, e2]
        rw [if_pos (by simpa using h2), if_neg (by simp; omega)]
        simp
      · rw [if_neg h2]
        obtain rfl : k = k' := by omega
        obtain ⟨e1, e2⟩ := lo_all hlk
        obtain ⟨f1, f2⟩ := hi_all hrk
        have hd : delL k (node l k v' r).toL = l.toL ++ r.toL := by
          simp only [delL, toL, List.filter_append, List.filter_cons, e1, e2, f1, f2]
          simp
        rw [hd]
        by_cases h3 : r = nil
        · rw [if_pos h3]; subst h3; simp [toL]
        · rw [if_neg h3, bal_toL, ihr _ hr]
          obtain ⟨q, hq⟩ := first_cons r h3
          rw [hq] at hr ⊢
          have hq2 := List.pairwise_cons.1 hr
          obtain ⟨g1, g2⟩ := hi_all (l := q) (k := r.first.1) hq2.1
          simp only [delL, List.filter_cons, g1, g2]
          simp
theorem putL_up {k : Int} {v : Vt} {l : List (Int × Vt)} (h : Up l) : Up (putL k v l) := by
  refine up_node.2 ⟨List.Pairwise.filter _ h, List.Pairwise.filter _ h, fun x hx => by simpa using (List.mem_filter.1 hx).2, fun x hx => by simpa using (List.mem_filter.1 hx).2, fun x hx y hy => ?_⟩
  have a : x.1 < k := by simpa using (List.mem_filter.1 hx).2
  have b : k < y.1 := by simpa using (List.mem_filter.1 hy).2
  omega
theorem delL_up {k : Int} {l : List (Int × Vt)} (h : Up l) : Up (delL k l) := by
  have := putL_up (k := k) (v := (0, 0)) h
  obtain ⟨a, b, c, d, e⟩ := up_node.1 this
  unfold delL Up
  rw [List.pairwise_append]
  exact ⟨a, b, e⟩

/-! ### Balance -/
def Bal : T → Prop
  | nil => True
  | node l _ _ r => Bal l ∧ Bal r ∧ l.ht ≤ r.ht + 1 ∧ r.ht ≤ l.ht + 1
theorem bal_Bal {l r : T} (k : Int) (v : Vt) (hl : Bal l) (hr : Bal r) (h1 : l.ht ≤ r.ht + 2) (h2 : r.ht ≤ l.ht + 2) :
    Bal (bal l k v r) ∧ max l.ht r.ht ≤ (bal l k v r).ht ∧ (bal l k v r).ht ≤ 1 + max l.ht r.ht ∧ (l.ht ≤ r.ht + 1 → r.ht ≤ l.ht + 1 → (bal l k v r).ht = 1 + max l.ht r.ht) := by
  unfold bal
  by_cases c1 : l.ht > r.ht + 1
  · rw [if_pos c1]
    cases l with
    | nil => simp [ht] at c1
    | node ll lk lv lr =>
      obtain ⟨b1, b2, b3, b4⟩ := hl
      simp only [ht] at *
      unfold raiseL
      by_cases c2 : lr.ht > ll.ht
      · simp only [if_pos c2]
        cases lr with
        | nil => simp [ht] at c2
        | node a mk mv b =>
          obtain ⟨d1, d2, d3, d4⟩ := b2
          simp only [ht, Bal] at *
          refine ⟨⟨⟨b1, d1, ?_, ?_⟩, ⟨d2, hr, ?_, ?_⟩, ?_, ?_⟩, ?_, ?_, ?_⟩ <;> omega
      · simp only [if_neg c2, ht, Bal]
        refine ⟨⟨b1, ⟨b2, hr, ?_, ?_⟩, ?_, ?_⟩, ?_, ?_, ?_⟩ <;> omega
  · rw [if_neg c1]
    by_cases c3 : r.ht > l.ht + 1
    · rw [if_pos c3]
      cases r with
      | nil => simp [ht] at c3
      | node rl rk rv rr =>
        obtain ⟨b1, b2, b3, b4⟩ := hr
        simp only [ht] at *
        unfold raiseR
        by_cases c2 : rl.ht > rr.ht
        · simp only [if_pos c2]
          cases rl with
          | nil => simp [ht] at c2
          | node a mk mv b =>
            obtain ⟨d1, d2, d3, d4⟩ := b1
            simp only [ht, Bal] at *
            refine ⟨⟨⟨hl, d1, ?_, ?_⟩, ⟨d2, b2, ?_, ?_⟩, ?_, ?_⟩, ?_, ?_, ?_⟩ <;> omega
        · simp only [if_neg c2, ht, Bal]
          refine ⟨⟨⟨hl, b1, ?_, ?_⟩, b2, ?_, ?_⟩, ?_, ?_, ?_⟩ <;> omega
    · rw [if_neg c3]
      simp only [ht, Bal]
      refine ⟨⟨hl, hr, ?_, ?_⟩, ?_, ?_, ?_⟩ <;> first | omega | simp
theorem ins_Bal (k : Int) (v : Vt) {t : T} (h : Bal t) : Bal (ins k v t) ∧ t.ht ≤ (ins k v t).ht ∧ (ins k v t).ht ≤ t.ht + 1 := by
  induction t with
  | nil => simp [ins, Bal, ht]
  | node l k' v' r ihl ihr =>
    obtain ⟨b1, b2, b3, b4⟩ := h
    obtain ⟨l1, l2, l3⟩ := ihl b1
    obtain ⟨r1, r2, r3⟩ := ihr b2
    simp only [ins]
    by_cases h1 : k < k'
    · rw [if_pos h1]
      obtain ⟨q1, q2, q3, q4⟩ := bal_Bal (l := ins k v l) (r := r) k' v' l1 b2 (by omega) (by omega)
      refine ⟨q1, ?_, ?_⟩
      · simp only [ht]
        by_cases c : (ins k v l).ht ≤ r.ht + 1
        · rw [q4 c (by omega)]; omega
        · omega
      · simp only [ht]
        omega
    · rw [if_neg h1]
      by_cases h2 : k' < k
      · rw [if_pos h2]
        obtain ⟨q1, q2, q3, q4⟩ := bal_Bal (l := l) (r := ins k v r) k' v' b1 r1 (by omega) (by omega)
        refine ⟨q1, ?_, ?_⟩
        · simp only [ht]
          by_cases c : (ins k v r).ht ≤ l.ht + 1
          · rw [q4 (by omega) c]; omega
          · omega
        · simp only [ht]
          omega
      · rw [if_neg h2]
        simp only [ht]
        exact ⟨⟨b1, b2, b3, b4⟩, by omega, by omega⟩
theorem del_Bal (k : Int) {t : T} (h : Bal t) : Bal (del k t) ∧ (del k t).ht ≤ t.ht ∧ t.ht ≤ (del k t).ht + 1 := by
  induction t generalizing k with
  | nil => simp [del, Bal, ht]
  | node l k' v' r ihl ihr =>
    obtain ⟨b1, b2, b3, b4⟩ := h
    obtain ⟨l1, l2, l3⟩ := ihl k b1
    obtain ⟨r1, r2, r3⟩ := ihr k b2
    simp only [del]
    by_cases h1 : k < k'
    · rw [if_pos h1]
      obtain ⟨q1, q2, q3, q4⟩ := bal_Bal (l := del k l) (r := r) k' v' l1 b2 (by omega) (by omega)
      refine ⟨q1, ?_, ?_⟩
      · simp only [ht]; omega
      · simp only [ht]
        by_cases c : r.ht ≤ (del k l).ht + 1
        · rw [q4 (by omega) c]; omega
        · omega
    · rw [if_neg h1]
      by_cases h2 : k' < k
      · rw [if_pos h2]
        obtain ⟨q1, q2, q3, q4⟩ := bal_Bal (l := l) (r := del k r) k' v' b1 r1 (by omega) (by omega)
        refine ⟨q1, ?_, ?_⟩
        · simp only [ht]; omega
        · simp only [ht]
          by_cases c : l.ht ≤ (del k r).ht + 1
          · rw [q4 c (by omega)]; omega
          · omega
      · rw [if_neg h2]
        by_cases h3 : r = nil
        · rw [if_pos h3]; subst h3; simp only [ht] at *; exact ⟨b1, by omega, by omega⟩
        · rw [if_neg h3]
          obtain ⟨s1, s2, s3⟩ := ihr r.first.1 b2
          obtain ⟨q1, q2, q3, q4⟩ := bal_Bal (l := l) (r := del r.first.1 r) r.first.1 r.first.2 b1 s1 (by omega) (by omega)
          refine ⟨q1, ?_, ?_⟩
          · simp only [ht]; omega
          · simp only [ht]
            by_cases c : l.ht ≤ (del r.first.1 r).ht + 1
            · rw [q4 c (by omega)]; omega
            · omega
/-- how many keys at least -/
def least : Nat → Nat
  | 0 => 0
  | 1 => 1
  | n + 2 => least n + least (n + 1) + 1
theorem least_step (n : Nat) : least n ≤ least (n + 1) := by
  cases n with
  | zero => exact Nat.zero_le _
  | succ n => show _ ≤ least n + least (n + 1) + 1; omega
theorem least_mono {a b : Nat} (h : a ≤ b) : least a ≤ least b := by
  induction h with
  | refl => exact Nat.le_refl _
  | step _ ih => exact Nat.le_trans ih (least_step _)
theorem least_le {t : T} (h : Bal t) : least t.ht ≤ t.size := by
  induction t with
  | nil => exact Nat.le_refl _
  | node l k v r ihl ihr =>
    obtain ⟨b1, b2, b3, b4⟩ := h
    have hl := ihl b1
    have hr := ihr b2
    simp only [ht, size]
    by_cases c : l.ht ≤ r.ht
    · rw [Nat.max_eq_right c]
      cases e : r.ht with
      | zero => show 1 ≤ _; omega
      | succ n =>
        rw [Nat.add_comm 1]
        show least n + least (n + 1) + 1 ≤ _
        have := least_mono (a := n) (b := l.ht) (by omega)
        rw [e] at hr
        omega
    · rw [Nat.max_eq_left (by omega)]
      cases e : l.ht with
      | zero => show 1 ≤ _; omega
      | succ n =>
        rw [Nat.add_comm 1]
        show least n + least (n + 1) + 1 ≤ _
        have := least_mono (a := n) (b := r.ht) (by omega)
        rw [e] at hl
        omega
theorem least_17 : least 17 = 4180 := by decide
theorem ht_bd {t : T} (h : Bal t) (hs : t.size ≤ 4000) : t.ht ≤ 16 := by
  have := least_le h
  by_cases c : t.ht ≤ 16
  · exact c
  · have := least_mono (a := 17) (b := t.ht) (by omega)
    rw [least_17] at this
    omega
end T
end Go.Proofs.Ytdoedcfmhdnbgaa.bv
