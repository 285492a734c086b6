/-
  Alarms as lists: heaps, places.
-/
import Derived.Maps.OwnSet
import Derived.Test.YtnioaaahkhephaaAid
namespace Go.Proofs.Ytnioaaahkhephaa.al
open Go.Maps
set_option linter.unusedVariables false
set_option linter.unusedSimpArgs false

abbrev Al := Int × Int
def g (l : List Al) (i : Nat) : Al := l.getD i (0, 0)
def lt (x y : Al) : Bool := decide (x.2 < y.2) || (decide (x.2 = y.2) && decide (x.1 < y.1))
theorem lt_iff {x y : Al} : lt x y = true ↔ x.2 < y.2 ∨ (x.2 = y.2 ∧ x.1 < y.1) := by unfold lt; simp
theorem nlt_iff {x y : Al} : lt x y = false ↔ ¬ (x.2 < y.2 ∨ (x.2 = y.2 ∧ x.1 < y.1)) := by rw [← lt_iff]; simp
theorem lt_asym {x y : Al} (h : lt x y = true) : lt y x = false := by rw [lt_iff] at h; rw [nlt_iff]; omega
theorem nlt_trans {x y z : Al} (h : lt x y = false) (k : lt y z = false) : lt x z = false := by rw [nlt_iff] at *; omega
def swp (l : List Al) (i j : Nat) : List Al := (l.set i (g l j)).set j (g l i)
theorem swp_len (l : List Al) (i j : Nat) : (swp l i j).length = l.length := by simp [swp]
theorem g_set {l : List Al} {i : Nat} (hi : i < l.length) (x : Al) (k : Nat) : g (l.set i x) k = if k = i then x else g l k := by
  unfold g
  simp only [List.getD]
  rw [List.getElem?_set]
  by_cases h : i = k
  · subst h; simp [hi]
  · rw [if_neg h, if_neg (fun e => h e.symm)]
theorem g_swp {l : List Al} {i j : Nat} (hi : i < l.length) (hj : j < l.length) (k : Nat) : g (swp l i j) k = if k = j then g l i else if k = i then g l j else g l k := by
  unfold swp
  rw [g_set (by simpa using hj), g_set hi]
theorem swp_perm {l : List Al} {i j : Nat} (hi : i < l.length) (hj : j < l.length) : (swp l i j).Perm l := by
  have h := List.set_set_perm hi hj
  unfold swp g
  simpa [List.getD, hi, hj] using h
theorem g_ext {l r : List Al} (hl : l.length = r.length) (h : ∀ k, k < l.length → g l k = g r k) : l = r := by
  apply List.ext_getElem hl
  intro k h1 h2
  have := h k h1
  unfold g at this
  simpa [List.getD, h1, h2] using this
theorem g_mem {l : List Al} {i : Nat} (hi : i < l.length) : g l i ∈ l := by
  unfold g; simp [List.getD, hi]
theorem mem_g {l : List Al} {x : Al} (h : x ∈ l) : ∃ i, i < l.length ∧ g l i = x := by
  obtain ⟨i, hi, e⟩ := List.getElem_of_mem h
  exact ⟨i, hi, by unfold g; simp [List.getD, hi, e]⟩
def par (k : Nat) : Nat := (k - 1) / 2
def HeapN (l : List Al) (n : Nat) : Prop := ∀ k, 0 < k → k < n → lt (g l k) (g l (par k)) = false
def Up (l : List Al) (n j : Nat) : Prop := (∀ k, 0 < k → k < n → k ≠ j → lt (g l k) (g l (par k)) = false) ∧ ∀ k, 0 < k → k < n → par k = j → 0 < j → lt (g l k) (g l (par j)) = false
def Dn (l : List Al) (n i0 i : Nat) : Prop := (∀ k, 0 < k → k < n → par k ≠ i → (k ≠ i0 ∨ i0 < i) → lt (g l k) (g l (par k)) = false) ∧ ∀ k, 0 < k → k < n → par k = i → 0 < i → lt (g l k) (g l (par i)) = false
theorem up_end {l : List Al} {n j : Nat} (h : Up l n j) (hj : j = 0 ∨ lt (g l j) (g l (par j)) = false) : HeapN l n := by
  intro k h0 hk
  by_cases e : k = j
  · subst e
    rcases hj with hj | hj
    · omega
    · exact hj
  · exact h.1 k h0 hk e
theorem up_step {l : List Al} {n j : Nat} (h : Up l n j) (hn : n ≤ l.length) (hj : j < n) (h0 : 0 < j) (hl : lt (g l j) (g l (par j)) = true) : Up (swp l (par j) j) n (par j) := by
  have hp : par j < j := by unfold par; omega
  have hi : par j < l.length := by omega
  have hjl : j < l.length := by omega
  refine ⟨fun k k0 hk hne => ?_, fun k k0 hk hpk hp0 => ?_⟩
  · rw [g_swp hi hjl, g_swp hi hjl]
    have hpk : par k < k := by unfold par; omega
    by_cases e1 : k = j
    · subst e1
      rw [if_pos rfl, if_neg (by omega), if_pos rfl]
      exact lt_asym hl
    · rw [if_neg e1, if_neg hne]
      by_cases e2 : par k = j
      · rw [if_pos e2]
        exact h.2 k k0 hk e2 h0
      · rw [if_neg e2]
        by_cases e3 : par k = par j
        · rw [if_pos e3]
          have := h.1 k k0 hk e1
          rw [e3] at this
          exact nlt_trans this (lt_asym hl)
        · rw [if_neg e3]
          exact h.1 k k0 hk e1
  · have hpp : par (par j) < par j := by unfold par at *; omega
    rw [g_swp hi hjl, g_swp hi hjl, if_neg (show par (par j) ≠ j by omega), if_neg (show par (par j) ≠ par j by omega)]
    have hpar : lt (g l (par j)) (g l (par (par j))) = false := h.1 _ hp0 (by omega) (by omega)
    by_cases e1 : k = j
    · rw [if_pos e1]; exact hpar
    · have hkp : par k < k := by unfold par; omega
      rw [if_neg e1, if_neg (by omega)]
      have := h.1 k k0 hk e1
      rw [hpk] at this
      exact nlt_trans this hpar
theorem par_child {k i : Nat} (h0 : 0 < k) : par k = i ↔ k = 2 * i + 1 ∨ k = 2 * i + 2 := by unfold par; omega
theorem dn_step {l : List Al} {n i0 i j : Nat} (h : Dn l n i0 i) (hn : n ≤ l.length) (h0 : i0 ≤ i) (hj : j < n) (hij : par j = i) (hj0 : 0 < j) (hl : lt (g l j) (g l i) = true)
    (hs : ∀ k, 0 < k → k < n → par k = i → lt (g l k) (g l j) = false) : Dn (swp l i j) n i0 j := by
  have hji : i < j := by unfold par at hij; omega
  have hi : i < l.length := by omega
  have hjl : j < l.length := by omega
  refine ⟨fun k k0 hk hp hc => ?_, fun k k0 hk hp _ => ?_⟩
  · rw [g_swp hi hjl, g_swp hi hjl]
    have hpk : par k < k := by unfold par; omega
    rw [if_neg hp]
    by_cases e1 : k = j
    · rw [if_pos e1, if_pos (by rw [e1]; exact hij)]
      exact lt_asym hl
    · rw [if_neg e1]
      by_cases e2 : k = i
      · subst e2
        rw [if_pos rfl, if_neg (by omega)]
        exact h.2 j hj0 hj hij (by omega)
      · rw [if_neg e2]
        by_cases e3 : par k = i
        · rw [if_pos e3]
          exact hs k k0 hk e3
        · rw [if_neg e3]
          refine h.1 k k0 hk e3 ?_
          by_cases e4 : k = i0
          · exact .inr (by omega)
          · exact .inl e4
  · have hkj : j < k := by unfold par at hp; omega
    rw [g_swp hi hjl, g_swp hi hjl, if_neg (by omega), if_neg (by omega), hij, if_neg (by omega), if_pos rfl]
    have := h.1 k k0 hk (by omega) (.inl (by omega))
    rw [hp] at this
    exact this
/-- at its end -/
def DnEnd (l : List Al) (n i0 : Nat) (moved : Bool) : Prop := ∀ k, 0 < k → k < n → (k ≠ i0 ∨ moved = true) → lt (g l k) (g l (par k)) = false
theorem dn_end {l : List Al} {n i0 i : Nat} (h : Dn l n i0 i) (h0 : i0 ≤ i) (hs : ∀ k, 0 < k → k < n → par k = i → lt (g l k) (g l i) = false) : DnEnd l n i0 (decide (i0 < i)) := by
  intro k k0 hk hc
  by_cases e : par k = i
  · rw [e]; exact hs k k0 hk e
  · exact h.1 k k0 hk e (hc.imp id of_decide_eq_true)
theorem small_child {l : List Al} {n i j : Nat} (hj : j = 2 * i + 1 ∨ j = 2 * i + 2) (h1 : j = 2 * i + 2 → lt (g l j) (g l (2 * i + 1)) = true) (h2 : j = 2 * i + 1 → 2 * i + 2 < n → lt (g l (2 * i + 2)) (g l j) = false) :
    ∀ k, 0 < k → k < n → par k = i → lt (g l k) (g l j) = false := by
  intro k k0 hk hp
  rcases (par_child k0).1 hp with e | e
  · rcases hj with q | q
    · rw [e, q, nlt_iff]; omega
    · rw [e]; exact lt_asym (h1 q)
  · rcases hj with q | q
    · rw [e]; exact h2 q (by omega)
    · rw [e, q, nlt_iff]; omega
/-- what is permuted, below n alone -/
structure PermN (l l' : List Al) (n : Nat) : Prop where
  perm : l'.Perm l
  out : ∀ k, n ≤ k → g l' k = g l k
theorem PermN.refl (l : List Al) (n : Nat) : PermN l l n := ⟨.refl _, fun _ _ => rfl⟩
theorem PermN.trans {l m r : List Al} {n : Nat} (h : PermN l m n) (k : PermN m r n) : PermN l r n := ⟨k.perm.trans h.perm, fun i hi => (k.out i hi).trans (h.out i hi)⟩
theorem PermN.swp {l : List Al} {n i j : Nat} (hn : n ≤ l.length) (hi : i < n) (hj : j < n) : PermN l (swp l i j) n :=
  ⟨swp_perm (by omega) (by omega), fun k hk => by rw [g_swp (by omega) (by omega), if_neg (by omega), if_neg (by omega)]⟩
/-- the names' places -/
abbrev kl (a : Int) : Lit := .int .i64 a
abbrev pl (i : Nat) : DataW Unit := .lit (.int .i64 i)
structure Pl (l : List Al) (D : DataW Unit) : Prop where
  tidy : Tidy D
  size : Maps.size D = l.length
  nd : (l.map (·.1)).Nodup
  at_ : ∀ i, i < l.length → Maps.has D (kl (g l i).1) = true ∧ ∀ z, D.atKey (kl (g l i).1) z = pl i
  no : ∀ a, (∀ x ∈ l, x.1 ≠ a) → Maps.has D (kl a) = false
theorem ik (a : Int) : WideAt.IsKeyLit (kl a) := trivial
theorem kl_ne {a b : Int} (h : a ≠ b) : kl a ≠ kl b := fun e => by injection e with _ e; exact h e
theorem pl_nil : Pl [] (.map []) := ⟨tidy_empty, rfl, by simp, fun i h => by simp at h, fun a _ => rfl⟩
theorem nd_ne {l : List Al} (h : (l.map (·.1)).Nodup) {i j : Nat} (hi : i < l.length) (hj : j < l.length) (hne : i ≠ j) : (g l i).1 ≠ (g l j).1 := by
  intro e
  have hi' : i < (l.map (·.1)).length := by simpa using hi
  have hj' : j < (l.map (·.1)).length := by simpa using hj
  have := (List.getElem_inj (h₀ := hi') (h₁ := hj') h).1 (by unfold g at e; simpa [List.getD, hi, hj] using e)
  exact hne this
theorem nd_perm {l l' : List Al} (h : l'.Perm l) (hn : (l.map (·.1)).Nodup) : (l'.map (·.1)).Nodup := ((h.map (·.1)).nodup_iff).2 hn
theorem pl_swp {l : List Al} {D : DataW Unit} (h : Pl l D) {i j : Nat} (hi : i < l.length) (hj : j < l.length) : Pl (swp l i j) ((D.put (kl (g l j).1) (pl i)).put (kl (g l i).1) (pl j)) := by
  have hp := swp_perm hi hj
  have t1 : Tidy (D.put (kl (g l j).1) (pl i)) := h.tidy.put (ik _) _
  have hh : Maps.has (D.put (kl (g l j).1) (pl i)) (kl (g l i).1) = true := by
    by_cases e : (g l i).1 = (g l j).1
    · rw [e]; exact has_put_same h.tidy.isMap (ik _) _
    · rw [has_put_other (kl_ne e)]; exact (h.at_ i hi).1
  refine ⟨t1.put (ik _) _, ?_, nd_perm hp h.nd, fun k hk => ?_, fun a ha => ?_⟩
  · rw [size_put t1, if_pos hh, size_put h.tidy, if_pos (h.at_ j hj).1, swp_len, h.size]
  · rw [swp_len] at hk
    rw [g_swp hi hj]
    by_cases e1 : k = j
    · subst e1
      rw [if_pos rfl]
      exact ⟨has_put_same t1.isMap (ik _) _, fun z => atKey_put_same t1.isMap (ik _) _ _⟩
    · rw [if_neg e1]
      by_cases e2 : k = i
      · subst e2
        rw [if_pos rfl]
        have hne := kl_ne (nd_ne h.nd hj hi (fun e => e1 e.symm))
        exact ⟨by rw [has_put_other hne]; exact has_put_same h.tidy.isMap (ik _) _, fun z => by rw [atKey_put_other hne]; exact atKey_put_same h.tidy.isMap (ik _) _ _⟩
      · rw [if_neg e2]
        have n1 := kl_ne (nd_ne h.nd hk hi e2)
        have n2 := kl_ne (nd_ne h.nd hk hj e1)
        exact ⟨by rw [has_put_other n1, has_put_other n2]; exact (h.at_ k hk).1, fun z => by rw [atKey_put_other n1, atKey_put_other n2]; exact (h.at_ k hk).2 z⟩
  · have ha' : ∀ x ∈ l, x.1 ≠ a := fun x hx => ha x (hp.mem_iff.2 hx)
    rw [has_put_other (kl_ne (ha' _ (g_mem hi)).symm), has_put_other (kl_ne (ha' _ (g_mem hj)).symm)]
    exact h.no a ha'
theorem g_app {l : List Al} {x : Al} (k : Nat) (hk : k ≤ l.length) : g (l ++ [x]) k = if k = l.length then x else g l k := by
  unfold g
  simp only [List.getD]
  by_cases e : k = l.length
  · subst e; simp
  · rw [if_neg e, List.getElem?_append_left (by omega)]
theorem pl_push {l : List Al} {D : DataW Unit} (h : Pl l D) (x : Al) (hx : ∀ y ∈ l, y.1 ≠ x.1) : Pl (l ++ [x]) (D.put (kl x.1) (pl l.length)) := by
  refine ⟨h.tidy.put (ik _) _, ?_, ?_, fun k hk => ?_, fun a ha => ?_⟩
  · rw [size_put h.tidy, if_neg (by rw [h.no _ hx]; simp), h.size]; simp
  · rw [List.map_append, List.nodup_append]
    refine ⟨h.nd, by simp, fun a ha b hb e => ?_⟩
    simp at hb
    obtain ⟨y, hy, rfl⟩ := List.mem_map.1 ha
    exact hx y hy (e.trans hb)
  · simp only [List.length_append, List.length_singleton] at hk
    rw [g_app k (by omega)]
    by_cases e : k = l.length
    · rw [if_pos e, e]
      exact ⟨has_put_same h.tidy.isMap (ik _) _, fun z => atKey_put_same h.tidy.isMap (ik _) _ _⟩
    · rw [if_neg e]
      have hne := kl_ne (hx _ (g_mem (show k < l.length by omega)))
      exact ⟨by rw [has_put_other hne]; exact (h.at_ k (by omega)).1, fun z => by rw [atKey_put_other hne]; exact (h.at_ k (by omega)).2 z⟩
  · have h1 : ∀ y ∈ l, y.1 ≠ a := fun y hy => ha y (by simp [hy])
    rw [has_put_other (kl_ne (ha x (by simp)).symm)]
    exact h.no a h1
theorem g_take {l : List Al} {n k : Nat} (hk : k < n) : g (l.take n) k = g l k := by
  unfold g; simp only [List.getD]; rw [List.getElem?_take, if_pos hk]
theorem take_last {l : List Al} {n : Nat} (hn : l.length = n + 1) : l = l.take n ++ [g l n] := by
  have h1 : n < l.length := by omega
  have : l.take (n + 1) = l.take n ++ [l[n]] := List.take_succ_eq_append_getElem h1
  rw [List.take_of_length_le (by omega)] at this
  unfold g; simpa [List.getD, h1] using this
theorem pl_pop {l : List Al} {D : DataW Unit} (h : Pl l D) {n : Nat} (hn : l.length = n + 1) : Pl (l.take n) (D.del (kl (g l n).1)) := by
  have e := take_last hn
  have hnd := h.nd
  rw [e, List.map_append, List.nodup_append] at hnd
  have hne : ∀ k, k < n → (g l k).1 ≠ (g l n).1 := fun k hk => nd_ne h.nd (by omega) (by omega) (by omega)
  refine ⟨h.tidy.del _, ?_, hnd.1, fun k hk => ?_, fun a ha => ?_⟩
  · have := size_del (k := kl (g l n).1) h.tidy
    rw [if_pos (h.at_ n (by omega)).1, h.size] at this
    rw [List.length_take]; omega
  · rw [List.length_take] at hk
    rw [g_take (by omega)]
    have n1 := kl_ne (hne k (by omega))
    exact ⟨by rw [has_del_other n1]; exact (h.at_ k (by omega)).1, fun z => by rw [atKey_del_other n1]; exact (h.at_ k (by omega)).2 z⟩
  · by_cases ea : a = (g l n).1
    · rw [ea]; exact has_del_same
    · rw [has_del_other (kl_ne ea)]
      refine h.no a (fun x hx => ?_)
      rw [e] at hx
      rcases List.mem_append.1 hx with q | q
      · exact ha x q
      · simp at q; rw [q]; exact fun e2 => ea e2.symm
theorem set_names {l : List Al} {i : Nat} (t : Int) : (l.set i ((g l i).1, t)).map (·.1) = l.map (·.1) := by
  rw [List.map_set]
  by_cases h : i < l.length
  · apply List.ext_getElem (by simp)
    intro k h1 h2
    rw [List.getElem_set]
    split
    · rename_i e; subst e; unfold g; simp [List.getD, h]
    · rfl
  · rw [List.set_eq_of_length_le (by simp; omega)]
theorem pl_set {l : List Al} {D : DataW Unit} (h : Pl l D) {i : Nat} (hi : i < l.length) (t : Int) : Pl (l.set i ((g l i).1, t)) D := by
  refine ⟨h.tidy, by rw [h.size]; simp, by rw [set_names]; exact h.nd, fun k hk => ?_, fun a ha => h.no a (fun x hx => ?_)⟩
  · rw [List.length_set] at hk
    rw [g_set hi]
    split
    · rename_i e; subst e; exact h.at_ k hk
    · exact h.at_ k hk
  · have : x.1 ∈ (l.set i ((g l i).1, t)).map (·.1) := by rw [set_names]; exact List.mem_map.2 ⟨x, hx, rfl⟩
    obtain ⟨y, hy, e⟩ := List.mem_map.1 this
    rw [← e]; exact ha y hy
/-- where a name is found -/
theorem pl_has {l : List Al} {D : DataW Unit} (h : Pl l D) (a : Int) : (Maps.has D (kl a) = true ∧ ∃ i, i < l.length ∧ (g l i).1 = a ∧ ∀ z, D.atKey (kl a) z = pl i) ∨ (Maps.has D (kl a) = false ∧ (∀ x ∈ l, x.1 ≠ a)) := by
  by_cases e : ∃ x ∈ l, x.1 = a
  · obtain ⟨x, hx, rfl⟩ := e
    obtain ⟨i, hi, rfl⟩ := mem_g hx
    exact .inl ⟨(h.at_ i hi).1, i, hi, rfl, (h.at_ i hi).2⟩
  · have : ∀ x ∈ l, x.1 ≠ a := fun x hx q => e ⟨x, hx, q⟩
    exact .inr ⟨h.no a this, this⟩
/-- the head of a heap is the least -/
theorem heap_least {l : List Al} {n : Nat} (h : HeapN l n) : ∀ k, k < n → lt (g l k) (g l 0) = false := by
  intro k
  induction k using Nat.strongRecOn with
  | ind k ih =>
    intro hk
    by_cases e : k = 0
    · subst e; rw [nlt_iff]; omega
    · have hp : par k < k := by unfold par; omega
      exact nlt_trans (h k (by omega) hk) (ih _ hp (by omega))
/-- what stands between when one is set to another time: Fix -/
theorem fix_dn {l : List Al} (h : HeapN l l.length) {i : Nat} (hi : i < l.length) (x : Al) : Dn (l.set i x) l.length i i := by
  refine ⟨fun k k0 hk hp hc => ?_, fun k k0 hk hp h0 => ?_⟩
  · have hki : k ≠ i := by rcases hc with q | q; exact q; omega
    rw [g_set hi, g_set hi, if_neg hki, if_neg hp]
    exact h k k0 hk
  · have hpk : par k < k := by unfold par; omega
    have hpi : par i < i := by unfold par; omega
    rw [g_set hi, g_set hi, if_neg (by omega), if_neg (by omega)]
    have h1 := h k k0 hk
    rw [hp] at h1
    exact nlt_trans h1 (h i h0 hi)
theorem rem_dn {l : List Al} {n i : Nat} (h : HeapN l (n + 1)) (hn : l.length = n + 1) (hi : i < n) : Dn (swp l i n) n i i := by
  have e1 : i < l.length := by omega
  have e2 : n < l.length := by omega
  refine ⟨fun k k0 hk hp hc => ?_, fun k k0 hk hp h0 => ?_⟩
  · have hki : k ≠ i := by rcases hc with q | q; exact q; omega
    have hpk : par k < k := by unfold par; omega
    rw [g_swp e1 e2, g_swp e1 e2, if_neg (by omega), if_neg hki, if_neg (by omega), if_neg hp]
    exact h k k0 (by omega)
  · have hpk : par k < k := by unfold par; omega
    have hpi : par i < i := by unfold par; omega
    rw [g_swp e1 e2, g_swp e1 e2, if_neg (by omega), if_neg (by omega), if_neg (by omega), if_neg (by omega)]
    have h1 := h k k0 (by omega)
    rw [hp] at h1
    exact nlt_trans h1 (h i h0 (by omega))
/-- down that moved nothing leaves it to up -/
theorem dn_up {l : List Al} {n i : Nat} (h : Dn l n i i) (he : DnEnd l n i false) : Up l n i :=
  ⟨fun k k0 hk hne => he k k0 hk (.inl hne), fun k k0 hk hp h0 => h.2 k k0 hk hp h0⟩
theorem dn_moved {l : List Al} {n i : Nat} (he : DnEnd l n i true) : HeapN l n := fun k k0 hk => he k k0 hk (.inr rfl)
theorem push_up {l : List Al} (h : HeapN l l.length) (x : Al) : Up (l ++ [x]) (l.length + 1) l.length := by
  refine ⟨fun k k0 hk hne => ?_, fun k k0 hk hp h0 => ?_⟩
  · have hpk : par k < k := by unfold par; omega
    rw [g_app k (by omega), g_app (par k) (by omega), if_neg hne, if_neg (by omega)]
    exact h k k0 (by omega)
  · have hpk : par k < k := by unfold par; omega
    omega
end Go.Proofs.Ytnioaaahkhephaa.al
