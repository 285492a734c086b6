/-
  Values within a window as numbers: what the document says of them. Imports nothing of the program.
-/
import Derived.Test.YtgonfdedapnlnaaMem
namespace Go.Proofs.Ytgonfdedapnlnaa.lo
open Go.RowKit aid mem
set_option linter.unusedVariables false

abbrev Mk := Int × Int
/-- came within the window that ends at T -/
def inW (w T : Int) (m : Mk) : Bool := decide (T - m.1 < w)
def kstep (w : Int) (k : List Mk) (m : Mk) : List Mk := k.filter (fun x => inW w m.1 x && decide (x.2 < m.2)) ++ [m]
def Up (k : List Mk) : Prop := k.Pairwise (fun a b => a.1 ≤ b.1 ∧ a.2 < b.2)
/-- what came, what is kept of it, when the last one came -/
inductive HK (w : Int) : List Mk → List Mk → Int → Prop
  | nil : HK w [] [] 0
  | add {had k : List Mk} {last : Int} {m : Mk} : HK w had k last → last ≤ m.1 → m.1 ≤ 4611686018427387904 → 0 ≤ m.2 → m.2 ≤ 4611686018427387904 → HK w (had ++ [m]) (kstep w k m) m.1

def MOk (last : Int) (x : Mk) : Prop := 0 ≤ x.1 ∧ x.1 ≤ last ∧ x.1 ≤ 4611686018427387904 ∧ 0 ≤ x.2 ∧ x.2 ≤ 4611686018427387904
theorem MOk.mono {a b : Int} {x : Mk} (h : MOk a x) (hb : a ≤ b) : MOk b x := ⟨h.1, by have := h.2.1; omega, h.2.2⟩
theorem HK.last {w : Int} {had k : List Mk} {last : Int} (h : HK w had k last) : 0 ≤ last ∧ last ≤ 4611686018427387904 := by
  induction h with
  | nil => exact ⟨by omega, by omega⟩
  | add h h1 h2 h3 h4 ih => exact ⟨by omega, h2⟩
theorem HK.had {w : Int} {had k : List Mk} {last : Int} (h : HK w had k last) : ∀ x ∈ had, MOk last x := by
  induction h with
  | nil => intro x hx; cases hx
  | add h h1 h2 h3 h4 ih =>
    intro x hx
    rcases List.mem_append.1 hx with hx | hx
    · exact (ih x hx).mono h1
    · have h0 := h.last
      simp at hx
      subst hx
      exact ⟨by omega, Int.le_refl _, h2, h3, h4⟩
theorem HK.kept {w : Int} {had k : List Mk} {last : Int} (h : HK w had k last) : ∀ x ∈ k, MOk last x := by
  induction h with
  | nil => intro x hx; cases hx
  | add h h1 h2 h3 h4 ih =>
    intro x hx
    rcases List.mem_append.1 hx with hx | hx
    · exact (ih x (List.mem_filter.1 hx).1).mono h1
    · have h0 := h.last
      simp at hx
      subst hx
      exact ⟨by omega, Int.le_refl _, h2, h3, h4⟩
theorem HK.inw {w : Int} (hw : 1 ≤ w) {had k : List Mk} {last : Int} (h : HK w had k last) : ∀ x ∈ k, inW w last x = true := by
  cases h with
  | nil => intro x hx; cases hx
  | add h h1 h2 h3 h4 =>
    intro x hx
    rcases List.mem_append.1 hx with hx | hx
    · have := (List.mem_filter.1 hx).2
      simp at this
      exact this.1
    · simp at hx
      subst hx
      unfold inW
      simp
      omega
theorem HK.up {w : Int} {had k : List Mk} {last : Int} (h : HK w had k last) : Up k := by
  induction h with
  | nil => exact List.Pairwise.nil
  | @add had k last m h h1 h2 h3 h4 ih =>
    refine List.pairwise_append.2 ⟨List.Pairwise.filter _ ih, List.pairwise_singleton _ _, ?_⟩
    intro a ha b hb
    simp at hb
    subst hb
    obtain ⟨h5, h6⟩ := List.mem_filter.1 ha
    simp at h6
    exact ⟨by have := (h.kept a h5).2.1; omega, h6.2⟩

/-- the least one, as the document has it -/
def mnStep (w T : Int) (b : Int) (m : Mk) : Int := if T - m.1 < w ∧ (b < 0 ∨ m.2 < b) then m.2 else b
def mn (w T : Int) (l : List Mk) : Int := l.foldl (mnStep w T) (-1)
def hdV : List Mk → Int
  | [] => -1
  | x :: _ => x.2
theorem mn_snoc (w T : Int) (l : List Mk) (m : Mk) : mn w T (l ++ [m]) = mnStep w T (mn w T l) m := by simp [mn]
theorem filter_nil {k : List Mk} {p : Mk → Bool} (h : ∀ x ∈ k, p x = false) : k.filter p = [] := by
  rw [List.filter_eq_nil_iff]; intro x hx; rw [h x hx]; simp
theorem HK.mn {w : Int} {had k : List Mk} {last : Int} (h : HK w had k last) : ∀ T, last ≤ T → mn w T had = hdV (k.filter (inW w T)) := by
  induction h with
  | nil => intro T hT; rfl
  | @add had k last m h h1 h2 h3 h4 ih =>
    intro T hT
    rw [mn_snoc, ih T (by omega)]
    have hk := h.kept
    have hup := h.up
    have e : (kstep w k m).filter (inW w T) = (k.filter (inW w T)).filter (fun x => decide (x.2 < m.2)) ++ [m].filter (inW w T) := by
      unfold kstep
      rw [List.filter_append, List.filter_filter, List.filter_filter]
      congr 1
      apply List.filter_congr
      intro x hx
      have := (hk x hx).2.1
      by_cases hi : inW w T x = true
      · have : inW w m.1 x = true := by unfold inW at *; simp at *; omega
        simp [hi, this]
      · simp at hi
        simp [hi]
    rw [e]
    have hup2 : Up (k.filter (inW w T)) := List.Pairwise.filter _ hup
    have hmem : ∀ x ∈ k.filter (inW w T), 0 ≤ x.2 := fun x hx => (hk x (List.mem_filter.1 hx).1).2.2.2.1
    have hin : inW w T m = false → k.filter (inW w T) = [] := by
      intro hm
      apply filter_nil
      intro x hx
      have := (hk x hx).2.1
      unfold inW at *
      simp at *
      omega
    generalize hL : k.filter (inW w T) = L at *
    cases hm : inW w T m with
    | false =>
      rw [hin hm]
      have hm' : ¬ T - m.1 < w := by simpa [inW] using hm
      simp [mnStep, hm', hdV, hm]
    | true =>
      have hm' : T - m.1 < w := by simpa [inW] using hm
      cases L with
      | nil => simp [mnStep, hm', hdV, hm]
      | cons x t =>
        have hx0 := hmem x (by simp)
        by_cases hxm : x.2 < m.2
        · simp [mnStep, hm', hdV, hxm]
          omega
        · have hnil : (x :: t).filter (fun y => decide (y.2 < m.2)) = [] := by
            apply filter_nil
            intro y hy
            rcases List.mem_cons.1 hy with rfl | hy
            · simp; omega
            · have := (List.pairwise_cons.1 hup2).1 y hy
              simp; omega
          rw [hnil]
          simp [mnStep, hm', hdV, hm]
          omega

/-- how many are less than all behind them, within the window, and such that p -/
def cn (w T : Int) (p : Mk → Bool) : List Mk → Nat
  | [] => 0
  | x :: t => (if inW w T x && (t.all (fun y => decide (x.2 < y.2)) && p x) then 1 else 0) + cn w T p t
theorem cn_snoc (w T : Int) (m : Mk) : ∀ (l : List Mk) (p : Mk → Bool), cn w T p (l ++ [m]) = cn w T (fun x => p x && decide (x.2 < m.2)) l + if inW w T m && p m then 1 else 0
  | [], p => by simp [cn]
  | x :: t, p => by
    rw [List.cons_append]
    simp only [cn]
    rw [cn_snoc w T m t p]
    have : (t ++ [m]).all (fun y => decide (x.2 < y.2)) = (t.all (fun y => decide (x.2 < y.2)) && decide (x.2 < m.2)) := by simp
    rw [this]
    have e : (inW w T x && ((t.all (fun y => decide (x.2 < y.2)) && decide (x.2 < m.2)) && p x)) = (inW w T x && (t.all (fun y => decide (x.2 < y.2)) && (p x && decide (x.2 < m.2)))) := by
      cases inW w T x <;> cases t.all (fun y => decide (x.2 < y.2)) <;> cases p x <;> cases decide (x.2 < m.2) <;> rfl
    rw [e]
    omega
theorem HK.cn {w : Int} {had k : List Mk} {last : Int} (h : HK w had k last) : ∀ T, last ≤ T → ∀ p : Mk → Bool, cn w T p had = k.countP (fun x => inW w T x && p x) := by
  induction h with
  | nil => intro T hT p; rfl
  | @add had k last m h h1 h2 h3 h4 ih =>
    intro T hT p
    rw [cn_snoc, ih T (by omega)]
    unfold kstep
    rw [List.countP_append, List.countP_filter]
    congr 1
    · apply List.countP_congr
      intro x hx
      have := (h.kept x hx).2.1
      by_cases hi : inW w T x = true
      · have : inW w m.1 x = true := by unfold inW at *; simp at *; omega
        simp [hi, this]
      · simp at hi
        simp [hi]
    · simp [List.countP_cons]
theorem HK.len {w : Int} (hw : 1 ≤ w) {had k : List Mk} {last : Int} (h : HK w had k last) : lo.cn w last (fun _ => true) had = k.length := by
  rw [h.cn last (Int.le_refl _)]
  rw [List.countP_eq_length]
  intro x hx
  simp [h.inw hw x hx]

/-- a list's middle is what is told of it -/
theorem mid_filter (p : Mk → Bool) (l : List Mk) (b e : Nat) (hbe : b ≤ e) (he : e ≤ l.length) (h1 : ∀ i, i < b → p (l.getD i (0, 0)) = false) (h2 : ∀ i, b ≤ i → i < e → p (l.getD i (0, 0)) = true)
    (h3 : ∀ i, e ≤ i → i < l.length → p (l.getD i (0, 0)) = false) : l.filter p = (l.take e).drop b := by
  have hl : l = (l.take e).take b ++ ((l.take e).drop b ++ l.drop e) := by rw [← List.append_assoc, List.take_append_drop, List.take_append_drop]
  have a1 : ((l.take e).take b).filter p = [] := by
    apply filter_nil
    intro x hx
    obtain ⟨i, hi, rfl⟩ := List.getElem_of_mem hx
    have hib : i < b := by simp at hi; omega
    have := h1 i hib
    simp only [List.getElem_take]
    rwa [show l.getD i (0, 0) = l[i] from by simp [List.getD, show i < l.length by omega]] at this
  have a3 : (l.drop e).filter p = [] := by
    apply filter_nil
    intro x hx
    obtain ⟨i, hi, rfl⟩ := List.getElem_of_mem hx
    have hie : e + i < l.length := by simp at hi; omega
    have := h3 (e + i) (by omega) hie
    simp only [List.getElem_drop]
    rwa [show l.getD (e + i) (0, 0) = l[e + i] from by simp [List.getD, hie]] at this
  have a2 : ((l.take e).drop b).filter p = (l.take e).drop b := by
    rw [List.filter_eq_self]
    intro x hx
    obtain ⟨i, hi, rfl⟩ := List.getElem_of_mem hx
    have hie : b + i < e := by simp at hi; omega
    have := h2 (b + i) (by omega) hie
    simp only [List.getElem_drop, List.getElem_take]
    rwa [show l.getD (b + i) (0, 0) = l[b + i] from by simp [List.getD, show b + i < l.length by omega]] at this
  conv => lhs; rw [hl]
  rw [List.filter_append, List.filter_append, a1, a2, a3]
  simp
theorem Up.at {k : List Mk} (h : Up k) {i j : Nat} (hij : i < j) (hj : j < k.length) : (k.getD i (0, 0)).1 ≤ (k.getD j (0, 0)).1 ∧ (k.getD i (0, 0)).2 < (k.getD j (0, 0)).2 := by
  have := (List.pairwise_iff_getElem.1 h) i j (by omega) hj hij
  rw [show k.getD i (0, 0) = k[i] from by simp [List.getD, show i < k.length by omega], show k.getD j (0, 0) = k[j] from by simp [List.getD, hj]]
  exact this
/-- the first that is told of, where all behind it are -/
theorem first_filter (p : Mk → Bool) (l : List Mk) (r : Nat) (hr : r ≤ l.length) (h1 : ∀ i, i < r → p (l.getD i (0, 0)) = false) (h2 : ∀ i, r ≤ i → i < l.length → p (l.getD i (0, 0)) = true) : l.filter p = l.drop r := by
  have := mid_filter p l r l.length hr (Nat.le_refl _) h1 h2 (fun i h h' => by omega)
  rwa [List.take_length] at this
theorem drop_hd {l : List Mk} {r : Nat} (h : r < l.length) : hdV (l.drop r) = (l.getD r (0, 0)).2 := by
  rw [List.drop_eq_getElem_cons h]
  simp [hdV, List.getD, h]
end Go.Proofs.Ytgonfdedapnlnaa.lo
