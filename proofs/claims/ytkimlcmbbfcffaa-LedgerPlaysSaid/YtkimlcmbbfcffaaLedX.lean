/-
  Ledgers as lists.
-/
import Derived.Test.YtkimlcmbbfcffaaRunZ
namespace Go.Proofs.Ytkimlcmbbfcffaa.lg
open Go.RowKit aid sp rn
set_option linter.unusedVariables false

structure Ld where
  op : Bool
  cw : Int
  th : Int
  l : List Sp
  sp : Bool
structure Ok (x : Ld) : Prop where
  n : x.l.length ≤ 256
  ne : ∀ p ∈ x.l, lenI p ≠ 0
def pcw (x : Ld) : Int := if x.op = true then x.cw else 0
def pth (x : Ld) : Int := if x.op = true then x.th else 0
/-- where the first one stands that a span holds -/
def idx (s : Sp) (l : List Sp) : Nat := plc (fun p => holdsB s p) l
def hasB (s : Sp) (l : List Sp) : Bool := decide (idx s l < l.length)
def del (s : Sp) (l : List Sp) : List Sp := l.take (idx s l) ++ l.drop (idx s l + 1)
def cutX (x : Ld) (c t : Int) : Ld := if x.op = true then x else ⟨true, c, t, x.l, x.sp⟩
def againE (x : Ld) (s : Sp) : Int := if lenI s = 0 then 3 else if 256 ≤ x.l.length then 4 else 0
def againX (x : Ld) (s : Sp) : Ld := if lenI s = 0 then x else if 256 ≤ x.l.length then ⟨x.op, x.cw, x.th, x.l, true⟩ else ⟨x.op, x.cw, x.th, x.l ++ [s], x.sp⟩
def dupX (x : Ld) (s : Sp) : Ld := if hasB s x.l = true then ⟨x.op, x.cw, x.th, del s x.l, x.sp⟩ else x
def forceX (x : Ld) : Ld := ⟨false, x.cw, x.th, x.l, x.sp⟩
def undoB (x : Ld) : Bool := x.op && decide (x.l.length = 0) && !x.sp
def undoX (x : Ld) : Ld := if undoB x = true then forceX x else x
theorem Ok.cut {x : Ld} (h : Ok x) (c t : Int) : Ok (cutX x c t) := by unfold cutX; split <;> exact ⟨h.n, h.ne⟩
theorem Ok.again {x : Ld} (h : Ok x) (s : Sp) : Ok (againX x s) := by
  unfold againX
  split
  · exact h
  · split
    · exact ⟨h.n, h.ne⟩
    · refine ⟨by simp; omega, fun p hp => ?_⟩
      rcases List.mem_append.1 hp with hp | hp
      · exact h.ne p hp
      · simp at hp; subst hp; assumption
theorem del_len {s : Sp} {l : List Sp} (h : hasB s l = true) : (del s l).length = l.length - 1 ∧ 0 < l.length := by
  have : idx s l < l.length := of_decide_eq_true h
  unfold del
  rw [List.length_append, List.length_take, List.length_drop]
  omega
theorem Ok.dup {x : Ld} (h : Ok x) (s : Sp) : Ok (dupX x s) := by
  unfold dupX
  split
  next hb =>
    have := del_len hb
    refine ⟨by have := h.n; simp only; omega, fun p hp => ?_⟩
    rcases List.mem_append.1 hp with hp | hp
    · exact h.ne p (List.mem_of_mem_take hp)
    · exact h.ne p (List.mem_of_mem_drop hp)
  · exact h
theorem Ok.force {x : Ld} (h : Ok x) : Ok (forceX x) := ⟨h.n, h.ne⟩
theorem Ok.undo {x : Ld} (h : Ok x) : Ok (undoX x) := by unfold undoX; split; exact h.force; exact h
/-- an empty span holds none that is not -/
theorem holds_empty {s p : Sp} (hs : lenI s = 0) (hp : lenI p ≠ 0) : holdsB s p = false := by
  have h1 : (fitP s.1 s.2).2 = (fitP s.1 s.2).1 := by unfold lenI at hs; omega
  have h2 : meetP s p = (0, 0) := by unfold meetP betw; rw [if_pos (by omega)]
  unfold holdsB
  rw [h2, decide_eq_false hp, Bool.false_or]
  refine decide_eq_false (fun e => ?_)
  subst e
  exact hp (by decide)
theorem idx_empty {s : Sp} {l : List Sp} (hs : lenI s = 0) (hl : ∀ p ∈ l, lenI p ≠ 0) : hasB s l = false := by
  unfold hasB idx
  refine decide_eq_false (fun h => ?_)
  have h2 := (plc_parts (fun p => holdsB s p) l).2.1 h
  rw [holds_empty hs (hl _ (by rw [show l.getD _ (0, 0) = l[plc (fun p => holdsB s p) l] from by simp [List.getD, h]]; exact List.getElem_mem _))] at h2
  cases h2
theorem idx_is {s : Sp} {l : List Sp} {k : Nat} (hk : k < l.length) (h : ∀ t, t < k → holdsB s (l.getD t (0, 0)) = false) (h2 : holdsB s (l.getD k (0, 0)) = true) : idx s l = k := by
  obtain ⟨p1, p2, p3⟩ := plc_parts (fun p => holdsB s p) l
  unfold idx
  rcases Nat.lt_trichotomy (plc (fun x => holdsB s x) l) k with c | c | c
  · have a := p2 (by omega)
    have b := h _ c
    rw [b] at a; cases a
  · exact c
  · have hm : l.getD k (0, 0) ∈ l.take (plc (fun x => holdsB s x) l) := by
      have : k < (l.take (plc (fun x => holdsB s x) l)).length := by rw [List.length_take]; omega
      have e : (l.take (plc (fun x => holdsB s x) l))[k] = l.getD k (0, 0) := by simp [List.getD, show k < l.length by omega]
      rw [← e]; exact List.getElem_mem _
    have := p1 _ hm
    rw [h2] at this; cases this
theorem idx_none {s : Sp} {l : List Sp} (h : ∀ t, t < l.length → holdsB s (l.getD t (0, 0)) = false) : hasB s l = false := by
  unfold hasB idx
  refine decide_eq_false (fun c => ?_)
  have a := (plc_parts (fun p => holdsB s p) l).2.1 c
  have b := h _ c
  rw [b] at a; cases a
end Go.Proofs.Ytkimlcmbbfcffaa.lg
