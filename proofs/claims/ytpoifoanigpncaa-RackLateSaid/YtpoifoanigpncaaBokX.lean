/-
  Records, and lines of nodes, as lists. Imports nothing of the program.
-/
import Derived.Test.YtpoifoanigpncaaMem
namespace Go.Proofs.Ytpoifoanigpncaa.bk
open Go.RowKit aid mem
set_option linter.unusedVariables false

structure Rc where
  f : Int
  t : Int
  sent : Int
  order : Int
  times : Int
  out : Int
  lost : Bool
deriving DecidableEq
instance : Inhabited Rc := ⟨⟨0, 0, 0, 0, 0, 0, false⟩⟩
def Rc.zero : Rc := ⟨0, 0, 0, 0, 0, 0, false⟩
/-- a node: its block, its record -/
abbrev Nd := Nat × Rc
def hd (z : Option Nat) : List Nd → Option Nat
  | [] => z
  | x :: _ => some x.1
def la (a : Option Nat) : List Nd → Option Nat
  | [] => a
  | x :: l => la (some x.1) l
theorem la_append (a : Option Nat) (l r : List Nd) : la a (l ++ r) = la (la a l) r := by
  induction l generalizing a with
  | nil => rfl
  | cons x l ih => exact ih _
theorem hd_append (z : Option Nat) (l r : List Nd) : hd z (l ++ r) = hd (hd z r) l := by
  cases l <;> rfl
theorem la_none {l : List Nd} : la none l = none ↔ l = [] := by
  suffices H : ∀ (l : List Nd) (a : Option Nat), (∃ x, a = some x) → ∃ x, la a l = some x by
    cases l with
    | nil => simp [la]
    | cons x l =>
      obtain ⟨y, hy⟩ := H l (some x.1) ⟨_, rfl⟩
      simp [la, hy]
  intro l
  induction l with
  | nil => exact fun a h => h
  | cons x l ih => exact fun a _ => ih _ ⟨_, rfl⟩
theorem hd_none {l : List Nd} : hd none l = none ↔ l = [] := by cases l <;> simp [hd]
theorem la_mem {l : List Nd} {b : Nat} (h : la none l = some b) : ∃ l' r, l = l' ++ [(b, r)] := by
  rcases List.eq_nil_or_concat l with rfl | ⟨l', x, rfl⟩
  · cases h
  · rw [List.concat_eq_append, la_append] at h
    simp [la] at h
    exact ⟨l', x.2, by rw [List.concat_eq_append, ← h]⟩
/-- what a node's record is once it is sent again -/
def Rc.goes (r : Rc) (now order : Int) : Rc := ⟨r.f, r.t, now, order, r.times + 1, r.out + 1, false⟩
def Rc.lose (r : Rc) : Rc := ⟨r.f, r.t, r.sent, r.order, r.times, 0, true⟩
end Go.Proofs.Ytpoifoanigpncaa.bk
