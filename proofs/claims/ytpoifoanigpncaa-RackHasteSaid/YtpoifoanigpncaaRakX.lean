/-
  Package rack, as numbers. Imports nothing of the program.
-/
import Derived.Test.YtpoifoanigpncaaBokX
import Derived.Test.YtpoifoanigpncaaSeqX
namespace Go.Proofs.Ytpoifoanigpncaa.rk
open Go.RowKit aid mem bk
set_option linter.unusedVariables false

structure Rk where
  floor : Int
  rtt : Int
  order : Int
  fin : Int
  mixed : Bool
  mult : Int
  round : Int
  rest : Int
structure Ok (x : Rk) : Prop where
  f : 0 ≤ x.floor ∧ x.floor ≤ 68719476736
  r : 0 ≤ x.rtt ∧ x.rtt ≤ 4611686018427387904
  m : 1 ≤ x.mult ∧ x.mult ≤ 16
  p : 1 ≤ x.rest ∧ x.rest ≤ 16
def hld (n : Int) : Int := min (max n 0) 68719476736
theorem hld_bd (n : Int) : 0 ≤ hld n ∧ hld n ≤ 68719476736 := by unfold hld; omega
def newR (floor : Int) : Rk := ⟨floor, 0, 0, 0, false, 1, 0, 16⟩
/-- how far it goes, and whether in another order -/
def rch (x : Rk) (r : Rc) : Rk := ⟨x.floor, x.rtt, x.order, max x.fin r.t, x.mixed || (decide (r.times = 1) && decide (r.t < x.fin)), x.mult, x.round, x.rest⟩
def aheadB (told : Bool) (val sent : Int) : Bool := told && decide (0 < sq.dist val (sq.m32 sent))
/-- does its time count? -/
def unsure (r : Rc) (now least : Int) (has told : Bool) (val : Int) : Bool := decide (1 < r.times) && (aheadB told val r.sent || !has || decide (now - r.sent < least))
def cameB (x : Rk) (r : Rc) (now least : Int) (has told : Bool) (val : Int) : Bool := !decide (now < r.sent) && !unsure r now least has told val && !decide (r.order ≤ x.order)
def came (x : Rk) (r : Rc) (now least : Int) (has told : Bool) (val : Int) : Rk :=
  if cameB x r now least has told val then ⟨x.floor, now - r.sent, r.order, (rch x r).fin, (rch x r).mixed, x.mult, x.round, x.rest⟩ else rch x r
def dupB (x : Rk) (una : Int) : Bool := !decide (una < x.round)
def dup (x : Rk) (una nxt : Int) : Rk := if dupB x una then ⟨x.floor, x.rtt, x.order, x.fin, x.mixed, min (x.mult + 1) 16, nxt, 16⟩ else x
def calm (x : Rk) : Rk := if x.rest = 1 then ⟨x.floor, x.rtt, x.order, x.fin, x.mixed, 1, x.round, 16⟩ else ⟨x.floor, x.rtt, x.order, x.fin, x.mixed, x.mult, x.round, x.rest - 1⟩
/-- the window -/
def win (x : Rk) (least : Int) (has : Bool) (srtt : Int) (sharp : Bool) : Int :=
  if !has || (sharp && !x.mixed) then x.floor else max (min (x.mult * hld least / 4) (hld srtt)) x.floor
theorem Ok.rch {x : Rk} (h : Ok x) (r : Rc) : Ok (rch x r) := ⟨h.f, h.r, h.m, h.p⟩
theorem Ok.came {x : Rk} (h : Ok x) {r : Rc} {now least : Int} {has told : Bool} {val : Int} (h1 : 0 ≤ r.sent) (h2 : now ≤ 4611686018427387904) : Ok (came x r now least has told val) := by
  unfold rk.came
  by_cases c : cameB x r now least has told val = true
  · rw [if_pos c]
    have : ¬ now < r.sent := by
      unfold cameB at c
      simp only [Bool.and_eq_true, Bool.not_eq_true', decide_eq_false_iff_not] at c
      exact c.1.1
    exact ⟨h.f, ⟨by simp only; omega, by simp only; omega⟩, h.m, h.p⟩
  · rw [if_neg c]; exact h.rch r
theorem Ok.dup {x : Rk} (h : Ok x) (una nxt : Int) : Ok (dup x una nxt) := by
  unfold rk.dup
  have := h.m
  split
  · exact ⟨h.f, h.r, ⟨by simp only; omega, by simp only; omega⟩, ⟨by simp only; omega, by simp only; omega⟩⟩
  · exact h
theorem Ok.calm {x : Rk} (h : Ok x) : Ok (calm x) := by
  unfold rk.calm
  have := h.p
  split
  · exact ⟨h.f, h.r, ⟨by simp only; omega, by simp only; omega⟩, ⟨by simp only; omega, by simp only; omega⟩⟩
  · exact ⟨h.f, h.r, h.m, ⟨by simp only; omega, by simp only; omega⟩⟩
theorem new_ok {f : Int} (h : 0 ≤ f ∧ f ≤ 68719476736) : Ok (newR f) := ⟨h, by simp [newR], by simp [newR], by simp [newR]⟩
theorem win_bd {x : Rk} (h : Ok x) (least : Int) (has : Bool) (srtt : Int) (sharp : Bool) : x.floor ≤ win x least has srtt sharp ∧ win x least has srtt sharp ≤ max x.floor (hld srtt) := by
  unfold win
  split <;> omega
end Go.Proofs.Ytpoifoanigpncaa.rk
