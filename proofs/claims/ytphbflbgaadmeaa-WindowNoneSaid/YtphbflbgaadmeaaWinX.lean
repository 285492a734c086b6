/-
  Windows as numbers.
-/
import Derived.Test.YtphbflbgaadmeaaAid
namespace Go.Proofs.Ytphbflbgaadmeaa.wn
open Go.RowKit aid
set_option linter.unusedVariables false

structure Wn where
  mss : Int
  most : Int
  cwnd : Int
  thresh : Int
  count : Int
  deriving DecidableEq
structure Ok (x : Wn) : Prop where
  m0 : 0 ≤ x.mss
  m1 : x.mss ≤ 2048
  c0 : x.mss ≤ x.cwnd
  c1 : x.cwnd ≤ x.most
  x1 : x.most ≤ 1048576
  t0 : 0 ≤ x.thresh
  t1 : x.thresh ≤ x.most
  n0 : 0 ≤ x.count
  n1 : x.count ≤ 1048576
def hold (n lo hi : Int) : Int := min (max n lo) hi
def put (x : Wn) (n : Int) : Wn := ⟨x.mss, x.most, hold n x.mss x.most, x.thresh, x.count⟩
def fall (x : Wn) : Wn := ⟨x.mss, x.most, x.mss, x.thresh, x.count⟩
def cutT (x : Wn) (f : Int) : Int := hold (hold f 0 1048576 / 2) (2 * x.mss) x.most
def cut (x : Wn) (f : Int) : Wn := ⟨x.mss, x.most, x.cwnd, cutT x f, 0⟩
def lift (x : Wn) (a b : Int) : Wn := ⟨x.mss, x.most, hold a x.cwnd x.most, hold b x.thresh x.most, x.count⟩
def grow (x : Wn) (a : Int) : Wn :=
  if a < 1 then x else if x.cwnd < x.thresh then put x (x.cwnd + min a x.mss)
  else if x.count + min a x.cwnd < x.cwnd then ⟨x.mss, x.most, x.cwnd, x.thresh, x.count + min a x.cwnd⟩
  else put ⟨x.mss, x.most, x.cwnd, x.thresh, x.count + min a x.cwnd - x.cwnd⟩ (x.cwnd + x.mss)
theorem hold_in {n lo hi : Int} (h : lo ≤ hi) : lo ≤ hold n lo hi ∧ hold n lo hi ≤ hi := by unfold hold; omega
theorem Ok.put {x : Wn} (h : Ok x) (n : Int) : Ok (put x n) := by
  obtain ⟨h0, h1, h2, h3, h4, h5, h6, h7, h8⟩ := h
  unfold wn.put
  constructor <;> dsimp only <;> (try unfold hold) <;> omega
theorem Ok.fall {x : Wn} (h : Ok x) : Ok (fall x) := by
  obtain ⟨h0, h1, h2, h3, h4, h5, h6, h7, h8⟩ := h
  unfold wn.fall
  constructor <;> dsimp only <;> omega
theorem Ok.cut {x : Wn} (h : Ok x) (f : Int) : Ok (cut x f) := by
  obtain ⟨h0, h1, h2, h3, h4, h5, h6, h7, h8⟩ := h
  unfold wn.cut cutT
  constructor <;> dsimp only <;> (try unfold hold) <;> omega
theorem Ok.lift {x : Wn} (h : Ok x) (a b : Int) : Ok (lift x a b) := by
  obtain ⟨h0, h1, h2, h3, h4, h5, h6, h7, h8⟩ := h
  unfold wn.lift
  constructor <;> dsimp only <;> (try unfold hold) <;> omega
theorem Ok.grow {x : Wn} (h : Ok x) (a : Int) : Ok (grow x a) := by
  have hp := h.put
  obtain ⟨h0, h1, h2, h3, h4, h5, h6, h7, h8⟩ := h
  unfold wn.grow
  split
  · exact ⟨h0, h1, h2, h3, h4, h5, h6, h7, h8⟩
  split
  · exact hp _
  split
  · constructor <;> dsimp only <;> omega
  · refine Ok.put ?_ _
    constructor <;> dsimp only <;> omega
theorem fall_put {x : Wn} (h : Ok x) : put x x.mss = fall x := by
  have := h.c0; have := h.c1
  unfold put fall hold
  have : min (max x.mss x.mss) x.most = x.mss := by omega
  rw [this]
theorem ok_zero : Ok ⟨0, 0, 0, 0, 0⟩ := by constructor <;> decide
/-- a step -/
def stp (x : Wn) (k a b : Int) : Wn := if k % 6 = 2 then cut x a else if k % 6 = 3 then put x a else if k % 6 = 4 then fall x else if k % 6 = 5 then lift x a b else grow x a
theorem Ok.stp {x : Wn} (h : Ok x) (k a b : Int) : Ok (stp x k a b) := by
  unfold wn.stp
  split
  · exact h.cut _
  split
  · exact h.put _
  split
  · exact h.fall
  split
  · exact h.lift _ _
  · exact h.grow _
theorem stp_same (x : Wn) (k a b : Int) : (stp x k a b).mss = x.mss ∧ (stp x k a b).most = x.most := by
  unfold stp
  split
  · exact ⟨rfl, rfl⟩
  split
  · exact ⟨rfl, rfl⟩
  split
  · exact ⟨rfl, rfl⟩
  split
  · exact ⟨rfl, rfl⟩
  unfold grow
  split
  · exact ⟨rfl, rfl⟩
  split
  · exact ⟨rfl, rfl⟩
  split <;> exact ⟨rfl, rfl⟩
theorem grow_thresh (x : Wn) (a : Int) : (grow x a).thresh = x.thresh := by
  unfold grow
  split
  · rfl
  split
  · rfl
  split <;> rfl
theorem stp_thresh {x : Wn} (h : Ok x) (hm : 1 ≤ x.mss) (ht : 1 ≤ x.thresh) (k a b : Int) : 1 ≤ (stp x k a b).thresh := by
  have := h.c0; have := h.c1; have := h.t1
  unfold stp
  split
  · unfold cut cutT hold; dsimp only; omega
  split
  · exact ht
  split
  · exact ht
  split
  · unfold lift hold; dsimp only; omega
  · rw [grow_thresh]; exact ht
theorem new_ok {m s l : Int} (h : 1 ≤ m ∧ m ≤ 2048 ∧ m ≤ l ∧ l ≤ 1048576 ∧ m ≤ s ∧ s ≤ l) : Ok ⟨m, l, s, l, 0⟩ := by
  obtain ⟨h1, h2, h3, h4, h5, h6⟩ := h
  constructor <;> dsimp only <;> omega
/-- what is given back -/
theorem lift_cwnd {x : Wn} (h : Ok x) (a b : Int) : x.cwnd ≤ (lift x a b).cwnd ∧ (lift x a b).cwnd ≤ max a x.cwnd ∧ x.thresh ≤ (lift x a b).thresh ∧ (lift x a b).thresh ≤ max b x.thresh := by
  have := h.c1; have := h.t1
  unfold lift hold
  dsimp only
  omega
end Go.Proofs.Ytphbflbgaadmeaa.wn
