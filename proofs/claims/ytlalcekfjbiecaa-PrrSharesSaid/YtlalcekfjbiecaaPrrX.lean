/-
  Episodes as numbers.
-/
import Derived.Test.YtlalcekfjbiecaaAid
namespace Go.Proofs.Ytlalcekfjbiecaa.pr
open Go.RowKit aid
set_option linter.unusedVariables false

structure Pr where
  mss : Int
  thresh : Int
  whole : Int
  del : Int
  out : Int
  left : Int
  first : Bool
  deriving DecidableEq
structure Ok (x : Pr) : Prop where
  m0 : 1 ≤ x.mss
  m1 : x.mss ≤ 2048
  t0 : 1 ≤ x.thresh
  t1 : x.thresh ≤ x.whole
  w1 : x.whole ≤ 1048576
  d0 : 0 ≤ x.del
  d1 : x.del ≤ 1099511627776
  o0 : 0 ≤ x.out
  l0 : 0 ≤ x.left
  ol : x.out + x.left ≤ 2305843009213693952
/-- P by W, rounded up -/
def cd (P W : Int) : Int := (P + W - 1) / W
theorem cd_spec {P W : Int} (hW : 1 ≤ W) : P ≤ cd P W * W ∧ cd P W * W ≤ P + W - 1 := by
  unfold cd
  have h1 := Int.emod_add_mul_ediv (P + W - 1) W
  have h2 := Int.emod_nonneg (P + W - 1) (b := W) (by omega)
  have h3 := Int.emod_lt_of_pos (P + W - 1) (b := W) (by omega)
  rw [Int.mul_comm W] at h1
  omega
theorem cd_le {d t W : Int} (hd : 0 ≤ d) (ht : 0 ≤ t) (htW : t ≤ W) (hW : 1 ≤ W) : 0 ≤ cd (d * t) W ∧ cd (d * t) W ≤ d := by
  have h := cd_spec (P := d * t) hW
  have h1 : d * t ≤ d * W := Int.mul_le_mul_of_nonneg_left htW hd
  have h0 : 0 ≤ d * t := Int.mul_nonneg hd ht
  generalize cd (d * t) W = q at *
  constructor
  · by_cases hq : 0 ≤ q
    · exact hq
    · have : q * W ≤ -1 * W := Int.mul_le_mul_of_nonneg_right (by omega) (by omega)
      omega
  · by_cases hq : q ≤ d
    · exact hq
    · have : (d + 1) * W ≤ q * W := Int.mul_le_mul_of_nonneg_right (by omega) (by omega)
      rw [Int.add_mul] at this
      omega
theorem cd_mono {P Q W : Int} (hW : 1 ≤ W) (h : P ≤ Q) : cd P W ≤ cd Q W := Int.ediv_le_ediv (by omega) (by omega)
/-- as the document reckons it -/
theorem cd_ref {P W : Int} (hW : 1 ≤ W) : cd P W = P / W + if 0 < P % W then 1 else 0 := by
  unfold cd
  have h1 := Int.emod_add_mul_ediv P W
  have h2 := Int.emod_nonneg P (b := W) (by omega)
  have h3 := Int.emod_lt_of_pos P (b := W) (by omega)
  split
  · have e : P + W - 1 = (P % W - 1) + W * (P / W + 1) := by rw [Int.mul_add]; omega
    rw [e, Int.add_mul_ediv_left _ _ (by omega), Int.ediv_eq_zero_of_lt (by omega) (by omega)]
    omega
  · have e : P + W - 1 = (W - 1) + W * (P / W) := by omega
    rw [e, Int.add_mul_ediv_left _ _ (by omega), Int.ediv_eq_zero_of_lt (by omega) (by omega)]
    omega
def cm (d : Int) : Int := min (max d 0) 1048576
theorem cm_bd (d : Int) : 0 ≤ cm d ∧ cm d ≤ 1048576 := by unfold cm; omega
def sh (x : Pr) : Int := cd (x.del * x.thresh) x.whole
def ackD (x : Pr) (d : Int) : Pr := ⟨x.mss, x.thresh, x.whole, min (x.del + cm d) 1099511627776, x.out, x.left, x.first⟩
def room (x : Pr) (c pipe : Int) : Int := if x.thresh < pipe then sh x - x.out else min (x.thresh - max pipe 0) (max (x.del - x.out) c + x.mss)
def putL (x : Pr) (l : Int) : Pr := ⟨x.mss, x.thresh, x.whole, x.del, x.out, l, x.first⟩
def ack (x : Pr) (d pipe : Int) : Pr := putL (ackD x d) (max (room (ackD x d) (cm d) pipe) 0)
def sent (x : Pr) (n : Int) : Pr := ⟨x.mss, x.thresh, x.whole, x.del, x.out + n, x.left - n, x.first⟩
def sndE (x : Pr) (n : Int) : Int := if n < 0 then 3 else if x.left < n then 4 else 0
def snd (x : Pr) (n : Int) : Pr := if n < 0 then x else if x.left < n then x else sent x n
def fstE (x : Pr) : Int := if x.first = true then 13 else if 0 < x.out then 13 else 0
def fst (x : Pr) : Pr := if x.first = true then x else if 0 < x.out then x else ⟨x.mss, x.thresh, x.whole, x.del, x.out, max x.left x.mss, true⟩
def stp (x : Pr) (k a b : Int) : Pr := if k % 4 = 2 then snd x a else if k % 4 = 3 then fst x else ack x a b
theorem Ok.ackD {x : Pr} (h : Ok x) (d : Int) : Ok (ackD x d) := by
  have := cm_bd d
  obtain ⟨h0, h1, h2, h3, h4, h5, h6, h7, h8, h9⟩ := h
  unfold pr.ackD
  constructor <;> dsimp only <;> omega
theorem sh_bd {x : Pr} (h : Ok x) : 0 ≤ sh x ∧ sh x ≤ x.del := by
  obtain ⟨h0, h1, h2, h3, h4, h5, h6, h7, h8, h9⟩ := h
  exact cd_le h5 (by omega) h3 (by omega)
theorem prod_bd {x : Pr} (h : Ok x) : 0 ≤ x.del * x.thresh ∧ x.del * x.thresh ≤ 1152921504606846976 := by
  obtain ⟨h0, h1, h2, h3, h4, h5, h6, h7, h8, h9⟩ := h
  have e1 : x.del * x.thresh ≤ x.del * 1048576 := Int.mul_le_mul_of_nonneg_left (by omega) h5
  exact ⟨Int.mul_nonneg h5 (by omega), by omega⟩
theorem room_bd {x : Pr} (h : Ok x) {c : Int} (hc : 0 ≤ c ∧ c ≤ 1048576) (pipe : Int) : -2305843009213693952 ≤ room x c pipe ∧ room x c pipe ≤ 1099511627776 ∧ x.out + room x c pipe ≤ max x.del (x.out + c) + x.mss := by
  have hs := sh_bd h
  obtain ⟨h0, h1, h2, h3, h4, h5, h6, h7, h8, h9⟩ := h
  unfold room
  split <;> omega
/-- what may have gone behind k answers -/
structure Inv (k : Nat) (x : Pr) : Prop where
  ok : Ok x
  d : x.del ≤ k * 1048576
  b : x.out + x.left ≤ x.del + k * x.mss + (if x.first = true then x.mss else 0)
theorem Inv.up {k : Nat} {x : Pr} (h : Inv k x) : Inv (k + 1) x := by
  obtain ⟨h1, h2, h3⟩ := h
  have := h1.m0
  refine ⟨h1, by omega, ?_⟩
  have : ((k + 1 : Nat) : Int) * x.mss = k * x.mss + x.mss := by rw [Int.natCast_add, Int.add_mul]; simp
  rw [this]
  omega
theorem inv_ack {k : Nat} {x : Pr} (h : Inv k x) (hk : k < 300) (d pipe : Int) : Inv (k + 1) (ack x d pipe) := by
  have hc := cm_bd d
  have hA := h.ok.ackD d
  have hr := room_bd hA hc pipe
  obtain ⟨⟨h0, h1, h2, h3, h4, h5, h6, h7, h8, h9⟩, hd, hb⟩ := h
  have e : ((k + 1 : Nat) : Int) * x.mss = k * x.mss + x.mss := by rw [Int.natCast_add, Int.add_mul]; simp
  have e1 : (k : Int) * x.mss ≤ k * 2048 := Int.mul_le_mul_of_nonneg_left h1 (by omega)
  have e2 : (if x.first = true then x.mss else 0) ≤ 2048 := by split <;> omega
  have e3 : 0 ≤ (if x.first = true then x.mss else 0) := by split <;> omega
  have e4 : 0 ≤ (k : Int) * x.mss := Int.mul_nonneg (by omega) (by omega)
  unfold ack
  generalize room (ackD x d) (cm d) pipe = r at *
  unfold ackD at *
  dsimp only at hr
  unfold putL
  generalize cm d = c at *
  refine ⟨?_, ?_, ?_⟩
  · constructor <;> dsimp only <;> omega
  · dsimp only; omega
  · dsimp only
    rw [e]
    omega
theorem inv_snd {k : Nat} {x : Pr} (h : Inv k x) (n : Int) : Inv k (snd x n) := by
  unfold snd
  split
  · exact h
  split
  · exact h
  obtain ⟨⟨h0, h1, h2, h3, h4, h5, h6, h7, h8, h9⟩, hd, hb⟩ := h
  unfold sent
  refine ⟨?_, hd, ?_⟩
  · constructor <;> dsimp only <;> omega
  · dsimp only; omega
theorem inv_fst {k : Nat} {x : Pr} (h : Inv k x) : Inv k (fst x) := by
  unfold fst
  split
  · exact h
  split
  · exact h
  next hf ho =>
  obtain ⟨⟨h0, h1, h2, h3, h4, h5, h6, h7, h8, h9⟩, hd, hb⟩ := h
  rw [if_neg hf] at hb
  have e4 : 0 ≤ (k : Int) * x.mss := Int.mul_nonneg (by omega) (by omega)
  refine ⟨?_, hd, ?_⟩
  · constructor <;> dsimp only <;> omega
  · dsimp only; rw [if_pos rfl]; omega
theorem inv_stp {k : Nat} {x : Pr} (h : Inv k x) (hk : k < 300) (t a b : Int) : Inv (k + 1) (stp x t a b) := by
  unfold stp
  split
  · exact (inv_snd h _).up
  split
  · exact (inv_fst h).up
  · exact inv_ack h hk _ _
theorem inv_new {m f t : Int} (h : 1 ≤ m ∧ m ≤ 2048 ∧ 0 ≤ f ∧ f ≤ 1048576 ∧ 1 ≤ t ∧ t ≤ 1048576) : Inv 0 ⟨m, t, max f t, 0, 0, 0, false⟩ := by
  obtain ⟨h1, h2, h3, h4, h5, h6⟩ := h
  refine ⟨?_, ?_, ?_⟩
  · constructor <;> dsimp only <;> omega
  · simp
  · simp
theorem stp_same (x : Pr) (k a b : Int) : (stp x k a b).mss = x.mss ∧ (stp x k a b).thresh = x.thresh ∧ (stp x k a b).whole = x.whole := by
  unfold stp
  split
  · unfold snd; split
    · exact ⟨rfl, rfl, rfl⟩
    split <;> exact ⟨rfl, rfl, rfl⟩
  split
  · unfold fst; split
    · exact ⟨rfl, rfl, rfl⟩
    split <;> exact ⟨rfl, rfl, rfl⟩
  · exact ⟨rfl, rfl, rfl⟩
end Go.Proofs.Ytlalcekfjbiecaa.pr
