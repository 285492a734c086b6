/-
  Estimates as numbers: what the document says of them. Imports nothing of the program.
-/
import Derived.Test.YtpabbdfjfnbdbaaMem
namespace Go.Proofs.Ytpabbdfjfnbdbaa.rt
open Go.RowKit aid mem

/-- doubled so often -/
def dn (t : Int) : Nat → Int
  | 0 => t
  | d + 1 => 2 * dn t d
theorem dn_pow (t : Int) (d : Nat) : dn t d = t * 2 ^ d := by
  induction d with
  | zero => simp [dn]
  | succ d ih => rw [dn, ih, Int.pow_succ]; rw [Int.mul_comm 2, Int.mul_assoc]
theorem dn_mono {a b : Int} (h : a ≤ b) (d : Nat) : dn a d ≤ dn b d := by
  induction d with
  | zero => exact h
  | succ d ih => simp only [dn]; omega
theorem dn_ge {a : Int} (h : 1 ≤ a) (d : Nat) : a + d ≤ dn a d := by
  induction d with
  | zero => simp [dn]
  | succ d ih => simp only [dn]; omega
theorem dn_up {a : Int} (h : 1 ≤ a) {d k : Nat} (hk : d ≤ k) : dn a d ≤ dn a k := by
  induction k with
  | zero => obtain rfl : d = 0 := by omega
            exact Int.le_refl _
  | succ k ih =>
    by_cases hd : d = k + 1
    · subst hd; exact Int.le_refl _
    · have := ih (by omega)
      have := dn_ge h k
      simp only [dn]; omega
theorem dn_one (d : Nat) : dn 1 d = 2 ^ d := by rw [dn_pow]; omega

structure Es where
  least : Int
  most : Int
  srtt : Int
  vary : Int
  has : Bool
  dbl : Nat

def bas (e : Es) : Int := if e.has then e.srtt + max (4 * e.vary) 1 else 1000000
def low (e : Es) : Int := max (bas e) e.least
/-- how long to wait, not doubled -/
def pl (e : Es) : Int := min (low e) e.most
def rto (e : Es) : Int := min (dn (low e) e.dbl) e.most
def far (a b : Int) : Int := if a ≤ b then b - a else a - b
def smp (e : Es) (r : Int) : Es :=
  if e.has then ⟨e.least, e.most, (7 * e.srtt + r) / 8, (3 * e.vary + far e.srtt r) / 4, true, 0⟩ else ⟨e.least, e.most, r, r / 2, true, 0⟩
def bck (e : Es) : Es := if e.most ≤ rto e then e else ⟨e.least, e.most, e.srtt, e.vary, e.has, e.dbl + 1⟩
def bckB (e : Es) : Bool := !decide (e.most ≤ rto e)

structure Ok (e : Es) : Prop where
  l1 : 1 ≤ e.least
  lm : e.least ≤ e.most
  m36 : e.most ≤ 68719476736
  s0 : 0 ≤ e.srtt
  s1 : e.srtt ≤ 68719476736
  v0 : 0 ≤ e.vary
  v1 : e.vary ≤ 68719476736
  dd : dn (pl e) e.dbl ≤ 2 * e.most

theorem Ok.pl1 {e : Es} (h : Ok e) : 1 ≤ pl e := by
  have := h.l1; have := h.lm
  unfold pl low; omega
theorem Ok.d37 {e : Es} (h : Ok e) : e.dbl ≤ 37 := by
  have h1 := dn_mono h.pl1 e.dbl
  have h2 := h.dd
  have h3 := h.m36
  by_cases hd : e.dbl ≤ 37
  · exact hd
  · exfalso
    have h4 := dn_up (a := 1) (by omega) (show 38 ≤ e.dbl by omega)
    have h5 : dn 1 38 = 274877906944 := by decide
    omega
theorem Ok.base {e : Es} (h : Ok e) : 1 ≤ bas e ∧ bas e ≤ 343597383680 := by
  have := h.s0; have := h.s1; have := h.v0; have := h.v1
  unfold bas
  split <;> omega
theorem Ok.low1 {e : Es} (h : Ok e) : 1 ≤ low e ∧ e.least ≤ low e ∧ low e ≤ 343597383680 := by
  have := h.base; have := h.l1; have := h.lm; have := h.m36
  unfold low; omega
/-- held, not doubled and doubled: as the code does it -/
theorem Ok.rto {e : Es} (h : Ok e) : min (max (dn (pl e) e.dbl) e.least) e.most = rt.rto e := by
  have h1 := h.low1
  have h2 := h.l1; have h3 := h.lm
  have h5 := dn_ge h.pl1 e.dbl
  unfold rt.rto
  by_cases hc : low e ≤ e.most
  · have hp : pl e = low e := by unfold pl; omega
    rw [hp] at h5 ⊢
    omega
  · have hp : pl e = e.most := by unfold pl; omega
    rw [hp] at h5 ⊢
    have h6 := dn_ge h1.1 e.dbl
    omega
theorem Ok.rto_bd {e : Es} (h : Ok e) : e.least ≤ rt.rto e ∧ rt.rto e ≤ e.most := by
  have h1 := h.low1
  have h3 := h.lm
  have h6 := dn_ge h1.1 e.dbl
  unfold rt.rto; omega
theorem far_bd {a b : Int} (h : 0 ≤ a ∧ a ≤ 68719476736) (h2 : 0 ≤ b ∧ b ≤ 68719476736) : 0 ≤ far a b ∧ far a b ≤ 68719476736 := by
  unfold far; split <;> omega
theorem Ok.smp {e : Es} (h : Ok e) {r : Int} (hr : 0 ≤ r ∧ r ≤ 68719476736) : Ok (smp e r) := by
  have f := far_bd ⟨h.s0, h.s1⟩ hr
  have := h.s0; have := h.s1; have := h.v0; have := h.v1; have := h.l1; have := h.lm; have := h.m36
  unfold rt.smp
  split
  · refine ⟨h.l1, h.lm, h.m36, ?_, ?_, ?_, ?_, ?_⟩ <;> simp only [dn] <;> try omega
    show min _ e.most ≤ _
    omega
  · refine ⟨h.l1, h.lm, h.m36, ?_, ?_, ?_, ?_, ?_⟩ <;> simp only [dn] <;> try omega
    show min _ e.most ≤ _
    omega
theorem Ok.bck {e : Es} (h : Ok e) : Ok (bck e) := by
  unfold rt.bck
  split
  · exact h
  · rename_i hn
    refine ⟨h.l1, h.lm, h.m36, h.s0, h.s1, h.v0, h.v1, ?_⟩
    show 2 * dn (pl e) e.dbl ≤ 2 * e.most
    have h1 : dn (pl e) e.dbl ≤ dn (low e) e.dbl := dn_mono (by unfold pl; omega) _
    unfold rt.rto at hn
    omega
theorem new_ok {l m : Int} (h : 1 ≤ l) (h1 : l ≤ m) (h2 : m ≤ 68719476736) : Ok ⟨l, m, 0, 0, false, 0⟩ := by
  refine ⟨h, h1, h2, by simp, by simp, by simp, by simp, ?_⟩
  simp only [dn]
  show min _ m ≤ _
  omega
end Go.Proofs.Ytpabbdfjfnbdbaa.rt
