/-
  Package dup: what blocks say, as numbers.
-/
import Derived.Test.YtegfmjkngbnnfaaSeqX
import Derived.Test.YtegfmjkngbnnfaaSpnY
namespace Go.Proofs.Ytegfmjkngbnnfaa.dp
open sq sp
set_option linter.unusedVariables false

/-- a block: its two numbers -/
abbrev Bk := Int × Int
def BkOk (b : Bk) : Prop := (0 ≤ b.1 ∧ b.1 ≤ 4294967295) ∧ (0 ≤ b.2 ∧ b.2 ≤ 4294967295)
/-- the span of a block, next to an offset -/
def frm (near : Int) (b : Bk) : Int × Int :=
  if runw near b.1 < 0 ∨ m32 (b.2 - b.1) < 1 ∨ 65536 < m32 (b.2 - b.1) ∨ 4611686018427387904 - m32 (b.2 - b.1) < runw near b.1 then (0, 0) else (runw near b.1, runw near b.1 + m32 (b.2 - b.1))
def frmB (near : Int) (b : Bk) : Bool := decide ((frm near b).1 < (frm near b).2)

theorem runw_bd (near s : Int) : runw near s = -1 ∨ (0 ≤ runw near s ∧ runw near s ≤ 4611686018427387904) := by
  unfold runw isMay
  split
  · rename_i h
    simp at h
    right; omega
  · left; rfl
theorem runw_unw (near s : Int) : runw near s = if (unw near s).2 then (unw near s).1 else -1 := by
  unfold runw unw
  by_cases h1 : isMay near = true <;> by_cases h2 : isMay (near + dist (m32 near) s) = true <;> simp [h1, h2]
theorem unw_bd (near s : Int) : 0 ≤ (unw near s).1 ∧ (unw near s).1 ≤ 4611686018427387904 := by
  unfold unw
  split
  · split
    · rename_i h; simp [isMay] at h; simp; omega
    · simp
  · simp
theorem frm_cases (near : Int) (b : Bk) : (frm near b = (0, 0) ∧ frmB near b = false) ∨ (Ok (frm near b) ∧ (frm near b).1 < (frm near b).2 ∧ (frm near b).2 ≤ (frm near b).1 + 65536 ∧ frmB near b = true) := by
  unfold frmB
  by_cases h : runw near b.1 < 0 ∨ m32 (b.2 - b.1) < 1 ∨ 65536 < m32 (b.2 - b.1) ∨ 4611686018427387904 - m32 (b.2 - b.1) < runw near b.1
  · left
    rw [show frm near b = (0, 0) from by unfold frm; rw [if_pos h]]
    simp
  · right
    rw [show frm near b = (runw near b.1, runw near b.1 + m32 (b.2 - b.1)) from by unfold frm; rw [if_neg h]]
    simp only [Ok]
    simp
    omega
theorem frm_ok (near : Int) (b : Bk) : Ok (frm near b) := by
  rcases frm_cases near b with ⟨h, _⟩ | ⟨h, _⟩
  · rw [h]; unfold Ok; decide
  · exact h
theorem frm_len (near : Int) (b : Bk) : lenI (frm near b) = (frm near b).2 - (frm near b).1 := len_fit (frm_ok near b)
theorem frm_len0 (near : Int) (b : Bk) : decide (0 < lenI (frm near b)) = frmB near b := by
  rw [frm_len]; unfold frmB; rw [Bool.eq_iff_iff]; simp

/-- what says that bytes came once more -/
def dupP (ack nxt : Int) : List Bk → Int × Int
  | [] => (0, 0)
  | [b] => if (frm ack b).2 ≤ ack then frm ack b else (0, 0)
  | b :: c :: _ => if (frm ack b).2 ≤ ack then frm ack b else if (frm ack b).2 ≤ nxt ∧ frmB ack c = true ∧ holdsB (frm ack c) (frm ack b) = true then frm ack b else (0, 0)
def isS (ack nxt : Int) (s : Int × Int) : Bool := decide (s.1 < s.2) && decide (ack < s.1) && decide (s.2 ≤ nxt)
def sacksP (ack nxt : Int) (l : List Bk) : List (Int × Int) := (l.map (frm ack)).filter (isS ack nxt)
/-- why an acknowledgement tells nothing -/
def errP (una nxt num : Int) : Int :=
  if una < 0 ∨ 4611686018427387904 < nxt ∨ nxt < una ∨ 65536 < nxt - una then 3
  else if runw una num < 0 ∨ 65536 < una - runw una num then 11
  else if nxt < runw una num then 12 else 0
/-- what an acknowledgement tells -/
structure Td where
  ack : Int
  isDup : Bool
  dup : Int × Int
  sacks : List (Int × Int)
  bad : Int
def noTd : Td := ⟨0, false, (0, 0), [], 0⟩
def dupB (ack nxt : Int) (l : List Bk) : Bool := decide ((dupP ack nxt l).1 < (dupP ack nxt l).2)
def restP (ack nxt : Int) (l : List Bk) : List Bk := if dupB ack nxt l = true then l.drop 1 else l
def lookP (una nxt num : Int) (l : List Bk) : Td :=
  if errP una nxt num = 0 then
    ⟨runw una num, dupB (runw una num) nxt l, dupP (runw una num) nxt l, sacksP (runw una num) nxt (restP (runw una num) nxt l), ((restP (runw una num) nxt l).length : Int) - ((sacksP (runw una num) nxt (restP (runw una num) nxt l)).length : Int)⟩
  else noTd
theorem dup_cases (ack nxt : Int) (l : List Bk) : (dupP ack nxt l = (0, 0) ∧ dupB ack nxt l = false) ∨ (Ok (dupP ack nxt l) ∧ (dupP ack nxt l).1 < (dupP ack nxt l).2 ∧ dupB ack nxt l = true ∧ ∃ b r, l = b :: r ∧ dupP ack nxt l = frm ack b) := by
  have key : dupP ack nxt l = (0, 0) ∨ ∃ b r, l = b :: r ∧ dupP ack nxt l = frm ack b := by
    match l with
    | [] => exact .inl rfl
    | [b] =>
      by_cases h : (frm ack b).2 ≤ ack
      · exact .inr ⟨b, [], rfl, by simp [dupP, h]⟩
      · exact .inl (by simp [dupP, h])
    | b :: c :: r =>
      by_cases h : (frm ack b).2 ≤ ack
      · exact .inr ⟨b, _, rfl, by simp [dupP, h]⟩
      · by_cases h2 : (frm ack b).2 ≤ nxt ∧ frmB ack c = true ∧ holdsB (frm ack c) (frm ack b) = true
        · exact .inr ⟨b, _, rfl, by simp only [dupP]; rw [if_neg h, if_pos h2]⟩
        · exact .inl (by simp only [dupP]; rw [if_neg h, if_neg h2])
  unfold dupB
  rcases key with h | ⟨b, r, rfl, h⟩
  · left; rw [h]; simp
  · rcases frm_cases ack b with ⟨k, _⟩ | ⟨k1, k2, _⟩
    · left; rw [h, k]; simp
    · right
      have hh := h
      rw [h]
      exact ⟨k1, k2, by simpa using k2, b, r, rfl, rfl⟩
theorem sacks_snoc (ack nxt : Int) (l : List Bk) (b : Bk) : sacksP ack nxt (l ++ [b]) = sacksP ack nxt l ++ (if isS ack nxt (frm ack b) = true then [frm ack b] else []) := by
  unfold sacksP
  rw [List.map_append, List.filter_append]
  congr 1
  simp only [List.map_cons, List.map_nil, List.filter_cons, List.filter_nil]
theorem sacks_le (ack nxt : Int) (l : List Bk) : (sacksP ack nxt l).length ≤ l.length := by
  unfold sacksP
  exact Nat.le_trans (List.length_filter_le _ _) (by simp)
theorem err_cases (una nxt num : Int) : (errP una nxt num = 3 ∧ (una < 0 ∨ 4611686018427387904 < nxt ∨ nxt < una ∨ 65536 < nxt - una)) ∨
    ((0 ≤ una ∧ nxt ≤ 4611686018427387904 ∧ una ≤ nxt ∧ nxt - una ≤ 65536) ∧
      ((errP una nxt num = 11 ∧ (runw una num < 0 ∨ 65536 < una - runw una num)) ∨ (0 ≤ runw una num ∧ runw una num ≤ 4611686018427387904 ∧ una - runw una num ≤ 65536 ∧ ((errP una nxt num = 12 ∧ nxt < runw una num) ∨ (errP una nxt num = 0 ∧ runw una num ≤ nxt))))) := by
  have hb := runw_bd una num
  unfold errP
  split
  · left; exact ⟨rfl, by assumption⟩
  · right
    refine ⟨by omega, ?_⟩
    split
    · left; exact ⟨rfl, by assumption⟩
    · right
      refine ⟨by omega, by omega, by omega, ?_⟩
      split
      · left; exact ⟨rfl, by assumption⟩
      · right; exact ⟨rfl, by omega⟩
end Go.Proofs.Ytegfmjkngbnnfaa.dp
