/-
  Segments as numbers and bytes. Imports nothing of the program.
-/
import Derived.Test.YtdfenlagokndkaaSumX
import Derived.Test.YtdfenlagokndkaaOptX
namespace Go.Proofs.Ytdfenlagokndkaa.sg
open op sm
set_option linter.unusedVariables false

structure Seg where
  kind : Int
  num : Int
  o : Opt
  body : List Int
def Seg.zero : Seg := ⟨0, 0, Opt.zero, []⟩
structure Seg.Fit (s : Seg) : Prop where
  kind : -9223372036854775808 ≤ s.kind ∧ s.kind ≤ 9223372036854775807
  num : 0 ≤ s.num ∧ s.num ≤ 4294967295
  o : s.o.Fit
  body : Bd s.body
def knownB (k : Int) : Bool := k == 1 || k == 2
def suitB (s : Seg) : Bool := if s.kind = 1 then decide (0 < s.body.length) && decide (s.o.bl.length = 0) else decide (s.body.length = 0)
/-- what is wrong with a segment -/
def schk (s : Seg) : Int :=
  if knownB s.kind = false then 8 else if chk s.o ≠ 0 then chk s.o else if suitB s = false then 6 else if 2048 < s.body.length then 9 else 0
/-- its bytes, with whatever check -/
def layL (s : Seg) (c : Int) : List Int := [s.kind % 256, ((enc s.o).length / 4 : Nat) % 256] ++ two c ++ four s.num ++ enc s.o ++ s.body
def keyL (s : Seg) : Int := 65535 - sumB (layL s 0)
def sencL (s : Seg) : List Int := layL s (keyL s)

theorem schk0 {s : Seg} (h : schk s = 0) : (s.kind = 1 ∨ s.kind = 2) ∧ chk s.o = 0 ∧ suitB s = true ∧ s.body.length ≤ 2048 := by
  unfold schk at h
  by_cases h1 : knownB s.kind = false
  · rw [if_pos h1] at h; omega
  · rw [if_neg h1] at h
    by_cases h2 : chk s.o ≠ 0
    · rw [if_pos h2] at h; exact absurd h h2
    · rw [if_neg h2] at h
      by_cases h3 : suitB s = false
      · rw [if_pos h3] at h; omega
      · rw [if_neg h3] at h
        by_cases h4 : 2048 < s.body.length
        · rw [if_pos h4] at h; omega
        · refine ⟨?_, by simpa using h2, by simpa using h3, by omega⟩
          unfold knownB at h1
          simp at h1
          by_cases hk : s.kind = 1
          · exact .inl hk
          · exact .inr (by omega)
theorem chk0_bl {o : Opt} (h : chk o = 0) : o.bl.length ≤ 4 ∧ size4 o ≤ 40 := by
  unfold chk at h
  (repeat' split at h) <;> first | omega | exact ⟨by omega, by omega⟩
theorem layL_len (s : Seg) (c : Int) : (layL s c).length = 8 + size4 s.o + s.body.length := by
  simp [layL, two, four, enc_len]
  omega
theorem bd_two {c : Int} (h : 0 ≤ c ∧ c ≤ 65535) : Bd (two c) := fun x hx => by simp [two] at hx; omega
theorem bd_four {c : Int} (h : 0 ≤ c ∧ c ≤ 4294967295) : Bd (four c) := fun x hx => by simp [four] at hx; omega
theorem bd_app {a b : List Int} (ha : Bd a) (hb : Bd b) : Bd (a ++ b) := fun x hx => by
  rcases List.mem_append.1 hx with h | h
  · exact ha x h
  · exact hb x h
theorem bd_lay (s : Seg) (hf : s.Fit) (hc : chk s.o = 0) (c : Int) (h : 0 ≤ c ∧ c ≤ 65535) : Bd (layL s c) := by
  unfold layL
  refine bd_app (bd_app (bd_app (bd_app ?_ (bd_two h)) (bd_four hf.num)) (bd_enc s.o hf.o (chk0_bl hc).1)) hf.body
  intro x hx
  simp at hx
  omega
theorem keyL_bd (s : Seg) : 0 ≤ keyL s ∧ keyL s ≤ 65535 := by
  have := sumB_bd (layL s 0)
  unfold keyL
  omega
theorem tot_lay (s : Seg) (c : Int) (h : 0 ≤ c ∧ c ≤ 65535) : tot (layL s c) = tot (layL s 0) + c := by
  simp only [layL, two, List.cons_append, List.nil_append, tot]
  omega
theorem tot_lay_pos (s : Seg) (hf : s.Fit) (hc : chk s.o = 0) : 0 ≤ tot (layL s 0) := tot_pos _ (bd_lay s hf hc 0 (by omega))
theorem cs_seal (T : Int) (h : 0 ≤ T) : cs (T + (65535 - cs T)) = 65535 := by
  unfold cs
  (repeat' split) <;> omega
theorem senc_fine (s : Seg) (hf : s.Fit) (hc : chk s.o = 0) : sumB (sencL s) = 65535 := by
  have h1 := tot_lay_pos s hf hc
  have h2 := keyL_bd s
  show cs (tot (sencL s)) = 65535
  unfold sencL
  rw [tot_lay s _ h2]
  exact cs_seal _ h1
theorem bd_senc (s : Seg) (hf : s.Fit) (hc : chk s.o = 0) : Bd (sencL s) := bd_lay s hf hc _ (keyL_bd s)
theorem senc_len (s : Seg) : (sencL s).length = 8 + size4 s.o + s.body.length := layL_len s _

/-! ### one byte changed -/
theorem tot_set : ∀ (l : List Int) (i : Nat) (v : Int), i < l.length → tot (l.set i v) = tot l + (v - l.getD i 0) * (if i % 2 = 0 then 256 else 1)
  | [], i, v, h => by simp at h
  | [a], i, v, h => by
    obtain rfl : i = 0 := by simp at h; omega
    simp [tot]; omega
  | a :: b :: r, 0, v, h => by simp [tot]; omega
  | a :: b :: r, 1, v, h => by simp [tot]; omega
  | a :: b :: r, i + 2, v, h => by
    have := tot_set r i v (by simp at h; omega)
    simp only [List.set_cons_succ, tot, this, List.getD_cons_succ]
    rw [show (i + 2) % 2 = i % 2 by omega]
    omega
theorem cs_off (T d : Int) (hT : 0 ≤ T + d) (h : cs T = 65535) (h0 : d ≠ 0) (h1 : -65535 < d) (h2 : d < 65535) : cs (T + d) ≠ 65535 := by
  unfold cs at *
  (repeat' split at *) <;> omega
theorem told (l : List Int) (i : Nat) (v : Int) (hb : Bd l) (hi : i < l.length) (hv : 0 ≤ v ∧ v ≤ 255) (hne : v ≠ l.getD i 0) (h : sumB l = 65535) : sumB (l.set i v) ≠ 65535 := by
  have hx : 0 ≤ l.getD i 0 ∧ l.getD i 0 ≤ 255 := by
    have : l.getD i 0 ∈ l := by simp [List.getD, hi]
    exact hb _ this
  have hp : 0 ≤ tot (l.set i v) := tot_pos _ (fun x hx => by
    rcases List.mem_or_eq_of_mem_set hx with h | h
    · exact hb x h
    · omega)
  have hs := tot_set l i v hi
  unfold sumB at *
  rw [hs] at hp ⊢
  have hd : (v - l.getD i 0) * (if i % 2 = 0 then 256 else 1) ≠ 0 ∧ -65535 < (v - l.getD i 0) * (if i % 2 = 0 then 256 else 1) ∧ (v - l.getD i 0) * (if i % 2 = 0 then 256 else 1) < 65535 := by
    split <;> omega
  exact cs_off _ _ hp h hd.1 hd.2.1 hd.2.2
end Go.Proofs.Ytdfenlagokndkaa.sg
