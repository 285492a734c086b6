/-
  Contracts of layer 1, the rest: the reference's Unwrap, Latest over any numbers, and what must come of fixed calls.
-/
import Derived.Test.YtegfmjkngbnnfaaSeqW
namespace Go.Proofs.Ytegfmjkngbnnfaa.sq
open Go.RowKit aid
set_option linter.unusedVariables false

def runw (near s : Int) : Int := if isMay near && isMay (near + dist (m32 near) s) then near + dist (m32 near) s else -1

theorem runwrap_any (n s : Int) (w : World) (h : -9223372036854775808 ≤ n ∧ n ≤ 9223372036854775807) (hs : 0 ≤ s ∧ s ≤ 4294967295) :
    Calls Try.prog 21 #[.int .i64 n, .int .i64 s] w fun e w' => e = .returned (.int .i64 (runw n s)) ∧ w = w' := by
  have hm := m32_bd n
  have hd := dist_bd (m32 n) s
  by_cases h0 : 0 ≤ n
  · by_cases h1 : n ≤ 4611686018427387904
    · by_cases h2 : 0 ≤ n + dist (m32 n) s
      · by_cases h3 : n + dist (m32 n) s ≤ 4611686018427387904
        all_goals
          go_enter Try.func21, Try.ntmps21
          go_wp2_with (first | (go_at_call 27; refine (mod_any _ _ (by omega)).mono ?_; rintro e w' ⟨rfl, rfl⟩) | (go_at_call 35; refine (rdist_any _ _ _ (by omega) (by omega)).mono ?_; rintro e w' ⟨rfl, rfl⟩))
          go_ret
          exact ⟨ret_i (by simp [runw, isMay]; omega), rfl⟩
      · go_enter Try.func21, Try.ntmps21
        go_wp2_with (first | (go_at_call 27; refine (mod_any _ _ (by omega)).mono ?_; rintro e w' ⟨rfl, rfl⟩) | (go_at_call 35; refine (rdist_any _ _ _ (by omega) (by omega)).mono ?_; rintro e w' ⟨rfl, rfl⟩))
        go_ret
        exact ⟨ret_i (by simp [runw, isMay]; omega), rfl⟩
    · go_enter Try.func21, Try.ntmps21
      go_wp2
      go_ret
      exact ⟨ret_i (by simp [runw, isMay]; omega), rfl⟩
  · go_enter Try.func21, Try.ntmps21
    go_wp2
    go_ret
    exact ⟨ret_i (by simp [runw, isMay]; omega), rfl⟩

/-- the one that is the furthest ahead, of a first one and a list -/
def latest (a : Int) : Int → List Int → Int
  | best, [] => best
  | best, x :: l => latest a (if dist a best < dist a x then x else best) l

theorem latest_snoc (a best : Int) (l : List Int) (x : Int) :
    latest a best (l ++ [x]) = if dist a (latest a best l) < dist a x then x else latest a best l := by
  induction l generalizing best with
  | nil => rfl
  | cons y l ih => exact ih _

theorem latest_bd (a best : Int) (l : List Int) (hb : 0 ≤ best ∧ best ≤ 4294967295) (hl : ∀ x ∈ l, 0 ≤ x ∧ x ≤ 4294967295) :
    0 ≤ latest a best l ∧ latest a best l ≤ 4294967295 := by
  induction l generalizing best with
  | nil => simpa [latest] using hb
  | cons y l ih =>
    simp only [latest]
    refine ih _ ?_ (fun x hx => hl x (List.mem_cons_of_mem _ hx))
    have := hl y (List.mem_cons_self)
    split <;> assumption

theorem take_snoc {α : Type} (zs : List α) (d : α) (k : Nat) (h : k < zs.length) : zs.take (k + 1) = zs.take k ++ [zs.getD k d] := by
  rw [List.take_succ_eq_append_getElem h]
  simp [List.getD, h]

end Go.Proofs.Ytegfmjkngbnnfaa.sq
