/-
  Contracts of the reference of layer 2: Same, Number.
-/
import Derived.Test.YtjkjbhapkmamkaaOctW
import Derived.Test.YtjkjbhapkmamkaaOctX
namespace Go.Proofs.Ytjkjbhapkmamkaa.oc
open Go.RowKit aid mem
set_option linter.unusedVariables false

theorem same_true (a b : Option Addr) (n c1 c2 : Nat) (l : List Int) (w : World) (h1 : SlA .u8 w a n c1 l) (h2 : SlA .u8 w b n c2 l) :
    Calls Try.prog 14 #[.slice a n c1, .slice b n c2] w (RetQ (.bool true) w) := by
  have hm := h1.most
  have hle := h1.le
  have hle2 := h2.le
  unfold maxLen at hm
  by_cases hn : n = 0
  · subst hn
    go_enter Try.func14, Try.ntmps14
    go_wp2
    go_loop [5] (fun i => i = .int .i64 0) (fun _ => 0)
    case atStart => rfl
    case round =>
      obtain rfl := hrel
      go_wp2
      go_ret
      exact ⟨rfl, 0, rfl⟩
  · obtain ⟨b1, o1, rfl, hc1⟩ := h1.cells (by omega)
    obtain ⟨b2, o2, rfl, hc2⟩ := h2.cells (by omega)
    have H1 := Lib.hid hc1
    have H2 := Lib.hid hc2
    clear hc1 hc2
    go_enter Try.func14, Try.ntmps14
    go_wp2
    go_loopw [5] (fun i wr => ∃ k : Nat, k ≤ n ∧ i = .int .i64 k ∧ ∃ q, wr = w.drewN q) (fun i _ => n - (intOf i).toNat)
    case atStart => exact ⟨0, Nat.zero_le _, rfl, 0, rfl⟩
    case round =>
      obtain ⟨k, hk, rfl, q, rfl⟩ := hrel
      have hk0 : (0 : Int) ≤ (k : Int) := by omega
      by_cases hlt : k < n
      · have g1 := H1.out k hlt
        have g2 := H2.out k hlt
        have hk1 : (k : Int) < (n : Int) := by omega
        generalize l.getD k 0 = x at *
        go_wp2_with fail
        go_quiet (fail)
        go_wp2
        go_roundw
        case rel => exact ⟨k + 1, by omega, by go_num, _, rfl⟩
        case measure => simp [intOf]; omega
      · go_wp2
        go_ret
        exact ⟨rfl, q, rfl⟩

/-! ### The bytes of a number -/
def pw : Nat → Int
  | 0 => 1
  | j + 1 => pw j * 256
def bytesTo (n : Int) (size : Nat) (i : Nat) : List Int := (List.range i).map fun j => n / pw (size - 1 - j) % 256
theorem bytesTo_succ (n : Int) (size i : Nat) : bytesTo n size (i + 1) = bytesTo n size i ++ [n / pw (size - 1 - i) % 256] := by simp [bytesTo, List.range_succ]
theorem bytesTo_len (n : Int) (size i : Nat) : (bytesTo n size i).length = i := by simp [bytesTo]
theorem pw_bd (j : Nat) (h : j ≤ 3) : 1 ≤ pw j ∧ pw j ≤ 16777216 ∧ (j ≤ 2 → pw j ≤ 65536) := by
  match j, h with
  | 0, _ => decide
  | 1, _ => decide
  | 2, _ => decide
  | 3, _ => decide

end Go.Proofs.Ytjkjbhapkmamkaa.oc
