/-
  Contracts of the reference of layer 2: Same, Number.
-/
import Derived.Test.YtdfenlagokndkaaOctW
import Derived.Test.YtdfenlagokndkaaOctX
namespace Go.Proofs.Ytdfenlagokndkaa.oc
open Go.RowKit aid mem
set_option linter.unusedVariables false

theorem same_true (a b : Option Addr) (n c1 c2 : Nat) (l : List Int) (w : World) (h1 : SlA .u8 w a n c1 l) (h2 : SlA .u8 w b n c2 l) :
    Calls Try.prog 15 #[.slice a n c1, .slice b n c2] w (RetQ (.bool true) w) := by
  have hm := h1.most
  have hle := h1.le
  have hle2 := h2.le
  unfold maxLen at hm
  by_cases hn : n = 0
  · subst hn
    go_enter Try.func15, Try.ntmps15
    go_wp2
    go_loop [5] (fun i => i = .int .i64 0) (fun _ => 0)
    case atStart => rfl
    case round =>
      obtain rfl := hrel
      go_wp2
      go_ret
      exact ⟨rfl, 0, rfl⟩
  · obtain ⟨b1, o1, rfl, hc1⟩ := h1.cells (by omega)
    obtain ⟨b2, o2, rfl, hc2⟩ := h2.cells (by omega)
    have H1 := Lib.hid hc1
    have H2 := Lib.hid hc2
    clear hc1 hc2
    go_enter Try.func15, Try.ntmps15
    go_wp2
    go_loopw [5] (fun i wr => ∃ k : Nat, k ≤ n ∧ i = .int .i64 k ∧ ∃ q, wr = w.drewN q) (fun i _ => n - (intOf i).toNat)
    case atStart => exact ⟨0, Nat.zero_le _, rfl, 0, rfl⟩
    case round =>
      obtain ⟨k, hk, rfl, q, rfl⟩ := hrel
      have hk0 : (0 : Int) ≤ (k : Int) := by omega
      by_cases hlt : k < n
      · have g1 := H1.out k hlt
        have g2 := H2.out k hlt
        have hk1 : (k : Int) < (n : Int) := by omega
        generalize l.getD k 0 = x at *
        go_wp2_with fail
        go_quiet (fail)
        go_wp2
        go_roundw
        case rel => exact ⟨k + 1, by omega, by go_num, _, rfl⟩
        case measure => simp [intOf]; omega
      · go_wp2
        go_ret
        exact ⟨rfl, q, rfl⟩

/-! ### The bytes of a number -/
def pw : Nat → Int
  | 0 => 1
  | j + 1 => pw j * 256
def bytesTo (n : Int) (size : Nat) (i : Nat) : List Int := (List.range i).map fun j => n / pw (size - 1 - j) % 256
theorem bytesTo_succ (n : Int) (size i : Nat) : bytesTo n size (i + 1) = bytesTo n size i ++ [n / pw (size - 1 - i) % 256] := by simp [bytesTo, List.range_succ]
theorem bytesTo_len (n : Int) (size i : Nat) : (bytesTo n size i).length = i := by simp [bytesTo]
theorem pw_bd (j : Nat) (h : j ≤ 3) : 1 ≤ pw j ∧ pw j ≤ 16777216 ∧ (j ≤ 2 → pw j ≤ 65536) := by
  match j, h with
  | 0, _ => decide
  | 1, _ => decide
  | 2, _ => decide
  | 3, _ => decide

set_option maxHeartbeats 1600000 in
theorem number_ref (n : Int) (size : Nat) (w : World) (hn : 0 ≤ n ∧ n ≤ 4294967295) (hs : size ≤ 4) :
    Calls Try.prog 48 #[.int .u32 n, .int .i64 size] w (RetRow size (bytesTo n size size) w) := by
  obtain ⟨i0, hi, hz0, hz1, hz2⟩ := info_parts info5
  go_enter Try.func48, Try.ntmps48
  go_wp2
  go_loopw [5, 6] (fun v i wr => ∃ k a cap, k ≤ size ∧ i = .int .i64 (k : Nat) ∧ v = .slice a k cap ∧ wr.ownsRow w.heap.size 5 1 (.slice a k cap) k (ints .u8 (bytesTo n size k)) ∧ Below w.heap.size w wr) (fun _ i _ => size - (intOf i).toNat)
  case atStart => exact ⟨0, none, 0, Nat.zero_le _, rfl, rfl, World.ownsRow_nil _ _ _ _, Below.refl _ _⟩
  case round =>
    obtain ⟨k, a, cap, hk, rfl, rfl, hown, hbel⟩ := hrel
    have hsz := hbel.size
    by_cases hlt : k < size
    · go_wp2
      go_loop [7, 8] (fun d j => ∃ q : Nat, k + 1 ≤ q ∧ q ≤ size ∧ j = .int .i64 q ∧ d = .int .u32 (pw (q - k - 1))) (fun _ j => size - (intOf j).toNat)
      case atStart => exact ⟨k + 1, by omega, by omega, by go_num, by rw [show k + 1 - k - 1 = 0 from by omega]; rfl⟩
      case round =>
        obtain ⟨q, hq1, hq2, rfl, rfl⟩ := hrel
        have hp := pw_bd (q - k - 1) (by omega)
        by_cases hlq : q < size
        · have hp2 := hp.2.2 (by omega)
          have HS : Hid (pw (q + 1 - k - 1) = pw (q - k - 1) * 256) := by rw [show q + 1 - k - 1 = q - k - 1 + 1 from by omega]; rfl
          generalize pw (q - k - 1) = P at *
          go_wp2
          go_round
          case rel => exact ⟨q + 1, by omega, by omega, by go_num, by rw [HS.out]⟩
          case measure => simp [intOf]; omega
        · obtain rfl : q = size := by omega
          have HS := bytesTo_succ n q k
          rw [show q - 1 - k = q - k - 1 from by omega] at HS
          obtain ⟨hp1, hp2, _⟩ := hp
          generalize pw (q - k - 1) = P at *
          have hd0 : 0 ≤ n / P := Int.ediv_nonneg hn.1 (by omega)
          have hd3 : n / P ≤ n := Int.ediv_le_self _ hn.1
          have hd1 : n / P ≤ 4294967295 := by omega
          have hd2 : 0 ≤ n / P % 256 ∧ n / P % 256 ≤ 255 := by omega
          have HB := Lib.hid HS
          clear HS
          go_wp2_with (at_builtin; refine wpList_append_any _ rfl (.tmp 23) (.tmp 29) 26 26 rfl w.heap.size 5 i0 (.int .u8 0) 1 Try.underlying26 hi hz0 hz1 hz2 rfl (.slice a k cap) k (ints .u8 (bytesTo n q k)) rfl (hown.alloc _) (.slice (some ⟨wr.heap.size, 0, none⟩) 1 1) rfl 1 (ints .u8 [n / P % 256]) ((sl_new .u8 5 wr [n / P % 256] (by simp [maxLen])).src Try.underlying26) (by unfold maxLen; omega) (by omega) (by simp; omega) ?_; intro a3 cap3 w3 hown3 hgr hat3)
          go_wp2
          go_roundw
          case rel =>
            refine ⟨k + 1, a3, cap3, by omega, by go_num, rfl, ?_, ?_⟩
            · rw [HB.out, ints_append]; exact hown3
            · refine (hbel.alloc hsz _).grown hgr (by simp; omega) ?_
              intro j hj
              exact (hown.lt j hj).1
          case measure => simp [intOf]; omega
    · obtain rfl : k = size := by omega
      go_wp2
      go_ret
      exact ⟨_, rfl, hown, hbel⟩
end Go.Proofs.Ytdfenlagokndkaa.oc
