/-
  Package sum: checks; the reference's sum; what must come of fixed calls.
-/
import Derived.Test.YtdfenlagokndkaaSumO
namespace Go.Proofs.Ytdfenlagokndkaa.sm
open Go.RowKit aid mem
set_option linter.unusedVariables false

theorem check_any (a : Option Addr) (len cap : Nat) (ls : List (List Int)) (w : World)
    (hbd : ∀ r ∈ ls, ∀ x ∈ r, 0 ≤ x ∧ x ≤ 255) (hL : RowsA w.heap.size w a len ls) :
    Calls Try.prog 46 #[.slice a len cap] w fun e W' => e = .returned (.int .u16 (65535 - sumB ls.flatten)) ∧ Below w.heap.size w W' := by
  have h1 := not16 (sumB ls.flatten) (sumB_bd _)
  go_enter Try.func46, Try.ntmps46
  go_wp2_with fail
  refine (of_any a len cap ls w hbd hL).mono ?_
  rintro e w1 ⟨rfl, hb⟩
  go_wp2_with fail
  go_ret
  exact ⟨rfl, hb⟩

/-- the rows of one new slice, of two -/
theorem rows_one {w : World} {x : Option Addr} {m c : Nat} {l : List Int} (h : SlA .u8 w x m c l) (t : TypeId) :
    RowsA (w.alloc (.cells #[.slice x m c] t)).heap.size (w.alloc (.cells #[.slice x m c] t)) (some ⟨w.heap.size, 0, none⟩) 1 [l] :=
  ⟨rfl, by simp [maxLen], fun _ => ⟨w.heap.size, 0, rfl, by simp, fun i hi => by
    obtain rfl : i = 0 := by omega
    exact ⟨x, m, c, World.cell?_alloc_at _ _ _ _ rfl, bytes_of_sl (h.later ((Below.refl _ _).alloc (Nat.le_refl _) _))⟩⟩⟩
theorem rows_two {w : World} {x y : Option Addr} {m c m' c' : Nat} {l l' : List Int} (h : SlA .u8 w x m c l) (h' : SlA .u8 w y m' c' l') (t : TypeId) :
    RowsA (w.alloc (.cells #[.slice x m c, .slice y m' c'] t)).heap.size (w.alloc (.cells #[.slice x m c, .slice y m' c'] t)) (some ⟨w.heap.size, 0, none⟩) 2 [l, l'] :=
  ⟨rfl, by simp [maxLen], fun _ => ⟨w.heap.size, 0, rfl, by simp, fun i hi => by
    rcases (show i = 0 ∨ i = 1 by omega) with rfl | rfl
    · exact ⟨x, m, c, World.cell?_alloc_at _ _ _ _ rfl, bytes_of_sl (h.later ((Below.refl _ _).alloc (Nat.le_refl _) _))⟩
    · exact ⟨y, m', c', World.cell?_alloc_at _ _ _ _ rfl, bytes_of_sl (h'.later ((Below.refl _ _).alloc (Nat.le_refl _) _))⟩⟩⟩
theorem flat1 (l : List Int) : [l].flatten = l := by simp
theorem bd1 {l : List Int} (h : ∀ x ∈ l, 0 ≤ x ∧ x ≤ 255) : ∀ r ∈ [l], ∀ x ∈ r, 0 ≤ x ∧ x ≤ 255 := fun r hr => by
  obtain rfl := List.mem_singleton.1 hr
  exact h
theorem bd2 {l l' : List Int} (h : ∀ x ∈ l, 0 ≤ x ∧ x ≤ 255) (h' : ∀ x ∈ l', 0 ≤ x ∧ x ≤ 255) : ∀ r ∈ [l, l'], ∀ x ∈ r, 0 ≤ x ∧ x ≤ 255 := fun r hr => by
  rcases List.mem_cons.1 hr with rfl | hr
  · exact h
  · obtain rfl := List.mem_singleton.1 hr
    exact h'

/-- Of, of one list, whose row is new -/
theorem of_one {w : World} {x : Option Addr} {m c : Nat} {l : List Int} (h : SlA .u8 w x m c l) (hb : ∀ x ∈ l, 0 ≤ x ∧ x ≤ 255) (t : TypeId) (B : Nat) (hB : B = w.heap.size) :
    Calls Try.prog 78 #[.slice (some ⟨B, 0, none⟩) 1 1] (w.alloc (.cells #[.slice x m c] t)) fun e W' => e = .returned (.int .u16 (sumB l)) ∧ Below w.heap.size w W' := by
  subst hB
  exact (of_any _ 1 1 [l] _ (bd1 hb) (rows_one h t)).mono fun e W' ⟨he, hw⟩ => ⟨by rw [he, flat1], ((Below.refl _ _).alloc (Nat.le_refl _) _).trans (hw.mono (by simp))⟩
theorem of_two {w : World} {x y : Option Addr} {m c m' c' : Nat} {l l' : List Int} (h : SlA .u8 w x m c l) (h' : SlA .u8 w y m' c' l') (hb : ∀ x ∈ l, 0 ≤ x ∧ x ≤ 255) (hb' : ∀ x ∈ l', 0 ≤ x ∧ x ≤ 255) (t : TypeId) (B : Nat) (hB : B = w.heap.size) :
    Calls Try.prog 78 #[.slice (some ⟨B, 0, none⟩) 2 2] (w.alloc (.cells #[.slice x m c, .slice y m' c'] t)) fun e W' => e = .returned (.int .u16 (sumB (l ++ l'))) ∧ Below w.heap.size w W' := by
  subst hB
  exact (of_any _ 2 2 [l, l'] _ (bd2 hb hb') (rows_two h h' t)).mono fun e W' ⟨he, hw⟩ => ⟨by rw [he]; simp, ((Below.refl _ _).alloc (Nat.le_refl _) _).trans (hw.mono (by simp))⟩
theorem check_one {w : World} {x : Option Addr} {m c : Nat} {l : List Int} (h : SlA .u8 w x m c l) (hb : ∀ x ∈ l, 0 ≤ x ∧ x ≤ 255) (t : TypeId) (B : Nat) (hB : B = w.heap.size) :
    Calls Try.prog 46 #[.slice (some ⟨B, 0, none⟩) 1 1] (w.alloc (.cells #[.slice x m c] t)) fun e W' => e = .returned (.int .u16 (65535 - sumB l)) ∧ Below w.heap.size w W' := by
  subst hB
  exact (check_any _ 1 1 [l] _ (bd1 hb) (rows_one h t)).mono fun e W' ⟨he, hw⟩ => ⟨by rw [he, flat1], ((Below.refl _ _).alloc (Nat.le_refl _) _).trans (hw.mono (by simp))⟩

def fineB (l : List Int) : Bool := decide (sumB l = 65535)
theorem fine_any {w : World} {x : Option Addr} {m c : Nat} {l : List Int} (h : SlA .u8 w x m c l) (hb : ∀ x ∈ l, 0 ≤ x ∧ x ≤ 255) :
    Calls Try.prog 84 #[.slice x m c] w fun e W' => e = .returned (.bool (fineB l)) ∧ Below w.heap.size w W' := by
  have hf : (sumB l == 65535) = fineB l := by unfold fineB; rw [Bool.eq_iff_iff]; simp
  go_enter Try.func84, Try.ntmps84
  go_wp2_with fail
  refine (of_one h hb _ _ rfl).mono ?_
  rintro e w1 ⟨rfl, hbel⟩
  go_wp2_with fail
  go_ret
  exact ⟨rfl, hbel⟩

theorem ref_of {w : World} {x : Option Addr} {m c : Nat} {l : List Int} (h : SlA .u8 w x m c l) (hb : ∀ x ∈ l, 0 ≤ x ∧ x ≤ 255) :
    Calls Try.prog 49 #[.slice x m c] w fun e w' => e = .returned (.int .i64 (sumB l)) ∧ w = w' := by
  have hm := h.most
  have hle := h.le
  have hll := h.len
  unfold maxLen at hm
  by_cases hn : m = 0
  · subst hn
    obtain rfl : l = [] := List.eq_nil_of_length_eq_zero hll
    go_enter Try.func49, Try.ntmps49
    go_wp2
    go_loop [3, 4] (fun v i => i = .int .i64 0 ∧ v = .int .i64 0) (fun _ _ => 0)
    case atStart => exact ⟨rfl, rfl⟩
    case round =>
      obtain ⟨rfl, rfl⟩ := hrel
      go_wp2
      go_ret
      exact ⟨rfl, rfl⟩
  · obtain ⟨b, off, rfl, hc⟩ := h.cells (by omega)
    have hlg : m ≤ l.length := by omega
    have HC := Lib.hid hc
    have HB := Lib.hid hb
    have HL := Lib.hid hll
    clear hc hb hll
    go_enter Try.func49, Try.ntmps49
    go_wp2
    go_loop [3, 4] (fun v i => ∃ k : Nat, k ≤ m ∧ i = .int .i64 k ∧ v = .int .i64 (sumB (l.take k))) (fun _ i => m - (intOf i).toNat)
    case atStart => exact ⟨0, Nat.zero_le _, rfl, rfl⟩
    case round =>
      obtain ⟨k, hk, rfl, rfl⟩ := hrel
      have hnb := sumB_bd (l.take k)
      by_cases hlt : k < m
      · have hcell := HC.out k hlt
        have hx := getD_bd (fun x => 0 ≤ x ∧ x ≤ 255) (by omega) HB.out k
        have hS := tot_snoc (l.take k) (l.getD k 0)
        rw [← tk_snoc l 0 k (by omega), List.length_take, Nat.min_eq_left (by omega)] at hS
        have hp := tot_pos (l.take k) (fun x hx => HB.out x (List.mem_of_mem_take hx))
        have hT : sumB (l.take (k + 1)) = cs (sumB (l.take k) + if k % 2 = 0 then l.getD k 0 * 256 else l.getD k 0) := by
          unfold sumB
          rw [hS, cs_add _ _ hp (by split <;> omega)]
        have HT := Lib.hid hT
        clear hS hp hT
        generalize l.getD k 0 = y at *
        generalize sumB (l.take k) = L at *
        have h2 : (0 : Int) ≤ (k : Int) := by omega
        by_cases hev : k % 2 = 0
        · have hev' : (k : Int) % 2 = 0 := by omega
          go_wp2_with (go_at_call 79; refine (fold_any _ _ (by omega)).mono ?_; rintro e w' ⟨rfl, rfl⟩)
          go_round
          case rel => exact ⟨k + 1, by omega, by go_num, by rw [HT.out, if_pos hev]; congr 2; omega⟩
          case measure => simp [intOf]; omega
        · have hev' : (k : Int) % 2 = 1 := by omega
          go_wp2_with (go_at_call 79; refine (fold_any _ _ (by omega)).mono ?_; rintro e w' ⟨rfl, rfl⟩)
          go_round
          case rel => exact ⟨k + 1, by omega, by go_num, by rw [HT.out, if_neg hev]⟩
          case measure => simp [intOf]; omega
      · go_wp2
        go_ret
        exact ⟨ret_i (by rw [List.take_of_length_le (by have := HL.out; omega)]), rfl⟩
end Go.Proofs.Ytdfenlagokndkaa.sm
