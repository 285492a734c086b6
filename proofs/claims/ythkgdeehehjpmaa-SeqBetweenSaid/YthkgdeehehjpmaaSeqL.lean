/-
  The walks of the laws of layer 1.
-/
import Derived.Test.YthkgdeehehjpmaaSeqX
namespace Go.Proofs.Ythkgdeehehjpmaa.sq
open Go.RowKit aid
set_option linter.unusedVariables false

theorem walk_SeqDist (a0 : Int) (b0 : -9223372036854775808 ≤ a0 ∧ a0 ≤ 9223372036854775807) (a1 : Int) (b1 : 0 ≤ a1 ∧ a1 ≤ 4294967295) (a2 : Int) (b2 : 0 ≤ a2 ∧ a2 ≤ 4294967295) (w : World) :
    Calls Try.prog 3 #[.int .i64 a0, .int .u32 a1, .int .u32 a2] w fun e w' => e = .returned (.bool true) ∧ Below w.heap.size w w' := by
  go_enter Try.func3, Try.ntmps3
  go_wp2_with fail
  refine (known_any _).mono ?_
  rintro e w1 ⟨rfl, hb1⟩
  go_wp2_with fail
  refine (rdist_any _ _ _ (by omega) (by omega)).mono ?_
  rintro e w' ⟨rfl, rfl⟩
  have hm := m32_bd a0
  have hd := dist_bd a1 a2
  go_wp2_with (first | (go_at_call 15; refine (wrap_any _ _ (by omega)).mono ?_; rintro e w' ⟨rfl, rfl⟩) | (go_at_call 16; refine (mod_any _ _ (by omega)).mono ?_; rintro e w' ⟨rfl, rfl⟩) | (go_at_call 17; refine (dist_any _ _ _ (by omega) (by omega)).mono ?_; rintro e w' ⟨rfl, rfl⟩) | (go_at_call 18; refine (less_any _ _ _ (by omega) (by omega)).mono ?_; rintro e w' ⟨rfl, rfl⟩))
  refine (known_any _).mono ?_
  rintro e w2 ⟨rfl, hb2⟩
  go_wp2_with fail
  go_ret
  exact ⟨rfl, hb1.trans (hb2.mono hb1.size)⟩

theorem walk_SeqBetween (a0 : Int) (b0 : 0 ≤ a0 ∧ a0 ≤ 4294967295) (a1 : Int) (b1 : 0 ≤ a1 ∧ a1 ≤ 4294967295) (a2 : Int) (b2 : 0 ≤ a2 ∧ a2 ≤ 4294967295) (w : World) :
    Calls Try.prog 4 #[.int .u32 a0, .int .u32 a1, .int .u32 a2] w fun e w' => e = .returned (.bool true) ∧ Below w.heap.size w w' := by
  go_enter Try.func4, Try.ntmps4
  go_wp2_with fail
  refine (known_any _).mono ?_
  rintro e w1 ⟨rfl, hb1⟩
  go_wp2_with (first | (go_at_call 16; refine (mod_any _ _ (by omega)).mono ?_; rintro e w' ⟨rfl, rfl⟩) | (go_at_call 19; refine (between_any _ _ _ _ (by omega) (by omega) (by omega)).mono ?_; rintro e w' ⟨rfl, rfl⟩))
  refine (known_any _).mono ?_
  rintro e w2 ⟨rfl, hb2⟩
  go_wp2_with fail
  go_ret
  exact ⟨rfl, hb1.trans (hb2.mono hb1.size)⟩

theorem unw_runw (n s : Int) (h : runw n s < 0) : unw n s = (0, false) := by
  unfold runw at h
  unfold unw
  by_cases h0 : isMay n = true
  · by_cases h1 : isMay (n + dist (m32 n) s) = true
    · have h1' := h1
      simp only [isMay, decide_eq_true_eq] at h1'
      simp [h0, h1] at h
      omega
    · simp [h1]
  · simp [h0]
theorem unw_runw' (n s : Int) (h : 0 ≤ runw n s) : unw n s = (runw n s, true) := by
  unfold runw at h ⊢
  unfold unw
  by_cases h0 : isMay n = true
  · by_cases h1 : isMay (n + dist (m32 n) s) = true
    · simp [h0, h1]
    · simp [h1] at h
  · simp [h0] at h
theorem runw_bd (n s : Int) : -1 ≤ runw n s ∧ runw n s ≤ 4611686018427387904 := by
  unfold runw
  by_cases h1 : isMay (n + dist (m32 n) s) = true
  · have h1' := h1
    simp only [isMay, decide_eq_true_eq] at h1'
    split <;> omega
  · simp [h1]

theorem walk_SeqUnwrap (a0 : Int) (b0 : -9223372036854775808 ≤ a0 ∧ a0 ≤ 9223372036854775807) (a1 : Int) (b1 : 0 ≤ a1 ∧ a1 ≤ 4294967295) (w : World) :
    Calls Try.prog 5 #[.int .i64 a0, .int .u32 a1] w fun e w' => e = .returned (.bool true) ∧ Below w.heap.size w w' := by
  have hr := runw_bd a0 a1
  by_cases h : runw a0 a1 < 0
  · have hu := unw_runw a0 a1 h
    go_enter Try.func5, Try.ntmps5
    go_wp2_with fail
    refine (known_any _).mono ?_
    rintro e w1 ⟨rfl, hb1⟩
    go_wp2_with (first | (go_at_call 20; refine (unwrap_any _ _ _ (by omega) (by omega)).mono ?_; rintro e w' ⟨rfl, rfl⟩) | (go_at_call 21; refine (runwrap_any _ _ _ (by omega) (by omega)).mono ?_; rintro e w' ⟨rfl, rfl⟩))
    refine (known_any _).mono ?_
    rintro e w2 ⟨rfl, hb2⟩
    go_wp2_with fail
    go_ret
    exact ⟨rfl, hb1.trans (hb2.mono hb1.size)⟩
  · have hu := unw_runw' a0 a1 (by omega)
    go_enter Try.func5, Try.ntmps5
    go_wp2_with fail
    refine (known_any _).mono ?_
    rintro e w1 ⟨rfl, hb1⟩
    go_wp2_with (first | (go_at_call 20; refine (unwrap_any _ _ _ (by omega) (by omega)).mono ?_; rintro e w' ⟨rfl, rfl⟩) | (go_at_call 21; refine (runwrap_any _ _ _ (by omega) (by omega)).mono ?_; rintro e w' ⟨rfl, rfl⟩))
    refine (known_any _).mono ?_
    rintro e w2 ⟨rfl, hb2⟩
    go_wp2_with fail
    go_ret
    exact ⟨rfl, hb1.trans (hb2.mono hb1.size)⟩

theorem unw_back (off away : Int) (h0 : 0 ≤ off) (h1 : off ≤ 2305843009213693952) (h2 : -2147483648 < away) (h3 : away ≤ 2147483647) (h4 : 0 ≤ off + away) :
    unw (off + away) (m32 off) = (off, true) := by
  have e : off + away + dist (m32 (off + away)) (m32 off) = off := by unfold dist m32; omega
  unfold unw
  rw [e]
  have c1 : isMay (off + away) = true := by simp only [isMay, decide_eq_true_eq]; omega
  have c2 : isMay off = true := by simp only [isMay, decide_eq_true_eq]; omega
  rw [c1, c2]
  rfl

theorem walk_SeqBack (a0 : Int) (b0 : -9223372036854775808 ≤ a0 ∧ a0 ≤ 9223372036854775807) (a1 : Int) (b1 : -2147483648 ≤ a1 ∧ a1 ≤ 2147483647) (w : World) :
    Calls Try.prog 6 #[.int .i64 a0, .int .i32 a1] w fun e w' => e = .returned (.bool true) ∧ Below w.heap.size w w' := by
  have hm := m32_bd a0
  by_cases h0 : a0 < 0
  · go_enter Try.func6, Try.ntmps6
    go_wp2_with fail
    refine (known_any _).mono ?_
    rintro e w1 ⟨rfl, hb1⟩
    go_wp2_with fail
    refine (known_any _).mono ?_
    rintro e w2 ⟨rfl, hb2⟩
    go_wp2_with fail
    go_ret
    exact ⟨rfl, hb1.trans (hb2.mono hb1.size)⟩
  by_cases h1 : a0 ≤ 2305843009213693952
  · by_cases h2 : a1 = -2147483648
    · subst h2
      go_enter Try.func6, Try.ntmps6
      go_wp2_with fail
      refine (known_any _).mono ?_
      rintro e w1 ⟨rfl, hb1⟩
      go_wp2_with fail
      refine (known_any _).mono ?_
      rintro e w2 ⟨rfl, hb2⟩
      go_wp2_with fail
      go_ret
      exact ⟨rfl, hb1.trans (hb2.mono hb1.size)⟩
    · have h2' : (a1 == -2147483648) = false := by simpa using h2
      by_cases h3 : a0 + a1 < 0
      · go_enter Try.func6, Try.ntmps6
        go_wp2_with fail
        refine (known_any _).mono ?_
        rintro e w1 ⟨rfl, hb1⟩
        go_wp2_with fail
        refine (known_any _).mono ?_
        rintro e w2 ⟨rfl, hb2⟩
        go_wp2_with fail
        go_ret
        exact ⟨rfl, hb1.trans (hb2.mono hb1.size)⟩
      · have hu := unw_back a0 a1 (by omega) h1 (by omega) (by omega) (by omega)
        go_enter Try.func6, Try.ntmps6
        go_wp2_with fail
        refine (known_any _).mono ?_
        rintro e w1 ⟨rfl, hb1⟩
        go_wp2_with (first | (go_at_call 15; refine (wrap_any _ _ (by omega)).mono ?_; rintro e w' ⟨rfl, rfl⟩) | (go_at_call 20; refine (unwrap_any _ _ _ (by omega) (by omega)).mono ?_; rintro e w' ⟨rfl, rfl⟩))
        go_wp2_with fail
        refine (known_any _).mono ?_
        rintro e w2 ⟨rfl, hb2⟩
        go_wp2_with fail
        go_ret
        exact ⟨rfl, hb1.trans (hb2.mono hb1.size)⟩
  · go_enter Try.func6, Try.ntmps6
    go_wp2_with fail
    refine (known_any _).mono ?_
    rintro e w1 ⟨rfl, hb1⟩
    go_wp2_with fail
    refine (known_any _).mono ?_
    rintro e w2 ⟨rfl, hb2⟩
    go_wp2_with fail
    go_ret
    exact ⟨rfl, hb1.trans (hb2.mono hb1.size)⟩

theorem walk_SeqTurns (a0 : Int) (b0 : 0 ≤ a0 ∧ a0 ≤ 4294967295) (a1 : Int) (b1 : 0 ≤ a1 ∧ a1 ≤ 4294967295) (a2 : Int) (b2 : 0 ≤ a2 ∧ a2 ≤ 4294967295) (w : World) :
    Calls Try.prog 7 #[.int .u32 a0, .int .u32 a1, .int .u32 a2] w fun e w' => e = .returned (.bool true) ∧ Below w.heap.size w w' := by
  have hd := dist_bd a0 a1
  have hq : dist ((a0 + a2) % 4294967296) ((a1 + a2) % 4294967296) = dist a0 a1 := by unfold dist; omega
  by_cases h : dist a0 a1 = -2147483648
  · have hr : dist a1 a0 = -2147483648 := by unfold dist at h ⊢; omega
    go_enter Try.func7, Try.ntmps7
    go_wp2_with fail
    refine (known_any _).mono ?_
    rintro e w1 ⟨rfl, hb1⟩
    go_wp2_with (first | (go_at_call 17; refine (dist_any _ _ _ (by omega) (by omega)).mono ?_; rintro e w' ⟨rfl, rfl⟩) | (go_at_call 18; refine (less_any _ _ _ (by omega) (by omega)).mono ?_; rintro e w' ⟨rfl, rfl⟩))
    go_wp2_with fail
    refine (known_any _).mono ?_
    rintro e w2 ⟨rfl, hb2⟩
    go_wp2_with fail
    go_ret
    exact ⟨rfl, hb1.trans (hb2.mono hb1.size)⟩
  · have hr : dist a1 a0 = - dist a0 a1 := by unfold dist at h ⊢; omega
    have h' : (dist a0 a1 == -2147483648) = false := by simpa using h
    go_enter Try.func7, Try.ntmps7
    go_wp2_with fail
    refine (known_any _).mono ?_
    rintro e w1 ⟨rfl, hb1⟩
    go_wp2_with (first | (go_at_call 17; refine (dist_any _ _ _ (by omega) (by omega)).mono ?_; rintro e w' ⟨rfl, rfl⟩) | (go_at_call 18; refine (less_any _ _ _ (by omega) (by omega)).mono ?_; rintro e w' ⟨rfl, rfl⟩))
    go_wp2_with fail
    refine (known_any _).mono ?_
    rintro e w2 ⟨rfl, hb2⟩
    go_wp2_with fail
    go_ret
    exact ⟨rfl, hb1.trans (hb2.mono hb1.size)⟩

theorem walk_SeqLatest (a0 : Int) (b0 : 0 ≤ a0 ∧ a0 ≤ 4294967295) (a1 : Option Addr) (len1 cap1 : Nat) (z1 : List Int) (w : World) (w1 : IsRow .u32 w a1 len1 cap1 z1) :
    Calls Try.prog 8 #[.int .u32 a0, .slice a1 len1 cap1] w fun e w' => e = .returned (.bool true) ∧ Below w.heap.size w w' := by
  rcases w1.elems with rfl | ⟨b, off, rfl, hl, hlen, hc, hw⟩
  · go_enter Try.func8, Try.ntmps8
    go_wp2_with fail
    refine (known_any _).mono ?_
    rintro e w1 ⟨rfl, hb1⟩
    go_wp2_with fail
    go_loop [5, 6] (fun v i => i = .int .i64 0 ∧ v = .int .u32 a0) (fun _ _ => 0)
    case atStart => exact ⟨rfl, rfl⟩
    case round =>
      obtain ⟨rfl, rfl⟩ := hrel
      go_wp2_with (go_at_call 22; refine (latest_nil _ _ _ _ (by omega)).mono ?_; rintro e w' ⟨rfl, rfl⟩)
      refine (known_any _).mono ?_
      rintro e w2 ⟨rfl, hb2⟩
      go_wp2_with fail
      go_ret
      exact ⟨rfl, hb1.trans (hb2.mono hb1.size)⟩
  · clear w1
    have hzm : ∀ x ∈ z1.take len1, 0 ≤ x ∧ x ≤ 4294967295 := fun x hx => bounds_u32 (hw x hx)
    have hz : ∀ j, 0 ≤ (z1.take len1).getD j 0 ∧ (z1.take len1).getD j 0 ≤ 4294967295 := getD_bd (fun x => 0 ≤ x ∧ x ≤ 4294967295) (by omega) hzm
    generalize z1.take len1 = zs at *
    have hge : len1 ≤ zs.length := by omega
    have HC := Lib.hid hc
    have HZ := Lib.hid hz
    have HM := Lib.hid hzm
    have HL := Lib.hid hlen
    clear hc hz hzm hlen hw
    go_enter Try.func8, Try.ntmps8
    go_wp2_with fail
    refine (known_any _).mono ?_
    rintro e w1 ⟨rfl, hb1⟩
    have HC1 : Hid (∀ i, i < len1 → w1.cell? ⟨b, off + i, none⟩ = some (.int .u32 (zs.getD i 0))) := fun i hi => cell_later hb1 (HC.out i hi)
    clear HC
    go_wp2_with fail
    go_loop [5, 6] (fun v i => ∃ k : Nat, k ≤ len1 ∧ i = .int .i64 k ∧ v = .int .u32 (latest a0 a0 (zs.take k))) (fun _ i => len1 - (intOf i).toNat)
    case atStart => exact ⟨0, Nat.zero_le _, rfl, rfl⟩
    case round =>
      obtain ⟨k, hk, rfl, rfl⟩ := hrel
      have hb := latest_bd a0 a0 (zs.take k) b0 (fun x hx => HM.out x (List.mem_of_mem_take hx))
      by_cases hlt : k < len1
      · have hcell := HC1.out k hlt
        have hx := HZ.out k
        have HS := latest_snoc a0 a0 (zs.take k) (zs.getD k 0)
        rw [← take_snoc zs 0 k (by omega)] at HS
        generalize zs.getD k 0 = x at *
        generalize latest a0 a0 (zs.take k) = L at *
        have HT := Lib.hid HS
        clear HS
        by_cases ht : dist a0 L < dist a0 x
        all_goals
          go_wp2_with (go_at_call 14; refine (rdist_any _ _ _ (by omega) (by omega)).mono ?_; rintro e w' ⟨rfl, rfl⟩)
          go_round
          case rel => exact ⟨k + 1, by omega, by go_num, by rw [HT.out]; first | rw [if_pos (by omega)] | rw [if_neg (by omega)]⟩
          case measure => simp [intOf]; omega
      · have hf : latest a0 a0 (zs.take k) = latest a0 a0 zs := by rw [List.take_of_length_le (by have := HL.out; omega)]
        rw [hf]
        go_wp2_with fail
        refine (latest_any _ _ _ _ _ zs _ (by omega) HL.out (by omega) HM.out HC1.out).mono ?_
        rintro e w' ⟨rfl, rfl⟩
        go_wp2_with fail
        refine (known_any _).mono ?_
        rintro e w2 ⟨rfl, hb2⟩
        go_wp2_with fail
        go_ret
        exact ⟨rfl, hb1.trans (hb2.mono hb1.size)⟩
end Go.Proofs.Ythkgdeehehjpmaa.sq
