/-
  The walk of the law SumTurns.
-/
import Derived.Test.YtdpambnoaagmjaaSumT
import Derived.IntWalk
namespace Go.Proofs.Ytdpambnoaagmjaa.sm
open Go.RowKit Go.ChangeShapes aid mem
set_option linter.unusedVariables false

/-- what Turn makes, of a sum and two words -/
def turnK (S W I : Int) : Int := 65535 - cs (cs (S + 65535 - W) + I)
theorem turnK_bd (S W I : Int) : 0 ≤ turnK S W I ∧ turnK S W I ≤ 65535 := by
  have := cs_bd (cs (S + 65535 - W) + I)
  unfold turnK
  omega
theorem turnK_mod (T W I : Int) (hT : 0 ≤ T) (hW : 0 ≤ W ∧ W ≤ 65535) (hI : 0 ≤ I ∧ I ≤ 65535) (T' : Int) (h : T' = T - W + I) (hT' : 0 ≤ T') :
    turnK (cs T) W I % 65535 = (65535 - cs T') % 65535 := by
  have h1 := cs_mod' (cs (cs T + 65535 - W) + I) (by have := cs_bd (cs T + 65535 - W); omega)
  have h2 := cs_mod' (cs T + 65535 - W) (by have := cs_bd T; omega)
  have h3 := cs_mod' T hT
  have h4 := cs_mod' T' hT'
  unfold turnK
  omega
theorem turn_one (S W I : Int) (w : World) (hS : 0 ≤ S ∧ S ≤ 65535) (hW : 0 ≤ W ∧ W ≤ 65535) (hI : 0 ≤ I ∧ I ≤ 65535) :
    Calls Try.prog 20 #[.int .u16 (65535 - S), .int .u16 W, .int .u16 I] w fun e w' => e = .returned (.int .u16 (turnK S W I)) ∧ w = w' :=
  (turn_any (65535 - S) W I w (by omega) hW hI).mono fun e w' ⟨he, hw⟩ => ⟨by rw [he]; unfold turnK; rw [show 65535 - (65535 - S) + (65535 - W) = S + 65535 - W by omega], hw⟩

set_option maxRecDepth 100000 in
set_option maxHeartbeats 3200000 in
theorem walk_SumTurns (w : World) (a0 : Option Addr) (len0 cap0 : Nat) (z0 : List Int) (w0 : IsRow .u8 w a0 len0 cap0 z0) (rb0 : cap0 * 1 ≤ 140737488351232) (a1 : Int) (b1 : -9223372036854775808 ≤ a1 ∧ a1 ≤ 9223372036854775807) (a2 : Int) (b2 : 0 ≤ a2 ∧ a2 ≤ 255) (a3 : Int) (b3 : 0 ≤ a3 ∧ a3 ≤ 255) :
    Calls Try.prog 6 #[.slice a0 len0 cap0, .int .i64 a1, .int .u8 a2, .int .u8 a3] w fun e w' => e = .returned (.bool true) ∧ Below w.heap.size w w' := by
  obtain ⟨i0, hi, hz0, hz1, hz2⟩ := info_parts info_u8
  have hs0 := sl_of_row w0
  have hb0 := bytes_of_row w0
  clear w0
  generalize z0.take len0 = l0 at *
  have hl0 := hs0.len
  have hle0 := hs0.le
  have hm0 := hs0.most
  unfold maxLen at hm0
  have HB0 := Lib.hid hb0
  have HL0 := Lib.hid hl0
  clear hb0 hl0
  by_cases hneg : a1 < 0
  · go_enter Try.func6, Try.ntmps6
    go_wp2_with fail
    refine (known_any w).mono ?_
    rintro e wk ⟨rfl, hk⟩
    go_wp2_with fail
    refine (known_any wk).mono ?_
    rintro e w6 ⟨rfl, h6⟩
    go_wp2_with fail
    go_ret
    exact ⟨rfl, hk.trans (h6.mono hk.size)⟩
  · obtain ⟨k, rfl⟩ := Int.eq_ofNat_of_zero_le (show 0 ≤ a1 by omega)
    by_cases hin : k < len0 / 2
    · have hin1 : ¬ (len0 : Int) / 2 ≤ (k : Int) := by omega
      obtain ⟨b, off, rfl, hcz⟩ := hs0.cells (by omega)
      clear hcz
      go_enter Try.func6, Try.ntmps6
      go_wp2_with fail
      refine (known_any w).mono ?_
      rintro e wk ⟨rfl, hk⟩
      have ks0 := hs0.later hk
      have zk := hk.size
      have own0 : (wk.alloc (.cells #[] 5)).ownsRow 0 5 1 (.slice (some ⟨wk.heap.size, 0, none⟩) 0 0) 0 [] := World.ownsRow_made wk #[] 0 (Nat.zero_le _) (Nat.zero_le _) rfl
      have src0 := (ks0.later ((Below.refl _ _).alloc (Nat.le_refl _) (.cells #[] 5))).src Try.underlying25
      have hB3 := hk.alloc zk (.cells #[] 5)
      clear hs0
      go_wp2_with (at_builtin; go_must (refine wpList_append_any _ rfl (.tmp 27) (.tmp 28) 25 25 rfl 0 5 i0 (.int .u8 0) 1 Try.underlying25 hi hz0 hz1 hz2 rfl (.slice (some ⟨wk.heap.size, 0, none⟩) 0 0) 0 [] rfl own0 (.slice (some ⟨b, off, none⟩) len0 cap0) rfl len0 (ints .u8 l0) src0 (by unfold maxLen; omega) (by omega) (Nat.zero_le _) ?_; intro a4 cap4 w3 hown3 hgr hat3; simp only [Nat.zero_add, List.nil_append] at hown3 hat3 ⊢; clear src0 own0; obtain ⟨g, cap', hv, hsl, hcell, hfrz, _, hg⟩ := own_at hown3 (by omega); injection hv with hv1 _ hv2; subst hv1 hv2; have c1 := hcell (2 * k) (by omega); have f1 := hfrz (2 * k) (by omega); have c2 := (set_other (w := w3) (v := .int .u8 a2) (a := ⟨g, 2 * k, none⟩) (b := ⟨g, 2 * k + 1, none⟩) (by simp)).trans (hcell (2 * k + 1) (by omega)); have f2 : (w3.setCell ⟨g, 2 * k, none⟩ (.int .u8 a2)).frozen? ⟨g, 2 * k + 1, none⟩ = false := (by simpa using hfrz (2 * k + 1) (by omega)); have j0 : (0 : Int) ≤ (k : Int) := (by omega); have j1 : (2 * k : Int) < (len0 : Int) := (by omega); have j2 : (2 * k : Int) + 1 < (len0 : Int) := (by omega); have HC := Lib.hid hcell; clear hcell hfrz))
      obtain ⟨w4, hw4⟩ : ∃ w4, ((w3.setCell ⟨g, 2 * k, none⟩ (.int .u8 a2)).setCell ⟨g, 2 * k + 1, none⟩ (.int .u8 a3)) = w4 := ⟨_, rfl⟩
      rw [hw4]
      obtain ⟨hc4, hs4, hB4⟩ := turned_at k a2 a3 ks0 hk hgr hat3 hsl (by omega) w4 hw4
      clear hw4 c1 c2 f1 f2 HC hgr hat3 hsl hown3 hg ks0 hk hB3
      have z4 := hB4.size
      obtain ⟨bb, oo, hbo, hcc⟩ := hs4.cells (by omega)
      injection hbo with hbo
      injection hbo with hbo1 hbo2
      subst hbo1 hbo2
      have c1 := hcc (2 * k) (by omega)
      have c2 := hcc (2 * k + 1) (by omega)
      have x1 := getD_bd (fun x => 0 ≤ x ∧ x ≤ 255) (by omega) HB0.out (2 * k)
      have x2 := getD_bd (fun x => 0 ≤ x ∧ x ≤ 255) (by omega) HB0.out (2 * k + 1)
      have HT := Lib.hid (turned_tot l0 k a2 a3 (by rw [HL0.out]; omega))
      clear hcc
      generalize l0.getD (2 * k) 0 = x at *
      generalize l0.getD (2 * k + 1) 0 = y at *
      have q1 : IntKind.i64.wrap (2 * (k : Int)) = 2 * (k : Int) := IntWalk.i64_in _ (by omega)
      have q2 : IntKind.i64.wrap (2 * (k : Int) + 1) = 2 * (k : Int) + 1 := IntWalk.i64_in _ (by omega)
      have q3 : (2 * (k : Int)).toNat = 2 * k := by omega
      have q4 : (2 * (k : Int) + 1).toNat = 2 * k + 1 := by omega
      have q5 : IntKind.u16.wrap (x * 256) = x * 256 := by rw [IntKind.wrap_u16]; omega
      have q6 := or16 x y x1 x2
      have q9 := or16 a2 a3 b2 b3
      have q7 : (0 : Int) ≤ 2 * (k : Int) := by omega
      have q8 : (0 : Int) ≤ 2 * (k : Int) + 1 := by omega
      go_quiet (fail)
      clear q1 q2 q3 q4 q5 q6 q7 q8 c1 c2
      have hc5 := hc4.drewN nq
      have hs5 := hs4.drewN nq
      have hB5 := below_drewN hB4 nq
      clear hc4 hs4 hB4 z4
      obtain ⟨w5, hw5⟩ : ∃ w5, w4.drewN nq = w5 := ⟨_, rfl⟩
      rw [hw5] at hc5 hs5 hB5 ⊢
      clear hw5
      have z5 := hB5.size
      have HTB := Lib.hid (turned_bd HB0.out k a2 a3 b2 b3)
      have sb := sumB_bd l0
      have tb := turnK_bd (sumB l0) (x * 256 + y) (a2 * 256 + a3)
      have sc := sumB_bd (turned l0 k a2 a3)
      have HM : Hid (turnK (sumB l0) (x * 256 + y) (a2 * 256 + a3) % 65535 = (65535 - sumB (turned l0 k a2 a3)) % 65535) := by
        have h := turnK_mod (tot l0) (x * 256 + y) (a2 * 256 + a3) (tot_pos _ HB0.out) (by omega) (by omega) (tot (turned l0 k a2 a3)) HT.out (tot_pos _ HTB.out)
        exact h
      have HK : Hid (turnK (sumB l0) (x * 256 + y) (a2 * 256 + a3) = 65535 - cs (cs (sumB l0 + 65535 - (x * 256 + y)) + (a2 * 256 + a3))) := rfl
      have cb := cs_bd (sumB l0 + 65535 - (x * 256 + y))
      have cb2 := cs_bd (cs (sumB l0 + 65535 - (x * 256 + y)) + (a2 * 256 + a3))
      go_wp2_with fail
      refine (check_one hs5 HB0.out 25 _ rfl).mono ?_
      rintro e w6 ⟨rfl, h6⟩
      have hs6 := hs5.later h6
      have hc6 := hc5.later h6
      have hB6 := hB5.trans (h6.mono z5)
      have z6 := hB6.size
      clear h6 hs5 hc5 hB5
      go_wp2_with fail
      refine (turn_one (sumB l0) (x * 256 + y) (a2 * 256 + a3) _ sb (by omega) (by omega)).mono ?_
      rintro e w' ⟨rfl, rfl⟩
      go_wp2_with fail
      refine (ref_of hs6 HB0.out).mono ?_
      rintro e w' ⟨rfl, rfl⟩
      go_wp2_with fail
      refine (fold_any _ _ (by omega)).mono ?_
      rintro e w' ⟨rfl, rfl⟩
      go_wp2_with fail
      refine (fold_any _ _ (by omega)).mono ?_
      rintro e w' ⟨rfl, rfl⟩
      rw [HK.out] at tb HM ⊢
      go_wp2_with fail
      refine (check_one hc6 HTB.out 25 _ rfl).mono ?_
      rintro e w7 ⟨rfl, h7⟩
      have hB7 := hB6.trans (h7.mono z6)
      have z7 := hB7.size
      clear h7 HK HT
      obtain ⟨K, hK⟩ : ∃ K, 65535 - cs (cs (sumB l0 + 65535 - (x * 256 + y)) + (a2 * 256 + a3)) = K := ⟨_, rfl⟩
      obtain ⟨X, hX⟩ : ∃ X, 65535 - sumB (turned l0 k a2 a3) = X := ⟨_, rfl⟩
      have hX0 : 0 ≤ X ∧ X ≤ 65535 := by omega
      rw [hK] at tb HM ⊢
      rw [hX] at HM ⊢
      clear hK hX
      by_cases hKX : K = X
      · have hb1 : (K == X) = true := by simpa using hKX
        clear hKX
        go_wp2_with fail
        refine (known_any w7).mono ?_
        rintro e w8 ⟨rfl, h8⟩
        go_wp2_with fail
        go_ret
        exact ⟨rfl, hB7.trans (h8.mono z7)⟩
      · have hb1 : (K == X) = false := by simpa using hKX
        have hb2 : (K % 65535 == X % 65535) = true := by simpa using HM.out
        clear hKX
        go_wp2_with fail
        refine (known_any w7).mono ?_
        rintro e w8 ⟨rfl, h8⟩
        go_wp2_with fail
        go_ret
        exact ⟨rfl, hB7.trans (h8.mono z7)⟩
    · have hin1 : (len0 : Int) / 2 ≤ (k : Int) := by omega
      have hk0 : (0 : Int) ≤ (k : Int) := by omega
      go_enter Try.func6, Try.ntmps6
      go_wp2_with fail
      refine (known_any w).mono ?_
      rintro e wk ⟨rfl, hk⟩
      go_wp2_with fail
      refine (known_any wk).mono ?_
      rintro e w6 ⟨rfl, h6⟩
      go_wp2_with fail
      go_ret
      exact ⟨rfl, hk.trans (h6.mono hk.size)⟩
end Go.Proofs.Ytdpambnoaagmjaa.sm
