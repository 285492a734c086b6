/-
  The walks of the laws of layer 3: SumParts, SumWithin.
-/
import Derived.Test.YtdpambnoaagmjaaSumK
import Derived.OpenShut
namespace Go.Proofs.Ytdpambnoaagmjaa.sm
open Go.RowKit Go.ChangeShapes aid mem
set_option linter.unusedVariables false

theorem bytes_of_row {w : World} {a : Option Addr} {len cap : Nat} {zs : List Int} (h : IsRow .u8 w a len cap zs) : ∀ x ∈ zs.take len, 0 ≤ x ∧ x ≤ 255 :=
  fun x hx => bounds_u8 (wf_of_row h x hx)

set_option maxHeartbeats 1600000 in
theorem walk_SumParts (w : World) (a0 : Option Addr) (len0 cap0 : Nat) (z0 : List Int) (w0 : IsRow .u8 w a0 len0 cap0 z0) (a1 : Option Addr) (len1 cap1 : Nat) (z1 : List Int) (w1 : IsRow .u8 w a1 len1 cap1 z1) :
    Calls Try.prog 4 #[.slice a0 len0 cap0, .slice a1 len1 cap1] w fun e w' => e = .returned (.bool true) ∧ Below w.heap.size w w' := by
  have hs0 := sl_of_row w0
  have hs1 := sl_of_row w1
  have hb0 := bytes_of_row w0
  have hb1 := bytes_of_row w1
  clear w0 w1
  generalize z0.take len0 = l0 at *
  generalize z1.take len1 = l1 at *
  have hl0 := hs0.len
  have hl1 := hs1.len
  have hle0 := hs0.le
  have hle1 := hs1.le
  have hm0 := hs0.most
  have hm1 := hs1.most
  unfold maxLen at hm0 hm1
  have hbd0 := sumB_bd l0
  have hbd1 := sumB_bd l1
  by_cases hev : len0 % 2 = 0
  · have hev' : (len0 : Int) % 2 = 0 := by omega
    have e1 : cs (sumB l0 + sumB l1) = sumB (l0 ++ l1) := by
      unfold sumB
      rw [cs_add _ _ (tot_pos l0 hb0) (by have := cs_bd (tot l1); omega), cs_add2 _ _ (tot_pos l0 hb0) (tot_pos l1 hb1), tot_app _ _ (by omega)]
    have E1 := Lib.hid e1
    have e2 : len1 % 2 = 0 → sumB (l1 ++ l0) = sumB (l0 ++ l1) := fun h => by
      unfold sumB
      rw [tot_app _ _ (by omega), tot_app _ _ (by omega), Int.add_comm]
    have E2 := Lib.hid e2
    have HL0 := Lib.hid hl0
    have HL1 := Lib.hid hl1
    have HB0 := Lib.hid hb0
    have HB1 := Lib.hid hb1
    clear e1 e2 hl0 hl1 hb0 hb1
    go_enter Try.func4, Try.ntmps4
    go_wp2_with fail
    refine (known_any w).mono ?_
    rintro e wk ⟨rfl, hk⟩
    have ks0 := hs0.later hk
    have ks1 := hs1.later hk
    clear hs0 hs1
    go_wp2_with fail
    refine (of_one ks0 HB0.out 25 _ rfl).mono ?_
    rintro e w2 ⟨rfl, h2⟩
    have js0 := ks0.later h2
    have js1 := ks1.later h2
    clear ks0 ks1
    go_wp2_with fail
    refine (of_one js1 HB1.out 25 _ rfl).mono ?_
    rintro e w3 ⟨rfl, h3⟩
    have is0 := js0.later h3
    have is1 := js1.later h3
    clear js0 js1
    go_wp2_with fail
    refine (add_any _ _ _ (by omega) (by omega)).mono ?_
    rintro e w' ⟨rfl, rfl⟩
    rw [E1.out]
    go_wp2_with fail
    refine (of_two is0 is1 HB0.out HB1.out 25 _ rfl).mono ?_
    rintro e w4 ⟨rfl, h4⟩
    have gs0 := is0.later h4
    have gs1 := is1.later h4
    clear is0 is1
    have hB4 : Below w.heap.size w w4 := ((hk.trans (h2.mono hk.size)).trans (h3.mono (Nat.le_trans hk.size h2.size))).trans (h4.mono (Nat.le_trans (Nat.le_trans hk.size h2.size) h3.size))
    have z4 := hB4.size
    clear hk h2 h3 h4
    by_cases hev1 : len1 % 2 = 0
    · have hev1' : (len1 : Int) % 2 = 0 := by omega
      go_wp2_with fail
      refine (of_two gs1 gs0 HB1.out HB0.out 25 _ rfl).mono ?_
      rintro e w5 ⟨rfl, h5⟩
      rw [E2.out hev1]
      have hB5 := hB4.trans (h5.mono z4)
      clear h5
      go_wp2_with fail
      refine (known_any w5).mono ?_
      rintro e w6 ⟨rfl, h6⟩
      go_wp2_with fail
      go_ret
      exact ⟨rfl, hB5.trans (h6.mono hB5.size)⟩
    · have hev1' : (len1 : Int) % 2 = 1 := by omega
      go_wp2_with fail
      refine (known_any w4).mono ?_
      rintro e w6 ⟨rfl, h6⟩
      go_wp2_with fail
      go_ret
      exact ⟨rfl, hB4.trans (h6.mono z4)⟩
  · have hev' : (len0 : Int) % 2 = 1 := by omega
    clear hl0 hl1 hb0 hb1
    go_enter Try.func4, Try.ntmps4
    go_wp2_with fail
    refine (known_any w).mono ?_
    rintro e wk ⟨rfl, hk⟩
    go_wp2_with fail
    refine (known_any wk).mono ?_
    rintro e w6 ⟨rfl, h6⟩
    go_wp2_with fail
    go_ret
    exact ⟨rfl, hk.trans (h6.mono hk.size)⟩

theorem info_u8 : (Try.prog.info? 5).map (fun i => (i.zero, i.size, i.bytes)) = some (some (.int .u8 0), 1, 1) := by kernel_rfl

set_option maxRecDepth 100000 in
set_option maxHeartbeats 1600000 in
theorem walk_SumWithin (w : World) (a0 : Option Addr) (len0 cap0 : Nat) (z0 : List Int) (w0 : IsRow .u8 w a0 len0 cap0 z0) (rb0 : cap0 * 1 ≤ 140737488351232) :
    Calls Try.prog 7 #[.slice a0 len0 cap0] w fun e w' => e = .returned (.bool true) ∧ Below w.heap.size w w' := by
  obtain ⟨i0, hi, hz0, hz1, hz2⟩ := info_parts info_u8
  have hs0 := sl_of_row w0
  have hb0 := bytes_of_row w0
  clear w0
  generalize z0.take len0 = l0 at *
  have hl0 := hs0.len
  have hle0 := hs0.le
  have hm0 := hs0.most
  unfold maxLen at hm0
  have hbd0 := sumB_bd l0
  by_cases hev : len0 % 2 = 0
  · have hev' : (len0 : Int) % 2 = 0 := by omega
    have e1 : fineB (l0 ++ [(65535 - sumB l0) / 256, (65535 - sumB l0) % 256]) = true := by
      unfold fineB
      refine decide_eq_true ?_
      unfold sumB at hbd0 ⊢
      rw [tot_app _ _ (by omega), ← cs_add _ _ (tot_pos l0 hb0) (by simp only [tot]; omega)]
      generalize cs (tot l0) = c at *
      simp only [tot]
      rw [show c + ((65535 - c) / 256 * 256 + (65535 - c) % 256 + 0) = 65535 by omega]
      decide
    have E1 := Lib.hid e1
    have HL0 := Lib.hid hl0
    have HB0 := Lib.hid hb0
    clear e1 hl0 hb0
    go_enter Try.func7, Try.ntmps7
    go_wp2_with fail
    refine (known_any w).mono ?_
    rintro e wk ⟨rfl, hk⟩
    have ks0 := hs0.later hk
    clear hs0
    go_wp2_with fail
    refine (check_one ks0 HB0.out 25 _ rfl).mono ?_
    rintro e w2 ⟨rfl, h2⟩
    have js0 := ks0.later h2
    have hB2 : Below w.heap.size w w2 := hk.trans (h2.mono hk.size)
    have z2 := hB2.size
    clear ks0 hk h2
    have hk0 : 0 ≤ 65535 - sumB l0 ∧ 65535 - sumB l0 ≤ 65535 := by omega
    obtain ⟨c, hc⟩ : ∃ c, 65535 - sumB l0 = c := ⟨_, rfl⟩
    rw [hc] at hk0 E1 ⊢
    clear hc
    have own0 : (w2.alloc (.cells #[] 5)).ownsRow 0 5 1 (.slice (some ⟨w2.heap.size, 0, none⟩) 0 0) 0 [] := World.ownsRow_made w2 #[] 0 (Nat.zero_le _) (Nat.zero_le _) rfl
    have src0 := (js0.later ((Below.refl _ _).alloc (Nat.le_refl _) (.cells #[] 5))).src Try.underlying25
    have hB3 := hB2.alloc z2 (.cells #[] 5)
    have hbds : ∀ y ∈ [c / 256, c % 256], 0 ≤ y ∧ y ≤ 255 := by intro y hy; simp at hy; omega
    have HY := Lib.hid hbds
    clear hbds
    go_wp2_with (first | (at_builtin; refine wpList_append_any _ rfl (.tmp 14) (.tmp 15) 25 25 rfl 0 5 i0 (.int .u8 0) 1 Try.underlying25 hi hz0 hz1 hz2 rfl (.slice (some ⟨w2.heap.size, 0, none⟩) 0 0) 0 [] rfl own0 (.slice a0 len0 cap0) rfl len0 (ints .u8 l0) src0 (by unfold maxLen; omega) (by omega) (Nat.zero_le _) ?_; intro a3 cap3 w3 hown3 hgr hat3; simp only [Nat.zero_add, List.nil_append] at hown3 hat3 ⊢; clear src0 own0; have src2 := (sl_new .u8 5 w3 [c / 256, c % 256] (by simp [maxLen])).src Try.underlying25) | (at_builtin; refine wpList_append_any _ rfl (.tmp 16) (.tmp 22) 25 25 rfl 0 5 i0 (.int .u8 0) 1 Try.underlying25 hi hz0 hz1 hz2 rfl (.slice a3 len0 cap3) len0 (ints .u8 l0) rfl (hown3.alloc _) (.slice (some ⟨w3.heap.size, 0, none⟩) 2 2) rfl 2 (ints .u8 [c / 256, c % 256]) src2 (by unfold maxLen; omega) (by omega) (Nat.zero_le _) ?_; intro a4 cap4 w4 hown4 hgr4 hat4; clear src2))
    have hB4 : Below w.heap.size w w3 := hB3.grown hgr (by simp; omega) (fun k hk => by
      simp [Value.ownBlock] at hk; omega)
    have z3 := hB4.size
    have hB5 : Below w.heap.size w w4 := (hB4.alloc z3 _).grown hgr4 (by simp; omega) (fun k hk => by
      rcases hat3 with h | h <;> rw [h] at hk <;> simp [Value.ownBlock] at hk <;> omega)
    have z4 := hB5.size
    rw [← ints_append] at hown4
    obtain ⟨a5, cap5, hv, hsl, _⟩ := sl_of_own hown4
    injection hv with hv1 _ hv2
    subst hv1 hv2
    clear hown3 hown4 hgr hgr4 hat3 hat4 hB3 hB4
    refine (fine_any hsl ?_).mono ?_
    · intro y hy
      rcases List.mem_append.1 hy with hy | hy
      · exact HB0.out y hy
      · exact HY.out y hy
    rintro e w5 ⟨rfl, h5⟩
    rw [E1.out]
    have hB6 := hB5.trans (h5.mono z4)
    clear h5 hB5
    go_wp2_with fail
    refine (known_any w5).mono ?_
    rintro e w6 ⟨rfl, h6⟩
    go_wp2_with fail
    go_ret
    exact ⟨rfl, hB6.trans (h6.mono hB6.size)⟩
  · have hev' : (len0 : Int) % 2 = 1 := by omega
    clear hl0 hb0
    go_enter Try.func7, Try.ntmps7
    go_wp2_with fail
    refine (known_any w).mono ?_
    rintro e wk ⟨rfl, hk⟩
    go_wp2_with fail
    refine (known_any wk).mono ?_
    rintro e w6 ⟨rfl, h6⟩
    go_wp2_with fail
    go_ret
    exact ⟨rfl, hk.trans (h6.mono hk.size)⟩
end Go.Proofs.Ytdpambnoaagmjaa.sm
