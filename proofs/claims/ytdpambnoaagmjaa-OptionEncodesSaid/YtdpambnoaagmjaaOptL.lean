/-
  The walk of the law OptionBack.
-/
import Derived.Test.YtdpambnoaagmjaaOptK
import Derived.Test.YtdpambnoaagmjaaOptO
namespace Go.Proofs.Ytdpambnoaagmjaa.op
open Go.RowKit Go.ChangeShapes aid mem oc
set_option linter.unusedVariables false

theorem chk0_len (o : Opt) (h : chk o = 0) : o.bl.length ≤ 4 ∧ size4 o ≤ 40 := by
  unfold chk at h
  (repeat' split at h) <;> first | omega | exact ⟨by omega, by omega⟩
theorem parse_enc (o : Opt) (hf : o.Fit) (hc : chk o = 0) : parseL (enc o) = (o, 0) := by
  obtain ⟨f, h1, h2⟩ := prs_enc o hf hc
  have h3 := (chk0_len o hc).2
  rw [← enc_len] at h3
  unfold parseL
  rw [if_neg (by omega), prs_more 41 f _ _ (by omega) h1, h2]

set_option maxRecDepth 100000 in
set_option maxHeartbeats 3200000 in
theorem walk_OptionBack (w : World) (o : Opt) (a : Option Addr) (n cap : Nat) (hf : o.Fit) (hbl : BlA w a n cap o.bl) :
    Calls Try.prog 9 #[.agg (optCells o a n cap)] w fun e w' => e = .returned (.bool true) ∧ Below w.heap.size w w' := by
  have hbox := opt_new w o a n cap 40
  have hbl1 := hbl.later ((Below.refl _ _).alloc (Nat.le_refl _) (.cells (optCells o a n cap) 40))
  have hb1 : Below w.heap.size w (w.alloc (.cells (optCells o a n cap) 40)) := (Below.refl _ _).alloc (Nat.le_refl _) _
  have HCE : Hid (optCells o a n cap = #[.int .i64 o.mss, .bool o.permit, .bool o.ts, .int .u32 o.val, .int .u32 o.ecr, .bool o.hs, .int .i64 o.scale, .slice a n cap]) := Lib.hid rfl
  rw [HCE.out] at hbox hbl1 hb1 ⊢
  obtain ⟨w1, hw1⟩ : ∃ w1, (w.alloc (.cells #[.int .i64 o.mss, .bool o.permit, .bool o.ts, .int .u32 o.val, .int .u32 o.ecr, .bool o.hs, .int .i64 o.scale, .slice a n cap] 40)) = w1 := ⟨_, rfl⟩
  have HW1 := Lib.hid hw1
  rw [hw1] at hbox hbl1 hb1
  clear hw1 hbl
  have z1 := hb1.size
  by_cases hc : chk o = 0
  · have hP := parse_enc o hf hc
    have hlen4 := chk0_len o hc
    have hlen := enc_len o
    have hmod := size4_mod o
    have hsg : sizeG o = size4 o := by unfold sizeG; rw [if_neg (by omega)]
    have hbd := bd_enc o hf hlen4.1
    have HP := Lib.hid hP
    have HC := Lib.hid hc
    have HBD := Lib.hid hbd
    obtain ⟨m, hm⟩ : ∃ m, (enc o).length = m := ⟨_, rfl⟩
    have hm1 : ((m : Int) == sizeG o) = true := by rw [hsg, ← hlen, hm]; simp
    have hm2 : ((m : Int) % 4 == 0) = true := by rw [← hlen, hm] at hmod; simp; omega
    have HM := Lib.hid hm
    clear hP hlen4 hlen hmod hsg hbd hc hm
    go_enter Try.func9, Try.ntmps9
    go_wp2_with fail
    rw [HW1.out]
    refine (known_any w1).mono ?_
    rintro e w2 ⟨rfl, h2⟩
    have hB2 := hb1.trans (h2.mono z1)
    have z2 := hB2.size
    have hbox2 := hbox.keep (Kept.of_below h2 (Nat.le_refl _) []) (by simp)
    have hbl2 := hbl1.later h2
    obtain ⟨c0, c1, c2, c3, c4, c5, c6, c7⟩ := hbox2
    clear h2 hbl1 hb1 hbox
    go_wp2_with fail
    rw [← HCE.out]
    refine (encode_ok o a n cap w2 hf hbl2 HC.out).mono ?_
    rintro e w3 ⟨v, rfl, hown, h3⟩
    obtain ⟨a3, c3', hv, hs3, _⟩ := sl_of_own hown
    subst hv
    have hB3 := hB2.trans (h3.mono z2)
    have z3 := hB3.size
    have hbl3 := hbl2.later h3
    have hbox3 := (OptAt.mk c0 c1 c2 c3 c4 c5 c6 c7).keep (Kept.of_below h3 (Nat.le_refl _) []) (by simp)
    rw [HM.out] at hs3 ⊢
    clear c0 c1 c2 c3 c4 c5 c6 c7 hown h3 hbl2 hB2
    go_wp2_with fail
    refine (parse_to a3 m c3' (enc o) w3 o 0 hs3 HBD.out HP.out).mono ?_
    rintro e w4 ⟨a4, n4', c4', rfl, hbl4, h4⟩
    have hB4 := hB3.trans (h4.mono z3)
    have z4 := hB4.size
    have hbx4 := hbox3.keep (Kept.of_below h4 (Nat.le_refl _) []) (by simp)
    have hbo4 := hbl3.later h4
    have HCE2 : Hid (optCells o a4 n4' c4' = #[.int .i64 o.mss, .bool o.permit, .bool o.ts, .int .u32 o.val, .int .u32 o.ecr, .bool o.hs, .int .i64 o.scale, .slice a4 n4' c4']) := Lib.hid rfl
    have hb5 := hB4.alloc z4 (.cells (optCells o a4 n4' c4') 40)
    have hbx5 := hbx4.keep ((Kept.refl [] w4).alloc (.cells (optCells o a4 n4' c4') 40)) (by simp)
    have hbo5 := hbo4.later ((Below.refl _ _).alloc (Nat.le_refl _) (.cells (optCells o a4 n4' c4') 40))
    have hbl5 := hbl4.later ((Below.refl _ _).alloc (Nat.le_refl _) (.cells (optCells o a4 n4' c4') 40))
    have hS := rsame_any o o a a4 n n4' cap c4' (w4.alloc (.cells (optCells o a4 n4' c4') 40)) hbo5 hbl5
    rw [sameB_self] at hS
    rw [HCE2.out] at hb5 hbx5 hbo5 hbl5 hS ⊢
    rw [HCE.out] at hS
    obtain ⟨c0, c1, c2, c3, c4, c5, c6, c7⟩ := hbx5
    clear h4 hbl3 hbox3 hB3 hbx4 hbo4 hbl4 hs3
    go_wp2_with fail
    refine hS.mono ?_
    rintro e w6 ⟨rfl, h6⟩
    have hB6 := hb5.trans (h6.mono hb5.size)
    have z6 := hB6.size
    have hbo6 := hbo5.later h6
    have hbx6 := (OptAt.mk c0 c1 c2 c3 c4 c5 c6 c7).keep (Kept.of_below h6 (Nat.le_refl _) []) (by simp)
    obtain ⟨d0, d1, d2, d3, d4, d5, d6, d7⟩ := hbx6
    clear h6 c0 c1 c2 c3 c4 c5 c6 c7 hbl5 hbo5 hb5 hS
    go_wp2_with fail
    rw [← HCE.out]
    refine (size_any o a n cap w6 hf hbo6).mono ?_
    rintro e w7 ⟨rfl, h7⟩
    have hB7 := hB6.trans (h7.mono z6)
    clear h7 d0 d1 d2 d3 d4 d5 d6 d7
    go_wp2_with fail
    refine (known_any w7).mono ?_
    rintro e w8 ⟨rfl, h8⟩
    go_wp2_with fail
    go_ret
    exact ⟨rfl, hB7.trans (h8.mono hB7.size)⟩
  · have hcb : (chk o != 0) = true := by simpa using hc
    have HC := Lib.hid hc
    clear hc
    go_enter Try.func9, Try.ntmps9
    go_wp2_with fail
    rw [HW1.out]
    refine (known_any w1).mono ?_
    rintro e w2 ⟨rfl, h2⟩
    have hB2 := hb1.trans (h2.mono z1)
    have z2 := hB2.size
    have hbox2 := hbox.keep (Kept.of_below h2 (Nat.le_refl _) []) (by simp)
    have hbl2 := hbl1.later h2
    obtain ⟨c0, c1, c2, c3, c4, c5, c6, c7⟩ := hbox2
    clear h2 hbl1 hb1 hbox
    go_wp2_with fail
    rw [← HCE.out]
    refine (encode_no o a n cap w2 hf hbl2 HC.out).mono ?_
    rintro e w3 ⟨rfl, h3⟩
    have hB3 := hB2.trans (h3.mono z2)
    have z3 := hB3.size
    have hbl3 := hbl2.later h3
    have hbox3 := (OptAt.mk c0 c1 c2 c3 c4 c5 c6 c7).keep (Kept.of_below h3 (Nat.le_refl _) []) (by simp)
    obtain ⟨d0, d1, d2, d3, d4, d5, d6, d7⟩ := hbox3
    clear c0 c1 c2 c3 c4 c5 c6 c7 h3 hbl2 hB2
    go_wp2_with fail
    rw [← HCE.out]
    refine (rchk_any o a n cap w3 hbl3).mono ?_
    rintro e w4 ⟨rfl, h4⟩
    have hB4 := hB3.trans (h4.mono z3)
    clear h4 d0 d1 d2 d3 d4 d5 d6 d7
    go_wp2_with fail
    refine (known_any w4).mono ?_
    rintro e w5 ⟨rfl, h5⟩
    go_wp2_with fail
    go_ret
    exact ⟨rfl, hB4.trans (h5.mono hB4.size)⟩
end Go.Proofs.Ytdpambnoaagmjaa.op
