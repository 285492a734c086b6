/-
  Alarms: the law's equal.
-/
import Derived.Test.YtnioaaahkhephaaAlmA
namespace Go.Proofs.Ytnioaaahkhephaa.al
open Go.RowKit Go.Maps aid mem
attribute [local go_sem ↓] Go.wp_at_zero Go.wp_at_succ
set_option linter.unusedVariables false
set_option linter.unusedSimpArgs false

set_option maxRecDepth 100000 in
set_option maxHeartbeats 4000000 in
theorem equal_any {w : World} {C : Nat} {now : Int} {L : List Int} {S : List Nat} {a : Option Addr} {n cap : Nat} (h : OC C now L S w) (hs : SlA .i64 w a n cap L) :
    Calls Try.prog 12 #[.pointer (some ⟨C, 0, none⟩), rc now a n cap] w (RetB true w) := by
  have hle := hs.le
  have hlen := hs.len
  have hv := h.vd
  have hn : n ≤ 64 := by have := hv.len; omega
  have HR := Lib.hid (fun W (hb : BW w (rcO now a n cap) W) => hb.rb hs)
  have HO := Lib.hid (fun W (hb : BW w (rcO now a n cap) W) => h.later hb.below)
  clear h hs hv
  have c0 := (HR.out _ BW.start).c0
  have c1 := (HR.out _ BW.start).c1
  go_enter Try.func12, Try.ntmps12
  go_wp2_with fail
  refine (oc_next (HO.out _ BW.start)).mono ?_
  rintro e w1 ⟨rfl, b1⟩
  have HB1 := Lib.hid (BW.start.later b1)
  clear b1 c0 c1
  have c0 := (HR.out _ HB1.out).c0
  have c1 := (HR.out _ HB1.out).c1
  go_wp2_with fail
  refine (rnext_any (HR.out _ HB1.out).sl now (by omega)).mono ?_
  rintro e w2 ⟨rfl, b2⟩
  have HB2 := Lib.hid (HB1.out.later b2)
  clear b2 c0 c1 HB1
  have c0 := (HR.out _ HB2.out).c0
  have c1 := (HR.out _ HB2.out).c1
  have HC : Hid ((nx L n < 0 ∧ hdL L = (0, 0, false)) ∨ ∃ m : Nat, m < n ∧ nx L n = m ∧ hdL L = ((m : Int), L.getD m 0, true)) := Lib.hid (by
    by_cases hx : nx L n < 0
    · exact .inl ⟨hx, by unfold hdL; rw [hlen, if_pos hx]⟩
    · right
      obtain ⟨m, hm⟩ := Int.eq_ofNat_of_zero_le (Int.not_lt.1 hx)
      have := (nx_rng L n).2
      exact ⟨m, by omega, hm, by unfold hdL; rw [hlen, if_neg hx, hm, Int.toNat_natCast]⟩)
  generalize hdL L = h3 at *
  generalize nx L n = b3 at *
  obtain ⟨x1, x2, x3⟩ := h3
  dsimp only
  go_upto_region 3 with fail
  go_cut [52] from 18 to 53 (fun s52 wr => s52 = .bool false ∧ Hid (BW w (rcO now a n cap) wr))
  case first =>
    rcases HC.out with ⟨hx, e⟩ | ⟨m, hm, hx, e⟩
    · injection e with e1 e2
      injection e2 with e2 e3
      subst e1; subst e2; subst e3
      have hb0 : decide (0 ≤ b3) = false := decide_eq_false (by omega)
      clear HC
      go_wp2_with fail
      go_meet
      exact ⟨rfl, HB2⟩
    · injection e with e1 e2
      injection e2 with e2 e3
      subst e1; subst e2; subst e3; subst hx
      obtain ⟨g, o, ea, hc⟩ := (HR.out _ HB2.out).sl.cells (by omega)
      subst ea
      have m0 := hc m hm
      have hmi : (m : Int) < n := by omega
      clear hc HC
      generalize L.getD m 0 = y at *
      go_wp2_with fail
      go_meet
      exact ⟨rfl, HB2⟩
  case rest =>
    obtain ⟨rfl, HB3⟩ := hcut
    clear HC HB2 c0 c1
    go_wp2_with fail
    go_loopw [9, 10, 11] (fun s9 _ _ wr => ∃ j : Nat, j ≤ n + 2 ∧ s9 = .int .i64 ((j : Int) - 1) ∧ Hid (BW w (rcO now a n cap) wr)) (fun s9 _ _ _ => (n + 2) - (intOf s9 + 1).toNat)
    case atStart => exact ⟨0, by omega, rfl, HB3⟩
    case round =>
      clear HB3
      obtain ⟨j, hj, rfl, HB⟩ := hrel
      have R := HR.out _ HB.out
      have c0 := R.c0
      have c1 := R.c1
      clear R
      by_cases hlt : j < n + 2
      · generalize hz : (j : Int) - 1 = z at *
        have hzb : -9223372036854775808 ≤ z ∧ z ≤ 9223372036854775807 := by omega
        have hzn : z ≤ n := by omega
        go_wp2_with fail
        refine (oc_at (HO.out _ HB.out) z hzb).mono ?_
        rintro e w5 ⟨rfl, b5⟩
        have HB5 := Lib.hid (HB.out.later b5)
        clear b5 c0 c1 HB
        have c0 := (HR.out _ HB5.out).c0
        have c1 := (HR.out _ HB5.out).c1
        go_wp2_with fail
        refine (ris_any (HR.out _ HB5.out).sl now (by omega) z).mono ?_
        rintro e w6 ⟨rfl, b6⟩
        have HB6 := Lib.hid (HB5.out.later b6)
        clear b6 c0 c1 HB5
        have R := HR.out _ HB6.out
        have c0 := R.c0
        have c1 := R.c1
        cases hi : isL L z with
        | true =>
          have hii := of_decide_eq_true hi
          have hat : atL L z = L.getD z.toNat 0 := by unfold atL; rw [hi, if_pos rfl]
          rw [hat]
          clear hat hi
          obtain ⟨m, rfl⟩ := Int.eq_ofNat_of_zero_le hii.1
          have hmn : m < n := by omega
          have hmi : (m : Int) < n := by omega
          obtain ⟨g, o, ea, hc⟩ := R.sl.cells (by omega)
          subst ea
          have m0 := hc m hmn
          rw [Int.toNat_natCast]
          clear hc R hii hzb
          generalize L.getD m 0 = y at *
          have hwr : IntKind.i64.wrap ((m : Int) + 1) = (m : Int) + 1 := IntWalk.i64_in _ (by omega)
          go_wp2_with fail
          go_roundw
          case rel => exact ⟨j + 1, by omega, by rw [show ((j + 1 : Nat) : Int) - 1 = (m : Int) + 1 by omega], HB6⟩
          case measure => simp [intOf]; omega
        | false =>
          have hat : atL L z = 0 := by unfold atL; rw [hi]; rfl
          rw [hat]
          clear hat hi R
          have hwr : IntKind.i64.wrap (z + 1) = z + 1 := IntWalk.i64_in _ (by omega)
          go_wp2_with fail
          go_roundw
          case rel => exact ⟨j + 1, by omega, by rw [show ((j + 1 : Nat) : Int) - 1 = z + 1 by omega], HB6⟩
          case measure => simp [intOf]; omega
      · obtain rfl : j = n + 2 := by omega
        have hz : ((n + 2 : Nat) : Int) - 1 = n + 1 := by omega
        rw [hz]
        have HN := Lib.hid (fun W (hb : BW w (rcO now a n cap) W) => oc_now (HO.out W hb))
        have HL := Lib.hid (fun W (hb : BW w (rcO now a n cap) W) => oc_len (HO.out W hb))
        have HRL := Lib.hid (fun W (hb : BW w (rcO now a n cap) W) => rlen_any (HR.out W hb).sl now (by omega))
        have HCS := Lib.hid (fun W (hb : BW w (rcO now a n cap) W) => And.intro (HR.out W hb).c0 (HR.out W hb).c1)
        rw [hlen] at HL
        clear HO
        generalize cnt L n = q at *
        go_wp2_with fail
        have S0 := HB.out.drew
        clear HB c0 c1
        go_region_held3 (fun w' => w'.cell? ⟨w.heap.size, 0, none⟩ = some (.int .i64 now) ∧ w'.cell? ⟨w.heap.size, 1, none⟩ = some (.slice a n cap)) (first | with_reducible exact HCS.out _ S0 | go_keep)
          (first
          | (go_at_call 15; (with_reducible refine (HN.out _ S0).mono ?_); rintro x w1 ⟨rfl, hb⟩; replace S0 := S0.later hb; clear hb)
          | (go_at_call 16; (with_reducible refine (HL.out _ S0).mono ?_); rintro x w1 ⟨rfl, hb⟩; replace S0 := S0.later hb; clear hb)
          | (go_at_call 28; (with_reducible refine (HRL.out _ S0).mono ?_); rintro x w1 ⟨rfl, hb⟩; replace S0 := S0.later hb; clear hb))
        have HF := Lib.hid S0.below
        clear S0
        go_wp2
        go_ret
        exact ⟨rfl, HF.out⟩
end Go.Proofs.Ytnioaaahkhephaa.al
