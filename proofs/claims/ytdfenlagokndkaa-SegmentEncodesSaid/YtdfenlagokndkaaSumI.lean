/-
  The words of many lists: the iterator of package sum, and the sum of what it tells.
-/
import Derived.RangeFuncNested
import Derived.RangeFuncBound
import Derived.RangeFuncCalls
import Derived.RangeFuncLeaves
import Derived.Shelf.Abstract
import Derived.Shelf.RegionOpen
import Derived.WalkKit
import Derived.OwnWalkIn
import Derived.TacticsInMore
import Derived.LoopNIn
import Derived.LoopIn
import Derived.Test.YtdfenlagokndkaaSumW
namespace Go.Proofs.Ytdfenlagokndkaa.sm
open Go.RowKit Go.Shelf aid mem
attribute [local go_sem] Oper.semAt_some
set_option linter.unusedVariables false

theorem or16 (a b : Int) (ha : 0 ≤ a ∧ a ≤ 255) (hb : 0 ≤ b ∧ b ≤ 255) : bits .or .u16 (a * 256) b = a * 256 + b :=
  bits_join .u16 16 (by decide) (fun n h0 h1 => by rw [IntKind.wrap_u16]; omega) 8 _ _ (by omega) (by omega) (by omega) (by omega) (by omega) (by omega)

/-- the state behind some bytes: the last one; is one left over -/
def lastB (D : List Int) : Int := D.getLastD 0
def oddB (D : List Int) : Bool := decide (D.length % 2 = 1)
theorem lastB_snoc (D : List Int) (y : Int) : lastB (D ++ [y]) = y := by simp [lastB]
theorem oddB_snoc (D : List Int) (y : Int) : oddB (D ++ [y]) = !oddB D := by
  unfold oddB
  rw [List.length_append, List.length_singleton]
  by_cases h : D.length % 2 = 1
  · rw [decide_eq_true h, decide_eq_false (by omega)]; rfl
  · rw [decide_eq_false h, decide_eq_true (by omega)]; rfl
theorem wfs_step1 {D : List Int} {y hi : Int} (hh : hi = lastB D) (ho : true = oddB D) : wfs (D ++ [y]) = wfs D ++ [hi * 256 + y] := by
  rw [hh]; exact wfs_snoc1 D y (of_decide_eq_true ho.symm)
theorem wfs_step0 {D : List Int} {y : Int} (ho : false = oddB D) : wfs (D ++ [y]) = wfs D :=
  wfs_snoc0 D y (by have := of_decide_eq_false ho.symm; omega)
theorem wfs_fin0 {D : List Int} (ho : false = oddB D) : wfs D = wds D := wfs_even D (by have := of_decide_eq_false ho.symm; omega)
theorem wfs_fin1 {D : List Int} {hi : Int} (hh : hi = lastB D) (ho : true = oddB D) : wfs D ++ [hi * 256] = wds D := by
  rw [hh]; exact wfs_odd D (of_decide_eq_true ho.symm)
theorem room1 {D A : List Int} {y : Int} (ho : true = oddB D) (h : ∃ r, A = (D ++ [y]) ++ r) : (wfs D).length < (wds A).length := by
  obtain ⟨r, rfl⟩ := h
  have := of_decide_eq_true ho.symm
  rw [wfs_len, wds_len]
  simp only [List.length_append, List.length_singleton]
  omega
theorem room2 {D : List Int} (ho : true = oddB D) : (wfs D).length < (wds D).length := by
  have := of_decide_eq_true ho.symm
  rw [wfs_len, wds_len]
  omega
theorem pre1 {D A : List Int} {y hi : Int} (hh : hi = lastB D) (ho : true = oddB D) (h : ∃ r, A = (D ++ [y]) ++ r) : wfs D ++ [hi * 256 + y] <+: wds A := by
  obtain ⟨r, rfl⟩ := h
  rw [← wfs_step1 hh ho]
  exact wfs_pre _ _

set_option maxRecDepth 100000 in
set_option maxHeartbeats 2000000 in
theorem words1_in (F : Fence) (n : Nat) (h6 : F.fn 115) (hro : F.round = none) (hn : 1 ≤ n) (l Bn n₀ : Nat) (a : Option Addr) (len cap : Nat) (ls : List (List Int)) (J Jx : List Int → World → Prop)
    (hbd : ∀ r ∈ ls, ∀ x ∈ r, 0 ≤ x ∧ x ≤ 255)
    (hY : ∀ pre x W, J pre W → pre.length < (wds ls.flatten).length → YieldAt F (n - 1) Try.prog l #[.int .u16 x] W fun e W' =>
      (e = .returned (.bool true) ∧ J (pre ++ [x]) W' ∧ Below n₀ W W') ∨ (e = .returned (.bool false) ∧ Jx (pre ++ [x]) W'))
    (W : World) (hBn : W.cell? ⟨Bn, 0, none⟩ = some (.slice a len cap)) (hL : RowsA n₀ W a len ls) (h0 : J [] W) :
    CallsIn F n Try.prog 115 #[.func (.yield l) #[] #[], .pointer (some ⟨Bn, 0, none⟩)] W fun e W' => (∃ v, e = .returned v) ∧
      ((∃ ys, ys = wds ls.flatten ∧ J ys W') ∨ (∃ pre, pre <+: wds ls.flatten ∧ Jx pre W')) := by
  refine callsIn_of_wp Try.func115 rfl h6 ?_ hro
  simp only [Try.ntmps115, List.size_toArray, List.length_cons, List.length_nil, Nat.reduceAdd, Nat.reduceSub, Array.replicate_succ, Array.replicate_zero, List.push_toArray, List.append_toArray, List.nil_append, List.cons_append]
  have hlen := hL.len
  have hmost := hL.most
  unfold maxLen at hmost
  by_cases hz : len = 0
  · subst hz
    obtain rfl : ls = [] := List.eq_nil_of_length_eq_zero hlen
    gi_wp2
    gi_loopw [3, 4, 11] (fun h b i wr => i = .int .i64 0 ∧ b = .bool false ∧ J [] wr) (fun _ _ _ _ => 0)
    case atStart => exact ⟨rfl, rfl, h0⟩
    case round =>
      obtain ⟨rfl, rfl, hJ⟩ := hrel
      gi_wp2
      go_end0
      exact ⟨⟨_, rfl⟩, .inl ⟨[], rfl, hJ⟩⟩
  · obtain ⟨b, off, rfl, hb, hc⟩ := hL.cells (by omega)
    have HC := Lib.hid hc
    have HL := Lib.hid hlen
    clear hc hlen
    gi_wp2
    gi_loopw [3, 4, 11] (fun h o i wr => ∃ (k : Nat) (hi : Int) (od : Bool), k ≤ len ∧ i = .int .i64 k ∧ h = .int .u8 hi ∧ o = .bool od ∧ 0 ≤ hi ∧ hi ≤ 255 ∧ Hid (hi = lastB (ahead ls k 0)) ∧ Hid (od = oddB (ahead ls k 0)) ∧ J (wfs (ahead ls k 0)) wr ∧ Below n₀ W wr) (fun _ _ i _ => len - (intOf i).toNat)
    case atStart => exact ⟨0, 0, false, Nat.zero_le _, rfl, rfl, rfl, by omega, by omega, Lib.hid (by rw [ahead_zero]; rfl), Lib.hid (by rw [ahead_zero]; rfl), by rw [ahead_zero]; exact h0, Below.refl _ _⟩
    case round =>
      obtain ⟨k, hi, od, hk, rfl, rfl, rfl, hi0, hi1, Hhi, Hod, hJ, hB⟩ := hrel
      obtain ⟨wo, rfl⟩ : ∃ wo : World, wo = wr := ⟨_, rfl⟩
      by_cases hlt : k < len
      · obtain ⟨x, m, c, hcell, hbytes⟩ := HC.out k hlt
        have hcell' := (hB.cell (p := ⟨b, off + k, none⟩) hb).trans hcell
        gi_wp2
        have hmb := hbytes.most
        have hml := hbytes.len
        unfold maxLen at hmb
        have hbr : ∀ y ∈ ls.getD k [], 0 ≤ y ∧ y ≤ 255 := by
          have : ls.getD k [] ∈ ls := by rw [show ls.getD k [] = ls[k]'(by rw [HL.out]; exact hlt) from by simp [List.getD, HL.out, hlt]]; exact List.getElem_mem _
          exact hbd _ this
        have HR := Lib.hid hbr
        have HM := Lib.hid hml
        have HN := Lib.hid (ahead_next ls k (by rw [HL.out]; exact hlt))
        have hsn := Lib.hid (ahead_snoc ls k)
        have hpre := Lib.hid (ahead_pre ls k)
        generalize ls.getD k [] = r at *
        clear hbr hml
        by_cases hmz : m = 0
        · subst hmz
          gi_loopw [3, 4, 17] (fun h o i wr => i = .int .i64 0 ∧ h = .int .u8 hi ∧ o = .bool od ∧ wr = wo) (fun _ _ _ _ => 0)
          case atStart => exact ⟨rfl, rfl, rfl, rfl⟩
          case round =>
            obtain ⟨rfl, rfl, rfl, rfl⟩ := hrel
            gi_wp2
            have e : ahead ls (k + 1) 0 = ahead ls k 0 := by rw [← HN.out, HM.out]
            go_roundw
            case rel => exact ⟨k + 1, hi, od, by omega, by go_num, rfl, rfl, hi0, hi1, by rw [e]; exact Hhi, by rw [e]; exact Hod, by rw [e]; exact hJ, hB⟩
            case measure => simp [intOf]; omega
        · obtain ⟨b2, off2, rfl, hb2, hc2⟩ := hbytes.cells (by omega)
          have HC2 := Lib.hid hc2
          clear hc2
          gi_loopw [3, 4, 17] (fun h o i wr => ∃ (j : Nat) (hi : Int) (od : Bool), j ≤ m ∧ i = .int .i64 j ∧ h = .int .u8 hi ∧ o = .bool od ∧ 0 ≤ hi ∧ hi ≤ 255 ∧ Hid (hi = lastB (ahead ls k j)) ∧ Hid (od = oddB (ahead ls k j)) ∧ J (wfs (ahead ls k j)) wr ∧ Below n₀ W wr) (fun _ _ i _ => m - (intOf i).toNat)
          case atStart => exact ⟨0, hi, od, Nat.zero_le _, rfl, rfl, rfl, hi0, hi1, Hhi, Hod, hJ, hB⟩
          case round =>
            clear Hhi Hod hJ hB hcell hcell' hi0 hi1
            obtain ⟨j, hi, od, hj, rfl, rfl, rfl, hi0, hi1, Hhi, Hod, hJ, hB⟩ := hrel
            by_cases hjl : j < m
            · have hcell2 := (hB.cell (p := ⟨b2, off2 + j, none⟩) hb2).trans (HC2.out j hjl)
              have hy := getD_bd (fun x => 0 ≤ x ∧ x ≤ 255) (by omega) HR.out j
              have HS := Lib.hid (hsn.out j (by rw [HM.out]; exact hjl))
              have hp := hpre.out (j + 1)
              generalize r.getD j 0 = y at *
              rw [HS.out] at hp
              have HP := Lib.hid hp
              clear hp
              have hor := or16 hi y ⟨hi0, hi1⟩ hy
              cases od with
              | true =>
                obtain ⟨fn, tmps, assign, body, hyy, hR⟩ := hY (wfs (ahead ls k j)) (hi * 256 + y) wr hJ (room1 Hod.out HP.out)
                gi_wp2
                refine hR.mono ?_
                rintro e W3 (⟨rfl, hJ3, hk3⟩ | ⟨rfl, hJx3⟩)
                · gi_wp2
                  go_roundw
                  case rel => exact ⟨j + 1, y, false, by omega, by go_num, rfl, rfl, hy.1, hy.2, Lib.hid (by rw [HS.out, lastB_snoc]), Lib.hid (by rw [HS.out, oddB_snoc, ← Hod.out]; rfl), by rw [HS.out, wfs_step1 Hhi.out Hod.out]; exact hJ3, hB.trans hk3⟩
                  case measure => simp [intOf]; omega
                · gi_wp2
                  refine bodyPost_ret (results_none rfl _ _ _) rfl ?_
                  exact ⟨⟨_, rfl⟩, .inr ⟨_, pre1 Hhi.out Hod.out HP.out, hJx3⟩⟩
              | false =>
                gi_wp2
                refine ⟨fun _ h => (by cases h), ?_⟩
                gi_wp2
                go_roundw
                case rel => exact ⟨j + 1, y, true, by omega, by go_num, rfl, rfl, hy.1, hy.2, Lib.hid (by rw [HS.out, lastB_snoc]), Lib.hid (by rw [HS.out, oddB_snoc, ← Hod.out]; rfl), by rw [HS.out, wfs_step0 Hod.out]; exact hJ, hB⟩
                case measure => simp [intOf]; omega
            · have e : ahead ls (k + 1) 0 = ahead ls k j := by rw [← HN.out, HM.out, show m = j from by omega]
              gi_wp2
              go_roundw
              case rel => exact ⟨k + 1, hi, od, by omega, by go_num, rfl, rfl, hi0, hi1, by rw [e]; exact Hhi, by rw [e]; exact Hod, by rw [e]; exact hJ, hB⟩
              case measure => simp [intOf]; omega
      · have e : ahead ls k 0 = ls.flatten := by rw [show k = ls.length from by rw [HL.out]; omega]; exact ahead_end ls
        rw [e] at Hhi Hod hJ
        clear e
        cases od with
        | true =>
          obtain ⟨fn, tmps, assign, body, hyy, hR⟩ := hY (wfs ls.flatten) (hi * 256) wo hJ (room2 Hod.out)
          gi_wp2
          refine hR.mono ?_
          rintro e W3 (⟨rfl, hJ3, hk3⟩ | ⟨rfl, hJx3⟩)
          · gi_wp2
            go_end0
            exact ⟨⟨_, rfl⟩, .inl ⟨_, wfs_fin1 Hhi.out Hod.out, hJ3⟩⟩
          · gi_wp2
            go_end0
            exact ⟨⟨_, rfl⟩, .inr ⟨_, by rw [wfs_fin1 Hhi.out Hod.out]; exact List.prefix_refl _, hJx3⟩⟩
        | false =>
          gi_wp2
          go_end0
          exact ⟨⟨_, rfl⟩, .inl ⟨_, wfs_fin0 Hod.out, hJ⟩⟩
end Go.Proofs.Ytdfenlagokndkaa.sm
