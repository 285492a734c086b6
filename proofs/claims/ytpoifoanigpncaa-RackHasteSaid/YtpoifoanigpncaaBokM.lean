/-
  Package book: a line's cut, walked; goes, may.
-/
import Derived.Test.YtpoifoanigpncaaBokL
import Derived.StillTailTactics
namespace Go.Proofs.Ytpoifoanigpncaa.bk
open Go.RowKit aid mem
attribute [local go_sem ↓] Go.wp_at_zero Go.wp_at_succ
set_option linter.unusedVariables false

theorem CutP.drew {B T n : Nat} {s : Hd} {P Q : List Nd} {r : Rc} {w W : World} (h : CutP B T n s P Q r w.drew W) : CutP B T n s P Q r w W := ⟨h.1, h.2.1, ⟨h.2.2.os, h.2.2.tape, h.2.2.output, h.2.2.size, h.2.2.block⟩⟩
theorem Ln.drew {w : World} {B T : Nat} {s : Hd} {L : List Nd} (h : Ln w B s T L) : Ln w.drew B s T L := h.later (Below.refl _ _).drew
theorem ln_cells {w : World} {B T n : Nat} {s : Hd} {P Q : List Nd} {r : Rc} (h : Ln w B s T (P ++ (n, r) :: Q)) :
    w.cell? ⟨n, 7, none⟩ = some (pA (la none P)) ∧ w.cell? ⟨n, 8, none⟩ = some (pA (hd none Q)) ∧ n ≠ B := by
  obtain ⟨s1, hn, s2⟩ := seg_append.1 h.sg
  obtain ⟨_, _, _, _, _, _, _, c7, c8⟩ := NdAt.cs hn
  exact ⟨c7, c8, h.nB (n, r) (by simp)⟩
set_option maxRecDepth 100000 in
set_option maxHeartbeats 1000000 in
theorem cut_any {w : World} {B T n : Nat} {s : Hd} {P Q : List Nd} {r : Rc} (h : Ln w B s T (P ++ (n, r) :: Q)) :
    Calls Try.prog 56 #[.pointer (some ⟨B, 4, none⟩), .pointer (some ⟨n, 0, none⟩)] w fun e w' => (∃ v, e = .returned v) ∧ CutP B T n s P Q r w w' := by
  obtain ⟨c0, c1, c2, c3, c4, c5⟩ := h.bk.cs
  have g4 := h.bk.f 4; have g5 := h.bk.f 5
  obtain ⟨n7, n8, hnB⟩ := ln_cells h
  have hBn := hnB.symm
  obtain ⟨s1, hn, s2⟩ := seg_append.1 h.sg
  have f7 := NdAt.f hn 7; have f8 := NdAt.f hn 8
  clear hn
  obtain ⟨d1, d2, d3, d4⟩ := nodup_mid h.nd
  rcases List.eq_nil_or_concat P with rfl | ⟨P', ⟨m, rm⟩, rfl⟩
  · cases Q with
    | nil =>
      have HF := Lib.hid (cut_nn h)
      simp only [hd, la, pA, Option.map] at n7 n8 HF
      clear h s1 s2 d1 d2 d3 d4
      go_enter Try.func56, Try.ntmps56
      go_wp2_with fail
      go_end0
      exact ⟨⟨_, rfl⟩, HF.out⟩
    | cons q Q =>
      have HF := Lib.hid (cut_nc h.drew).drew
      have hq := s2.1
      obtain ⟨_, _, _, _, _, _, _, q7, q8⟩ := NdAt.cs hq
      have fq := NdAt.f hq 7
      have hqB := h.nB q (by simp)
      have hBq := hqB.symm
      have hqn := d3 q (by simp)
      have hnq := hqn.symm
      simp only [hd, la, pA, Option.map] at n7 n8 HF
      clear h s1 s2 d1 d2 d3 d4 hq
      go_enter Try.func56, Try.ntmps56
      go_wp2_with fail
      have kk := kset w B 4 (.pointer (some ⟨q.1, 0, none⟩))
      have e8 := kk.cell (p := ⟨n, 8, none⟩) (by simpa using hnB) n8
      have e7 := kk.cell (p := ⟨n, 7, none⟩) (by simpa using hnB) n7
      have eq7 := kk.cell (p := ⟨q.1, 7, none⟩) (by simpa using hqB) q7
      have efq := (kk.frozen (p := ⟨q.1, 7, none⟩) (by simpa using hqB) q7).trans fq
      have HF2 : Hid (CutP B T n s [] (q :: Q) r w ((((w.setCell ⟨B, 4, none⟩ (.pointer (some ⟨q.1, 0, none⟩))).drew.setCell ⟨q.1, 7, none⟩ (.pointer none)).setCell ⟨n, 7, none⟩ (.pointer none)).setCell ⟨n, 8, none⟩ (.pointer none))) := HF
      have ef7 := (kk.frozen (p := ⟨n, 7, none⟩) (by simpa using hnB) n7).trans f7
      have ef8 := (kk.frozen (p := ⟨n, 8, none⟩) (by simpa using hnB) n8).trans f8
      clear kk q7 q8 fq f7 f8 n7 n8 HF c0 c1 c2 c3 c4 c5 g4 g5
      generalize w.setCell ⟨B, 4, none⟩ (.pointer (some ⟨q.1, 0, none⟩)) = W at *
      go_still_tail 10, (by kernel_rfl)
      go_wp2_with fail
      go_end0
      exact ⟨⟨_, rfl⟩, HF2.out⟩
  · rw [List.concat_eq_append] at *
    have hm := (seg_append.1 s1).2.1
    obtain ⟨_, _, _, _, _, _, _, m7, m8⟩ := NdAt.cs hm
    have fm := NdAt.f hm 8
    have hmB := h.nB (m, rm) (by simp)
    have hBm := hmB.symm
    have hmn : m ≠ n := d2 (m, rm) (by simp)
    have hnm := hmn.symm
    have hla : la none (P' ++ [(m, rm)]) = some m := by rw [la_append]; rfl
    rw [hla] at n7
    cases Q with
    | nil =>
      have HF := Lib.hid (cut_sn h.drew).drew
      simp only [hd, pA, Option.map] at n7 n8 HF
      clear h s1 s2 d1 d2 d3 d4 hm hla
      go_enter Try.func56, Try.ntmps56
      go_wp2_with fail
      go_still_tail 10, (by kernel_rfl)
      go_wp2_with fail
      go_end0
      exact ⟨⟨_, rfl⟩, HF.out⟩
    | cons q Q =>
      have HF := Lib.hid (cut_sc h.drew.drew).drew.drew
      have hq := s2.1
      obtain ⟨_, _, _, _, _, _, _, q7, q8⟩ := NdAt.cs hq
      have fq := NdAt.f hq 7
      have hqB := h.nB q (by simp)
      have hBq := hqB.symm
      have hqn := d3 q (by simp)
      have hnq := hqn.symm
      have hmq : m ≠ q.1 := d4 (m, rm) (by simp) q (by simp)
      have hqm := hmq.symm
      simp only [hd, pA, Option.map] at n7 n8 HF
      clear h s1 s2 d1 d2 d3 d4 hm hla hq
      go_enter Try.func56, Try.ntmps56
      go_wp2_with fail
      go_still_tail 10, (by kernel_rfl)
      go_wp2_with fail
      have kk := (kset w m 8 (.pointer (some ⟨q.1, 0, none⟩))).drew
      have e8 := kk.cell (p := ⟨n, 8, none⟩) (by simpa using hnm) n8
      have e7 := kk.cell (p := ⟨n, 7, none⟩) (by simpa using hnm) n7
      have eq7 := kk.cell (p := ⟨q.1, 7, none⟩) (by simpa using hqm) q7
      have efq := (kk.frozen (p := ⟨q.1, 7, none⟩) (by simpa using hqm) q7).trans fq
      have HF2 : Hid (CutP B T n s (P' ++ [(m, rm)]) (q :: Q) r w ((((w.setCell ⟨m, 8, none⟩ (.pointer (some ⟨q.1, 0, none⟩))).drew.drew.setCell ⟨q.1, 7, none⟩ (.pointer (some ⟨m, 0, none⟩))).setCell ⟨n, 7, none⟩ (.pointer none)).setCell ⟨n, 8, none⟩ (.pointer none))) := HF
      have ef7 := (kk.frozen (p := ⟨n, 7, none⟩) (by simpa using hnm) n7).trans f7
      have ef8 := (kk.frozen (p := ⟨n, 8, none⟩) (by simpa using hnm) n8).trans f8
      clear kk q7 q8 fq f7 f8 n7 n8 HF c0 c1 c2 c3 c4 c5 g4 g5 m7 m8 fm
      generalize (w.setCell ⟨m, 8, none⟩ (.pointer (some ⟨q.1, 0, none⟩))).drew = W at *
      go_still_tail 10, (by kernel_rfl)
      go_wp2_with fail
      go_end0
      exact ⟨⟨_, rfl⟩, HF2.out⟩
end Go.Proofs.Ytpoifoanigpncaa.bk
