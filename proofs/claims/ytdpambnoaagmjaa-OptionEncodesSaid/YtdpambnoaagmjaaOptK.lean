/-
  Layer 4: what must come of fixed calls; the walk of the law OptionMay.
-/
import Derived.Test.YtdpambnoaagmjaaOptD
import Derived.Test.YtdpambnoaagmjaaOptG
import Derived.Test.YtdpambnoaagmjaaOptA
import Derived.Test.YtdpambnoaagmjaaRef2
import Derived.OpenShut
namespace Go.Proofs.Ytdpambnoaagmjaa.op
open Go.RowKit Go.ChangeShapes aid mem oc
set_option linter.unusedVariables false

def kOpt : Opt := ⟨0, true, false, 0, 0, false, 0, [(1, 2)]⟩
theorem bl_new (w : World) (x y : Int) (t : TypeId) : BlA (w.alloc (.cells #[.int .u32 x, .int .u32 y] t)) (some ⟨w.heap.size, 0, none⟩) 1 1 [(x, y)] :=
  ⟨rfl, Nat.le_refl _, by simp [maxLen], (fun h => by cases h), fun _ => ⟨w.heap.size, 0, rfl, fun i hi => by
    obtain rfl : i = 0 := by omega
    exact ⟨World.cell?_alloc_at _ _ _ _ rfl, World.cell?_alloc_at _ _ _ _ rfl⟩⟩⟩

/-- what bytes say -/
def parseL (l : List Int) : Opt × Int := if 40 < l.length then (Opt.zero, 9) else prs 41 l Opt.zero
def ParseTo (r : Opt) (c : Int) (w : World) (e : Ending) (w' : World) : Prop :=
  ∃ a n cap, e = .returned (.tuple #[.agg (optCells r a n cap), .int .i64 c]) ∧ BlA w' a n cap r.bl ∧ Below w.heap.size w w'
theorem parse_to (sa : Option Addr) (m sc : Nat) (l : List Int) (w : World) (r : Opt) (c : Int) (hs : SlA .u8 w sa m sc l) (hb : Bd l) (h : parseL l = (r, c)) :
    Calls Try.prog 32 #[.slice sa m sc] w (ParseTo r c w) :=
  (parse_any sa m sc l w hs hb).mono fun e w' ⟨a, n, cap, h1, h2, h3⟩ => by
    have hr : (if 40 < l.length then (Opt.zero, (9 : Int)) else prs 41 l Opt.zero) = (r, c) := h
    rw [hr] at h1 h2
    exact ⟨a, n, cap, h1, h2, h3⟩

set_option maxHeartbeats 1600000 in
theorem known_any (w : World) : Calls Try.prog 21 #[] w fun e w' => e = .returned (.bool true) ∧ Below w.heap.size w w' := by
  have hbl := bl_new w 1 2 56
  have hE := encode_ok kOpt (some ⟨w.heap.size, 0, none⟩) 1 1 (w.alloc (.cells #[.int .u32 1, .int .u32 2] 56)) ⟨by decide, by decide, by decide, by decide, by simp [kOpt]⟩ hbl (by decide)
  have hb1 : Below w.heap.size w (w.alloc (.cells #[.int .u32 1, .int .u32 2] 56)) := (Below.refl _ _).alloc (Nat.le_refl _) _
  unfold optCells kOpt at hE
  go_enter Try.func21, Try.ntmps21
  go_wp2_with fail
  refine hE.mono ?_
  rintro e w1 ⟨v, rfl, hown, h1⟩
  have henc : enc ⟨0, true, false, 0, 0, false, 0, [(1, 2)]⟩ = [4, 2, 5, 10, 0, 0, 0, 1, 0, 0, 0, 2] := by decide
  rw [henc] at hown
  obtain ⟨a1, c1, hv, hs1, _⟩ := sl_of_own hown
  subst hv
  have hB1 := hb1.trans (h1.mono (by simp))
  have z1 := hB1.size
  clear henc hown hE h1 hb1 hbl
  go_wp2_with fail
  refine (parse_to (some ⟨w1.heap.size, 0, none⟩) 3 3 [2, 4, 5] _ .zero 5 (sl_new .u8 5 w1 [2, 4, 5] (by simp [maxLen])) (by unfold Bd; decide) rfl).mono ?_
  rintro e w2 ⟨a2, n2, c2, rfl, hbl2, h2⟩
  have hB2 := (hB1.alloc z1 (.cells (ints .u8 [2, 4, 5]).toArray 5)).trans (h2.mono (by simp; omega))
  have hs2 := (hs1.later ((Below.refl _ _).alloc (Nat.le_refl _) (.cells (ints .u8 [2, 4, 5]).toArray 5))).later h2
  have z2 := hB2.size
  clear h2 hB1 hs1 hbl2
  simp only [optCells, Opt.zero]
  go_wp2_with fail
  obtain ⟨w3, hw3⟩ : ∃ w3, w2.alloc (.cells #[.int .i64 0, .bool false, .bool false, .int .u32 0, .int .u32 0, .bool false, .int .i64 0, .slice a2 n2 c2] 40) = w3 := ⟨_, rfl⟩
  have hsz3 : w3.heap.size = w2.heap.size + 1 := by rw [← hw3]; simp
  have hB3 : Below w.heap.size w w3 := by rw [← hw3]; exact hB2.alloc z2 _
  have hs3 : SlA .u8 w3 a1 12 c1 [4, 2, 5, 10, 0, 0, 0, 1, 0, 0, 0, 2] := by rw [← hw3]; exact hs2.later ((Below.refl _ _).alloc (Nat.le_refl _) _)
  rw [hw3, ← hsz3]
  clear hw3 hsz3 hs2 hB2
  have z3 := hB3.size
  refine (same_true a1 _ 12 c1 12 [4, 2, 5, 10, 0, 0, 0, 1, 0, 0, 0, 2] _ (hs3.later ((Below.refl _ _).alloc (Nat.le_refl _) (.cells (ints .u8 [4, 2, 5, 10, 0, 0, 0, 1, 0, 0, 0, 2]).toArray 5))) (sl_new .u8 5 w3 [4, 2, 5, 10, 0, 0, 0, 1, 0, 0, 0, 2] (by simp [maxLen]))).mono ?_
  rintro e w4 ⟨rfl, nq, hw4⟩
  have hB4 : Below w.heap.size w w4 := by rw [hw4]; exact below_drewN (hB3.alloc z3 _) _
  clear hw4
  go_wp2
  go_ret
  exact ⟨rfl, hB4⟩

theorem parseL_may (l : List Int) (hb : Bd l) : (parseL l).1.May ∧ ((parseL l).2 ≠ 0 → (parseL l).1 = .zero) := by
  unfold parseL
  split
  · exact ⟨may_zero, fun _ => rfl⟩
  · exact prs_may 41 l .zero may_zero hb

theorem bytes_of_row {w : World} {a : Option Addr} {len cap : Nat} {zs : List Int} (h : IsRow .u8 w a len cap zs) : Bd (zs.take len) :=
  fun x hx => bounds_u8 (wf_of_row h x hx)

set_option maxRecDepth 100000 in
set_option maxHeartbeats 3200000 in
theorem walk_OptionMay (w : World) (a0 : Option Addr) (len0 cap0 : Nat) (z0 : List Int) (w0 : IsRow .u8 w a0 len0 cap0 z0) :
    Calls Try.prog 11 #[.slice a0 len0 cap0] w fun e w' => e = .returned (.bool true) ∧ Below w.heap.size w w' := by
  have hs0 := sl_of_row w0
  have hb0 := bytes_of_row w0
  clear w0
  generalize z0.take len0 = l0 at *
  obtain ⟨hmay, hzero⟩ := parseL_may l0 hb0
  obtain ⟨r, c, hrc⟩ : ∃ r c, parseL l0 = (r, c) := ⟨_, _, rfl⟩
  rw [hrc] at hmay hzero
  have HRC := Lib.hid hrc
  have HB := Lib.hid hb0
  clear hrc hb0
  by_cases hc : c = 0
  · subst hc
    rcases may_chk r hmay with hk | ⟨hk, hbare⟩
    · have HK := Lib.hid hk
      clear hk hzero
      go_enter Try.func11, Try.ntmps11
      go_wp2_with fail
      refine (known_any w).mono ?_
      rintro e wk ⟨rfl, hk⟩
      have hs1 := hs0.later hk
      have zk := hk.size
      go_wp2_with fail
      refine (parse_to a0 len0 cap0 l0 wk r 0 hs1 HB.out HRC.out).mono ?_
      rintro e w2 ⟨a2, n2, c2, rfl, hbl2, h2⟩
      have hB2 := hk.trans (h2.mono zk)
      have z2 := hB2.size
      have hC := check_any r a2 n2 c2 (w2.alloc (.cells (optCells r a2 n2 c2) 40)) (may_fit r hmay) (hbl2.later ((Below.refl _ _).alloc (Nat.le_refl _) _))
      rw [HK.out] at hC
      have hB3 := hB2.alloc z2 (.cells (optCells r a2 n2 c2) 40)
      unfold optCells at hC hB3 ⊢
      clear h2 hs0 hs1 hbl2
      go_wp2_with fail
      refine hC.mono ?_
      rintro e w4 ⟨rfl, h4⟩
      have hB4 := hB3.trans (h4.mono hB3.size)
      clear h4 hC hB3
      go_wp2_with fail
      refine (known_any w4).mono ?_
      rintro e w5 ⟨rfl, h5⟩
      go_wp2_with fail
      go_ret
      exact ⟨rfl, hB4.trans (h5.mono hB4.size)⟩
    · have HK := Lib.hid hk
      have hbI : (40 : Int) < (bare r : Int) := by omega
      clear hk hzero hbare
      go_enter Try.func11, Try.ntmps11
      go_wp2_with fail
      refine (known_any w).mono ?_
      rintro e wk ⟨rfl, hk⟩
      have hs1 := hs0.later hk
      have zk := hk.size
      go_wp2_with fail
      refine (parse_to a0 len0 cap0 l0 wk r 0 hs1 HB.out HRC.out).mono ?_
      rintro e w2 ⟨a2, n2, c2, rfl, hbl2, h2⟩
      have hB2 := hk.trans (h2.mono zk)
      have z2 := hB2.size
      have hbl3 := hbl2.later ((Below.refl _ _).alloc (Nat.le_refl _) (.cells (optCells r a2 n2 c2) 40))
      have hC := check_any r a2 n2 c2 (w2.alloc (.cells (optCells r a2 n2 c2) 40)) (may_fit r hmay) hbl3
      rw [HK.out] at hC
      have hB3 := hB2.alloc z2 (.cells (optCells r a2 n2 c2) 40)
      have hn4 : n2 ≤ 100 := by have := hbl2.len; have := hmay.bl; omega
      have hbox := opt_new w2 r a2 n2 c2 40
      have HCE : Hid (optCells r a2 n2 c2 = #[.int .i64 r.mss, .bool r.permit, .bool r.ts, .int .u32 r.val, .int .u32 r.ecr, .bool r.hs, .int .i64 r.scale, .slice a2 n2 c2]) := Lib.hid rfl
      unfold optCells at hC hB3 hbl3 hbox ⊢
      clear h2 hs0 hs1 hbl2
      go_wp2_with fail
      obtain ⟨w3, hw3⟩ : ∃ w3, w2.alloc (.cells #[.int .i64 r.mss, .bool r.permit, .bool r.ts, .int .u32 r.val, .int .u32 r.ecr, .bool r.hs, .int .i64 r.scale, .slice a2 n2 c2] 40) = w3 := ⟨_, rfl⟩
      rw [hw3] at hC hB3 hbl3 hbox ⊢
      clear hw3
      refine hC.mono ?_
      rintro e w4 ⟨rfl, h4⟩
      have hB4 := hB3.trans (h4.mono hB3.size)
      have hbl4 := hbl3.later h4
      obtain ⟨c0, c1, c2', c3, c4, c5, c6, c7⟩ := hbox.keep (Kept.of_below h4 (Nat.le_refl _) []) (by simp)
      clear h4 hC hB3 hbl3 hbox
      go_wp2_with fail
      rw [← HCE.out]
      refine (rbare_any r a2 n2 c2 w4 hbl4 hn4).mono ?_
      rintro e w5 ⟨rfl, h5⟩
      have hB5 := hB4.trans (h5.mono hB4.size)
      clear h5 hB4 c0 c1 c2' c3 c4 c5 c6 c7
      go_wp2_with fail
      refine (known_any w5).mono ?_
      rintro e w6 ⟨rfl, h6⟩
      go_wp2_with fail
      go_ret
      exact ⟨rfl, hB5.trans (h6.mono hB5.size)⟩
  · obtain rfl := hzero hc
    have hcb : (c != 0) = true := by simpa using hc
    clear hc hzero
    go_enter Try.func11, Try.ntmps11
    go_wp2_with fail
    refine (known_any w).mono ?_
    rintro e wk ⟨rfl, hk⟩
    have hs1 := hs0.later hk
    have zk := hk.size
    go_wp2_with fail
    refine (parse_to a0 len0 cap0 l0 wk .zero c hs1 HB.out HRC.out).mono ?_
    rintro e w2 ⟨a2, n2, c2, rfl, hbl2, h2⟩
    have hB2 := hk.trans (h2.mono zk)
    have z2 := hB2.size
    have hB3 := hB2.alloc z2 (.cells (optCells .zero a2 n2 c2) 40)
    have hbl3 := hbl2.later ((Below.refl _ _).alloc (Nat.le_refl _) (.cells (optCells .zero a2 n2 c2) 40))
    have hS := rsame_any .zero .zero a2 none n2 0 c2 0 (w2.alloc (.cells (optCells .zero a2 n2 c2) 40)) hbl3 (bl_none _)
    rw [sameB_self] at hS
    simp only [optCells, Opt.zero] at hS hB3 ⊢
    clear h2 hs0 hs1 hbl2 hbl3
    go_wp2_with fail
    refine hS.mono ?_
    rintro e w4 ⟨rfl, h4⟩
    have hB4 := hB3.trans (h4.mono hB3.size)
    clear h4 hS hB3
    go_wp2_with fail
    refine (known_any w4).mono ?_
    rintro e w5 ⟨rfl, h5⟩
    go_wp2_with fail
    go_ret
    exact ⟨rfl, hB4.trans (h5.mono hB4.size)⟩
end Go.Proofs.Ytdpambnoaagmjaa.op
