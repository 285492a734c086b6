/-
  RunsKeep.
-/
import Derived.Test.YtdadcbelbkhgoaaRunK
import Derived.Test.YtdadcbelbkhgoaaRunO
namespace Go.Proofs.Ytdadcbelbkhgoaa.rn
open Go.RowKit Go.Shelf aid mem rng sp
attribute [local go_sem ↓] Go.wp_at_zero Go.wp_at_succ
set_option linter.unusedVariables false
set_option linter.unusedSimpArgs false

def runB (l : List Sp) (o : Int) : Bool := decide (0 < lenI (runL l o))
theorem runB_iff {l : List Sp} (hl : Rn l) (o : Int) : runB l o = true ↔ In l o := by unfold runB; rw [decide_eq_true_iff]; exact in_run hl o
theorem hasB_iff (s : Sp) (o : Int) : hasB s o = true ↔ (fitP s.1 s.2).1 ≤ o ∧ o < (fitP s.1 s.2).2 := by unfold hasB; simp
theorem addN_len {l : List Sp} {s : Sp} (hl : Rn l) : (addN l s).2.2.length ≤ l.length + 1 := by
  unfold addN
  by_cases h : mayB s.1 s.2 = true
  · rw [if_pos h]
    have := wi_len l s hl (mayB_iff.1 h)
    split
    · show l.length ≤ _; omega
    · split
      · show l.length ≤ _; omega
      · exact this
  · rw [if_neg h]; show l.length ≤ _; omega
theorem remN_len {l : List Sp} {s : Sp} (hl : Rn l) : (remN l s).2.2.length ≤ l.length + 1 := by
  unfold remN
  by_cases h : mayB s.1 s.2 = true
  · rw [if_pos h]
    have := wo_len l s hl (mayB_iff.1 h)
    split
    · show l.length ≤ _; omega
    · split
      · show l.length ≤ _; omega
      · exact this
  · rw [if_neg h]; show l.length ≤ _; omega
theorem fit_bad {s : Sp} (h : ¬ mayB s.1 s.2 = true) : fitP s.1 s.2 = (0, 0) := by unfold fitP; rw [if_neg h]
theorem add_has {l : List Sp} (hl : Rn l) (hn : l.length ≤ 4000) (s : Sp) (o : Int) : runB (addN l s).2.2 o = (hasB s o || runB l o) := by
  rw [Bool.eq_iff_iff, Bool.or_eq_true, runB_iff (addN_rn hl), runB_iff hl, hasB_iff]
  by_cases h : mayB s.1 s.2 = true
  · have hs : Ok s := mayB_iff.1 h
    have := wi_len l s hl hs
    rw [addN_ok hl hs (by omega), fit_of hs]
    show In (refWi l s) o ↔ _
    by_cases h0 : lenI s = 0
    · have e : refWi l s = l := by unfold refWi; rw [if_pos h0]
      rw [e]
      rw [len_ok hs] at h0
      constructor
      · exact .inr
      · rintro (q | q)
        · omega
        · exact q
    · rw [(wi_spec hl (rok_of hs h0)).2.1]
      exact Or.comm
  · have e : (addN l s).2.2 = l := by unfold addN; rw [if_neg h]
    rw [e, fit_bad h]
    constructor
    · exact .inr
    · rintro (q | q)
      · simp only at q; omega
      · exact q
theorem rem_has {l : List Sp} (hl : Rn l) (hn : l.length ≤ 4000) (s : Sp) (o : Int) : runB (remN l s).2.2 o = (!hasB s o && runB l o) := by
  rw [Bool.eq_iff_iff, Bool.and_eq_true, runB_iff (remN_rn hl), runB_iff hl, Bool.not_eq_true', ← Bool.not_eq_true, hasB_iff]
  by_cases h : mayB s.1 s.2 = true
  · have hs : Ok s := mayB_iff.1 h
    have := wo_len l s hl hs
    rw [remN_ok hl hs (by omega), fit_of hs]
    show In (refWo l s) o ↔ _
    by_cases h0 : lenI s = 0
    · have e : refWo l s = l := by unfold refWo; rw [if_pos h0]
      rw [e]
      rw [len_ok hs] at h0
      constructor
      · exact fun q => ⟨by omega, q⟩
      · exact fun q => q.2
    · have e : refWo l s = woL l s := by unfold refWo; rw [if_neg h0]
      rw [e, (wo_spec hl (rok_of hs h0)).2.1]
      exact And.comm
  · have e : (remN l s).2.2 = l := by unfold remN; rw [if_neg h]
    rw [e, fit_bad h]
    constructor
    · exact fun q => ⟨by simp only; omega, q⟩
    · exact fun q => q.2
/-- what stands in a law: a set of one's own, an operation in its box -/
structure KS (w : World) (bo : Nat) (q : OpV) (B : Nat) (l : List Sp) (S : List Nat) (X : World) : Prop where
  own : Own B l S X
  rn : Rn l
  gt : ∀ b ∈ S, bo < b
  op : X.heap[bo]? = some (.cells #[.bool q.out, .int .i64 q.s.1, .int .i64 q.s.2] 32 (0, 0))
  below : Below w.heap.size w X
  ge : w.heap.size ≤ bo
theorem KS.later {w : World} {bo B : Nat} {q : OpV} {l : List Sp} {S : List Nat} {X Y : World} (h : KS w bo q B l S X) (hb : Below X.heap.size X Y) : KS w bo q B l S Y :=
  ⟨h.own.later hb, h.rn, h.gt, (hb.block _ (lt_of_block h.op)).trans h.op, h.below.trans (hb.mono h.below.size), h.ge⟩
theorem KS.chg {w : World} {bo B : Nat} {q : OpV} {l l' : List Sp} {S S' : List Nat} {X Y : World} (h : KS w bo q B l S X) (ho : Own B l' S' Y) (hr : Rn l') (hk : Kept S X Y) (hn : ∀ b ∈ S', b ∈ S ∨ X.heap.size ≤ b) : KS w bo q B l' S' Y :=
  ⟨ho, hr, fun b hb => by rcases hn b hb with e | e; exact h.gt b e; (have := lt_of_block h.op; omega), hk.heap (fun e => by have := h.gt bo e; omega) h.op, h.below.trans (hk.below (B := w.heap.size) (fun x hx => by have := h.gt x hx; have := h.ge; omega) h.below.size), h.ge⟩
theorem KS.cells {w : World} {bo B : Nat} {q : OpV} {l : List Sp} {S : List Nat} {X : World} (h : KS w bo q B l S X) : X.cell? ⟨bo, 0, none⟩ = some (.bool q.out) ∧ X.cell? ⟨bo, 1, none⟩ = some (.int .i64 q.s.1) ∧ X.cell? ⟨bo, 2, none⟩ = some (.int .i64 q.s.2) := ⟨cofr h.op 0 _ rfl, cofr h.op 1 _ rfl, cofr h.op 2 _ rfl⟩
def KRel (w : World) (bo : Nat) (q : OpV) (B : Nat) (k : Nat) (X : World) : Prop := ∃ l S, KS w bo q B l S X ∧ l.length ≤ k
set_option maxHeartbeats 2000000 in
theorem walk_RunsKeep (w : World) (a : Option Addr) (n cap : Nat) (l : List Sp) (hl : SlS w a n cap l) (q : OpV) (off : Int) (ho : -9223372036854775808 ≤ off ∧ off ≤ 9223372036854775807) :
    Calls Try.prog 5 #[.slice a n cap, .agg #[.bool q.out, .int .i64 q.s.1, .int .i64 q.s.2], .int .i64 off] w fun e w' => e = .returned (.bool true) ∧ Below w.heap.size w w' := by
  have hle := hl.le
  have hmost := hl.most
  unfold maxLen at hmost
  have HC := Lib.hid (fun h0 => hl.cells h0)
  have b1 := bal (w := w) (.cells #[.bool q.out, .int .i64 q.s.1, .int .i64 q.s.2] 32)
  have x1 := heap_alloc_new w (.cells #[.bool q.out, .int .i64 q.s.1, .int .i64 q.s.2] 32)
  have HX := Lib.hid (And.intro b1 x1)
  clear b1 x1 hl
  go_enter Try.func5, Try.ntmps5
  go_wp2_with fail
  refine (known_any _).mono ?_
  rintro e w1 ⟨rfl, h1⟩
  go_wp2_with fail
  refine (new_own _).mono ?_
  rintro e w2 ⟨B, S, rfl, o2, h2, n2⟩
  obtain ⟨b1, x1⟩ := HX.out
  have b12 := h1.trans (h2.mono h1.size)
  have K2 : KS w w.heap.size q B [] S w2 := ⟨o2, Rn.nil, fun b hb => by have := n2 b hb; have := h1.size; have := lt_of_block x1; omega, (b12.block _ (lt_of_block x1)).trans x1, b1.trans (b12.mono b1.size), Nat.le_refl _⟩
  have HK : Hid (KRel w w.heap.size q B 0 w2) := Lib.hid ⟨[], S, K2, Nat.le_refl _⟩
  clear b1 x1 b12 K2 o2 h2 n2 h1 HX
  generalize w.heap.size = bo at *
  go_wp2_with fail
  go_loopw [8] (fun i wr => ∃ k : Nat, k ≤ n ∧ k ≤ 100 ∧ i = .int .i64 k ∧ Hid (KRel w bo q B k wr)) (fun i _ => n - (intOf i).toNat)
  case atStart => exact ⟨0, Nat.zero_le _, Nat.zero_le _, rfl, HK⟩
  case round =>
    obtain ⟨k, hk, hk1, rfl, HR⟩ := hrel
    by_cases hlt : k < n ∧ k < 100
    · obtain ⟨hlt, hlt2⟩ := hlt
      obtain ⟨L, S1, K1, hL⟩ := HR.out
      obtain ⟨g, o, rfl, hc⟩ := HC.out (by omega)
      obtain ⟨m0, m1⟩ := hc k hlt
      have hbw := K1.below
      replace m0 := (hbw.cell (World.block_lt_of_cell? w _ m0)).trans m0
      replace m1 := (hbw.cell (World.block_lt_of_cell? w _ m1)).trans m1
      generalize l.getD k (0, 0) = s at *
      have HA := Lib.hid (add_own K1.own K1.rn (by omega) s)
      have hrn := addN_rn (s := s) K1.rn
      have hln := addN_len (s := s) K1.rn
      generalize addN L s = R at *
      have HLN := Lib.hid (show R.2.2.length ≤ k + 1 from by omega)
      have HK1 := Lib.hid (And.intro K1 hrn)
      clear K1 hrn hln hc hbw HR
      go_wp2_with fail
      refine HA.out.mono ?_
      rintro e w5 ⟨rfl, S5, o5, k5, n5⟩
      have HK5 : Hid (KRel w bo q B (k + 1) w5) := Lib.hid ⟨_, S5, HK1.out.1.chg o5 HK1.out.2 k5 n5, HLN.out⟩
      clear o5 k5 n5 m0 m1 HK1 HA HLN
      go_wp2_with fail
      go_roundw
      case rel => exact ⟨k + 1, by omega, by omega, by go_num, HK5⟩
      case measure => simp [intOf]; omega
    · rcases (show (k < n ∧ ¬ k < 100) ∨ ¬ k < n by omega) with ⟨h1, h2⟩ | h1
      all_goals
        obtain ⟨L, S1, K1, hL⟩ := HR.out
        have HH := Lib.hid (has_own K1.own K1.rn (by omega) off)
        rw [show decide (0 < lenI (runL L off)) = runB L off from rfl] at HH
        have HK1 := Lib.hid K1
        clear K1 HR HC
        obtain ⟨out, s⟩ := q
        dsimp only at *
        go_wp2_with fail
        refine HH.out.mono ?_
        rintro e w3 ⟨rfl, h3⟩
        have K3 := HK1.out.later h3
        clear h3 HH HK1
        cases out

        · have HA := Lib.hid (add_own K3.own K3.rn (by omega) s)
          have hrn := addN_rn (s := s) K3.rn
          have hln := addN_len (s := s) K3.rn
          have hhs := add_has K3.rn (by omega) s off
          generalize addN L s = R at *
          have HRN := Lib.hid (And.intro hrn (show R.2.2.length ≤ 4096 from by omega))
          have HHS := Lib.hid hhs
          clear hrn hln hhs
          obtain ⟨c0, c1, c2⟩ := K3.cells
          have HK3 := Lib.hid K3
          clear K3
          go_wp2_with fail
          refine HA.out.mono ?_
          rintro e w4 ⟨rfl, S4, o4, k4, n4⟩
          have K4 := HK3.out.chg o4 HRN.out.1 k4 n4
          clear o4 k4 n4 c0 c1 c2 HA HK3
          obtain ⟨c0, c1, c2⟩ := K4.cells
          have HK4 := Lib.hid K4
          have HSP := Lib.hid (fun X => rhas_any s off X)
          clear K4
          go_wp2_with fail
          cases hb : hasB s off
          all_goals
            rw [hb] at HSP HHS
            clear hb
            refine (HSP.out _).mono ?_
            rintro e w5 ⟨rfl, h5⟩
            have K5 := HK4.out.later h5
            have HK5 := Lib.hid K5
            have HH2 := Lib.hid (fun X (hX : Below w5.heap.size w5 X) => has_own (K5.own.later hX) HRN.out.1 HRN.out.2 off)
            rw [show decide (0 < lenI (runL R.2.2 off)) = runB R.2.2 off from rfl, HHS.out] at HH2
            clear h5 K5 c0 c1 c2
          · simp only [Bool.not_false, Bool.true_and, Bool.false_or] at HH2
            generalize runB L off = hd at *
            go_wp2_with (first
              | (go_at_call 22; refine (HH2.out _ (Below.refl _ _)).mono ?_; rintro e w6 ⟨rfl, h6⟩)
              | (go_at_call 10; refine (known_any _).mono ?_; rintro e w7 ⟨rfl, h7⟩))
            all_goals
              go_ret
              exact ⟨rfl, HK5.out.below.trans ((h6.trans (h7.mono h6.size)).mono HK5.out.below.size)⟩
          · simp only [Bool.not_true, Bool.false_and, Bool.true_or] at HH2
            have c0 := HK5.out.cells.1
            go_wp2_with fail
            go_region_held3 (fun w' => w'.cell? ⟨bo, 0, none⟩ = some (.bool false)) (first | go_keep | (with_reducible exact (HK5.out.later (undrew h6)).cells.1) | (with_reducible exact (HK5.out.later ((undrew h6).trans (h7.mono (undrew h6).size))).cells.1))
              (first
                | ((go_at_call 22; refine (HH2.out _ (Below.refl _ w5).drew).mono ?_; rintro e w6 ⟨rfl, h6⟩))
                | ((go_at_call 10; refine (known_any _).mono ?_; rintro e w7 ⟨rfl, h7⟩)))
            all_goals
              go_wp2
              go_ret
              exact ⟨rfl, HK5.out.below.trans ((undrew (h6.trans (h7.mono h6.size))).mono HK5.out.below.size)⟩
        · have HA := Lib.hid (rem_own K3.own K3.rn (by omega) s)
          have hrn := remN_rn (s := s) K3.rn
          have hln := remN_len (s := s) K3.rn
          have hhs := rem_has K3.rn (by omega) s off
          generalize remN L s = R at *
          have HRN := Lib.hid (And.intro hrn (show R.2.2.length ≤ 4096 from by omega))
          have HHS := Lib.hid hhs
          clear hrn hln hhs
          obtain ⟨c0, c1, c2⟩ := K3.cells
          have HK3 := Lib.hid K3
          clear K3
          go_wp2_with fail
          refine HA.out.mono ?_
          rintro e w4 ⟨rfl, S4, o4, k4, n4⟩
          have K4 := HK3.out.chg o4 HRN.out.1 k4 n4
          clear o4 k4 n4 c0 c1 c2 HA HK3
          obtain ⟨c0, c1, c2⟩ := K4.cells
          have HK4 := Lib.hid K4
          have HSP := Lib.hid (fun X => rhas_any s off X)
          clear K4
          go_wp2_with fail
          cases hb : hasB s off
          all_goals
            rw [hb] at HSP HHS
            clear hb
            refine (HSP.out _).mono ?_
            rintro e w5 ⟨rfl, h5⟩
            have K5 := HK4.out.later h5
            have HK5 := Lib.hid K5
            have HH2 := Lib.hid (fun X (hX : Below w5.heap.size w5 X) => has_own (K5.own.later hX) HRN.out.1 HRN.out.2 off)
            rw [show decide (0 < lenI (runL R.2.2 off)) = runB R.2.2 off from rfl, HHS.out] at HH2
            clear h5 K5 c0 c1 c2
          · simp only [Bool.not_false, Bool.true_and, Bool.false_or] at HH2
            generalize runB L off = hd at *
            go_wp2_with (first
              | (go_at_call 22; refine (HH2.out _ (Below.refl _ _)).mono ?_; rintro e w6 ⟨rfl, h6⟩)
              | (go_at_call 10; refine (known_any _).mono ?_; rintro e w7 ⟨rfl, h7⟩))
            all_goals
              go_ret
              exact ⟨rfl, HK5.out.below.trans ((h6.trans (h7.mono h6.size)).mono HK5.out.below.size)⟩
          · simp only [Bool.not_true, Bool.false_and, Bool.true_or] at HH2
            have c0 := HK5.out.cells.1
            go_wp2_with fail
            go_region_held3 (fun w' => w'.cell? ⟨bo, 0, none⟩ = some (.bool true)) (first | go_keep | (with_reducible exact (HK5.out.later (undrew h6)).cells.1) | (with_reducible exact (HK5.out.later ((undrew h6).trans (h7.mono (undrew h6).size))).cells.1))
              (first
                | ((go_at_call 22; refine (HH2.out _ (Below.refl _ w5).drew).mono ?_; rintro e w6 ⟨rfl, h6⟩))
                | ((go_at_call 10; refine (known_any _).mono ?_; rintro e w7 ⟨rfl, h7⟩)))
            all_goals
              go_wp2
              go_ret
              exact ⟨rfl, HK5.out.below.trans ((undrew (h6.trans (h7.mono h6.size))).mono HK5.out.below.size)⟩
end Go.Proofs.Ytdadcbelbkhgoaa.rn
