/-
  The walks of the laws of layer 3: SumTells, SumTurns.
-/
import Derived.Test.YtdpambnoaagmjaaSumL
import Derived.IntWalk
namespace Go.Proofs.Ytdpambnoaagmjaa.sm
open Go.RowKit Go.ChangeShapes aid mem
set_option linter.unusedVariables false

/-- an element of such a slice is set -/
theorem sl_set {k : IntKind} {w : World} {b off n cap : Nat} {l : List Int} (h : SlA k w (some ⟨b, off, none⟩) n cap l) (i : Nat) (hi : i < n) (y : Int) :
    SlA k (w.setCell ⟨b, off + i, none⟩ (.int k y)) (some ⟨b, off, none⟩) n cap (l.set i y) :=
  ⟨by simp [h.len], h.le, h.most, (fun h => by cases h), fun h0 => by
    obtain ⟨b', off', hb, hc⟩ := h.cells h0
    injection hb with hb
    injection hb with hb1 hb2
    subst hb1 hb2
    refine ⟨b, off, rfl, fun j hj => ?_⟩
    have hl := h.len
    by_cases e : i = j
    · subst e
      rw [set_same (hc i hi)]
      simp [List.getD, hl, hi]
    · rw [set_other (fun e' => e (by injection e' with _ e'; omega)), hc j hj]
      simp [List.getD, List.getElem?_set_ne e]⟩

/-- where the elements of a row of one's own lie -/
theorem own_at {w : World} {base : Nat} {e : TypeId} {k : IntKind} {v : Value} {n : Nat} {l : List Int} (h : w.ownsRow base e 1 v n (ints k l)) (h0 : 0 < n) :
    ∃ g cap, v = .slice (some ⟨g, 0, none⟩) n cap ∧ SlA k w (some ⟨g, 0, none⟩) n cap l ∧ (∀ i, i < n → w.cell? ⟨g, i, none⟩ = some (.int k (l.getD i 0))) ∧ (∀ i, i < n → w.frozen? ⟨g, i, none⟩ = false) ∧ base ≤ g ∧ g < w.heap.size := by
  obtain ⟨a, cap, hv, hs, hb⟩ := sl_of_own h
  have hlt := h.lt
  obtain ⟨b, off, rfl, hc⟩ := hs.cells (by have := hs.le; omega)
  rcases h.2 with ⟨e1, e2⟩ | ⟨g, cap', cur, e1, hg, hgg, hn, hm, hcc, ht⟩
  · omega
  · rw [hv] at e1
    injection e1 with e1 _ e3
    injection e1 with e1
    injection e1 with e1 e2
    subst e1 e2 e3
    refine ⟨b, cap, hv, hs, fun i hi => by have := hc i hi; simpa using this, fun i hi => ?_, hg, (hlt b (by rw [hv]; rfl)).2⟩
    simp [World.frozen?, hgg]

theorem bd_set {l : List Int} (h : ∀ x ∈ l, 0 ≤ x ∧ x ≤ 255) (i : Nat) (y : Int) (hy : 0 ≤ y ∧ y ≤ 255) : ∀ x ∈ l.set i y, 0 ≤ x ∧ x ≤ 255 := fun x hx => by
  rcases List.mem_or_eq_of_mem_set hx with hx | rfl
  · exact h x hx
  · exact hy

/-- the bytes, one word of which is another one -/
def turned (l : List Int) (k : Nat) (x y : Int) : List Int := (l.set (2 * k) x).set (2 * k + 1) y
theorem turned_bd {l : List Int} (h : ∀ x ∈ l, 0 ≤ x ∧ x ≤ 255) (k : Nat) (x y : Int) (hx : 0 ≤ x ∧ x ≤ 255) (hy : 0 ≤ y ∧ y ≤ 255) : ∀ z ∈ turned l k x y, 0 ≤ z ∧ z ≤ 255 :=
  bd_set (bd_set h _ _ hx) _ _ hy
theorem turned_tot (l : List Int) (k : Nat) (x y : Int) (h : 2 * k + 1 < l.length) : tot (turned l k x y) = tot l - (l.getD (2 * k) 0 * 256 + l.getD (2 * k + 1) 0) + (x * 256 + y) := tot_set l k x y h

/-- the world behind the copy and both stores -/
theorem turned_at {w wk w3 : World} {a0 : Option Addr} {len0 cap0 cap4 g : Nat} {l0 : List Int} (k : Nat) (x y : Int) (hs : SlA .u8 wk a0 len0 cap0 l0) (hk : Below w.heap.size w wk)
    (hgr : (wk.alloc (.cells #[] 5)).grownBy w3 (Value.ownBlock (.slice (some ⟨wk.heap.size, 0, none⟩) 0 0)))
    (hat : Value.ownBlock (.slice (some ⟨g, 0, none⟩) len0 cap4) = Value.ownBlock (.slice (some ⟨wk.heap.size, 0, none⟩) 0 0) ∨ Value.ownBlock (.slice (some ⟨g, 0, none⟩) len0 cap4) = some (wk.alloc (.cells #[] 5)).heap.size)
    (hsl : SlA .u8 w3 (some ⟨g, 0, none⟩) len0 cap4 l0) (hlt : 2 * k + 1 < len0) (w4 : World) (hw4 : ((w3.setCell ⟨g, 2 * k, none⟩ (.int .u8 x)).setCell ⟨g, 2 * k + 1, none⟩ (.int .u8 y)) = w4) :
    SlA .u8 w4 (some ⟨g, 0, none⟩) len0 cap4 (turned l0 k x y) ∧ SlA .u8 w4 a0 len0 cap0 l0 ∧ Below w.heap.size w w4 := by
  have zk := hk.size
  have hg : wk.heap.size ≤ g := by
    rcases hat with h | h <;> simp [Value.ownBlock] at h <;> omega
  have hb3 : Below wk.heap.size wk w3 := ((Below.refl _ wk).alloc (Nat.le_refl _) _).grown hgr (by simp) (fun j hj => by simp [Value.ownBlock] at hj; omega)
  have hb4 : Below wk.heap.size wk w4 := by
    rw [← hw4]
    exact (hb3.setCell (p := ⟨g, 2 * k, none⟩) hg _).setCell (p := ⟨g, 2 * k + 1, none⟩) hg _
  refine ⟨?_, hs.later hb4, hk.trans (hb4.mono zk)⟩
  have h1 := sl_set hsl (2 * k) (by omega) x
  have h2 := sl_set h1 (2 * k + 1) (by omega) y
  rw [← hw4]
  simpa [turned] using h2

set_option maxRecDepth 100000 in
set_option maxHeartbeats 3200000 in
theorem walk_SumTells (w : World) (a0 : Option Addr) (len0 cap0 : Nat) (z0 : List Int) (w0 : IsRow .u8 w a0 len0 cap0 z0) (rb0 : cap0 * 1 ≤ 140737488351232) (a1 : Int) (b1 : -9223372036854775808 ≤ a1 ∧ a1 ≤ 9223372036854775807) (a2 : Int) (b2 : 0 ≤ a2 ∧ a2 ≤ 255) (a3 : Int) (b3 : 0 ≤ a3 ∧ a3 ≤ 255) :
    Calls Try.prog 5 #[.slice a0 len0 cap0, .int .i64 a1, .int .u8 a2, .int .u8 a3] w fun e w' => e = .returned (.bool true) ∧ Below w.heap.size w w' := by
  obtain ⟨i0, hi, hz0, hz1, hz2⟩ := info_parts info_u8
  have hs0 := sl_of_row w0
  have hb0 := bytes_of_row w0
  clear w0
  generalize z0.take len0 = l0 at *
  have hl0 := hs0.len
  have hle0 := hs0.le
  have hm0 := hs0.most
  unfold maxLen at hm0
  have HB0 := Lib.hid hb0
  have HL0 := Lib.hid hl0
  clear hb0 hl0
  by_cases hneg : a1 < 0
  · go_enter Try.func5, Try.ntmps5
    go_wp2_with fail
    refine (known_any w).mono ?_
    rintro e wk ⟨rfl, hk⟩
    go_wp2_with fail
    refine (known_any wk).mono ?_
    rintro e w6 ⟨rfl, h6⟩
    go_wp2_with fail
    go_ret
    exact ⟨rfl, hk.trans (h6.mono hk.size)⟩
  · obtain ⟨k, rfl⟩ := Int.eq_ofNat_of_zero_le (show 0 ≤ a1 by omega)
    by_cases hin : k < len0 / 2
    · have hin1 : ¬ (len0 : Int) / 2 ≤ (k : Int) := by omega
      obtain ⟨b, off, rfl, hcz⟩ := hs0.cells (by omega)
      clear hcz
      go_enter Try.func5, Try.ntmps5
      go_wp2_with fail
      refine (known_any w).mono ?_
      rintro e wk ⟨rfl, hk⟩
      have ks0 := hs0.later hk
      have zk := hk.size
      have own0 : (wk.alloc (.cells #[] 5)).ownsRow 0 5 1 (.slice (some ⟨wk.heap.size, 0, none⟩) 0 0) 0 [] := World.ownsRow_made wk #[] 0 (Nat.zero_le _) (Nat.zero_le _) rfl
      have src0 := (ks0.later ((Below.refl _ _).alloc (Nat.le_refl _) (.cells #[] 5))).src Try.underlying25
      have hB3 := hk.alloc zk (.cells #[] 5)
      clear hs0
      go_wp2_with (at_builtin; go_must (refine wpList_append_any _ rfl (.tmp 25) (.tmp 26) 25 25 rfl 0 5 i0 (.int .u8 0) 1 Try.underlying25 hi hz0 hz1 hz2 rfl (.slice (some ⟨wk.heap.size, 0, none⟩) 0 0) 0 [] rfl own0 (.slice (some ⟨b, off, none⟩) len0 cap0) rfl len0 (ints .u8 l0) src0 (by unfold maxLen; omega) (by omega) (Nat.zero_le _) ?_; intro a4 cap4 w3 hown3 hgr hat3; simp only [Nat.zero_add, List.nil_append] at hown3 hat3 ⊢; clear src0 own0; obtain ⟨g, cap', hv, hsl, hcell, hfrz, _, hg⟩ := own_at hown3 (by omega); injection hv with hv1 _ hv2; subst hv1 hv2; have c1 := hcell (2 * k) (by omega); have f1 := hfrz (2 * k) (by omega); have c2 := (set_other (w := w3) (v := .int .u8 a2) (a := ⟨g, 2 * k, none⟩) (b := ⟨g, 2 * k + 1, none⟩) (by simp)).trans (hcell (2 * k + 1) (by omega)); have f2 : (w3.setCell ⟨g, 2 * k, none⟩ (.int .u8 a2)).frozen? ⟨g, 2 * k + 1, none⟩ = false := (by simpa using hfrz (2 * k + 1) (by omega)); have j0 : (0 : Int) ≤ (k : Int) := (by omega); have j1 : (2 * k : Int) < (len0 : Int) := (by omega); have j2 : (2 * k : Int) + 1 < (len0 : Int) := (by omega); have HC := Lib.hid hcell; clear hcell hfrz))
      obtain ⟨w4, hw4⟩ : ∃ w4, ((w3.setCell ⟨g, 2 * k, none⟩ (.int .u8 a2)).setCell ⟨g, 2 * k + 1, none⟩ (.int .u8 a3)) = w4 := ⟨_, rfl⟩
      rw [hw4]
      obtain ⟨hc4, hs4, hB4⟩ := turned_at k a2 a3 ks0 hk hgr hat3 hsl (by omega) w4 hw4
      clear hw4 c1 c2 f1 f2 HC hgr hat3 hsl hown3 hg ks0 hk hB3
      have z4 := hB4.size
      obtain ⟨bb, oo, hbo, hcc⟩ := hs4.cells (by omega)
      injection hbo with hbo
      injection hbo with hbo1 hbo2
      subst hbo1 hbo2
      have c1 := hcc (2 * k) (by omega)
      have c2 := hcc (2 * k + 1) (by omega)
      have x1 := getD_bd (fun x => 0 ≤ x ∧ x ≤ 255) (by omega) HB0.out (2 * k)
      have x2 := getD_bd (fun x => 0 ≤ x ∧ x ≤ 255) (by omega) HB0.out (2 * k + 1)
      have HT := Lib.hid (turned_tot l0 k a2 a3 (by rw [HL0.out]; omega))
      clear hcc
      generalize l0.getD (2 * k) 0 = x at *
      generalize l0.getD (2 * k + 1) 0 = y at *
      have q1 : IntKind.i64.wrap (2 * (k : Int)) = 2 * (k : Int) := IntWalk.i64_in _ (by omega)
      have q2 : IntKind.i64.wrap (2 * (k : Int) + 1) = 2 * (k : Int) + 1 := IntWalk.i64_in _ (by omega)
      have q3 : (2 * (k : Int)).toNat = 2 * k := by omega
      have q4 : (2 * (k : Int) + 1).toNat = 2 * k + 1 := by omega
      have q5 : IntKind.i64.wrap (256 * x) = 256 * x := IntWalk.i64_in _ (by omega)
      have q6 : IntKind.i64.wrap (256 * x + y) = 256 * x + y := IntWalk.i64_in _ (by omega)
      have q7 : (0 : Int) ≤ 2 * (k : Int) := by omega
      have q8 : (0 : Int) ≤ 2 * (k : Int) + 1 := by omega
      go_quiet (fail)
      clear q1 q2 q3 q4 q5 q6 q7 q8 c1 c2
      have hc5 := hc4.drewN nq
      have hs5 := hs4.drewN nq
      have hB5 := below_drewN hB4 nq
      clear hc4 hs4 hB4 z4
      obtain ⟨w5, hw5⟩ : ∃ w5, w4.drewN nq = w5 := ⟨_, rfl⟩
      rw [hw5] at hc5 hs5 hB5 ⊢
      clear hw5
      have z5 := hB5.size
      have HTB := Lib.hid (turned_bd HB0.out k a2 a3 b2 b3)
      by_cases hwi : 256 * x + y = 256 * a2 + a3
      · have E1 : Hid (sumB (turned l0 k a2 a3) = sumB l0) := by
          unfold sumB
          rw [HT.out]
          congr 1
          omega
        have hwb : ((256 * x + y : Int) == 256 * a2 + a3) = true := by simpa using hwi
        clear hwi
        go_wp2_with fail
        refine (of_one hc5 HTB.out 25 _ rfl).mono ?_
        rintro e w6 ⟨rfl, h6⟩
        rw [E1.out]
        have hs6 := hs5.later h6
        have hB6 := hB5.trans (h6.mono z5)
        have z6 := hB6.size
        clear h6 hs5 hc5 hB5
        go_wp2_with fail
        refine (of_one hs6 HB0.out 25 _ rfl).mono ?_
        rintro e w7 ⟨rfl, h7⟩
        have hB7 := hB6.trans (h7.mono z6)
        have z7 := hB7.size
        clear h7
        go_wp2_with fail
        refine (known_any w7).mono ?_
        rintro e w8 ⟨rfl, h8⟩
        go_wp2_with fail
        go_ret
        exact ⟨rfl, hB7.trans (h8.mono z7)⟩
      · have hwb : ((256 * x + y : Int) == 256 * a2 + a3) = false := by simpa using hwi
        by_cases hsm : (256 * x + y) % 65535 = (256 * a2 + a3) % 65535
        · have hsb : ((256 * x + y : Int) % 65535 == (256 * a2 + a3) % 65535) = true := by simpa using hsm
          clear hwi hsm
          go_wp2_with fail
          refine (known_any w5).mono ?_
          rintro e w8 ⟨rfl, h8⟩
          go_wp2_with fail
          go_ret
          exact ⟨rfl, hB5.trans (h8.mono z5)⟩
        · have hsb : ((256 * x + y : Int) % 65535 == (256 * a2 + a3) % 65535) = false := by simpa using hsm
          have hne : sumB (turned l0 k a2 a3) ≠ sumB l0 := by
            intro e
            unfold sumB at e
            have := cs_mod _ _ (tot_pos _ HTB.out) (tot_pos _ HB0.out) e
            rw [HT.out] at this
            omega
          have HNE := Lib.hid hne
          clear hwi hsm hne
          go_wp2_with fail
          refine (of_one hc5 HTB.out 25 _ rfl).mono ?_
          rintro e w6 ⟨rfl, h6⟩
          have hs6 := hs5.later h6
          have hB6 := hB5.trans (h6.mono z5)
          have z6 := hB6.size
          clear h6 hs5 hc5 hB5
          go_wp2_with fail
          refine (of_one hs6 HB0.out 25 _ rfl).mono ?_
          rintro e w7 ⟨rfl, h7⟩
          have hB7 := hB6.trans (h7.mono z6)
          have z7 := hB7.size
          clear h7
          have hnb : (sumB (turned l0 k a2 a3) == sumB l0) = false := by simpa using HNE.out
          have hnb2 : (sumB (turned l0 k a2 a3) != sumB l0) = true := by simpa using HNE.out
          go_wp2_with fail
          refine (known_any w7).mono ?_
          rintro e w8 ⟨rfl, h8⟩
          go_wp2_with fail
          go_ret
          exact ⟨rfl, hB7.trans (h8.mono z7)⟩
    · have hin1 : (len0 : Int) / 2 ≤ (k : Int) := by omega
      have hk0 : (0 : Int) ≤ (k : Int) := by omega
      go_enter Try.func5, Try.ntmps5
      go_wp2_with fail
      refine (known_any w).mono ?_
      rintro e wk ⟨rfl, hk⟩
      go_wp2_with fail
      refine (known_any wk).mono ?_
      rintro e w6 ⟨rfl, h6⟩
      go_wp2_with fail
      go_ret
      exact ⟨rfl, hk.trans (h6.mono hk.size)⟩
end Go.Proofs.Ytdpambnoaagmjaa.sm
