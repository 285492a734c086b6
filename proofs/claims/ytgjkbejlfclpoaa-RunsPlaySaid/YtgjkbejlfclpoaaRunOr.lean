/-
  RunsOrder.
-/
import Derived.Test.YtgjkbejlfclpoaaRunDo
namespace Go.Proofs.Ytgjkbejlfclpoaa.rn
open Go.RowKit Go.Shelf aid mem rng sp
attribute [local go_sem ↓] Go.wp_at_zero Go.wp_at_succ
set_option linter.unusedVariables false
set_option linter.unusedSimpArgs false

theorem hasB_iff' (s : Sp) (o : Int) : hasB s o = true ↔ (fitP s.1 s.2).1 ≤ o ∧ o < (fitP s.1 s.2).2 := by unfold hasB; simp
theorem wi_has {l : List Sp} (hl : Rn l) (s : Sp) (o : Int) : In (refWi l s) o ↔ In l o ∨ hasB s o = true := by
  rw [hasB_iff']
  cases h : mayB s.1 s.2
  · rw [show refWi l s = l from opL_bad (q := ⟨false, s⟩) h, show fitP s.1 s.2 = (0, 0) from by unfold fitP; rw [if_neg (by rw [h]; simp)]]
    constructor
    · exact .inl
    · rintro (q | q)
      · exact q
      · simp only at q; omega
  · have hs : Ok s := mayB_iff.1 h
    rw [fit_of hs]
    by_cases h0 : lenI s = 0
    · have e : refWi l s = l := by unfold refWi; rw [if_pos h0]
      rw [e]
      rw [len_ok hs] at h0
      constructor
      · exact .inl
      · rintro (q | q)
        · exact q
        · omega
    · exact (wi_spec hl (rok_of hs h0)).2.1 o
theorem wi_fold (xs : List Sp) : ∀ {l : List Sp}, Rn l → Rn (xs.foldl refWi l) ∧ (xs.foldl refWi l).length ≤ l.length + xs.length ∧ ∀ o, In (xs.foldl refWi l) o ↔ In l o ∨ ∃ x ∈ xs, hasB x o = true := by
  induction xs with
  | nil => intro l hl; exact ⟨hl, by simp, fun o => by simp⟩
  | cons x xs ih =>
    intro l hl
    have h1 : Rn (refWi l x) := opL_rn hl ⟨false, x⟩
    have h2 : (refWi l x).length ≤ l.length + 1 := opL_len hl ⟨false, x⟩
    obtain ⟨i1, i2, i3⟩ := ih h1
    refine ⟨i1, by simp only [List.foldl_cons, List.length_cons]; omega, fun o => ?_⟩
    rw [List.foldl_cons, i3 o, wi_has hl]
    simp only [List.mem_cons, exists_eq_or_imp, or_assoc]
theorem fold_rev (xs : List Sp) : xs.reverse.foldl refWi [] = xs.foldl refWi [] := by
  obtain ⟨a1, _, a3⟩ := wi_fold xs (l := []) Rn.nil
  obtain ⟨b1, _, b3⟩ := wi_fold xs.reverse (l := []) Rn.nil
  exact Rn.ext b1 a1 (fun o => by rw [a3, b3]; simp)
def fA (l : List Sp) (k : Nat) : List Sp := (l.take k).foldl refWi []
theorem fA_step {l : List Sp} {k : Nat} (hk : k < l.length) : fA l (k + 1) = refWi (fA l k) (l.getD k (0, 0)) := by
  unfold fA
  rw [show l.getD k (0, 0) = l[k] from by simp [List.getD, hk], List.take_succ_eq_append_getElem hk, List.foldl_append]
  rfl
theorem fA_spec (l : List Sp) (k : Nat) : Rn (fA l k) ∧ (fA l k).length ≤ k := by
  obtain ⟨a, b, _⟩ := wi_fold (l.take k) (l := []) Rn.nil
  exact ⟨a, by rw [List.length_nil, Nat.zero_add, List.length_take] at b; exact Nat.le_trans b (Nat.min_le_left _ _)⟩
theorem fA_rev (l : List Sp) (m : Nat) (hm : m ≤ l.length) : fA (l.take m).reverse m = fA l m := by
  unfold fA
  rw [List.take_of_length_le (by simp; omega)]
  exact fold_rev _
theorem rev_get {l : List Sp} {m k : Nat} (hm : m ≤ l.length) (hk : k < m) : (l.take m).reverse.getD k (0, 0) = l.getD (m - 1 - k) (0, 0) := by
  have h1 : k < (l.take m).reverse.length := by simp; omega
  simp only [List.getD]
  rw [List.getElem?_reverse (by simp; omega), List.getElem?_take]
  have e : min m l.length - 1 - k = m - 1 - k := by rw [Nat.min_eq_left hm]
  simp only [List.length_take, e]
  rw [if_pos (by omega)]
theorem add_fold {l : List Sp} (hl : Rn l) (hn : l.length ≤ 4000) (s : Sp) : (addN l s).2.2 = refWi l s := opN_list hl hn ⟨false, s⟩
/-- told, of one's own -/
def ToldO (l : List Sp) (w : World) (e : Ending) (w' : World) : Prop := ∃ a cap, e = .returned (.slice a l.length cap) ∧ SlS w' a l.length cap l ∧ Below w.heap.size w w' ∧ ∀ x, a = some x → w.heap.size ≤ x.block
theorem told_own {B : Nat} {l : List Sp} {S : List Nat} {w : World} (h : Own B l S w) (hl : Rn l) (hn : l.length ≤ 4096) : Calls Try.prog 9 #[.pointer (some ⟨B, 0, none⟩)] w (ToldO l w) := by
  obtain ⟨a, n, cap, hr, hln, _⟩ := h.rv
  refine (told_any hr hl (by omega)).mono ?_
  rintro e w' ⟨v, rfl, ho, hb⟩
  obtain ⟨a', cap', rfl, hs, hob⟩ := sls_of_own ho
  exact ⟨a', cap', rfl, hs, hb, fun x hx => (own_in ho (hob x hx)).2⟩
theorem same_own {B B' : Nat} {l r : List Sp} {S S' : List Nat} {w : World} (h : Own B l S w) (k : Own B' r S' w) : Calls Try.prog 26 #[.pointer (some ⟨B, 0, none⟩), .pointer (some ⟨B', 0, none⟩)] w (RetB (decide (l = r)) w) := by
  obtain ⟨a, n, cap, hr, hln, _⟩ := h.rv
  obtain ⟨a', n', cap', hr', hln', _⟩ := k.rv
  exact same_any hr hr'
theorem same_refl {B B' : Nat} {l : List Sp} {S S' : List Nat} {w : World} (h : Own B l S w) (k : Own B' l S' w) : Calls Try.prog 26 #[.pointer (some ⟨B, 0, none⟩), .pointer (some ⟨B', 0, none⟩)] w (RetB true w) := by
  have := same_own h k
  rwa [show decide (l = l) = true from by simp] at this
theorem rsame_refl {w : World} {a b : Option Addr} {n m c d : Nat} {l : List Sp} (ho : SlS w a n c l) (hq : SlS w b m d l) : Calls Try.prog 8 #[.slice a n c, .slice b m d] w (RetB true w) := by
  have := rsame_any ho hq
  rwa [show decide (l = l) = true from by simp] at this
theorem rsame_sym {w : World} {a b : Option Addr} {n m c d : Nat} {l r : List Sp} (ho : SlS w a n c l) (hq : SlS w b m d r) : Calls Try.prog 8 #[.slice a n c, .slice b m d] w (RetB (decide (r = l)) w) := by
  have := rsame_any ho hq
  rwa [show decide (l = r) = decide (r = l) from by rw [decide_eq_decide]; exact eq_comm] at this
/-- two sets of one's own -/
structure OrS (w : World) (bo : Nat) (q : OpV) (Ba Bb : Nat) (la lb : List Sp) (Sa Sb : List Nat) (X : World) : Prop where
  a : Own Ba la Sa X
  b : Own Bb lb Sb X
  ga : ∀ k ∈ Sa, bo < k
  gb : ∀ k ∈ Sb, bo < k
  dj : ∀ k ∈ Sa, k ∉ Sb
  op : X.heap[bo]? = some (.cells #[.bool q.out, .int .i64 q.s.1, .int .i64 q.s.2] 32 (0, 0))
  below : Below w.heap.size w X
  ge : w.heap.size ≤ bo
section
variable {w : World} {bo Ba Bb : Nat} {q : OpV} {la lb : List Sp} {Sa Sb : List Nat} {X Y : World}
theorem OrS.later (h : OrS w bo q Ba Bb la lb Sa Sb X) (hb : Below X.heap.size X Y) : OrS w bo q Ba Bb la lb Sa Sb Y :=
  ⟨h.a.later hb, h.b.later hb, h.ga, h.gb, h.dj, (hb.block _ (lt_of_block h.op)).trans h.op, h.below.trans (hb.mono h.below.size), h.ge⟩
theorem OrS.chgA (h : OrS w bo q Ba Bb la lb Sa Sb X) {la' : List Sp} {Sa' : List Nat} (ho : Own Ba la' Sa' Y) (hk : Kept Sa X Y) (hn : ∀ b ∈ Sa', b ∈ Sa ∨ X.heap.size ≤ b) : OrS w bo q Ba Bb la' lb Sa' Sb Y :=
  ⟨ho, h.b.keep hk (fun b hb hs => h.dj b hs hb), fun b hb => by rcases hn b hb with e | e; exact h.ga b e; (have := lt_of_block h.op; omega), h.gb,
    fun b hb hs => by rcases hn b hb with e | e; exact h.dj b e hs; (have := h.b.lt b hs; omega),
    hk.heap (fun e => by have := h.ga bo e; omega) h.op, h.below.trans (hk.below (B := w.heap.size) (fun x hx => by have := h.ga x hx; have := h.ge; omega) h.below.size), h.ge⟩
theorem OrS.chgB (h : OrS w bo q Ba Bb la lb Sa Sb X) {lb' : List Sp} {Sb' : List Nat} (ho : Own Bb lb' Sb' Y) (hk : Kept Sb X Y) (hn : ∀ b ∈ Sb', b ∈ Sb ∨ X.heap.size ≤ b) : OrS w bo q Ba Bb la lb' Sa Sb' Y :=
  ⟨h.a.keep hk (fun b hb hs => h.dj b hb hs), ho, h.ga, fun b hb => by rcases hn b hb with e | e; exact h.gb b e; (have := lt_of_block h.op; omega),
    fun b hb hs => by rcases hn b hs with e | e; exact h.dj b hb e; (have := h.a.lt b hb; omega),
    hk.heap (fun e => by have := h.gb bo e; omega) h.op, h.below.trans (hk.below (B := w.heap.size) (fun x hx => by have := h.gb x hx; have := h.ge; omega) h.below.size), h.ge⟩
theorem OrS.cells (h : OrS w bo q Ba Bb la lb Sa Sb X) : X.cell? ⟨bo, 0, none⟩ = some (.bool q.out) ∧ X.cell? ⟨bo, 1, none⟩ = some (.int .i64 q.s.1) ∧ X.cell? ⟨bo, 2, none⟩ = some (.int .i64 q.s.2) := ⟨cofr h.op 0 _ rfl, cofr h.op 1 _ rfl, cofr h.op 2 _ rfl⟩
end
def ORel (w : World) (bo : Nat) (q : OpV) (Ba Bb : Nat) (l : List Sp) (m k : Nat) (X : World) : Prop := ∃ Sa Sb, OrS w bo q Ba Bb (fA l k) (fA (l.take m).reverse k) Sa Sb X
set_option maxHeartbeats 4000000 in
theorem walk_RunsOrder (w : World) (a : Option Addr) (n cap : Nat) (l : List Sp) (hl : SlS w a n cap l) (q : OpV) :
    Calls Try.prog 4 #[.slice a n cap, .agg #[.bool q.out, .int .i64 q.s.1, .int .i64 q.s.2]] w fun e w' => e = .returned (.bool true) ∧ Below w.heap.size w w' := by
  have hle := hl.le
  have hmost := hl.most
  have hlen := hl.len
  unfold maxLen at hmost
  have HC := Lib.hid (fun h0 => hl.cells h0)
  have b1 := bal (w := w) (.cells #[.bool q.out, .int .i64 q.s.1, .int .i64 q.s.2] 32)
  have x1 := heap_alloc_new w (.cells #[.bool q.out, .int .i64 q.s.1, .int .i64 q.s.2] 32)
  have HX := Lib.hid (And.intro b1 x1)
  clear b1 x1 hl
  go_enter Try.func4, Try.ntmps4
  go_wp2_with fail
  refine (known_any _).mono ?_
  rintro e w1 ⟨rfl, h1⟩
  go_wp2_with fail
  refine (new_own _).mono ?_
  rintro e w2 ⟨Ba, Sa, rfl, o2, h2, n2⟩
  go_wp2_with fail
  refine (new_own _).mono ?_
  rintro e w3 ⟨Bb, Sb, rfl, o3, h3, n3⟩
  obtain ⟨b1, x1⟩ := HX.out
  have b13 := h1.trans ((h2.trans (h3.mono h2.size)).mono h1.size)
  have K3 : OrS w w.heap.size q Ba Bb [] [] Sa Sb w3 := ⟨o2.later h3, o3, fun b hb => by have := n2 b hb; have := h1.size; have := lt_of_block x1; omega, fun b hb => by have := n3 b hb; have := h2.size; have := h1.size; have := lt_of_block x1; omega,
    fun b hb hs => by have := o2.lt b hb; have := n3 b hs; omega, (b13.block _ (lt_of_block x1)).trans x1, b1.trans (b13.mono b1.size), Nat.le_refl _⟩
  have HK : Hid (ORel w w.heap.size q Ba Bb l (min n 100) 0 w3) := Lib.hid ⟨Sa, Sb, K3⟩
  clear b1 x1 b13 K3 o2 o3 h2 h3 n2 n3 h1 HX
  generalize w.heap.size = bo at *
  have HMN : Hid (min n 100 ≤ n ∧ min n 100 ≤ 100 ∧ ((n : Int) ≤ 100 → (n : Int) = (min n 100 : Nat)) ∧ (100 < (n : Int) → (100 : Int) = (min n 100 : Nat))) := Lib.hid ⟨Nat.min_le_left _ _, Nat.min_le_right _ _, fun h => by rw [Nat.min_eq_left (by omega)], fun h => by rw [Nat.min_eq_right (by omega)]; rfl⟩
  generalize min n 100 = m at *
  go_upto_region 4 with (fail)
  go_cut [7] from 17 to 20 (fun s7 wx => s7 = .int .i64 m ∧ wx = w3)
  case first =>
    go_wp2_with fail
    all_goals
      go_meet
      exact ⟨by congr 1; first | exact HMN.out.2.2.1 (by assumption) | exact HMN.out.2.2.2 (by assumption), rfl⟩
  case rest =>
    obtain ⟨rfl, rfl⟩ := hcut
    obtain ⟨hmn, hm1, _, _⟩ := HMN.out
    go_wp2_with fail
    go_loopw [8] (fun s8 wr => ∃ k : Nat, k ≤ m ∧ s8 = .int .i64 k ∧ Hid (ORel w bo q Ba Bb l m k wr)) (fun s8 _ => m - (intOf s8).toNat)
    case atStart => exact ⟨0, Nat.zero_le _, rfl, HK⟩
    case round =>
      clear HK
      obtain ⟨k, hk, rfl, HR⟩ := hrel
      by_cases hlt : k < m
      · obtain ⟨Sa, Sb, K⟩ := HR.out
        obtain ⟨g, off, rfl, hc⟩ := HC.out (by omega)
        obtain ⟨j, hj⟩ : ∃ j : Nat, (j : Int) = (m : Int) - 1 - (k : Int) := ⟨m - 1 - k, by omega⟩
        obtain ⟨m0, m1⟩ := hc k (by omega)
        obtain ⟨m2, m3⟩ := hc j (by omega)
        have hbw := K.below
        replace m0 := (hbw.cell (World.block_lt_of_cell? w _ m0)).trans m0
        replace m1 := (hbw.cell (World.block_lt_of_cell? w _ m1)).trans m1
        have HB2 := Lib.hid (And.intro m2 m3)
        have rn1 := fA_spec l k
        have rn2 := fA_spec (l.take m).reverse k
        have e1 := fA_step (l := l) (k := k) (by omega)
        have e2 := fA_step (l := (l.take m).reverse) (k := k) (by simp; omega)
        rw [rev_get (by omega) hlt, show m - 1 - k = j from by omega] at e2
        have HE := Lib.hid (And.intro e1 e2)
        generalize l.getD k (0, 0) = s1 at *
        generalize l.getD j (0, 0) = s2 at *
        have HA := Lib.hid (add_own K.a rn1.1 (by omega) s1)
        have f1 := add_fold rn1.1 (by omega) s1
        have f2 := add_fold rn2.1 (by omega) s2
        have HK1 := Lib.hid K
        have HRN := Lib.hid (And.intro rn2 (And.intro f1 f2))
        generalize addN (fA l k) s1 = R1 at *
        clear K rn1 rn2 e1 e2 hbw hc HR f1 f2 m2 m3
        go_wp2_with fail
        refine HA.out.mono ?_
        rintro e w5 ⟨rfl, S5, o5, k5, n5⟩
        rw [HRN.out.2.1, ← HE.out.1] at o5
        have K5 := HK1.out.chgA o5 k5 n5
        have HA2 := Lib.hid (add_own K5.b HRN.out.1.1 (by have := HRN.out.1.2; omega) s2)
        have f2 := HRN.out.2.2
        generalize addN (fA (l.take m).reverse k) s2 = R2 at *
        obtain ⟨m2, m3⟩ := HB2.out
        replace m2 := (K5.below.cell (World.block_lt_of_cell? w _ m2)).trans m2
        replace m3 := (K5.below.cell (World.block_lt_of_cell? w _ m3)).trans m3
        have HK5 := Lib.hid K5
        clear o5 k5 n5 m0 m1 HA HK1 K5
        replace hj := hj.symm
        go_wp2_with fail
        refine HA2.out.mono ?_
        rintro e w6 ⟨rfl, S6, o6, k6, n6⟩
        rw [f2, ← HE.out.2] at o6
        have HK6 : Hid (ORel w bo q Ba Bb l m (k + 1) w6) := Lib.hid ⟨S5, S6, HK5.out.chgB o6 k6 n6⟩
        clear o6 k6 n6 m2 m3 HA2 HK5 f2 HRN HE HB2
        go_wp2_with fail
        go_roundw
        case rel => exact ⟨k + 1, by omega, by go_num, HK6⟩
        case measure => simp [intOf]; omega
      · obtain rfl : k = m := by omega
        obtain ⟨Sa, Sb, K⟩ := HR.out
        have hLA := fA_spec l k
        have e1 := fA_rev l k (by omega)
        rw [e1] at K
        have hq := opL_rn hLA.1 q
        have hq2 := opL_len hLA.1 q
        clear HR HC HMN e1 hlt hk hmn
        generalize fA l k = LA at *
        have hL : LA.length ≤ 4000 := by omega
        have HL := Lib.hid (And.intro hLA.1 (And.intro hL (And.intro hq (show (opL LA q).length ≤ 4096 by omega))))
        clear hLA hL hq hq2
        have HS := Lib.hid (same_refl K.a K.b)
        have HK := Lib.hid K
        clear K
        go_wp2_with fail
        refine HS.out.mono ?_
        rintro e w4 ⟨rfl, h4⟩
        have HK4 := Lib.hid (HK.out.later h4)
        clear HK HS h4
        go_wp2_with fail
        refine (told_own HK4.out.a HL.out.1 (by have := HL.out.2.1; omega)).mono ?_
        rintro e w5 ⟨a5, c5, rfl, s5, h5, f5⟩
        have HK5 := Lib.hid (And.intro (HK4.out.later h5) s5)
        clear s5 h5 f5 HK4
        go_wp2_with fail
        refine (told_own HK5.out.1.b HL.out.1 (by have := HL.out.2.1; omega)).mono ?_
        rintro e w6 ⟨a6, c6, rfl, s6, h6, f6⟩
        have HS := Lib.hid (rsame_refl (HK5.out.2.later h6) s6)
        have HK6 := Lib.hid (HK5.out.1.later h6)
        clear s6 h6 f6 HK5
        go_wp2_with fail
        refine HS.out.mono ?_
        rintro e w7 ⟨rfl, h7⟩
        have HK7 := Lib.hid (HK6.out.later h7)
        clear h7 HK6 HS
        go_wp2_with fail
        refine (told_own HK7.out.a HL.out.1 (by have := HL.out.2.1; omega)).mono ?_
        rintro e w8 ⟨aw, cw, rfl, s8, h8, f8⟩
        have HK8 := Lib.hid (And.intro (HK7.out.later h8) s8)
        clear s8 h8 f8 HK7
        go_wp2_with fail
        refine (clone_own HK8.out.1.a (by have := HL.out.2.1; omega)).mono ?_
        rintro e w9 ⟨Bc, Sc, rfl, o9, h9, n9⟩
        have hfar : ∀ x, aw = some x → 0 < LA.length → x.block ∉ Sc := fun x hx h0 hs => by
          obtain ⟨g, off, hg, hc⟩ := HK8.out.2.cells h0
          obtain rfl : x = ⟨g, off, none⟩ := by rw [hx] at hg; exact Option.some.inj hg
          have hlt := World.block_lt_of_cell? w8 _ (hc 0 h0).1
          have := n9 _ hs
          simp only at hlt this
          omega
        have hdj : ∀ b ∈ Sa, b ∉ Sc := fun b hb hs => by have := HK8.out.1.a.lt b hb; have := n9 b hs; omega
        have K9 := HK8.out.1.later h9
        have hbo : bo ∉ Sc := fun hs => by have := n9 bo hs; have := lt_of_block HK8.out.1.op; omega
        have HS := Lib.hid (same_refl o9 K9.a)
        have HK9 := Lib.hid (And.intro K9 (And.intro o9 (And.intro (HK8.out.2.later h9) (And.intro hfar (And.intro hdj (fun b hb => Nat.le_trans HK8.out.1.below.size (n9 b hb)))))))
        clear K9 o9 h9 n9 hfar hdj HK8
        go_wp2_with fail
        refine HS.out.mono ?_
        rintro e w10 ⟨rfl, h10⟩
        have K10 := HK9.out.1.later h10
        have HK10 := Lib.hid (And.intro K10 (And.intro (HK9.out.2.1.later h10) (HK9.out.2.2.1.later h10)))
        have HH := HK9.out.2.2.2
        have HHH := Lib.hid HH
        obtain ⟨c0, c1, c2⟩ := K10.cells
        clear HK9 HS h10 K10 HH
        have HD := Lib.hid (does_any HK10.out.2.1 HL.out.1 HL.out.2.1 HK10.out.2.2 HHH.out.1 q)
        have HE : Hid (∀ (e : Ending) (Y : World), Doe Bc Sc (opL LA q) w10 e Y → ∃ an nn cn, e = .returned (.tuple #[.slice an nn cn, .bool true]) ∧ ∃ S', Own Ba LA Sa Y ∧ Own Bc (opL LA q) S' Y ∧ SlS Y aw LA.length cw LA ∧ SlS Y an nn cn (opL LA q) ∧ Below w.heap.size w Y) := Lib.hid (by
          rintro e Y ⟨an, nn, cn, S', rfl, sl, ow, hk, hn, hf⟩
          refine ⟨an, nn, cn, rfl, S', HK10.out.1.a.keep hk (fun b hb => HHH.out.2.1 b hb), ow, HK10.out.2.2.keep hk HHH.out.1, sl, HK10.out.1.below.trans (hk.below (B := w.heap.size) (fun b hb => HHH.out.2.2 b hb) HK10.out.1.below.size)⟩)
        clear HHH HK10
        generalize opL LA q = LN at *
        go_wp2_with fail
        refine HD.out.mono ?_
        rintro e w11 hdo
        obtain ⟨an, nn, cn, rfl, S', x⟩ := HE.out _ _ hdo
        have K11 := Lib.hid x
        clear x hdo HD HE c0 c1 c2
        go_wp2_with fail
        refine (told_own K11.out.1 HL.out.1 (by have := HL.out.2.1; omega)).mono ?_
        rintro e w12 ⟨a12, c12, rfl, s12, h12, f12⟩
        have HS := Lib.hid (rsame_refl s12 (K11.out.2.2.1.later h12))
        have HB12 := Lib.hid h12
        clear s12 h12 f12
        go_wp2_with fail
        refine HS.out.mono ?_
        rintro e w13 ⟨rfl, h13⟩
        have b13 := HB12.out.trans (h13.mono HB12.out.size)
        have HB13 := Lib.hid b13
        clear HB12 HS h13 b13
        go_wp2_with fail
        refine (told_own (K11.out.2.1.later HB13.out) HL.out.2.2.1 HL.out.2.2.2).mono ?_
        rintro e w14 ⟨a14, c14, rfl, s14, h14, f14⟩
        have b14 := HB13.out.trans (h14.mono HB13.out.size)
        have HS := Lib.hid (rsame_refl s14 (K11.out.2.2.2.1.later b14))
        have HB14 := Lib.hid b14
        clear HB13 s14 h14 f14 b14
        go_wp2_with fail
        refine HS.out.mono ?_
        rintro e w15 ⟨rfl, h15⟩
        have b15 := HB14.out.trans (h15.mono HB14.out.size)
        have HS2 := Lib.hid (same_own (K11.out.2.1.later b15) (K11.out.1.later b15))
        have HB15 := Lib.hid b15
        clear HB14 h15 b15 HS
        go_wp2_with fail
        refine HS2.out.mono ?_
        rintro e w16 ⟨rfl, h16⟩
        have b16 := HB15.out.trans (h16.mono HB15.out.size)
        have HS := Lib.hid (rsame_sym (K11.out.2.2.1.later b16) (K11.out.2.2.2.1.later b16))
        have HB16 := Lib.hid b16
        clear HB15 h16 b16 HS2
        go_wp2_with fail
        refine HS.out.mono ?_
        rintro e w17 ⟨rfl, h17⟩
        have b17 := HB16.out.trans (h17.mono HB16.out.size)
        have HB17 := Lib.hid b17
        clear HB16 HS h17 b17
        go_wp2_with fail
        refine (known_any _).mono ?_
        rintro e w18 ⟨rfl, h18⟩
        have b18 := HB17.out.trans (h18.mono HB17.out.size)
        have HF := Lib.hid (K11.out.2.2.2.2.trans (b18.mono K11.out.2.2.2.2.size))
        clear HB17 h18 b18
        go_wp2_with fail
        go_ret
        exact ⟨rfl, HF.out⟩
end Go.Proofs.Ytgjkbejlfclpoaa.rn
