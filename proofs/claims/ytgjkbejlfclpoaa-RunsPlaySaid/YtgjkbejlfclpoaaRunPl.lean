/-
  RunsPlay.
-/
import Derived.Test.YtgjkbejlfclpoaaRunOr
import Derived.Test.YtgjkbejlfclpoaaRunNx
namespace Go.Proofs.Ytgjkbejlfclpoaa.rn
open Go.RowKit Go.Shelf aid mem rng sp
attribute [local go_sem] Oper.semAt_some
set_option linter.unusedVariables false
set_option linter.unusedSimpArgs false

/-- a set and the document's list, beside a span in its box -/
structure PS (w : World) (s : Sp) (bs B : Nat) (L : List Sp) (S : List Nat) (a2 : Option Addr) (c2 : Nat) (X : World) : Prop where
  own : Own B L S X
  sl : SlS X a2 L.length c2 L
  fr : ∀ x, a2 = some x → 0 < L.length → x.block ∉ S
  sp : SpAt X bs s
  below : Below w.heap.size w X
  gS : ∀ k ∈ S, bs < k
  ge : w.heap.size ≤ bs
theorem PS.later {w : World} {s : Sp} {bs B : Nat} {L : List Sp} {S : List Nat} {a2 : Option Addr} {c2 : Nat} {X Y : World} (h : PS w s bs B L S a2 c2 X) (hb : Below X.heap.size X Y) : PS w s bs B L S a2 c2 Y :=
  ⟨h.own.later hb, h.sl.later hb, h.fr, h.sp.later hb, h.below.trans (hb.mono h.below.size), h.gS, h.ge⟩
theorem PS.doe {w : World} {s : Sp} {bs B : Nat} {L L' : List Sp} {S : List Nat} {a2 : Option Addr} {c2 : Nat} {X Y : World} {e : Ending} (h : PS w s bs B L S a2 c2 X) (hd : Doe B S L' X e Y) :
    ∃ S' a c, e = .returned (.tuple #[.slice a L'.length c, .bool true]) ∧ PS w s bs B L' S' a c Y := by
  obtain ⟨a, n, c, S', rfl, sl, ow, hk, hn, hf⟩ := hd
  obtain rfl := sl.len
  exact ⟨S', a, c, rfl, ow, sl, hf, hk.heap (fun e => by have := h.gS bs e; omega) h.sp, h.below.trans (hk.below (B := w.heap.size) (fun k hk => by have := h.gS k hk; have := h.ge; omega) h.below.size),
    fun k hk' => by rcases hn k hk' with q | q; exact h.gS k q; (have := h.sp.lt; omega), h.ge⟩
theorem run_own {B : Nat} {l : List Sp} {S : List Nat} {w : World} (h : Own B l S w) (hl : Rn l) (hn : l.length ≤ 4096) (o : Int) : Calls Try.prog 13 #[.pointer (some ⟨B, 0, none⟩), .int .i64 o] w (RetSB (runL l o) (decide (0 < lenI (runL l o))) w) := by
  obtain ⟨a, n, cap, hr, hln, _⟩ := h.rv
  exact run_any hr hl (by omega) o
theorem next_own {B : Nat} {l : List Sp} {S : List Nat} {w : World} (h : Own B l S w) (hl : Rn l) (hn : l.length ≤ 4096) (o : Int) : Calls Try.prog 14 #[.pointer (some ⟨B, 0, none⟩), .int .i64 o] w (RetSB (nextL l o) (decide (0 < lenI (nextL l o))) w) := by
  obtain ⟨a, n, cap, hr, hln, _⟩ := h.rv
  exact next_any hr hl (by omega) o
def PRel (w : World) (s : Sp) (bs B : Nat) (k : Nat) (v : Value) (X : World) : Prop := ∃ L S a2 c2, v = .slice a2 L.length c2 ∧ PS w s bs B L S a2 c2 X ∧ Rn L ∧ L.length ≤ k
theorem gaps_len' {l : List Sp} (s : Sp) (hl : Rn l) : (gapsL l s).length ≤ l.length + 1 := by
  unfold gapsL
  split
  · simp
  · rename_i h0
    have hs : ROk s := rok_of (x := s) (by cases hm : mayB s.1 s.2; exact (h0 (by unfold lenI fitP; rw [if_neg (by rw [hm]; simp)]; rfl)).elim; exact mayB_iff.1 hm) h0
    have := (foldWo_len' l [s] hl.ok ⟨fun x hx => by simp at hx; subst hx; exact hs, List.pairwise_singleton _ _⟩).1
    simp only [List.length_singleton] at this
    omega
set_option maxRecDepth 100000 in
set_option maxHeartbeats 8000000 in
theorem walk_RunsPlay (w : World) (a : Option Addr) (n cap : Nat) (ops : List OpV) (hl : OpA w a n cap ops) (s : Sp) (off : Int) (ho : -9223372036854775808 ≤ off ∧ off ≤ 9223372036854775807) :
    Calls Try.prog 3 #[.slice a n cap, spV s, .int .i64 off] w fun e w' => e = .returned (.bool true) ∧ Below w.heap.size w w' := by
  have hle := hl.le
  have hmost := hl.most
  unfold maxLen at hmost
  have HC := Lib.hid (fun h0 => hl.cells h0)
  have hMO : Try.prog.follows .mixedOrders = true := by kernel_rfl
  refine (callsIn_wide (n := 6)).1 ?_
  refine callsIn_of_wp_marks Try.func3 rfl trivial ?_ rfl
  simp only [Try.ntmps3, List.size_toArray, List.length_cons, List.length_nil, Nat.reduceAdd, Nat.reduceSub, Array.replicate_succ, Array.replicate_zero, List.push_toArray, List.append_toArray, List.nil_append, List.cons_append]
  have b1 := bal (w := w) (.cells #[.int .i64 s.1, .int .i64 s.2] 24)
  have s1 := sp_new w s
  have HB1 := Lib.hid (And.intro b1 s1)
  clear b1 s1 hl
  gi_wp2
  refine ⟨trivial, ?_⟩
  refine (callsIn_wide.2 (known_any _)).mono ?_
  rintro e w1 ⟨rfl, h1⟩
  obtain ⟨b1, s1⟩ := HB1.out
  have b2 := b1.trans (h1.mono b1.size)
  have s2 := s1.later h1
  clear HB1 b1 s1 h1
  gi_wp2
  refine ⟨trivial, ?_⟩
  refine (callsIn_wide.2 (new_own _)).mono ?_
  rintro e w2 ⟨B, S, rfl, o2, h2, n2⟩
  have K0 : PS w s w.heap.size B [] S none 0 w2 := ⟨o2, sls_nil _, (fun _ h => by cases h), s2.later h2, b2.trans (h2.mono b2.size), fun k hk => by have := n2 k hk; have := s2.lt; omega, Nat.le_refl _⟩
  have HK : Hid (PRel w s w.heap.size B 0 (.slice none 0 0) w2) := Lib.hid ⟨[], S, none, 0, rfl, K0, Rn.nil, Nat.le_refl _⟩
  clear s2 b2 o2 h2 n2 K0
  generalize w.heap.size = bs at *
  gi_wp2
  gi_loopw [8, 9] (fun v i wr => ∃ k : Nat, k ≤ n ∧ k ≤ 200 ∧ i = .int .i64 k ∧ Hid (PRel w s bs B k v wr)) (fun _ i _ => n - (intOf i).toNat)
  case atStart => exact ⟨0, Nat.zero_le _, Nat.zero_le _, rfl, HK⟩
  case round =>
    clear HK
    obtain ⟨k, hk, hk1, rfl, HR⟩ := hrel
    by_cases hlt : k < n ∧ k < 200
    · obtain ⟨hlt, hlt2⟩ := hlt
      obtain ⟨L, S1, a2, c2, rfl, K1, hrn, hll⟩ := HR.out
      obtain ⟨g, o, rfl, hc⟩ := HC.out (by omega)
      obtain ⟨m0, m1, m2⟩ := hc k hlt
      have hbw := K1.below
      replace m0 := (hbw.cell (World.block_lt_of_cell? w _ m0)).trans m0
      replace m1 := (hbw.cell (World.block_lt_of_cell? w _ m1)).trans m1
      replace m2 := (hbw.cell (World.block_lt_of_cell? w _ m2)).trans m2
      generalize ops.getD k default = q at *
      have hrn2 := opL_rn hrn q
      have hln2 := opL_len hrn q
      have HD := Lib.hid (does_any K1.own hrn (by omega) K1.sl K1.fr q)
      have HK1 := Lib.hid (And.intro K1 (And.intro hrn2 (show (opL L q).length ≤ k + 1 by omega)))
      generalize opL L q = L2 at *
      clear K1 hrn hll hc hbw HR hrn2 hln2
      gi_wp2
      refine ⟨trivial, ?_⟩
      refine (callsIn_wide.2 HD.out).mono ?_
      rintro e w5 hdo
      obtain ⟨S5, a5, c5, rfl, K5⟩ := HK1.out.1.doe hdo
      have HK5 := Lib.hid (And.intro K5 HK1.out.2)
      clear hdo K5 m0 m1 m2 HK1 HD
      gi_wp2
      refine ⟨trivial, ?_⟩
      refine (callsIn_wide.2 (told_own HK5.out.1.own HK5.out.2.1 (by have := HK5.out.2.2; omega))).mono ?_
      rintro e w6 ⟨a6, c6, rfl, s6, h6, f6⟩
      have HS := Lib.hid (rsame_refl s6 (HK5.out.1.later h6).sl)
      have HK6 := Lib.hid (And.intro (HK5.out.1.later h6) HK5.out.2)
      clear s6 h6 f6 HK5
      gi_wp2
      refine ⟨trivial, ?_⟩
      refine (callsIn_wide.2 HS.out).mono ?_
      rintro e w7 ⟨rfl, h7⟩
      have HK7 := Lib.hid (And.intro (HK6.out.1.later h7) HK6.out.2)
      clear h7 HS HK6
      gi_wp2
      refine ⟨trivial, ?_⟩
      refine (callsIn_wide.2 (len_own HK7.out.1.own)).mono ?_
      rintro e w8 ⟨rfl, rfl⟩
      gi_wp2
      refine ⟨trivial, ?_⟩
      refine (callsIn_wide.2 (bytes_own HK7.out.1.own HK7.out.2.1 (by have := HK7.out.2.2; omega))).mono ?_
      rintro e w9 ⟨rfl, h9⟩
      have HK9 := Lib.hid (And.intro (HK7.out.1.later h9) HK7.out.2)
      clear h9 HK7
      gi_wp2
      refine ⟨trivial, ?_⟩
      refine (callsIn_wide.2 (rbytes_any HK9.out.1.sl HK9.out.2.1)).mono ?_
      rintro e w10 ⟨rfl, h10⟩
      have HK10 : Hid (PRel w s bs B (k + 1) (.slice a5 L2.length c5) w10) := Lib.hid ⟨L2, S5, a5, c5, rfl, HK9.out.1.later h10, HK9.out.2⟩
      clear h10 HK9
      gi_wp2
      go_roundw
      case rel => exact ⟨k + 1, by omega, by omega, by go_num, HK10⟩
      case measure => simp [intOf]; omega
    · rcases (show (k < n ∧ ¬ k < 200) ∨ ¬ k < n by omega) with ⟨h1, h2⟩ | h1
      all_goals
        obtain ⟨L, S1, a2, c2, rfl, K1, hrn, hll⟩ := HR.out
        have HQ := Lib.hid (And.intro hrn (show L.length ≤ 200 by omega))
        have HK1 := Lib.hid K1
        clear HR HC hrn hll K1
        gi_wp2
        refine ⟨trivial, ?_⟩
        refine (callsIn_wide.2 (run_own HK1.out.own HQ.out.1 (by have := HQ.out.2; omega) off)).mono ?_
        rintro e w4 ⟨rfl, h4⟩
        have HX := Lib.hid (fun (X : World) (K : PS w s bs B L S1 a2 c2 X) => has_own K.own HQ.out.1 (by have := HQ.out.2; omega) off)
        have HRX := Lib.hid (fun (X : World) (K : PS w s bs B L S1 a2 c2 X) => rrun_any K.sl off)
        generalize runL L off = x at *
        have b5 := bal (w := w4) (.cells #[.int .i64 x.1, .int .i64 x.2] 24)
        have HK5 := Lib.hid (And.intro ((HK1.out.later h4).later b5) (sp_new w4 x))
        clear h4 b5 HK1
        gi_wp2
        refine ⟨trivial, ?_⟩
        refine (callsIn_wide.2 (next_own HK5.out.1.own HQ.out.1 (by have := HQ.out.2; omega) off)).mono ?_
        rintro e w6 ⟨rfl, h6⟩
        have HRY := Lib.hid (fun (X : World) (K : PS w s bs B L S1 a2 c2 X) => rnext_any K.sl off)
        generalize nextL L off = y at *
        have b7 := bal (w := w6) (.cells #[.int .i64 y.1, .int .i64 y.2] 24)
        have HK7 := Lib.hid (And.intro ((HK5.out.1.later h6).later b7) (And.intro ((HK5.out.2.later h6).later b7) (sp_new w6 y)))
        clear h6 b7 HK5
        have HL1 := Lib.hid (fun X => rlen_any x X)
        have HL2 := Lib.hid (fun X => rlen_any y X)
        have eqx : ∀ w, (Op.equalIn 10000 24 (.agg #[.int .i64 x.1, .int .i64 x.2]) (.agg #[.int .i64 x.1, .int .i64 x.2])).run Try.prog w = .ok true w := fun w => by rw [eq_spB]; simp
        have eqy : ∀ w, (Op.equalIn 10000 24 (.agg #[.int .i64 y.1, .int .i64 y.2]) (.agg #[.int .i64 y.1, .int .i64 y.2])).run Try.prog w = .ok true w := fun w => by rw [eq_spB]; simp
        generalize lenI x = zx at *
        generalize lenI y = zy at *
        gi_wp2
        generalize w4.heap.size = bx at *
        generalize w6.heap.size = bY at *
        generalize w6.alloc (.cells #[.int .i64 y.1, .int .i64 y.2] 24) = w7 at *
        have HHL := Lib.hid (fun (X : World) (K : PS w s bs B L S1 a2 c2 X ∧ SpAt X bx x ∧ SpAt X bY y) => show X.cell? ⟨bx, 0, none⟩ = some (.int .i64 x.1) ∧ X.cell? ⟨bx, 1, none⟩ = some (.int .i64 x.2) ∧ X.cell? ⟨bY, 0, none⟩ = some (.int .i64 y.1) ∧ X.cell? ⟨bY, 1, none⟩ = some (.int .i64 y.2) from ⟨K.2.1.c0, K.2.1.c1, K.2.2.c0, K.2.2.c1⟩)
        have HLA := Lib.hid (fun (X Y : World) (K : PS w s bs B L S1 a2 c2 X ∧ SpAt X bx x ∧ SpAt X bY y) (hb : Below X.heap.size X Y) => show PS w s bs B L S1 a2 c2 Y ∧ SpAt Y bx x ∧ SpAt Y bY y from ⟨K.1.later hb, K.2.1.later hb, K.2.2.later hb⟩)
        have K0 := HLA.out _ _ HK7.out (Below.refl _ _).drew
        have hHeld := HHL.out _ K0
        clear HK7
        refine wpIn_region_in (S := (fun w' => w'.cell? ⟨bx, 0, none⟩ = some (.int .i64 x.1) ∧ w'.cell? ⟨bx, 1, none⟩ = some (.int .i64 x.2) ∧ w'.cell? ⟨bY, 0, none⟩ = some (.int .i64 y.1) ∧ w'.cell? ⟨bY, 1, none⟩ = some (.int .i64 y.2))) hMO ?_
        refine wpAnyH_take (i := 0) (oi := _) (v := ?_) rfl (by kernel_rfl) (by kernel_rfl) (by kernel_rfl) (fun _ _ _ h => h) (Or.inl ⟨by rfl, ?_⟩) (by assumption) ?_
        rotate_left
        · (first | (intro v hSw; (try dsimp only at hSw); go_simp; done) | (intro v hSw; (try dsimp only at hSw); go_simp; with_reducible rfl))
        (try simp only [List.getElem_toArray, List.getElem_cons_succ, List.getElem_cons_zero, Act.put, List.setIfInBounds_toArray, List.set_cons_zero, List.set_cons_succ])
        refine wpAnyH_take (i := 1) (oi := _) (v := ?_) rfl (by kernel_rfl) (by kernel_rfl) (by kernel_rfl) (fun _ _ _ h => h) (Or.inl ⟨by rfl, ?_⟩) (by assumption) ?_
        rotate_left
        · (first | (intro v hSw; (try dsimp only at hSw); go_simp; done) | (intro v hSw; (try dsimp only at hSw); go_simp; with_reducible rfl))
        (try simp only [List.getElem_toArray, List.getElem_cons_succ, List.getElem_cons_zero, Act.put, List.setIfInBounds_toArray, List.set_cons_zero, List.set_cons_succ])
        refine wpAnyH_take (i := 2) (oi := _) (v := ?_) rfl (by kernel_rfl) (by kernel_rfl) (by kernel_rfl) (fun _ _ _ h => h) (Or.inl ⟨by rfl, ?_⟩) (by assumption) ?_
        rotate_left
        · (first | (intro v hSw; (try dsimp only at hSw); go_simp; done) | (intro v hSw; (try dsimp only at hSw); go_simp; with_reducible rfl))
        (try simp only [List.getElem_toArray, List.getElem_cons_succ, List.getElem_cons_zero, Act.put, List.setIfInBounds_toArray, List.set_cons_zero, List.set_cons_succ])
        refine wpAnyH_ready (rs := [3]) (by kernel_rfl) (by simp) ?_
        refine AllReadyH.cons (o := _) rfl (fun K hK => ?_) AllReadyH.nil
        go_simp
        (refine (HRX.out _ K0.1).mono ?_)
        rintro e v3 ⟨rfl, h3⟩
        have K1 := HLA.out _ _ K0 h3
        clear K0 hHeld
        refine hK.out _ _ ?_ (fun hHeld => ?_)
        · ((try dsimp only); exact HHL.out _ K1)
        clear hK K
        (try simp only [List.getElem_toArray, List.getElem_cons_succ, List.getElem_cons_zero, Act.put, List.setIfInBounds_toArray, List.set_cons_zero, List.set_cons_succ])
        refine wpAnyH_take (i := 4) (oi := _) (v := ?_) rfl (by kernel_rfl) (by kernel_rfl) (by kernel_rfl) (fun _ _ _ h => h) (Or.inl ⟨by rfl, ?_⟩) (by assumption) ?_
        rotate_left
        · (first | (intro v hSw; (try dsimp only at hSw); go_simp; done) | (intro v hSw; (try dsimp only at hSw); go_simp; with_reducible rfl))
        (try simp only [List.getElem_toArray, List.getElem_cons_succ, List.getElem_cons_zero, Act.put, List.setIfInBounds_toArray, List.set_cons_zero, List.set_cons_succ])
        refine wpAnyH_take (i := 5) (oi := _) (v := ?_) rfl (by kernel_rfl) (by kernel_rfl) (by kernel_rfl) (fun _ _ _ h => h) (Or.inl ⟨by rfl, ?_⟩) (by assumption) ?_
        rotate_left
        · (first | (intro v hSw; (try dsimp only at hSw); go_simp; done) | (intro v hSw; (try dsimp only at hSw); go_simp; with_reducible rfl))
        (try simp only [List.getElem_toArray, List.getElem_cons_succ, List.getElem_cons_zero, Act.put, List.setIfInBounds_toArray, List.set_cons_zero, List.set_cons_succ])
        refine wpAnyH_take (i := 6) (oi := _) (v := ?_) rfl (by kernel_rfl) (by kernel_rfl) (by kernel_rfl) (fun _ _ _ h => h) (Or.inl ⟨by rfl, ?_⟩) (by assumption) ?_
        rotate_left
        · (first | (intro v hSw; (try dsimp only at hSw); go_simp; done) | (intro v hSw; (try dsimp only at hSw); go_simp; with_reducible rfl))
        (try simp only [List.getElem_toArray, List.getElem_cons_succ, List.getElem_cons_zero, Act.put, List.setIfInBounds_toArray, List.set_cons_zero, List.set_cons_succ])
        refine wpAnyH_take (i := 7) (oi := _) (v := ?_) rfl (by kernel_rfl) (by kernel_rfl) (by kernel_rfl) (fun _ _ _ h => h) (Or.inl ⟨by rfl, ?_⟩) (by assumption) ?_
        rotate_left
        · (first | (intro v hSw; (try dsimp only at hSw); go_simp; done) | (intro v hSw; (try dsimp only at hSw); go_simp; with_reducible rfl))
        (try simp only [List.getElem_toArray, List.getElem_cons_succ, List.getElem_cons_zero, Act.put, List.setIfInBounds_toArray, List.set_cons_zero, List.set_cons_succ])
        refine wpAnyH_ready (rs := [8]) (by kernel_rfl) (by simp) ?_
        refine AllReadyH.cons (o := _) rfl (fun K hK => ?_) AllReadyH.nil
        go_simp
        (refine (HL1.out _).mono ?_)
        rintro e v8 ⟨rfl, h8⟩
        have K2 := HLA.out _ _ K1 h8
        clear K1 hHeld
        refine hK.out _ _ ?_ (fun hHeld => ?_)
        · ((try dsimp only); exact HHL.out _ K2)
        clear hK K
        (try simp only [List.getElem_toArray, List.getElem_cons_succ, List.getElem_cons_zero, Act.put, List.setIfInBounds_toArray, List.set_cons_zero, List.set_cons_succ])
        refine wpAnyH_take (i := 9) (oi := _) (v := ?_) rfl (by kernel_rfl) (by kernel_rfl) (by kernel_rfl) (fun _ _ _ h => h) (Or.inl ⟨by rfl, ?_⟩) (by assumption) ?_
        rotate_left
        · (first | (intro v hSw; (try dsimp only at hSw); go_simp; done) | (intro v hSw; (try dsimp only at hSw); go_simp; with_reducible rfl))
        (try simp only [List.getElem_toArray, List.getElem_cons_succ, List.getElem_cons_zero, Act.put, List.setIfInBounds_toArray, List.set_cons_zero, List.set_cons_succ])
        refine wpAnyH_take (i := 10) (oi := _) (v := ?_) rfl (by kernel_rfl) (by kernel_rfl) (by kernel_rfl) (fun _ _ _ h => h) (Or.inl ⟨by rfl, ?_⟩) (by assumption) ?_
        rotate_left
        · (first | (intro v hSw; (try dsimp only at hSw); go_simp; done) | (intro v hSw; (try dsimp only at hSw); go_simp; with_reducible rfl))
        (try simp only [List.getElem_toArray, List.getElem_cons_succ, List.getElem_cons_zero, Act.put, List.setIfInBounds_toArray, List.set_cons_zero, List.set_cons_succ])
        refine wpAnyH_take (i := 11) (oi := _) (v := ?_) rfl (by kernel_rfl) (by kernel_rfl) (by kernel_rfl) (fun _ _ _ h => h) (Or.inl ⟨by rfl, ?_⟩) (by assumption) ?_
        rotate_left
        · (first | (intro v hSw; (try dsimp only at hSw); go_simp; done) | (intro v hSw; (try dsimp only at hSw); go_simp; with_reducible rfl))
        (try simp only [List.getElem_toArray, List.getElem_cons_succ, List.getElem_cons_zero, Act.put, List.setIfInBounds_toArray, List.set_cons_zero, List.set_cons_succ])
        refine wpAnyH_take (i := 12) (oi := _) (v := ?_) rfl (by kernel_rfl) (by kernel_rfl) (by kernel_rfl) (fun _ _ _ h => h) (Or.inl ⟨by rfl, ?_⟩) (by assumption) ?_
        rotate_left
        · (first | (intro v hSw; (try dsimp only at hSw); go_simp; done) | (intro v hSw; (try dsimp only at hSw); go_simp; with_reducible rfl))
        (try simp only [List.getElem_toArray, List.getElem_cons_succ, List.getElem_cons_zero, Act.put, List.setIfInBounds_toArray, List.set_cons_zero, List.set_cons_succ])
        refine wpAnyH_take (i := 13) (oi := _) (v := ?_) rfl (by kernel_rfl) (by kernel_rfl) (by kernel_rfl) (fun _ _ _ h => h) (Or.inl ⟨by rfl, ?_⟩) (by assumption) ?_
        rotate_left
        · (first | (intro v hSw; (try dsimp only at hSw); go_simp; done) | (intro v hSw; (try dsimp only at hSw); go_simp; with_reducible rfl))
        (try simp only [List.getElem_toArray, List.getElem_cons_succ, List.getElem_cons_zero, Act.put, List.setIfInBounds_toArray, List.set_cons_zero, List.set_cons_succ])
        refine wpAnyH_take (i := 14) (oi := _) (v := ?_) rfl (by kernel_rfl) (by kernel_rfl) (by kernel_rfl) (fun _ _ _ h => h) (Or.inl ⟨by rfl, ?_⟩) (by assumption) ?_
        rotate_left
        · (first | (intro v hSw; (try dsimp only at hSw); go_simp; done) | (intro v hSw; (try dsimp only at hSw); go_simp; with_reducible rfl))
        (try simp only [List.getElem_toArray, List.getElem_cons_succ, List.getElem_cons_zero, Act.put, List.setIfInBounds_toArray, List.set_cons_zero, List.set_cons_succ])
        refine wpAnyH_take (i := 16) (oi := _) (v := ?_) rfl (by kernel_rfl) (by kernel_rfl) (by kernel_rfl) (fun _ _ _ h => h) (Or.inl ⟨by rfl, ?_⟩) (by assumption) ?_
        rotate_left
        · (first | (intro v hSw; (try dsimp only at hSw); go_simp; done) | (intro v hSw; (try dsimp only at hSw); go_simp; with_reducible rfl))
        (try simp only [List.getElem_toArray, List.getElem_cons_succ, List.getElem_cons_zero, Act.put, List.setIfInBounds_toArray, List.set_cons_zero, List.set_cons_succ])
        refine wpAnyH_ready (rs := [15]) (by kernel_rfl) (by simp) ?_
        refine AllReadyH.cons (o := _) rfl (fun K hK => ?_) AllReadyH.nil
        go_simp
        (refine (HX.out _ K2.1).mono ?_)
        rintro e v15 ⟨rfl, h15⟩
        have K3 := HLA.out _ _ K2 h15
        clear K2 hHeld
        refine hK.out _ _ ?_ (fun hHeld => ?_)
        · ((try dsimp only); exact HHL.out _ K3)
        clear hK K
        (try simp only [List.getElem_toArray, List.getElem_cons_succ, List.getElem_cons_zero, Act.put, List.setIfInBounds_toArray, List.set_cons_zero, List.set_cons_succ])
        refine wpAnyH_take (i := 17) (oi := _) (v := ?_) rfl (by kernel_rfl) (by kernel_rfl) (by kernel_rfl) (fun _ _ _ h => h) (Or.inl ⟨by rfl, ?_⟩) (by assumption) ?_
        rotate_left
        · (first | (intro v hSw; (try dsimp only at hSw); go_simp; done) | (intro v hSw; (try dsimp only at hSw); go_simp; with_reducible rfl))
        (try simp only [List.getElem_toArray, List.getElem_cons_succ, List.getElem_cons_zero, Act.put, List.setIfInBounds_toArray, List.set_cons_zero, List.set_cons_succ])
        refine wpAnyH_take (i := 18) (oi := _) (v := ?_) rfl (by kernel_rfl) (by kernel_rfl) (by kernel_rfl) (fun _ _ _ h => h) (Or.inl ⟨by rfl, ?_⟩) (by assumption) ?_
        rotate_left
        · (first | (intro v hSw; (try dsimp only at hSw); go_simp; done) | (intro v hSw; (try dsimp only at hSw); go_simp; with_reducible rfl))
        (try simp only [List.getElem_toArray, List.getElem_cons_succ, List.getElem_cons_zero, Act.put, List.setIfInBounds_toArray, List.set_cons_zero, List.set_cons_succ])
        refine wpAnyH_take (i := 19) (oi := _) (v := ?_) rfl (by kernel_rfl) (by kernel_rfl) (by kernel_rfl) (fun _ _ _ h => h) (Or.inl ⟨by rfl, ?_⟩) (by assumption) ?_
        rotate_left
        · (first | (intro v hSw; (try dsimp only at hSw); go_simp; done) | (intro v hSw; (try dsimp only at hSw); go_simp; with_reducible rfl))
        (try simp only [List.getElem_toArray, List.getElem_cons_succ, List.getElem_cons_zero, Act.put, List.setIfInBounds_toArray, List.set_cons_zero, List.set_cons_succ])
        refine wpAnyH_take (i := 20) (oi := _) (v := ?_) rfl (by kernel_rfl) (by kernel_rfl) (by kernel_rfl) (fun _ _ _ h => h) (Or.inl ⟨by rfl, ?_⟩) (by assumption) ?_
        rotate_left
        · (first | (intro v hSw; (try dsimp only at hSw); go_simp; done) | (intro v hSw; (try dsimp only at hSw); go_simp; with_reducible rfl))
        (try simp only [List.getElem_toArray, List.getElem_cons_succ, List.getElem_cons_zero, Act.put, List.setIfInBounds_toArray, List.set_cons_zero, List.set_cons_succ])
        refine wpAnyH_take (i := 21) (oi := _) (v := ?_) rfl (by kernel_rfl) (by kernel_rfl) (by kernel_rfl) (fun _ _ _ h => h) (Or.inl ⟨by rfl, ?_⟩) (by assumption) ?_
        rotate_left
        · (first | (intro v hSw; (try dsimp only at hSw); go_simp; done) | (intro v hSw; (try dsimp only at hSw); go_simp; with_reducible rfl))
        (try simp only [List.getElem_toArray, List.getElem_cons_succ, List.getElem_cons_zero, Act.put, List.setIfInBounds_toArray, List.set_cons_zero, List.set_cons_succ])
        refine wpAnyH_take (i := 22) (oi := _) (v := ?_) rfl (by kernel_rfl) (by kernel_rfl) (by kernel_rfl) (fun _ _ _ h => h) (Or.inl ⟨by rfl, ?_⟩) (by assumption) ?_
        rotate_left
        · (first | (intro v hSw; (try dsimp only at hSw); go_simp; done) | (intro v hSw; (try dsimp only at hSw); go_simp; with_reducible rfl))
        (try simp only [List.getElem_toArray, List.getElem_cons_succ, List.getElem_cons_zero, Act.put, List.setIfInBounds_toArray, List.set_cons_zero, List.set_cons_succ])
        refine wpAnyH_ready (rs := [23]) (by kernel_rfl) (by simp) ?_
        refine AllReadyH.cons (o := _) rfl (fun K hK => ?_) AllReadyH.nil
        go_simp
        (refine (HRY.out _ K3.1).mono ?_)
        rintro e v23 ⟨rfl, h23⟩
        have K4 := HLA.out _ _ K3 h23
        clear K3 hHeld
        refine hK.out _ _ ?_ (fun hHeld => ?_)
        · ((try dsimp only); exact HHL.out _ K4)
        clear hK K
        (try simp only [List.getElem_toArray, List.getElem_cons_succ, List.getElem_cons_zero, Act.put, List.setIfInBounds_toArray, List.set_cons_zero, List.set_cons_succ])
        refine wpAnyH_take (i := 24) (oi := _) (v := ?_) rfl (by kernel_rfl) (by kernel_rfl) (by kernel_rfl) (fun _ _ _ h => h) (Or.inl ⟨by rfl, ?_⟩) (by assumption) ?_
        rotate_left
        · (first | (intro v hSw; (try dsimp only at hSw); go_simp; done) | (intro v hSw; (try dsimp only at hSw); go_simp; with_reducible rfl))
        (try simp only [List.getElem_toArray, List.getElem_cons_succ, List.getElem_cons_zero, Act.put, List.setIfInBounds_toArray, List.set_cons_zero, List.set_cons_succ])
        refine wpAnyH_take (i := 25) (oi := _) (v := ?_) rfl (by kernel_rfl) (by kernel_rfl) (by kernel_rfl) (fun _ _ _ h => h) (Or.inl ⟨by rfl, ?_⟩) (by assumption) ?_
        rotate_left
        · (first | (intro v hSw; (try dsimp only at hSw); go_simp; done) | (intro v hSw; (try dsimp only at hSw); go_simp; with_reducible rfl))
        (try simp only [List.getElem_toArray, List.getElem_cons_succ, List.getElem_cons_zero, Act.put, List.setIfInBounds_toArray, List.set_cons_zero, List.set_cons_succ])
        refine wpAnyH_take (i := 26) (oi := _) (v := ?_) rfl (by kernel_rfl) (by kernel_rfl) (by kernel_rfl) (fun _ _ _ h => h) (Or.inl ⟨by rfl, ?_⟩) (by assumption) ?_
        rotate_left
        · (first | (intro v hSw; (try dsimp only at hSw); go_simp; done) | (intro v hSw; (try dsimp only at hSw); go_simp; with_reducible rfl))
        (try simp only [List.getElem_toArray, List.getElem_cons_succ, List.getElem_cons_zero, Act.put, List.setIfInBounds_toArray, List.set_cons_zero, List.set_cons_succ])
        refine wpAnyH_take (i := 27) (oi := _) (v := ?_) rfl (by kernel_rfl) (by kernel_rfl) (by kernel_rfl) (fun _ _ _ h => h) (Or.inl ⟨by rfl, ?_⟩) (by assumption) ?_
        rotate_left
        · (first | (intro v hSw; (try dsimp only at hSw); go_simp; done) | (intro v hSw; (try dsimp only at hSw); go_simp; with_reducible rfl))
        (try simp only [List.getElem_toArray, List.getElem_cons_succ, List.getElem_cons_zero, Act.put, List.setIfInBounds_toArray, List.set_cons_zero, List.set_cons_succ])
        refine wpAnyH_take (i := 28) (oi := _) (v := ?_) rfl (by kernel_rfl) (by kernel_rfl) (by kernel_rfl) (fun _ _ _ h => h) (Or.inl ⟨by rfl, ?_⟩) (by assumption) ?_
        rotate_left
        · (first | (intro v hSw; (try dsimp only at hSw); go_simp; done) | (intro v hSw; (try dsimp only at hSw); go_simp; with_reducible rfl))
        (try simp only [List.getElem_toArray, List.getElem_cons_succ, List.getElem_cons_zero, Act.put, List.setIfInBounds_toArray, List.set_cons_zero, List.set_cons_succ])
        refine wpAnyH_ready (rs := [29]) (by kernel_rfl) (by simp) ?_
        refine AllReadyH.cons (o := _) rfl (fun K hK => ?_) AllReadyH.nil
        go_simp
        (refine (HL2.out _).mono ?_)
        rintro e v29 ⟨rfl, h29⟩
        have K5 := HLA.out _ _ K4 h29
        clear K4 hHeld
        refine hK.out _ _ ?_ (fun hHeld => ?_)
        · ((try dsimp only); exact HHL.out _ K5)
        clear hK K
        (try simp only [List.getElem_toArray, List.getElem_cons_succ, List.getElem_cons_zero, Act.put, List.setIfInBounds_toArray, List.set_cons_zero, List.set_cons_succ])
        refine wpAnyH_take (i := 30) (oi := _) (v := ?_) rfl (by kernel_rfl) (by kernel_rfl) (by kernel_rfl) (fun _ _ _ h => h) (Or.inl ⟨by rfl, ?_⟩) (by assumption) ?_
        rotate_left
        · (first | (intro v hSw; (try dsimp only at hSw); go_simp; done) | (intro v hSw; (try dsimp only at hSw); go_simp; with_reducible rfl))
        (try simp only [List.getElem_toArray, List.getElem_cons_succ, List.getElem_cons_zero, Act.put, List.setIfInBounds_toArray, List.set_cons_zero, List.set_cons_succ])
        refine wpAnyH_take (i := 31) (oi := _) (v := ?_) rfl (by kernel_rfl) (by kernel_rfl) (by kernel_rfl) (fun _ _ _ h => h) (Or.inl ⟨by rfl, ?_⟩) (by assumption) ?_
        rotate_left
        · (first | (intro v hSw; (try dsimp only at hSw); go_simp; done) | (intro v hSw; (try dsimp only at hSw); go_simp; with_reducible rfl))
        (try simp only [List.getElem_toArray, List.getElem_cons_succ, List.getElem_cons_zero, Act.put, List.setIfInBounds_toArray, List.set_cons_zero, List.set_cons_succ])
        refine wpAnyH_take (i := 32) (oi := _) (v := ?_) rfl (by kernel_rfl) (by kernel_rfl) (by kernel_rfl) (fun _ _ _ h => h) (Or.inl ⟨by rfl, ?_⟩) (by assumption) ?_
        rotate_left
        · (first | (intro v hSw; (try dsimp only at hSw); go_simp; done) | (intro v hSw; (try dsimp only at hSw); go_simp; with_reducible rfl))
        (try simp only [List.getElem_toArray, List.getElem_cons_succ, List.getElem_cons_zero, Act.put, List.setIfInBounds_toArray, List.set_cons_zero, List.set_cons_succ])
        refine wpAnyH_done (by kernel_rfl) ?_ _
        refine OnlyN.normal ?_
        have HKA := Lib.hid K5.1
        clear hHeld K5 HX HRX HRY HL1 HL2 eqx eqy HHL HLA
        generalize hvn : v29 = v9 at *
        clear hvn
        have b6 := bal (w := v9) (.cells #[.slice none 0 0] 28)
        have hbox := heap_alloc_new v9 (.cells #[.slice none 0 0] 28)
        have K6 := HKA.out.later b6
        obtain ⟨av, nv, cv, hv, hvl, hvs⟩ := K6.own.rv
        have HP := Lib.hid (gaps_any hv HQ.out.1 (by have := HQ.out.2; omega) s (fun k => k = v9.heap.size) (fun k hk => by rw [hk]; simp) (fun b hb e => by have := HKA.out.own.lt b (hvs b hb); omega))
        have c0 := K6.sp.c0; have c1 := K6.sp.c1
        have HBX := Lib.hid (And.intro b6 hbox)
        clear b6 hbox K6 hv hvl hvs
        gi_wp2
        refine ⟨trivial, ?_⟩
        refine (callsIn_wide.2 HP.out).mono ?_
        rintro e w9 ⟨lb, rfl, hseq, h9⟩
        have HSEQ := Lib.hid hseq
        have hz9 := h9.size
        simp at hz9
        have H9 := Lib.hid h9
        have HLN := Lib.hid (show (gapsL L s).length ≤ 300 by have := gaps_len' s HQ.out.1; have := HQ.out.2; omega)
        clear hseq h9 HP c0 c1
        gi_wp2
        refine wpIn_rangeBox (fun (b : Nat) (y : Sp) (t : Array Value) => (t.setIfInBounds 113 (spV y)).setIfInBounds 17 (.pointer (some ⟨b, 0, none⟩))) (gf := 40) (lb := lb) (L := gapsL L s) (A := fun k => k = v9.heap.size) (w0 := w9) (encs := spE) rfl eg_gaps HSEQ.out (Below.refl _ _) (fun _ => rfl)
          (ToldI v9 v9.heap.size) NoX (fun k => k = v9.heap.size) ?hc0 (told_bears _ _ _ (by omega)) (nox_bears _) ?h0 (fun b y C X => SpAt X b y ∧ w9.heap.size ≤ b ∧ C b ∧ (∃ v0, X.heap[v9.heap.size]? = some (.cells #[v0] 28 (0, 0)) ∧ v0.ownBlock ≠ some b)) ?hB ?assign ?body ?done ?stop
        case hc0 => rintro k rfl; exact ⟨.inl rfl, by omega⟩
        case h0 => exact ⟨.slice none 0 0, (H9.out.block v9.heap.size (by simp)).trans HBX.out.2, rfl, World.ownsRow_nil _ _ _ _, (fun k hk => by cases hk), HBX.out.1.trans (H9.out.mono HBX.out.1.size)⟩
        case hB =>
          rintro b y _ C X Y ⟨h1, h2, h3, v0, h4, h5⟩ hz hs
          exact ⟨hs.heap (.inr h3) h1, h2, h3, v0, hs.heap (.inl (by omega)) h4, h5⟩
        case assign =>
          rintro l' pre y C X K ⟨v, h1, h2, h3, h4, h5⟩ hp hc hz hK
          have b1 := bal (w := X) (.cells #[.int .i64 y.1, .int .i64 y.2] 24)
          have h1' := (b1.block _ (lt_of_block h1)).trans h1
          have HK := Lib.hid (hK X.heap.size (fun k => C k ∨ k = X.heap.size) _ ⟨Steps.of_below b1 _, fun k hk => by rcases hk with hk | rfl; exact .inl hk; exact .inr ⟨Nat.le_refl _, by simp⟩⟩
            ⟨v, h1', .inl h2, own_later h3 b1, fun k hk => ⟨.inl (h4 k hk).1, (h4 k hk).2⟩, h5.trans (b1.mono h5.size)⟩ ⟨sp_new X y, hz, .inr rfl, v, h1', fun e => by have := (own_in h3 e).1; omega⟩)
          clear hK h1 h1' h2 h3 h4 h5 hp hc b1
          gi_wp2
          exact HK.out
        case body =>
          rintro l' pre x b C X ⟨v, h1, h2, h3, h4, h5⟩ ⟨hyb, hb, hcb, v0, hv0, hvb0⟩ hp hcc hz
          obtain ⟨i0, hi, hz0, hz1, hz2⟩ := info_split info_span
          have hlen : pre.length < 1000000 := by
            have := hp.length_le
            have h6 := HLN.out
            rw [List.length_append, List.length_singleton] at this
            omega
          have cB := (cell_of_row X v9.heap.size 0 _ _ (0, 0) h1).trans rfl
          have e0 := hyb.c0; have e1 := hyb.c1
          have hsrc := span_src X x
          have own2 := own_later h3 (bal (w := X) (.cells #[.int .i64 x.1, .int .i64 x.2] 24))
          have d1 := kcell (bal (w := X) (.cells #[.int .i64 x.1, .int .i64 x.2] 24)) cB
          have HN := Lib.hid (fun (w1 : World) (v' : Value) => told_next (w := v9) (X := X) (w1 := w1) (pre := pre) (x := x) (v' := v') h1 h2 h4 h5 (Nat.le_refl _) rfl)
          have hvb := fun k hk => (own_in h3 (k := k) hk).2
          have HV := Lib.hid hvb
          have HO := Lib.hid own2
          have HSRC := Lib.hid hsrc
          have H1 := Lib.hid h1
          have H4 := Lib.hid h4
          clear h1 h2 h3 h4 h5 hp hcc hvb own2 hsrc HSEQ HBX hv0 hvb0 hyb hcb hb
          simp only [List.setIfInBounds_toArray, List.set_cons_zero, List.set_cons_succ]
          gi_wp2_with (gi_at_builtin; refine wpListIn_append_sz _ rfl (.tmp 114) (.tmp 116) 28 28 rfl v9.heap.size 24 i0 (.agg #[.int .i64 0, .int .i64 0]) 2 16 Try.underlying28 hi hz0 hz1 (by decide) hz2 rfl v pre.length (spCells pre) rfl HO.out _ rfl 1 [.int .i64 x.1, .int .i64 x.2] HSRC.out (by unfold maxLen; omega) (by omega) (by simp; omega) ?_)
          intro a' cap' w1 ho hg hw
          obtain ⟨C', hr, hg'⟩ := HN.out w1 _ ho hg (by simpa using hw) HV.out
          have HF := Lib.hid (fun (aa : Act) => show rPost (ToldI v9 v9.heap.size) NoX (pre ++ [x]) C X .normal aa _ from ⟨C', hr, hg'⟩)
          have hB1 : w1.heap[v9.heap.size]? = some (.cells #[v] 28 (0, 0)) := (hg.block v9.heap.size (by simp; have := lt_of_block H1.out; omega) (fun e => (H4.out _ e.symm).2 rfl)).trans ((bal (w := X) (.cells #[.int .i64 x.1, .int .i64 x.2] 24)).block _ (lt_of_block H1.out) |>.trans H1.out)
          have g0 : w1.cell? ⟨v9.heap.size, 0, none⟩ = some v := (cell_of_row w1 v9.heap.size 0 _ _ (0, 0) hB1).trans rfl
          have g1 : w1.frozen? ⟨v9.heap.size, 0, none⟩ = false := by simp [World.frozen?, hB1]
          clear hB1 ho hg hw HO HSRC HN HV H1 H4 cB d1 e0 e1 hr hg'
          gi_wp2
          exact HF.out _
        case done =>
          rintro D C X hD hCD ⟨v, h1, h2, h3, h4, h5⟩ hK
          obtain ⟨ag, cg, rfl, hsg, _⟩ := sls_of_own h3
          have hDw : w.heap.size ≤ D := by have := HKA.out.below.size; omega
          have K0' : PS w s bs B L S1 a2 c2 X ∧ SlS X ag (gapsL L s).length cg (gapsL L s) ∧ X.heap[v9.heap.size]? = some (.cells #[.slice ag (gapsL L s).length cg] 28 (0, 0)) ∧ X.heap[D]? = some (.deferred (some [])) := ⟨HKA.out.later h5, hsg, h1, hK⟩
          clear h1 h2 h3 h4 h5 hK hsg hD hCD HSEQ HBX H9 HKA
          generalize v9.heap.size = bg at *
          have HHB := Lib.hid (fun (X : World) (K : PS w s bs B L S1 a2 c2 X ∧ SlS X ag (gapsL L s).length cg (gapsL L s) ∧ X.heap[bg]? = some (.cells #[.slice ag (gapsL L s).length cg] 28 (0, 0)) ∧ X.heap[D]? = some (.deferred (some []))) => show X.cell? ⟨bs, 0, none⟩ = some (.int .i64 s.1) ∧ X.cell? ⟨bs, 1, none⟩ = some (.int .i64 s.2) ∧ X.cell? ⟨bg, 0, none⟩ = some (.slice ag (gapsL L s).length cg) from ⟨K.1.sp.c0, K.1.sp.c1, cofr K.2.2.1 0 _ rfl⟩)
          have HLB := Lib.hid (fun (X Y : World) (K : PS w s bs B L S1 a2 c2 X ∧ SlS X ag (gapsL L s).length cg (gapsL L s) ∧ X.heap[bg]? = some (.cells #[.slice ag (gapsL L s).length cg] 28 (0, 0)) ∧ X.heap[D]? = some (.deferred (some []))) (hb : Below X.heap.size X Y) => show PS w s bs B L S1 a2 c2 Y ∧ SlS Y ag (gapsL L s).length cg (gapsL L s) ∧ Y.heap[bg]? = some (.cells #[.slice ag (gapsL L s).length cg] 28 (0, 0)) ∧ Y.heap[D]? = some (.deferred (some [])) from
            ⟨K.1.later hb, K.2.1.later hb, (hb.block _ (lt_of_block K.2.2.1)).trans K.2.2.1, (hb.block _ (lt_of_block K.2.2.2)).trans K.2.2.2⟩)
          have HWI := Lib.hid (fun (X : World) (K : PS w s bs B L S1 a2 c2 X) => within_own K.own HQ.out.1 (by have := HQ.out.2; omega) s)
          have HRW := Lib.hid (fun (X : World) (K : PS w s bs B L S1 a2 c2 X) => rwithin_any K.sl HQ.out.1 s)
          have HGA := Lib.hid (fun (X : World) (K : PS w s bs B L S1 a2 c2 X) => gap_own K.own HQ.out.1 (by have := HQ.out.2; omega) off)
          have HRG := Lib.hid (fun (X : World) (K : PS w s bs B L S1 a2 c2 X) => rgap_any K.sl off)
          have HGS := Lib.hid (fun (X : World) (K : PS w s bs B L S1 a2 c2 X) => rgaps_any K.sl HQ.out.1 (by have := HQ.out.2; omega) s)
          have HEND := Lib.hid (fun (X : World) (K : PS w s bs B L S1 a2 c2 X) => show Below w.heap.size w (X.putObj D (.deferred none)) from K.below.trans ((rng.Steps.putObj (fun k => k < w.heap.size) X D _ (by omega)).below (n := w.heap.size) K.below.size (fun k hk => hk)))
          generalize withinL L s = zw at *
          generalize gapL L off = zg at *
          have K0 := HLB.out _ _ K0' (Below.refl _ _).drew
          clear K0'
          have hHeld := HHB.out _ K0
          gi_wp2
          refine wpIn_region_in (S := (fun w' => w'.cell? ⟨bs, 0, none⟩ = some (.int .i64 s.1) ∧ w'.cell? ⟨bs, 1, none⟩ = some (.int .i64 s.2) ∧ w'.cell? ⟨bg, 0, none⟩ = some (.slice ag (gapsL L s).length cg))) hMO ?_
          refine wpAnyH_take (i := 0) (oi := _) (v := ?_) rfl (by kernel_rfl) (by kernel_rfl) (by kernel_rfl) (fun _ _ _ h => h) (Or.inl ⟨by rfl, ?_⟩) (by assumption) ?_
          rotate_left
          · (first | (intro v hSw; (try dsimp only at hSw); go_simp; done) | (intro v hSw; (try dsimp only at hSw); go_simp; with_reducible rfl))
          (try simp only [List.getElem_toArray, List.getElem_cons_succ, List.getElem_cons_zero, Act.put, List.setIfInBounds_toArray, List.set_cons_zero, List.set_cons_succ])
          refine wpAnyH_take (i := 1) (oi := _) (v := ?_) rfl (by kernel_rfl) (by kernel_rfl) (by kernel_rfl) (fun _ _ _ h => h) (Or.inl ⟨by rfl, ?_⟩) (by assumption) ?_
          rotate_left
          · (first | (intro v hSw; (try dsimp only at hSw); go_simp; done) | (intro v hSw; (try dsimp only at hSw); go_simp; with_reducible rfl))
          (try simp only [List.getElem_toArray, List.getElem_cons_succ, List.getElem_cons_zero, Act.put, List.setIfInBounds_toArray, List.set_cons_zero, List.set_cons_succ])
          refine wpAnyH_take (i := 3) (oi := _) (v := ?_) rfl (by kernel_rfl) (by kernel_rfl) (by kernel_rfl) (fun _ _ _ h => h) (Or.inl ⟨by rfl, ?_⟩) (by assumption) ?_
          rotate_left
          · (first | (intro v hSw; (try dsimp only at hSw); go_simp; done) | (intro v hSw; (try dsimp only at hSw); go_simp; with_reducible rfl))
          (try simp only [List.getElem_toArray, List.getElem_cons_succ, List.getElem_cons_zero, Act.put, List.setIfInBounds_toArray, List.set_cons_zero, List.set_cons_succ])
          refine wpAnyH_take (i := 4) (oi := _) (v := ?_) rfl (by kernel_rfl) (by kernel_rfl) (by kernel_rfl) (fun _ _ _ h => h) (Or.inl ⟨by rfl, ?_⟩) (by assumption) ?_
          rotate_left
          · (first | (intro v hSw; (try dsimp only at hSw); go_simp; done) | (intro v hSw; (try dsimp only at hSw); go_simp; with_reducible rfl))
          (try simp only [List.getElem_toArray, List.getElem_cons_succ, List.getElem_cons_zero, Act.put, List.setIfInBounds_toArray, List.set_cons_zero, List.set_cons_succ])
          refine wpAnyH_ready (rs := [2]) (by kernel_rfl) (by simp) ?_
          refine AllReadyH.cons (o := _) rfl (fun K hK => ?_) AllReadyH.nil
          go_simp
          (refine (HWI.out _ K0.1).mono ?_)
          rintro e v2 ⟨rfl, h2⟩
          have K1 := HLB.out _ _ K0 h2
          clear K0 hHeld
          refine hK.out _ _ ?_ (fun hHeld => ?_)
          · ((try dsimp only); exact HHB.out _ K1)
          clear hK K
          (try simp only [List.getElem_toArray, List.getElem_cons_succ, List.getElem_cons_zero, Act.put, List.setIfInBounds_toArray, List.set_cons_zero, List.set_cons_succ])
          refine wpAnyH_ready (rs := [5]) (by kernel_rfl) (by simp) ?_
          refine AllReadyH.cons (o := _) rfl (fun K hK => ?_) AllReadyH.nil
          go_simp
          (refine (HRW.out _ K1.1).mono ?_)
          rintro e v5 ⟨rfl, h5⟩
          have K2 := HLB.out _ _ K1 h5
          clear K1 hHeld
          refine hK.out _ _ ?_ (fun hHeld => ?_)
          · ((try dsimp only); exact HHB.out _ K2)
          clear hK K
          (try simp only [List.getElem_toArray, List.getElem_cons_succ, List.getElem_cons_zero, Act.put, List.setIfInBounds_toArray, List.set_cons_zero, List.set_cons_succ])
          refine wpAnyH_take (i := 6) (oi := _) (v := ?_) rfl (by kernel_rfl) (by kernel_rfl) (by kernel_rfl) (fun _ _ _ h => h) (Or.inl ⟨by rfl, ?_⟩) (by assumption) ?_
          rotate_left
          · (first | (intro v hSw; (try dsimp only at hSw); go_simp; done) | (intro v hSw; (try dsimp only at hSw); go_simp; with_reducible rfl))
          (try simp only [List.getElem_toArray, List.getElem_cons_succ, List.getElem_cons_zero, Act.put, List.setIfInBounds_toArray, List.set_cons_zero, List.set_cons_succ])
          refine wpAnyH_take (i := 7) (oi := _) (v := ?_) rfl (by kernel_rfl) (by kernel_rfl) (by kernel_rfl) (fun _ _ _ h => h) (Or.inl ⟨by rfl, ?_⟩) (by assumption) ?_
          rotate_left
          · (first | (intro v hSw; (try dsimp only at hSw); go_simp; done) | (intro v hSw; (try dsimp only at hSw); go_simp; with_reducible rfl))
          (try simp only [List.getElem_toArray, List.getElem_cons_succ, List.getElem_cons_zero, Act.put, List.setIfInBounds_toArray, List.set_cons_zero, List.set_cons_succ])
          refine wpAnyH_take (i := 8) (oi := _) (v := ?_) rfl (by kernel_rfl) (by kernel_rfl) (by kernel_rfl) (fun _ _ _ h => h) (Or.inl ⟨by rfl, ?_⟩) (by assumption) ?_
          rotate_left
          · (first | (intro v hSw; (try dsimp only at hSw); go_simp; done) | (intro v hSw; (try dsimp only at hSw); go_simp; with_reducible rfl))
          (try simp only [List.getElem_toArray, List.getElem_cons_succ, List.getElem_cons_zero, Act.put, List.setIfInBounds_toArray, List.set_cons_zero, List.set_cons_succ])
          refine wpAnyH_take (i := 9) (oi := _) (v := ?_) rfl (by kernel_rfl) (by kernel_rfl) (by kernel_rfl) (fun _ _ _ h => h) (Or.inl ⟨by rfl, ?_⟩) (by assumption) ?_
          rotate_left
          · (first | (intro v hSw; (try dsimp only at hSw); go_simp; done) | (intro v hSw; (try dsimp only at hSw); go_simp; with_reducible rfl))
          (try simp only [List.getElem_toArray, List.getElem_cons_succ, List.getElem_cons_zero, Act.put, List.setIfInBounds_toArray, List.set_cons_zero, List.set_cons_succ])
          refine wpAnyH_take (i := 11) (oi := _) (v := ?_) rfl (by kernel_rfl) (by kernel_rfl) (by kernel_rfl) (fun _ _ _ h => h) (Or.inl ⟨by rfl, ?_⟩) (by assumption) ?_
          rotate_left
          · (first | (intro v hSw; (try dsimp only at hSw); go_simp; done) | (intro v hSw; (try dsimp only at hSw); go_simp; with_reducible rfl))
          (try simp only [List.getElem_toArray, List.getElem_cons_succ, List.getElem_cons_zero, Act.put, List.setIfInBounds_toArray, List.set_cons_zero, List.set_cons_succ])
          refine wpAnyH_take (i := 12) (oi := _) (v := ?_) rfl (by kernel_rfl) (by kernel_rfl) (by kernel_rfl) (fun _ _ _ h => h) (Or.inl ⟨by rfl, ?_⟩) (by assumption) ?_
          rotate_left
          · (first | (intro v hSw; (try dsimp only at hSw); go_simp; done) | (intro v hSw; (try dsimp only at hSw); go_simp; with_reducible rfl))
          (try simp only [List.getElem_toArray, List.getElem_cons_succ, List.getElem_cons_zero, Act.put, List.setIfInBounds_toArray, List.set_cons_zero, List.set_cons_succ])
          refine wpAnyH_ready (rs := [10]) (by kernel_rfl) (by simp) ?_
          refine AllReadyH.cons (o := _) rfl (fun K hK => ?_) AllReadyH.nil
          go_simp
          (refine (HGA.out _ K2.1).mono ?_)
          rintro e v10 ⟨rfl, h10⟩
          have K3 := HLB.out _ _ K2 h10
          clear K2 hHeld
          refine hK.out _ _ ?_ (fun hHeld => ?_)
          · ((try dsimp only); exact HHB.out _ K3)
          clear hK K
          (try simp only [List.getElem_toArray, List.getElem_cons_succ, List.getElem_cons_zero, Act.put, List.setIfInBounds_toArray, List.set_cons_zero, List.set_cons_succ])
          refine wpAnyH_ready (rs := [13]) (by kernel_rfl) (by simp) ?_
          refine AllReadyH.cons (o := _) rfl (fun K hK => ?_) AllReadyH.nil
          go_simp
          (refine (HRG.out _ K3.1).mono ?_)
          rintro e v13 ⟨rfl, h13⟩
          have K4 := HLB.out _ _ K3 h13
          clear K3 hHeld
          refine hK.out _ _ ?_ (fun hHeld => ?_)
          · ((try dsimp only); exact HHB.out _ K4)
          clear hK K
          (try simp only [List.getElem_toArray, List.getElem_cons_succ, List.getElem_cons_zero, Act.put, List.setIfInBounds_toArray, List.set_cons_zero, List.set_cons_succ])
          refine wpAnyH_take (i := 14) (oi := _) (v := ?_) rfl (by kernel_rfl) (by kernel_rfl) (by kernel_rfl) (fun _ _ _ h => h) (Or.inl ⟨by rfl, ?_⟩) (by assumption) ?_
          rotate_left
          · (first | (intro v hSw; (try dsimp only at hSw); go_simp; done) | (intro v hSw; (try dsimp only at hSw); go_simp; with_reducible rfl))
          (try simp only [List.getElem_toArray, List.getElem_cons_succ, List.getElem_cons_zero, Act.put, List.setIfInBounds_toArray, List.set_cons_zero, List.set_cons_succ])
          refine wpAnyH_take (i := 15) (oi := _) (v := ?_) rfl (by kernel_rfl) (by kernel_rfl) (by kernel_rfl) (fun _ _ _ h => h) (Or.inl ⟨by rfl, ?_⟩) (by assumption) ?_
          rotate_left
          · (first | (intro v hSw; (try dsimp only at hSw); go_simp; done) | (intro v hSw; (try dsimp only at hSw); go_simp; with_reducible rfl))
          (try simp only [List.getElem_toArray, List.getElem_cons_succ, List.getElem_cons_zero, Act.put, List.setIfInBounds_toArray, List.set_cons_zero, List.set_cons_succ])
          refine wpAnyH_take (i := 16) (oi := _) (v := ?_) rfl (by kernel_rfl) (by kernel_rfl) (by kernel_rfl) (fun _ _ _ h => h) (Or.inl ⟨by rfl, ?_⟩) (by assumption) ?_
          rotate_left
          · (first | (intro v hSw; (try dsimp only at hSw); go_simp; done) | (intro v hSw; (try dsimp only at hSw); go_simp; with_reducible rfl))
          (try simp only [List.getElem_toArray, List.getElem_cons_succ, List.getElem_cons_zero, Act.put, List.setIfInBounds_toArray, List.set_cons_zero, List.set_cons_succ])
          refine wpAnyH_take (i := 17) (oi := _) (v := ?_) rfl (by kernel_rfl) (by kernel_rfl) (by kernel_rfl) (fun _ _ _ h => h) (Or.inl ⟨by rfl, ?_⟩) (by assumption) ?_
          rotate_left
          · (first | (intro v hSw; (try dsimp only at hSw); go_simp; done) | (intro v hSw; (try dsimp only at hSw); go_simp; with_reducible rfl))
          (try simp only [List.getElem_toArray, List.getElem_cons_succ, List.getElem_cons_zero, Act.put, List.setIfInBounds_toArray, List.set_cons_zero, List.set_cons_succ])
          refine wpAnyH_take (i := 18) (oi := _) (v := ?_) rfl (by kernel_rfl) (by kernel_rfl) (by kernel_rfl) (fun _ _ _ h => h) (Or.inl ⟨by rfl, ?_⟩) (by assumption) ?_
          rotate_left
          · (first | (intro v hSw; (try dsimp only at hSw); go_simp; done) | (intro v hSw; (try dsimp only at hSw); go_simp; with_reducible rfl))
          (try simp only [List.getElem_toArray, List.getElem_cons_succ, List.getElem_cons_zero, Act.put, List.setIfInBounds_toArray, List.set_cons_zero, List.set_cons_succ])
          refine wpAnyH_take (i := 19) (oi := _) (v := ?_) rfl (by kernel_rfl) (by kernel_rfl) (by kernel_rfl) (fun _ _ _ h => h) (Or.inl ⟨by rfl, ?_⟩) (by assumption) ?_
          rotate_left
          · (first | (intro v hSw; (try dsimp only at hSw); go_simp; done) | (intro v hSw; (try dsimp only at hSw); go_simp; with_reducible rfl))
          (try simp only [List.getElem_toArray, List.getElem_cons_succ, List.getElem_cons_zero, Act.put, List.setIfInBounds_toArray, List.set_cons_zero, List.set_cons_succ])
          refine wpAnyH_ready (rs := [20]) (by kernel_rfl) (by simp) ?_
          refine AllReadyH.cons (o := _) rfl (fun K hK => ?_) AllReadyH.nil
          go_simp
          (refine (HGS.out _ K4.1).mono ?_)
          rintro e v20 ⟨ar, nr, cr, rfl, hsr, h20⟩
          have K5 := HLB.out _ _ K4 h20
          clear K4 hHeld
          have HSA := Lib.hid (rsame_refl K5.2.1 hsr)
          clear hsr
          refine hK.out _ _ ?_ (fun hHeld => ?_)
          · ((try dsimp only); exact HHB.out _ K5)
          clear hK K
          (try simp only [List.getElem_toArray, List.getElem_cons_succ, List.getElem_cons_zero, Act.put, List.setIfInBounds_toArray, List.set_cons_zero, List.set_cons_succ])
          refine wpAnyH_ready (rs := [21]) (by kernel_rfl) (by simp) ?_
          refine AllReadyH.cons (o := _) rfl (fun K hK => ?_) AllReadyH.nil
          go_simp
          (refine (HSA.out).mono ?_)
          rintro e v21 ⟨rfl, h21⟩
          have K6 := HLB.out _ _ K5 h21
          clear K5 hHeld
          refine hK.out _ _ ?_ (fun hHeld => ?_)
          · ((try dsimp only); exact HHB.out _ K6)
          clear hK K
          (try simp only [List.getElem_toArray, List.getElem_cons_succ, List.getElem_cons_zero, Act.put, List.setIfInBounds_toArray, List.set_cons_zero, List.set_cons_succ])
          refine wpAnyH_take (i := 22) (oi := _) (v := ?_) rfl (by kernel_rfl) (by kernel_rfl) (by kernel_rfl) (fun _ _ _ h => h) (Or.inl ⟨by rfl, ?_⟩) (by assumption) ?_
          rotate_left
          · (first | (intro v hSw; (try dsimp only at hSw); go_simp; done) | (intro v hSw; (try dsimp only at hSw); go_simp; with_reducible rfl))
          (try simp only [List.getElem_toArray, List.getElem_cons_succ, List.getElem_cons_zero, Act.put, List.setIfInBounds_toArray, List.set_cons_zero, List.set_cons_succ])
          refine wpAnyH_take (i := 23) (oi := _) (v := ?_) rfl (by kernel_rfl) (by kernel_rfl) (by kernel_rfl) (fun _ _ _ h => h) (Or.inl ⟨by rfl, ?_⟩) (by assumption) ?_
          rotate_left
          · (first | (intro v hSw; (try dsimp only at hSw); go_simp; done) | (intro v hSw; (try dsimp only at hSw); go_simp; with_reducible rfl))
          (try simp only [List.getElem_toArray, List.getElem_cons_succ, List.getElem_cons_zero, Act.put, List.setIfInBounds_toArray, List.set_cons_zero, List.set_cons_succ])
          refine wpAnyH_ready (rs := [24]) (by kernel_rfl) (by simp) ?_
          refine AllReadyH.cons (o := _) rfl (fun K hK => ?_) AllReadyH.nil
          go_simp
          (refine (known_any _).mono ?_)
          rintro e v24 ⟨rfl, h24⟩
          have K7 := HLB.out _ _ K6 h24
          clear K6 hHeld
          refine hK.out _ _ ?_ (fun hHeld => ?_)
          · ((try dsimp only); exact HHB.out _ K7)
          clear hK K
          (try simp only [List.getElem_toArray, List.getElem_cons_succ, List.getElem_cons_zero, Act.put, List.setIfInBounds_toArray, List.set_cons_zero, List.set_cons_succ])
          refine wpAnyH_take (i := 25) (oi := _) (v := ?_) rfl (by kernel_rfl) (by kernel_rfl) (by kernel_rfl) (fun _ _ _ h => h) (Or.inl ⟨by rfl, ?_⟩) (by assumption) ?_
          rotate_left
          · (first | (intro v hSw; (try dsimp only at hSw); go_simp; done) | (intro v hSw; (try dsimp only at hSw); go_simp; with_reducible rfl))
          (try simp only [List.getElem_toArray, List.getElem_cons_succ, List.getElem_cons_zero, Act.put, List.setIfInBounds_toArray, List.set_cons_zero, List.set_cons_succ])
          refine wpAnyH_take (i := 26) (oi := _) (v := ?_) rfl (by kernel_rfl) (by kernel_rfl) (by kernel_rfl) (fun _ _ _ h => h) (Or.inl ⟨by rfl, ?_⟩) (by assumption) ?_
          rotate_left
          · (first | (intro v hSw; (try dsimp only at hSw); go_simp; done) | (intro v hSw; (try dsimp only at hSw); go_simp; with_reducible rfl))
          (try simp only [List.getElem_toArray, List.getElem_cons_succ, List.getElem_cons_zero, Act.put, List.setIfInBounds_toArray, List.set_cons_zero, List.set_cons_succ])
          refine wpAnyH_done (by kernel_rfl) ?_ _
          refine OnlyN.normal ?_
          have HF := Lib.hid (And.intro K7.2.2.2 (HEND.out _ K7.1))
          clear K7 hHeld HEND HGS HRG HGA HRW HWI HLB HHB HSA
          gi_wp2
          refine ⟨by simp, .inl ⟨_, _, rfl, run_takeDeferred HF.out.1, ?_⟩⟩
          exact ⟨.bool true, by simp [results, Try.results3, go_sem], rfl, HF.out.2⟩
        case stop =>
          rintro D c pre C X _ _ h _
          exact h.elim
end Go.Proofs.Ytgjkbejlfclpoaa.rn
