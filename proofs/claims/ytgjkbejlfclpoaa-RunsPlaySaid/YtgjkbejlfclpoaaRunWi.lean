/-
  The reference's With.
-/
import Derived.Test.YtgjkbejlfclpoaaRunJ
namespace Go.Proofs.Ytgjkbejlfclpoaa.rn
open Go.RowKit Go.Shelf aid mem rng sp
attribute [local go_sem ↓] Go.wp_at_zero Go.wp_at_succ
set_option linter.unusedVariables false
set_option linter.unusedSimpArgs false

theorem sls_two (X : World) (y x : Sp) : SlS (X.alloc (.cells #[.int .i64 y.1, .int .i64 y.2, .int .i64 x.1, .int .i64 x.2] 24)) (some ⟨X.heap.size, 0, none⟩) 2 2 [y, x] := by
  refine ⟨rfl, Nat.le_refl _, by decide, (fun h => by cases h), fun _ => ⟨X.heap.size, 0, rfl, fun i hi => ?_⟩⟩
  have hr := heap_alloc_new X (.cells #[.int .i64 y.1, .int .i64 y.2, .int .i64 x.1, .int .i64 x.2] 24)
  rw [cell_of_row _ X.heap.size _ _ _ (0, 0) hr, cell_of_row _ X.heap.size _ _ _ (0, 0) hr]
  rcases (show i = 0 ∨ i = 1 by omega) with rfl | rfl
  · exact ⟨rfl, rfl⟩
  · exact ⟨rfl, rfl⟩
/-- a span in its box, and one that grows in another -/
structure WA (w : World) (s : Sp) (bs pa : Nat) (y : Sp) (X : World) : Prop where
  sp : SpAt X bs s
  all : SpAt X pa y
  below : Below w.heap.size w X
  ge : w.heap.size ≤ bs ∧ w.heap.size ≤ pa
  ne : bs ≠ pa
theorem WA.later {w : World} {s y : Sp} {bs pa : Nat} {X Y : World} (h : WA w s bs pa y X) (hb : Below X.heap.size X Y) : WA w s bs pa y Y :=
  ⟨h.sp.later hb, h.all.later hb, h.below.trans (hb.mono h.below.size), h.ge, h.ne⟩
theorem WA.al {w : World} {s y : Sp} {bs pa : Nat} {X : World} (h : WA w s bs pa y X) (o : Obj) : WA w s bs pa y (X.alloc o) := h.later (bal o)
theorem WA.put {w : World} {s y : Sp} {bs pa : Nat} {X : World} (h : WA w s bs pa y X) (a b : Int) : WA w s bs pa (a, b) ((X.setCell ⟨pa, 0, none⟩ (.int .i64 a)).setCell ⟨pa, 1, none⟩ (.int .i64 b)) := by
  have hk := kput X pa (.int .i64 a) (.int .i64 b)
  exact ⟨h.sp.keep hk (by simpa using h.ne), h.all.put a b, h.below.trans (hk.below (B := w.heap.size) (fun k hk => by simp at hk; subst hk; exact h.ge.2) h.below.size), h.ge, h.ne⟩
theorem all_take {l : List Sp} (s : Sp) {k : Nat} (hk : k < l.length) : allL s (l.take (k + 1)) = if touchB (l.getD k (0, 0)) s = true then hullP [allL s (l.take k), l.getD k (0, 0)] else allL s (l.take k) := by
  rw [show l.getD k (0, 0) = l[k] from by simp [List.getD, hk]]
  unfold allL
  rw [List.take_succ_eq_append_getElem hk, List.foldl_append]
  rfl
theorem put_take {l : List Sp} (a : Sp) {k : Nat} (hk : k < l.length) : putL a (l.take (k + 1)) = putS a (putL a (l.take k)) (l.getD k (0, 0)) := by
  rw [show l.getD k (0, 0) = l[k] from by simp [List.getD, hk]]
  unfold putL
  rw [List.take_succ_eq_append_getElem hk, List.foldl_append]
  rfl
theorem put_len (a : Sp) (l : List Sp) : ∀ k, (putL a (l.take k)).1.length ≤ 2 * k := by
  intro k
  induction k with
  | zero => simp [putL]
  | succ k ih =>
    by_cases hk : k < l.length
    · rw [put_take a hk]
      unfold putS
      split
      · omega
      · split
        · simp only [List.length_append, List.length_singleton]; omega
        · simp only [List.length_append, List.length_singleton]; omega
    · rw [List.take_of_length_le (by omega)] at ih ⊢
      omega
set_option maxRecDepth 100000 in
set_option maxHeartbeats 8000000 in
theorem rwith_any {w : World} {a : Option Addr} {n cap : Nat} {l : List Sp} (h : SlS w a n cap l) (hn : n ≤ 100000) (s : Sp) : Calls Try.prog 28 #[.slice a n cap, spV s] w fun e w' => ∃ a' n' cap', e = .returned (.slice a' n' cap') ∧ SlS w' a' n' cap' (refWi l s) ∧ Below w.heap.size w w' ∧ ∀ x, a' = some x → (a = some x ∧ n' = n) ∨ w.heap.size ≤ x.block := by
  have hle := h.le
  have hmost := h.most
  have hlen := h.len
  unfold maxLen at hmost
  have HC := Lib.hid (fun h0 => h.cells h0)
  have b1 := bal (w := w) (.cells #[.int .i64 s.1, .int .i64 s.2] 24)
  have s1 := sp_new w s
  have c0 := s1.c0; have c1 := s1.c1
  have HLS := Lib.hid (fun X => rlen_any s X)
  have HRF := Lib.hid (show refWi l s = if lenI s = 0 then l else endL (allL s l) (putL (allL s l) l) from rfl)
  have HTK := Lib.hid (fun k (hk : k < n) => all_take (l := l) s (k := k) (by omega))
  have HEN := Lib.hid (show allL s (l.take n) = allL s l from by rw [List.take_of_length_le (by omega)])
  have HB1 := Lib.hid (And.intro b1 s1)
  have HS := Lib.hid h
  have HLN := Lib.hid hlen
  clear b1 s1 h hlen
  obtain ⟨i0, hi, hz0, hz1, hz2⟩ := info_split info_span
  generalize lenI s = z at *
  go_enter Try.func28, Try.ntmps28
  go_wp2_with fail
  refine (HLS.out _).mono ?_
  rintro e w2 ⟨rfl, h2⟩
  obtain ⟨b1, s1⟩ := HB1.out
  have b2 := b1.trans (h2.mono b1.size)
  have s2 := s1.later h2
  clear b1 s1 h2 c0 c1 HB1
  by_cases hz : z = 0
  · subst hz
    rw [if_pos rfl] at HRF
    have HF := Lib.hid (show SlS w2 a n cap (refWi l s) from by rw [HRF.out]; exact HS.out.later b2)
    clear HC HLS HTK HEN HRF
    go_wp2
    go_ret
    exact ⟨_, _, _, rfl, HF.out, b2, fun x hx => .inl ⟨hx, rfl⟩⟩
  rw [if_neg hz] at HRF
  have b3 := bal (w := w2) (.cells #[.int .i64 s.1, .int .i64 s.2] 24)
  have K0 : WA w s w.heap.size w2.heap.size s (w2.alloc (.cells #[.int .i64 s.1, .int .i64 s.2] 24)) := ⟨s2.later b3, sp_new w2 s, b2.trans (b3.mono b2.size), ⟨Nat.le_refl _, b2.size⟩, by have := s2.lt; omega⟩
  have HK0 := Lib.hid K0
  have c0 := s2.c0; have c1 := s2.c1
  clear K0 s2 b2 b3
  generalize w.heap.size = bs at *
  go_wp2_with fail
  rename (z == 0) = false => hzz
  simp only [hzz]
  clear hz hzz c0 c1
  generalize w2.heap.size = pa at *
  go_loopw [6] (fun s6 wr => ∃ k : Nat, k ≤ n ∧ s6 = .int .i64 k ∧ Hid (WA w s bs pa (allL s (l.take k)) wr)) (fun s6 _ => n - (intOf s6).toNat)
  case atStart => exact ⟨0, Nat.zero_le _, rfl, HK0⟩
  case round =>
    obtain ⟨k, hk, rfl, HK⟩ := hrel
    by_cases hlt : k < n
    · obtain ⟨g, off, rfl, hc⟩ := HC.out (by omega)
      obtain ⟨m0, m1⟩ := hc k hlt
      have HTK1 := Lib.hid (HTK.out k hlt)
      generalize l.getD k (0, 0) = x at *
      generalize hy : allL s (l.take k) = y at *
      have HKP := Lib.hid (fun X (y' : Sp) (K : WA w s bs pa y' X) => show X.cell? ⟨bs, 0, none⟩ = some (.int .i64 s.1) ∧ X.cell? ⟨bs, 1, none⟩ = some (.int .i64 s.2) ∧ X.cell? ⟨g, off + k * 2, none⟩ = some (.int .i64 x.1) ∧ X.cell? ⟨g, off + k * 2 + 1, none⟩ = some (.int .i64 x.2) from
        ⟨K.sp.c0, K.sp.c1, (K.below.cell (World.block_lt_of_cell? w _ m0)).trans m0, (K.below.cell (World.block_lt_of_cell? w _ m1)).trans m1⟩)
      have HTO := Lib.hid (fun X => rtouch_any x s X)
      clear m0 m1 hc HC HTK HEN HRF HS hy
      generalize touchB x s = tb at *
      have Kc := HK.out.later (Below.refl _ _).drew
      go_upto_region 7 with (fail)
      go_cut [26] from 21 to 33 (fun s26 wx => s26 = .bool tb ∧ Hid (WA w s bs pa y wx))
      case first =>
        refine wp_region_noPanic ?_
        refine wp_region_held_drew (S := (fun w' => w'.cell? ⟨bs, 0, none⟩ = some (.int .i64 s.1) ∧ w'.cell? ⟨bs, 1, none⟩ = some (.int .i64 s.2) ∧ w'.cell? ⟨g, off + k * 2, none⟩ = some (.int .i64 x.1) ∧ w'.cell? ⟨g, off + k * 2 + 1, none⟩ = some (.int .i64 x.2))) (by kernel_rfl) ?_ (fun hHeld => ?_)
        · ((try dsimp only); exact HKP.out _ _ Kc)
        generalize wr.drew = C0 at *
        refine wpAnyH_take (i := 0) (oi := _) (v := ?_) rfl (by kernel_rfl) (by kernel_rfl) (by kernel_rfl) (fun _ _ _ h => h) (Or.inl ⟨by rfl, ?_⟩) (by assumption) ?_
        rotate_left
        · (first | (intro v hSw; (try dsimp only at hSw); go_simp; done) | (intro v hSw; (try dsimp only at hSw); go_simp; with_reducible rfl))
        (try simp only [List.getElem_toArray, List.getElem_cons_succ, List.getElem_cons_zero, Act.put, List.setIfInBounds_toArray, List.set_cons_zero, List.set_cons_succ])
        refine wpAnyH_take (i := 1) (oi := _) (v := ?_) rfl (by kernel_rfl) (by kernel_rfl) (by kernel_rfl) (fun _ _ _ h => h) (Or.inl ⟨by rfl, ?_⟩) (by assumption) ?_
        rotate_left
        · (first | (intro v hSw; (try dsimp only at hSw); go_simp; done) | (intro v hSw; (try dsimp only at hSw); go_simp; with_reducible rfl))
        (try simp only [List.getElem_toArray, List.getElem_cons_succ, List.getElem_cons_zero, Act.put, List.setIfInBounds_toArray, List.set_cons_zero, List.set_cons_succ])
        refine wpAnyH_take (i := 2) (oi := _) (v := ?_) rfl (by kernel_rfl) (by kernel_rfl) (by kernel_rfl) (fun _ _ _ h => h) (Or.inl ⟨by rfl, ?_⟩) (by assumption) ?_
        rotate_left
        · (first | (intro v hSw; (try dsimp only at hSw); go_simp; done) | (intro v hSw; (try dsimp only at hSw); go_simp; with_reducible rfl))
        (try simp only [List.getElem_toArray, List.getElem_cons_succ, List.getElem_cons_zero, Act.put, List.setIfInBounds_toArray, List.set_cons_zero, List.set_cons_succ])
        refine wpAnyH_take (i := 3) (oi := _) (v := ?_) rfl (by kernel_rfl) (by kernel_rfl) (by kernel_rfl) (fun _ _ _ h => h) (Or.inl ⟨by rfl, ?_⟩) (by assumption) ?_
        rotate_left
        · (first | (intro v hSw; (try dsimp only at hSw); go_simp; done) | (intro v hSw; (try dsimp only at hSw); go_simp; with_reducible rfl))
        (try simp only [List.getElem_toArray, List.getElem_cons_succ, List.getElem_cons_zero, Act.put, List.setIfInBounds_toArray, List.set_cons_zero, List.set_cons_succ])
        refine wpAnyH_take (i := 4) (oi := _) (v := ?_) rfl (by kernel_rfl) (by kernel_rfl) (by kernel_rfl) (fun _ _ _ h => h) (Or.inl ⟨by rfl, ?_⟩) (by assumption) ?_
        rotate_left
        · (first | (intro v hSw; (try dsimp only at hSw); go_simp; done) | (intro v hSw; (try dsimp only at hSw); go_simp; with_reducible rfl))
        (try simp only [List.getElem_toArray, List.getElem_cons_succ, List.getElem_cons_zero, Act.put, List.setIfInBounds_toArray, List.set_cons_zero, List.set_cons_succ])
        refine wpAnyH_ready (rs := [5]) (by kernel_rfl) (by simp) ?_
        refine AllReadyH.cons (o := _) rfl (fun K hK => ?_) AllReadyH.nil
        go_simp
        (refine (HTO.out _).mono ?_)
        rintro e w3 ⟨rfl, h3⟩
        replace Kc := Kc.later h3
        refine hK.out _ _ ?_ (fun hHeld => ?_)
        · ((try dsimp only); exact HKP.out _ _ Kc)
        clear hK K
        (try simp only [List.getElem_toArray, List.getElem_cons_succ, List.getElem_cons_zero, Act.put, List.setIfInBounds_toArray, List.set_cons_zero, List.set_cons_succ])
        refine wpAnyH_done (by kernel_rfl) ?_ _
        refine NoPanic.normal ?_
        clear hHeld
        go_wp2_with fail
        go_meet
        exact ⟨rfl, Lib.hid Kc⟩
      case rest =>
        obtain ⟨rfl, HK7⟩ := hcut
        clear Kc HK
        cases tb
        · rw [if_neg (by simp)] at HTK1
          go_wp2_with fail
          go_roundw
          case rel => exact ⟨k + 1, by omega, by go_num, by rw [HTK1.out]; exact HK7⟩
          case measure => simp [intOf]; omega
        · rw [if_pos rfl] at HTK1
          have Kc := HK7.out.later (Below.refl _ _).drew
          have p0 := Kc.all.c0
          have p1 := Kc.all.c1
          go_upto_region 8 with (fail)
          refine wp_region_noPanic ?_
          refine wp_region_held_drew (S := (fun w' => w'.cell? ⟨bs, 0, none⟩ = some (.int .i64 s.1) ∧ w'.cell? ⟨bs, 1, none⟩ = some (.int .i64 s.2) ∧ w'.cell? ⟨g, off + k * 2, none⟩ = some (.int .i64 x.1) ∧ w'.cell? ⟨g, off + k * 2 + 1, none⟩ = some (.int .i64 x.2))) (by kernel_rfl) ?_ (fun hHeld => ?_)
          · ((try dsimp only); exact HKP.out _ _ Kc)
          generalize wc.drew = C0 at *
          refine wpAnyH_take (i := 1) (oi := _) (v := ?_) rfl (by kernel_rfl) (by kernel_rfl) (by kernel_rfl) (fun _ _ _ h => h) (Or.inl ⟨by rfl, ?_⟩) (by assumption) ?_
          rotate_left
          · (first | (intro v hSw; (try dsimp only at hSw); go_simp; done) | (intro v hSw; (try dsimp only at hSw); go_simp; with_reducible rfl))
          (try simp only [List.getElem_toArray, List.getElem_cons_succ, List.getElem_cons_zero, Act.put, List.setIfInBounds_toArray, List.set_cons_zero, List.set_cons_succ])
          refine wpAnyH_take (i := 2) (oi := _) (v := ?_) rfl (by kernel_rfl) (by kernel_rfl) (by kernel_rfl) (fun _ _ _ h => h) (Or.inl ⟨by rfl, ?_⟩) (by assumption) ?_
          rotate_left
          · (first | (intro v hSw; (try dsimp only at hSw); go_simp; done) | (intro v hSw; (try dsimp only at hSw); go_simp; with_reducible rfl))
          (try simp only [List.getElem_toArray, List.getElem_cons_succ, List.getElem_cons_zero, Act.put, List.setIfInBounds_toArray, List.set_cons_zero, List.set_cons_succ])
          refine wpAnyH_take (i := 3) (oi := _) (v := ?_) rfl (by kernel_rfl) (by kernel_rfl) (by kernel_rfl) (fun _ _ _ h => h) (Or.inl ⟨by rfl, ?_⟩) (by assumption) ?_
          rotate_left
          · (first | (intro v hSw; (try dsimp only at hSw); go_simp; done) | (intro v hSw; (try dsimp only at hSw); go_simp; with_reducible rfl))
          (try simp only [List.getElem_toArray, List.getElem_cons_succ, List.getElem_cons_zero, Act.put, List.setIfInBounds_toArray, List.set_cons_zero, List.set_cons_succ])
          refine wpAnyH_take (i := 4) (oi := _) (v := ?_) rfl (by kernel_rfl) (by kernel_rfl) (by kernel_rfl) (fun _ _ _ h => h) (Or.inl ⟨by rfl, ?_⟩) (by assumption) ?_
          rotate_left
          · (first | (intro v hSw; (try dsimp only at hSw); go_simp; done) | (intro v hSw; (try dsimp only at hSw); go_simp; with_reducible rfl))
          (try simp only [List.getElem_toArray, List.getElem_cons_succ, List.getElem_cons_zero, Act.put, List.setIfInBounds_toArray, List.set_cons_zero, List.set_cons_succ])
          refine wpAnyH_ready (rs := [0]) (by kernel_rfl) (by simp) ?_
          refine AllReadyH.cons (o := _) rfl (fun K hK => ?_) AllReadyH.nil
          go_simp
          refine hK.out _ _ ?_ (fun hHeld => ?_)
          · ((try dsimp only); exact HKP.out _ _ Kc)
          clear hK K
          (try simp only [List.getElem_toArray, List.getElem_cons_succ, List.getElem_cons_zero, Act.put, List.setIfInBounds_toArray, List.set_cons_zero, List.set_cons_succ])
          refine wpAnyH_ready (rs := [5]) (by kernel_rfl) (by simp) ?_
          refine AllReadyH.cons (o := _) rfl (fun K hK => ?_) AllReadyH.nil
          go_simp
          have sl := sls_two C0 y x
          replace Kc := Kc.al (.cells #[.int .i64 y.1, .int .i64 y.2, .int .i64 x.1, .int .i64 x.2] 24)
          refine hK.out _ _ ?_ (fun hHeld => ?_)
          · ((try dsimp only); exact HKP.out _ _ Kc)
          clear hK K
          (try simp only [List.getElem_toArray, List.getElem_cons_succ, List.getElem_cons_zero, Act.put, List.setIfInBounds_toArray, List.set_cons_zero, List.set_cons_succ])
          refine wpAnyH_ready (rs := [6]) (by kernel_rfl) (by simp) ?_
          refine AllReadyH.cons (o := _) rfl (fun K hK => ?_) AllReadyH.nil
          go_simp
          (refine (rhull_any _ _ _ _ _ sl).mono ?_)
          rintro e w5 ⟨rfl, h5⟩
          replace Kc := Kc.later h5
          have z0 := Kc.all.c0
          have z1 := Kc.all.c1
          have z2 := Kc.all.f0
          have z3 := Kc.all.f1
          refine hK.out _ _ ?_ (fun hHeld => ?_)
          · ((try dsimp only); exact HKP.out _ _ Kc)
          clear hK K
          (try simp only [List.getElem_toArray, List.getElem_cons_succ, List.getElem_cons_zero, Act.put, List.setIfInBounds_toArray, List.set_cons_zero, List.set_cons_succ])
          refine wpAnyH_ready (rs := [7]) (by kernel_rfl) (by simp) ?_
          refine AllReadyH.cons (o := _) rfl (fun K hK => ?_) AllReadyH.nil
          go_simp
          replace Kc := Kc.put (hullP [y, x]).1 (hullP [y, x]).2
          go_simp
          refine hK.out _ _ ?_ (fun hHeld => ?_)
          · ((try dsimp only); exact HKP.out _ _ Kc)
          clear hK K
          (try simp only [List.getElem_toArray, List.getElem_cons_succ, List.getElem_cons_zero, Act.put, List.setIfInBounds_toArray, List.set_cons_zero, List.set_cons_succ])
          refine wpAnyH_done (by kernel_rfl) ?_ _
          refine NoPanic.normal ?_
          clear hHeld
          go_wp2_with fail
          go_roundw
          case rel => exact ⟨k + 1, by omega, by go_num, by rw [HTK1.out]; exact Lib.hid Kc⟩
          case measure => simp [intOf]; omega
    · obtain rfl : k = n := by omega
      rw [HEN.out] at HK
      have HTP := Lib.hid (fun j (hj : j < k) => put_take (l := l) (allL s l) (k := j) (by rw [HLN.out]; exact hj))
      have HLE := Lib.hid (put_len (allL s l) l)
      have HEP := Lib.hid (show putL (allL s l) (l.take k) = putL (allL s l) l from by rw [List.take_of_length_le (by rw [HLN.out]; exact Nat.le_refl _)])
      have HK0 : Hid (WOs w (allL s l) pa [] (.slice none 0 0) wr) := Lib.hid ⟨World.ownsRow_nil _ _ _ _, HK.out.all, HK.out.below, HK.out.ge.2⟩
      generalize allL s l = A at *
      clear HTK HEN HS HLS HK hlt hk
      rename_i wq
      go_wp2_with fail
      go_loopw [7, 8, 9] (fun s7 s8 s9 wr => ∃ j : Nat, j ≤ k ∧ s9 = .int .i64 j ∧ s8 = .bool (putL A (l.take j)).2 ∧ Hid (WOs w A pa (putL A (l.take j)).1 s7 wr)) (fun _ _ s9 _ => k - (intOf s9).toNat)
      case atStart => exact ⟨0, Nat.zero_le _, rfl, rfl, HK0⟩
      case round =>
        obtain ⟨j, hj, rfl, rfl, HK⟩ := hrel
        by_cases hlt : j < k
        · obtain ⟨g, off, rfl, hc⟩ := HC.out (by omega)
          obtain ⟨m0, m1⟩ := hc j hlt
          have HTK1 := Lib.hid (HTP.out j hlt)
          have hLE := HLE.out j
          generalize l.getD j (0, 0) = x at *
          generalize hq : putL A (l.take j) = q at *
          obtain ⟨L, pb⟩ := q
          have HKP := Lib.hid (fun X (L' : List Sp) (v' : Value) (K : WOs w A pa L' v' X) => show X.cell? ⟨pa, 0, none⟩ = some (.int .i64 A.1) ∧ X.cell? ⟨pa, 1, none⟩ = some (.int .i64 A.2) ∧ X.cell? ⟨g, off + j * 2, none⟩ = some (.int .i64 x.1) ∧ X.cell? ⟨g, off + j * 2 + 1, none⟩ = some (.int .i64 x.2) from
            ⟨K.sp.c0, K.sp.c1, (K.below.cell (World.block_lt_of_cell? w _ m0)).trans m0, (K.below.cell (World.block_lt_of_cell? w _ m1)).trans m1⟩)
          have HTO := Lib.hid (fun X => rtouch_any x A X)
          have HPS := Lib.hid (show putS A (L, pb) x = if touchB x A = true then (L, pb) else if pb = false ∧ A.1 < x.1 then (L ++ [A] ++ [x], true) else (L ++ [x], pb) from rfl)
          clear m0 m1 hc HC HTP HLE HEP HRF hq
          dsimp only at hLE HK
          generalize touchB x A = tb at *
          have Kc := HK.out.later (Below.refl _ _).drew
          go_upto_region 14 with (fail)
          go_cut [45] from 34 to 68 (fun s45 wx => s45 = .bool tb ∧ Hid (WOs w A pa L u7 wx))
          case first =>
            refine wp_region_noPanic ?_
            refine wp_region_held_drew (S := (fun w' => w'.cell? ⟨pa, 0, none⟩ = some (.int .i64 A.1) ∧ w'.cell? ⟨pa, 1, none⟩ = some (.int .i64 A.2) ∧ w'.cell? ⟨g, off + j * 2, none⟩ = some (.int .i64 x.1) ∧ w'.cell? ⟨g, off + j * 2 + 1, none⟩ = some (.int .i64 x.2))) (by kernel_rfl) ?_ (fun hHeld => ?_)
            · ((try dsimp only); exact HKP.out _ _ _ Kc)
            generalize wr.drew = C0 at *
            refine wpAnyH_take (i := 0) (oi := _) (v := ?_) rfl (by kernel_rfl) (by kernel_rfl) (by kernel_rfl) (fun _ _ _ h => h) (Or.inl ⟨by rfl, ?_⟩) (by assumption) ?_
            rotate_left
            · (first | (intro v hSw; (try dsimp only at hSw); go_simp; done) | (intro v hSw; (try dsimp only at hSw); go_simp; with_reducible rfl))
            (try simp only [List.getElem_toArray, List.getElem_cons_succ, List.getElem_cons_zero, Act.put, List.setIfInBounds_toArray, List.set_cons_zero, List.set_cons_succ])
            refine wpAnyH_take (i := 1) (oi := _) (v := ?_) rfl (by kernel_rfl) (by kernel_rfl) (by kernel_rfl) (fun _ _ _ h => h) (Or.inl ⟨by rfl, ?_⟩) (by assumption) ?_
            rotate_left
            · (first | (intro v hSw; (try dsimp only at hSw); go_simp; done) | (intro v hSw; (try dsimp only at hSw); go_simp; with_reducible rfl))
            (try simp only [List.getElem_toArray, List.getElem_cons_succ, List.getElem_cons_zero, Act.put, List.setIfInBounds_toArray, List.set_cons_zero, List.set_cons_succ])
            refine wpAnyH_take (i := 2) (oi := _) (v := ?_) rfl (by kernel_rfl) (by kernel_rfl) (by kernel_rfl) (fun _ _ _ h => h) (Or.inl ⟨by rfl, ?_⟩) (by assumption) ?_
            rotate_left
            · (first | (intro v hSw; (try dsimp only at hSw); go_simp; done) | (intro v hSw; (try dsimp only at hSw); go_simp; with_reducible rfl))
            (try simp only [List.getElem_toArray, List.getElem_cons_succ, List.getElem_cons_zero, Act.put, List.setIfInBounds_toArray, List.set_cons_zero, List.set_cons_succ])
            refine wpAnyH_take (i := 3) (oi := _) (v := ?_) rfl (by kernel_rfl) (by kernel_rfl) (by kernel_rfl) (fun _ _ _ h => h) (Or.inl ⟨by rfl, ?_⟩) (by assumption) ?_
            rotate_left
            · (first | (intro v hSw; (try dsimp only at hSw); go_simp; done) | (intro v hSw; (try dsimp only at hSw); go_simp; with_reducible rfl))
            (try simp only [List.getElem_toArray, List.getElem_cons_succ, List.getElem_cons_zero, Act.put, List.setIfInBounds_toArray, List.set_cons_zero, List.set_cons_succ])
            refine wpAnyH_take (i := 4) (oi := _) (v := ?_) rfl (by kernel_rfl) (by kernel_rfl) (by kernel_rfl) (fun _ _ _ h => h) (Or.inl ⟨by rfl, ?_⟩) (by assumption) ?_
            rotate_left
            · (first | (intro v hSw; (try dsimp only at hSw); go_simp; done) | (intro v hSw; (try dsimp only at hSw); go_simp; with_reducible rfl))
            (try simp only [List.getElem_toArray, List.getElem_cons_succ, List.getElem_cons_zero, Act.put, List.setIfInBounds_toArray, List.set_cons_zero, List.set_cons_succ])
            refine wpAnyH_ready (rs := [5]) (by kernel_rfl) (by simp) ?_
            refine AllReadyH.cons (o := _) rfl (fun K hK => ?_) AllReadyH.nil
            go_simp
            (refine (HTO.out _).mono ?_)
            rintro e w3 ⟨rfl, h3⟩
            replace Kc := Kc.later h3
            refine hK.out _ _ ?_ (fun hHeld => ?_)
            · ((try dsimp only); exact HKP.out _ _ _ Kc)
            clear hK K
            (try simp only [List.getElem_toArray, List.getElem_cons_succ, List.getElem_cons_zero, Act.put, List.setIfInBounds_toArray, List.set_cons_zero, List.set_cons_succ])
            refine wpAnyH_done (by kernel_rfl) ?_ _
            refine NoPanic.normal ?_
            clear hHeld
            go_wp2_with fail
            go_meet
            exact ⟨rfl, Lib.hid Kc⟩
          case rest =>
            obtain ⟨rfl, HK7⟩ := hcut
            clear Kc HK
            cases tb
            · rw [if_neg (by simp)] at HPS
              have HAP := Lib.hid (fun (v : Value) (X : World) (L2 : List Sp) (pb2 : Bool) (hps : putS A (L, pb) x = (L2, pb2)) (K : WOs w A pa L2 v X) => show (pb2 = (putL A (l.take (j + 1))).2 ∧ Hid (WOs w A pa (putL A (l.take (j + 1))).1 v X)) from
                ⟨by rw [HTK1.out, hps], by rw [HTK1.out, hps]; exact Lib.hid K⟩)
              have Kc := HK7.out.later (Below.refl _ _).drew
              obtain ⟨f0, f1, f2, f3⟩ := HKP.out _ _ _ Kc
              clear HTK1
              go_upto_region 15 with (fail)
              go_cut [57] from 34 to 68 (fun s57 wx => s57 = .bool (!pb && decide (A.1 < x.1)) ∧ Hid (WOs w A pa L u7 wx))
              case first =>
                cases pb
                · clear f0 f1 f2 f3
                  refine wp_region_noPanic ?_
                  refine wp_region_held_drew (S := (fun w' => w'.cell? ⟨pa, 0, none⟩ = some (.int .i64 A.1) ∧ w'.cell? ⟨pa, 1, none⟩ = some (.int .i64 A.2) ∧ w'.cell? ⟨g, off + j * 2, none⟩ = some (.int .i64 x.1) ∧ w'.cell? ⟨g, off + j * 2 + 1, none⟩ = some (.int .i64 x.2))) (by kernel_rfl) ?_ (fun hHeld => ?_)
                  · ((try dsimp only); exact HKP.out _ _ _ Kc)
                  generalize wc.drew = C0 at *
                  refine wpAnyH_take (i := 0) (oi := _) (v := ?_) rfl (by kernel_rfl) (by kernel_rfl) (by kernel_rfl) (fun _ _ _ h => h) (Or.inl ⟨by rfl, ?_⟩) (by assumption) ?_
                  rotate_left
                  · (first | (intro v hSw; (try dsimp only at hSw); go_simp; done) | (intro v hSw; (try dsimp only at hSw); go_simp; with_reducible rfl))
                  (try simp only [List.getElem_toArray, List.getElem_cons_succ, List.getElem_cons_zero, Act.put, List.setIfInBounds_toArray, List.set_cons_zero, List.set_cons_succ])
                  refine wpAnyH_take (i := 1) (oi := _) (v := ?_) rfl (by kernel_rfl) (by kernel_rfl) (by kernel_rfl) (fun _ _ _ h => h) (Or.inl ⟨by rfl, ?_⟩) (by assumption) ?_
                  rotate_left
                  · (first | (intro v hSw; (try dsimp only at hSw); go_simp; done) | (intro v hSw; (try dsimp only at hSw); go_simp; with_reducible rfl))
                  (try simp only [List.getElem_toArray, List.getElem_cons_succ, List.getElem_cons_zero, Act.put, List.setIfInBounds_toArray, List.set_cons_zero, List.set_cons_succ])
                  refine wpAnyH_take (i := 2) (oi := _) (v := ?_) rfl (by kernel_rfl) (by kernel_rfl) (by kernel_rfl) (fun _ _ _ h => h) (Or.inl ⟨by rfl, ?_⟩) (by assumption) ?_
                  rotate_left
                  · (first | (intro v hSw; (try dsimp only at hSw); go_simp; done) | (intro v hSw; (try dsimp only at hSw); go_simp; with_reducible rfl))
                  (try simp only [List.getElem_toArray, List.getElem_cons_succ, List.getElem_cons_zero, Act.put, List.setIfInBounds_toArray, List.set_cons_zero, List.set_cons_succ])
                  refine wpAnyH_take (i := 3) (oi := _) (v := ?_) rfl (by kernel_rfl) (by kernel_rfl) (by kernel_rfl) (fun _ _ _ h => h) (Or.inl ⟨by rfl, ?_⟩) (by assumption) ?_
                  rotate_left
                  · (first | (intro v hSw; (try dsimp only at hSw); go_simp; done) | (intro v hSw; (try dsimp only at hSw); go_simp; with_reducible rfl))
                  (try simp only [List.getElem_toArray, List.getElem_cons_succ, List.getElem_cons_zero, Act.put, List.setIfInBounds_toArray, List.set_cons_zero, List.set_cons_succ])
                  refine wpAnyH_take (i := 4) (oi := _) (v := ?_) rfl (by kernel_rfl) (by kernel_rfl) (by kernel_rfl) (fun _ _ _ h => h) (Or.inl ⟨by rfl, ?_⟩) (by assumption) ?_
                  rotate_left
                  · (first | (intro v hSw; (try dsimp only at hSw); go_simp; done) | (intro v hSw; (try dsimp only at hSw); go_simp; with_reducible rfl))
                  (try simp only [List.getElem_toArray, List.getElem_cons_succ, List.getElem_cons_zero, Act.put, List.setIfInBounds_toArray, List.set_cons_zero, List.set_cons_succ])
                  refine wpAnyH_take (i := 5) (oi := _) (v := ?_) rfl (by kernel_rfl) (by kernel_rfl) (by kernel_rfl) (fun _ _ _ h => h) (Or.inl ⟨by rfl, ?_⟩) (by assumption) ?_
                  rotate_left
                  · (first | (intro v hSw; (try dsimp only at hSw); go_simp; done) | (intro v hSw; (try dsimp only at hSw); go_simp; with_reducible rfl))
                  (try simp only [List.getElem_toArray, List.getElem_cons_succ, List.getElem_cons_zero, Act.put, List.setIfInBounds_toArray, List.set_cons_zero, List.set_cons_succ])
                  refine wpAnyH_take (i := 6) (oi := _) (v := ?_) rfl (by kernel_rfl) (by kernel_rfl) (by kernel_rfl) (fun _ _ _ h => h) (Or.inl ⟨by rfl, ?_⟩) (by assumption) ?_
                  rotate_left
                  · (first | (intro v hSw; (try dsimp only at hSw); go_simp; done) | (intro v hSw; (try dsimp only at hSw); go_simp; with_reducible rfl))
                  (try simp only [List.getElem_toArray, List.getElem_cons_succ, List.getElem_cons_zero, Act.put, List.setIfInBounds_toArray, List.set_cons_zero, List.set_cons_succ])
                  refine wpAnyH_take (i := 7) (oi := _) (v := ?_) rfl (by kernel_rfl) (by kernel_rfl) (by kernel_rfl) (fun _ _ _ h => h) (Or.inl ⟨by rfl, ?_⟩) (by assumption) ?_
                  rotate_left
                  · (first | (intro v hSw; (try dsimp only at hSw); go_simp; done) | (intro v hSw; (try dsimp only at hSw); go_simp; with_reducible rfl))
                  (try simp only [List.getElem_toArray, List.getElem_cons_succ, List.getElem_cons_zero, Act.put, List.setIfInBounds_toArray, List.set_cons_zero, List.set_cons_succ])
                  refine wpAnyH_take (i := 8) (oi := _) (v := ?_) rfl (by kernel_rfl) (by kernel_rfl) (by kernel_rfl) (fun _ _ _ h => h) (Or.inl ⟨by rfl, ?_⟩) (by assumption) ?_
                  rotate_left
                  · (first | (intro v hSw; (try dsimp only at hSw); go_simp; done) | (intro v hSw; (try dsimp only at hSw); go_simp; with_reducible rfl))
                  (try simp only [List.getElem_toArray, List.getElem_cons_succ, List.getElem_cons_zero, Act.put, List.setIfInBounds_toArray, List.set_cons_zero, List.set_cons_succ])
                  refine wpAnyH_take (i := 9) (oi := _) (v := ?_) rfl (by kernel_rfl) (by kernel_rfl) (by kernel_rfl) (fun _ _ _ h => h) (Or.inl ⟨by rfl, ?_⟩) (by assumption) ?_
                  rotate_left
                  · (first | (intro v hSw; (try dsimp only at hSw); go_simp; done) | (intro v hSw; (try dsimp only at hSw); go_simp; with_reducible rfl))
                  (try simp only [List.getElem_toArray, List.getElem_cons_succ, List.getElem_cons_zero, Act.put, List.setIfInBounds_toArray, List.set_cons_zero, List.set_cons_succ])
                  refine wpAnyH_take (i := 10) (oi := _) (v := ?_) rfl (by kernel_rfl) (by kernel_rfl) (by kernel_rfl) (fun _ _ _ h => h) (Or.inl ⟨by rfl, ?_⟩) (by assumption) ?_
                  rotate_left
                  · (first | (intro v hSw; (try dsimp only at hSw); go_simp; done) | (intro v hSw; (try dsimp only at hSw); go_simp; with_reducible rfl))
                  (try simp only [List.getElem_toArray, List.getElem_cons_succ, List.getElem_cons_zero, Act.put, List.setIfInBounds_toArray, List.set_cons_zero, List.set_cons_succ])
                  refine wpAnyH_take (i := 11) (oi := _) (v := ?_) rfl (by kernel_rfl) (by kernel_rfl) (by kernel_rfl) (fun _ _ _ h => h) (Or.inl ⟨by rfl, ?_⟩) (by assumption) ?_
                  rotate_left
                  · (first | (intro v hSw; (try dsimp only at hSw); go_simp; done) | (intro v hSw; (try dsimp only at hSw); go_simp; with_reducible rfl))
                  (try simp only [List.getElem_toArray, List.getElem_cons_succ, List.getElem_cons_zero, Act.put, List.setIfInBounds_toArray, List.set_cons_zero, List.set_cons_succ])
                  refine wpAnyH_done (by kernel_rfl) ?_ _
                  refine NoPanic.normal ?_
                  clear hHeld
                  go_wp2_with fail
                  go_meet
                  exact ⟨by simp, Lib.hid Kc⟩
                · clear f0 f1 f2 f3
                  refine wp_region_noPanic ?_
                  refine wp_region_held_drew (S := (fun w' => w'.cell? ⟨pa, 0, none⟩ = some (.int .i64 A.1) ∧ w'.cell? ⟨pa, 1, none⟩ = some (.int .i64 A.2) ∧ w'.cell? ⟨g, off + j * 2, none⟩ = some (.int .i64 x.1) ∧ w'.cell? ⟨g, off + j * 2 + 1, none⟩ = some (.int .i64 x.2))) (by kernel_rfl) ?_ (fun hHeld => ?_)
                  · ((try dsimp only); exact HKP.out _ _ _ Kc)
                  generalize wc.drew = C0 at *
                  refine wpAnyH_take (i := 0) (oi := _) (v := ?_) rfl (by kernel_rfl) (by kernel_rfl) (by kernel_rfl) (fun _ _ _ h => h) (Or.inl ⟨by rfl, ?_⟩) (by assumption) ?_
                  rotate_left
                  · (first | (intro v hSw; (try dsimp only at hSw); go_simp; done) | (intro v hSw; (try dsimp only at hSw); go_simp; with_reducible rfl))
                  (try simp only [List.getElem_toArray, List.getElem_cons_succ, List.getElem_cons_zero, Act.put, List.setIfInBounds_toArray, List.set_cons_zero, List.set_cons_succ])
                  refine wpAnyH_take (i := 1) (oi := _) (v := ?_) rfl (by kernel_rfl) (by kernel_rfl) (by kernel_rfl) (fun _ _ _ h => h) (Or.inl ⟨by rfl, ?_⟩) (by assumption) ?_
                  rotate_left
                  · (first | (intro v hSw; (try dsimp only at hSw); go_simp; done) | (intro v hSw; (try dsimp only at hSw); go_simp; with_reducible rfl))
                  (try simp only [List.getElem_toArray, List.getElem_cons_succ, List.getElem_cons_zero, Act.put, List.setIfInBounds_toArray, List.set_cons_zero, List.set_cons_succ])
                  refine wpAnyH_take (i := 2) (oi := _) (v := ?_) rfl (by kernel_rfl) (by kernel_rfl) (by kernel_rfl) (fun _ _ _ h => h) (Or.inl ⟨by rfl, ?_⟩) (by assumption) ?_
                  rotate_left
                  · (first | (intro v hSw; (try dsimp only at hSw); go_simp; done) | (intro v hSw; (try dsimp only at hSw); go_simp; with_reducible rfl))
                  (try simp only [List.getElem_toArray, List.getElem_cons_succ, List.getElem_cons_zero, Act.put, List.setIfInBounds_toArray, List.set_cons_zero, List.set_cons_succ])
                  refine wpAnyH_take (i := 3) (oi := _) (v := undef) rfl (by kernel_rfl) (by kernel_rfl) (by kernel_rfl) (fun _ _ _ h => h) (Or.inr ⟨by rfl, rfl⟩) (by assumption) ?_
                  (try simp only [List.getElem_toArray, List.getElem_cons_succ, List.getElem_cons_zero, Act.put, List.setIfInBounds_toArray, List.set_cons_zero, List.set_cons_succ])
                  refine wpAnyH_take (i := 4) (oi := _) (v := undef) rfl (by kernel_rfl) (by kernel_rfl) (by kernel_rfl) (fun _ _ _ h => h) (Or.inr ⟨by rfl, rfl⟩) (by assumption) ?_
                  (try simp only [List.getElem_toArray, List.getElem_cons_succ, List.getElem_cons_zero, Act.put, List.setIfInBounds_toArray, List.set_cons_zero, List.set_cons_succ])
                  refine wpAnyH_take (i := 5) (oi := _) (v := undef) rfl (by kernel_rfl) (by kernel_rfl) (by kernel_rfl) (fun _ _ _ h => h) (Or.inr ⟨by rfl, rfl⟩) (by assumption) ?_
                  (try simp only [List.getElem_toArray, List.getElem_cons_succ, List.getElem_cons_zero, Act.put, List.setIfInBounds_toArray, List.set_cons_zero, List.set_cons_succ])
                  refine wpAnyH_take (i := 6) (oi := _) (v := undef) rfl (by kernel_rfl) (by kernel_rfl) (by kernel_rfl) (fun _ _ _ h => h) (Or.inr ⟨by rfl, rfl⟩) (by assumption) ?_
                  (try simp only [List.getElem_toArray, List.getElem_cons_succ, List.getElem_cons_zero, Act.put, List.setIfInBounds_toArray, List.set_cons_zero, List.set_cons_succ])
                  refine wpAnyH_take (i := 7) (oi := _) (v := undef) rfl (by kernel_rfl) (by kernel_rfl) (by kernel_rfl) (fun _ _ _ h => h) (Or.inr ⟨by rfl, rfl⟩) (by assumption) ?_
                  (try simp only [List.getElem_toArray, List.getElem_cons_succ, List.getElem_cons_zero, Act.put, List.setIfInBounds_toArray, List.set_cons_zero, List.set_cons_succ])
                  refine wpAnyH_take (i := 8) (oi := _) (v := undef) rfl (by kernel_rfl) (by kernel_rfl) (by kernel_rfl) (fun _ _ _ h => h) (Or.inr ⟨by rfl, rfl⟩) (by assumption) ?_
                  (try simp only [List.getElem_toArray, List.getElem_cons_succ, List.getElem_cons_zero, Act.put, List.setIfInBounds_toArray, List.set_cons_zero, List.set_cons_succ])
                  refine wpAnyH_take (i := 9) (oi := _) (v := undef) rfl (by kernel_rfl) (by kernel_rfl) (by kernel_rfl) (fun _ _ _ h => h) (Or.inr ⟨by rfl, rfl⟩) (by assumption) ?_
                  (try simp only [List.getElem_toArray, List.getElem_cons_succ, List.getElem_cons_zero, Act.put, List.setIfInBounds_toArray, List.set_cons_zero, List.set_cons_succ])
                  refine wpAnyH_take (i := 10) (oi := _) (v := undef) rfl (by kernel_rfl) (by kernel_rfl) (by kernel_rfl) (fun _ _ _ h => h) (Or.inr ⟨by rfl, rfl⟩) (by assumption) ?_
                  (try simp only [List.getElem_toArray, List.getElem_cons_succ, List.getElem_cons_zero, Act.put, List.setIfInBounds_toArray, List.set_cons_zero, List.set_cons_succ])
                  refine wpAnyH_take (i := 11) (oi := _) (v := ?_) rfl (by kernel_rfl) (by kernel_rfl) (by kernel_rfl) (fun _ _ _ h => h) (Or.inl ⟨by rfl, ?_⟩) (by assumption) ?_
                  rotate_left
                  · (first | (intro v hSw; (try dsimp only at hSw); go_simp; done) | (intro v hSw; (try dsimp only at hSw); go_simp; with_reducible rfl))
                  (try simp only [List.getElem_toArray, List.getElem_cons_succ, List.getElem_cons_zero, Act.put, List.setIfInBounds_toArray, List.set_cons_zero, List.set_cons_succ])
                  refine wpAnyH_done (by kernel_rfl) ?_ _
                  refine NoPanic.normal ?_
                  clear hHeld
                  go_wp2_with fail
                  go_meet
                  exact ⟨by simp, Lib.hid Kc⟩
              case rest =>
                obtain ⟨rfl, HK8⟩ := hcut
                clear Kc f0 f1 f2 f3 HK7
                have Kc := HK8.out
                obtain ⟨f0, f1, f2, f3⟩ := HKP.out _ _ _ Kc
                by_cases hcd : pb = false ∧ A.1 < x.1
                · rw [if_pos hcd] at HPS
                  have hcb : (!pb && decide (A.1 < x.1)) = true := by simp [hcd]
                  rw [hcb]
                  clear hcd hcb HK8
                  have HO := Lib.hid (Kc.al (.cells #[.int .i64 A.1, .int .i64 A.2] 24)).own
                  have HSRC := Lib.hid (span_src wc A)
                  have hbs := Kc.sp.lt
                  have HKK := Lib.hid Kc
                  clear Kc
                  go_wp2_with (at_builtin; refine wpList_append_sz _ rfl (.tmp 58) (.tmp 60) 28 28 rfl (pa + 1) 24 i0 (.agg #[.int .i64 0, .int .i64 0]) 2 16 Try.underlying28 hi hz0 hz1 (by decide) hz2 rfl u7 (L).length (spCells (L)) rfl HO.out _ rfl 1 [.int .i64 A.1, .int .i64 A.2] HSRC.out (by unfold maxLen; (try simp only [List.length_append, List.length_singleton]); omega) (by (try simp only [List.length_append, List.length_singleton]); omega) (by simp; omega) ?_)
                  intro a58 cap58 w5 ho hg hw
                  have K5 := (HKK.out.al (.cells #[.int .i64 A.1, .int .i64 A.2] 24)).grow (by simp) ho hg
                  clear HO HSRC ho hg hw HKK hbs
                  clear f0 f1 f2 f3
                  obtain ⟨f0, f1, f2, f3⟩ := HKP.out _ _ _ K5
                  have HO := Lib.hid (K5.al (.cells #[.int .i64 x.1, .int .i64 x.2] 24)).own
                  have HSRC := Lib.hid (span_src w5 x)
                  have hbs := K5.sp.lt
                  have HKK := Lib.hid K5
                  clear K5
                  go_wp2_with (at_builtin; refine wpList_append_sz _ rfl (.tmp 62) (.tmp 67) 28 28 rfl (pa + 1) 24 i0 (.agg #[.int .i64 0, .int .i64 0]) 2 16 Try.underlying28 hi hz0 hz1 (by decide) hz2 rfl (.slice a58 (L.length + 1) cap58) ((L ++ [A])).length (spCells ((L ++ [A]))) rfl HO.out _ rfl 1 [.int .i64 x.1, .int .i64 x.2] HSRC.out (by unfold maxLen; (try simp only [List.length_append, List.length_singleton]); omega) (by (try simp only [List.length_append, List.length_singleton]); omega) (by simp; omega) ?_)
                  intro a62 cap62 w6 ho hg hw
                  have K6 := (HKK.out.al (.cells #[.int .i64 x.1, .int .i64 x.2] 24)).grow (by simp) ho hg
                  clear HO HSRC ho hg hw HKK hbs
                  have HF := Lib.hid (HAP.out _ _ _ _ HPS.out K6)
                  clear f0 f1 f2 f3 K6
                  go_wp2_with fail
                  go_roundw
                  case rel => exact ⟨j + 1, by omega, by go_num, by rw [← HF.out.1], HF.out.2⟩
                  case measure => simp [intOf]; omega
                · rw [if_neg hcd] at HPS
                  have hcb : (!pb && decide (A.1 < x.1)) = false := by cases pb <;> simp at hcd ⊢ <;> omega
                  rw [hcb]
                  clear hcd hcb HK8
                  have HO := Lib.hid (Kc.al (.cells #[.int .i64 x.1, .int .i64 x.2] 24)).own
                  have HSRC := Lib.hid (span_src wc x)
                  have hbs := Kc.sp.lt
                  have HKK := Lib.hid Kc
                  clear Kc
                  go_wp2_with (at_builtin; refine wpList_append_sz _ rfl (.tmp 62) (.tmp 67) 28 28 rfl (pa + 1) 24 i0 (.agg #[.int .i64 0, .int .i64 0]) 2 16 Try.underlying28 hi hz0 hz1 (by decide) hz2 rfl u7 (L).length (spCells (L)) rfl HO.out _ rfl 1 [.int .i64 x.1, .int .i64 x.2] HSRC.out (by unfold maxLen; (try simp only [List.length_append, List.length_singleton]); omega) (by (try simp only [List.length_append, List.length_singleton]); omega) (by simp; omega) ?_)
                  intro a62 cap62 w6 ho hg hw
                  have K6 := (HKK.out.al (.cells #[.int .i64 x.1, .int .i64 x.2] 24)).grow (by simp) ho hg
                  clear HO HSRC ho hg hw HKK hbs
                  have HF := Lib.hid (HAP.out _ _ _ _ HPS.out K6)
                  clear f0 f1 f2 f3 K6
                  go_wp2_with fail
                  go_roundw
                  case rel => exact ⟨j + 1, by omega, by go_num, by rw [← HF.out.1], HF.out.2⟩
                  case measure => simp [intOf]; omega
            · rw [if_pos rfl] at HPS
              have HF := Lib.hid (show (pb = (putL A (l.take (j + 1))).2 ∧ Hid (WOs w A pa (putL A (l.take (j + 1))).1 u7 wc)) from
                ⟨by rw [HTK1.out, HPS.out], by rw [HTK1.out, HPS.out]; exact HK7⟩)
              clear HTK1 HPS
              go_wp2_with fail
              go_roundw
              case rel => exact ⟨j + 1, by omega, by go_num, by rw [← HF.out.1], HF.out.2⟩
              case measure => simp [intOf]; omega
        · obtain rfl : j = k := by omega
          rw [HEP.out] at HK ⊢
          have hLE := HLE.out j
          rw [HEP.out] at hLE
          generalize putL A l = q at *
          obtain ⟨L, pb⟩ := q
          dsimp only at hLE HK ⊢
          have HRF' := Lib.hid (show refWi l s = if pb = true then L else L ++ [A] from HRF.out)
          have Kc := HK.out
          clear HC HTP HLE HEP HRF HK HK0
          cases pb
          · rw [if_neg (by simp)] at HRF'
            have f0 := Kc.sp.c0; have f1 := Kc.sp.c1
            have HO := Lib.hid (Kc.al (.cells #[.int .i64 A.1, .int .i64 A.2] 24)).own
            have HSRC := Lib.hid (span_src wr A)
            have hbs := Kc.sp.lt
            have HKK := Lib.hid Kc
            clear Kc
            go_wp2_with (at_builtin; refine wpList_append_sz _ rfl (.tmp 71) (.tmp 73) 28 28 rfl (pa + 1) 24 i0 (.agg #[.int .i64 0, .int .i64 0]) 2 16 Try.underlying28 hi hz0 hz1 (by decide) hz2 rfl u7 (L).length (spCells (L)) rfl HO.out _ rfl 1 [.int .i64 A.1, .int .i64 A.2] HSRC.out (by unfold maxLen; (try simp only [List.length_append, List.length_singleton]); omega) (by (try simp only [List.length_append, List.length_singleton]); omega) (by simp; omega) ?_)
            intro a71 cap71 w6 ho hg hw
            have K6 := (HKK.out.al (.cells #[.int .i64 A.1, .int .i64 A.2] 24)).grow (by simp) ho hg
            clear HO HSRC ho hg hw HKK hbs
            obtain ⟨a', cap', hv, hsl, hob⟩ := sls_of_own K6.own
            have hfar : ∀ x, a' = some x → w.heap.size ≤ x.block := fun x hx => by have := (own_in K6.own (hob x hx)).2; have := K6.ge; omega
            clear hob
            have HF := Lib.hid (show SlS w6 a' _ cap' (refWi l s) from by rw [HRF'.out]; exact hsl)
            have hb := K6.below
            rw [hv]
            clear f0 f1 hsl K6
            go_wp2_with fail
            go_ret
            exact ⟨_, _, _, rfl, HF.out, hb, fun x hx => .inr (hfar x hx)⟩
          · rw [if_pos rfl] at HRF'
            obtain ⟨a', cap', rfl, hsl, hob⟩ := sls_of_own Kc.own
            have hfar : ∀ x, a' = some x → w.heap.size ≤ x.block := fun x hx => by have := (own_in Kc.own (hob x hx)).2; have := Kc.ge; omega
            clear hob
            have HF := Lib.hid (show SlS wr a' _ cap' (refWi l s) from by rw [HRF'.out]; exact hsl)
            have hb := Kc.below
            clear hsl Kc
            go_wp2_with fail
            go_ret
            exact ⟨_, _, _, rfl, HF.out, hb, fun x hx => .inr (hfar x hx)⟩
end Go.Proofs.Ytgjkbejlfclpoaa.rn
