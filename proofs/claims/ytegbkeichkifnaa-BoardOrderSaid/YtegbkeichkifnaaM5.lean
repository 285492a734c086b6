/-
  Several texts in one: RunWi Cpy RunD RunF RunE RunG RunV RunA RunB RunK RunO RunDo RunNx
-/
import Derived.IntWalk
import Derived.Lib.Hide
import Derived.Test.YtegbkeichkifnaaM4
/-!   The reference's With.
-/
namespace Go.Proofs.Ytegbkeichkifnaa.rn
open Go.RowKit Go.Shelf aid mem rng sp
attribute [local go_sem ↓] Go.wp_at_zero Go.wp_at_succ
set_option linter.unusedVariables false
set_option linter.unusedSimpArgs false

theorem sls_two (X : World) (y x : Sp) : SlS (X.alloc (.cells #[.int .i64 y.1, .int .i64 y.2, .int .i64 x.1, .int .i64 x.2] 24)) (some ⟨X.heap.size, 0, none⟩) 2 2 [y, x] := by
  refine ⟨rfl, Nat.le_refl _, by decide, (fun h => by cases h), fun _ => ⟨X.heap.size, 0, rfl, fun i hi => ?_⟩⟩
  have hr := heap_alloc_new X (.cells #[.int .i64 y.1, .int .i64 y.2, .int .i64 x.1, .int .i64 x.2] 24)
  rw [cell_of_row _ X.heap.size _ _ _ (0, 0) hr, cell_of_row _ X.heap.size _ _ _ (0, 0) hr]
  rcases (show i = 0 ∨ i = 1 by omega) with rfl | rfl
  · exact ⟨rfl, rfl⟩
  · exact ⟨rfl, rfl⟩
/-- a span in its box, and one that grows in another -/
structure WA (w : World) (s : Sp) (bs pa : Nat) (y : Sp) (X : World) : Prop where
  sp : SpAt X bs s
  all : SpAt X pa y
  below : Below w.heap.size w X
  ge : w.heap.size ≤ bs ∧ w.heap.size ≤ pa
  ne : bs ≠ pa
theorem WA.later {w : World} {s y : Sp} {bs pa : Nat} {X Y : World} (h : WA w s bs pa y X) (hb : Below X.heap.size X Y) : WA w s bs pa y Y :=
  ⟨h.sp.later hb, h.all.later hb, h.below.trans (hb.mono h.below.size), h.ge, h.ne⟩
theorem WA.al {w : World} {s y : Sp} {bs pa : Nat} {X : World} (h : WA w s bs pa y X) (o : Obj) : WA w s bs pa y (X.alloc o) := h.later (bal o)
theorem WA.put {w : World} {s y : Sp} {bs pa : Nat} {X : World} (h : WA w s bs pa y X) (a b : Int) : WA w s bs pa (a, b) ((X.setCell ⟨pa, 0, none⟩ (.int .i64 a)).setCell ⟨pa, 1, none⟩ (.int .i64 b)) := by
  have hk := kput X pa (.int .i64 a) (.int .i64 b)
  exact ⟨h.sp.keep hk (by simpa using h.ne), h.all.put a b, h.below.trans (hk.below (B := w.heap.size) (fun k hk => by simp at hk; subst hk; exact h.ge.2) h.below.size), h.ge, h.ne⟩
theorem all_take {l : List Sp} (s : Sp) {k : Nat} (hk : k < l.length) : allL s (l.take (k + 1)) = if touchB (l.getD k (0, 0)) s = true then hullP [allL s (l.take k), l.getD k (0, 0)] else allL s (l.take k) := by
  rw [show l.getD k (0, 0) = l[k] from by simp [List.getD, hk]]
  unfold allL
  rw [List.take_succ_eq_append_getElem hk, List.foldl_append]
  rfl
theorem put_take {l : List Sp} (a : Sp) {k : Nat} (hk : k < l.length) : putL a (l.take (k + 1)) = putS a (putL a (l.take k)) (l.getD k (0, 0)) := by
  rw [show l.getD k (0, 0) = l[k] from by simp [List.getD, hk]]
  unfold putL
  rw [List.take_succ_eq_append_getElem hk, List.foldl_append]
  rfl
theorem put_len (a : Sp) (l : List Sp) : ∀ k, (putL a (l.take k)).1.length ≤ 2 * k := by
  intro k
  induction k with
  | zero => simp [putL]
  | succ k ih =>
    by_cases hk : k < l.length
    · rw [put_take a hk]
      unfold putS
      split
      · omega
      · split
        · simp only [List.length_append, List.length_singleton]; omega
        · simp only [List.length_append, List.length_singleton]; omega
    · rw [List.take_of_length_le (by omega)] at ih ⊢
      omega
set_option maxRecDepth 100000 in
set_option maxHeartbeats 8000000 in
theorem rwith_any {w : World} {a : Option Addr} {n cap : Nat} {l : List Sp} (h : SlS w a n cap l) (hn : n ≤ 100000) (s : Sp) : Calls Try.prog 53 #[.slice a n cap, spV s] w fun e w' => ∃ a' n' cap', e = .returned (.slice a' n' cap') ∧ SlS w' a' n' cap' (refWi l s) ∧ Below w.heap.size w w' ∧ ∀ x, a' = some x → (a = some x ∧ n' = n) ∨ w.heap.size ≤ x.block := by
  have hle := h.le
  have hmost := h.most
  have hlen := h.len
  unfold maxLen at hmost
  have HC := Lib.hid (fun h0 => h.cells h0)
  have b1 := bal (w := w) (.cells #[.int .i64 s.1, .int .i64 s.2] 24)
  have s1 := sp_new w s
  have c0 := s1.c0; have c1 := s1.c1
  have HLS := Lib.hid (fun X => rlen_any s X)
  have HRF := Lib.hid (show refWi l s = if lenI s = 0 then l else endL (allL s l) (putL (allL s l) l) from rfl)
  have HTK := Lib.hid (fun k (hk : k < n) => all_take (l := l) s (k := k) (by omega))
  have HEN := Lib.hid (show allL s (l.take n) = allL s l from by rw [List.take_of_length_le (by omega)])
  have HB1 := Lib.hid (And.intro b1 s1)
  have HS := Lib.hid h
  have HLN := Lib.hid hlen
  clear b1 s1 h hlen
  obtain ⟨i0, hi, hz0, hz1, hz2⟩ := info_split info_span
  generalize lenI s = z at *
  go_enter Try.func53, Try.ntmps53
  go_wp2_with fail
  refine (HLS.out _).mono ?_
  rintro e w2 ⟨rfl, h2⟩
  obtain ⟨b1, s1⟩ := HB1.out
  have b2 := b1.trans (h2.mono b1.size)
  have s2 := s1.later h2
  clear b1 s1 h2 c0 c1 HB1
  by_cases hz : z = 0
  · subst hz
    rw [if_pos rfl] at HRF
    have HF := Lib.hid (show SlS w2 a n cap (refWi l s) from by rw [HRF.out]; exact HS.out.later b2)
    clear HC HLS HTK HEN HRF
    go_wp2
    go_ret
    exact ⟨_, _, _, rfl, HF.out, b2, fun x hx => .inl ⟨hx, rfl⟩⟩
  rw [if_neg hz] at HRF
  have b3 := bal (w := w2) (.cells #[.int .i64 s.1, .int .i64 s.2] 24)
  have K0 : WA w s w.heap.size w2.heap.size s (w2.alloc (.cells #[.int .i64 s.1, .int .i64 s.2] 24)) := ⟨s2.later b3, sp_new w2 s, b2.trans (b3.mono b2.size), ⟨Nat.le_refl _, b2.size⟩, by have := s2.lt; omega⟩
  have HK0 := Lib.hid K0
  have c0 := s2.c0; have c1 := s2.c1
  clear K0 s2 b2 b3
  generalize w.heap.size = bs at *
  go_wp2_with fail
  rename (z == 0) = false => hzz
  simp only [hzz]
  clear hz hzz c0 c1
  generalize w2.heap.size = pa at *
  go_loopw [6] (fun s6 wr => ∃ k : Nat, k ≤ n ∧ s6 = .int .i64 k ∧ Hid (WA w s bs pa (allL s (l.take k)) wr)) (fun s6 _ => n - (intOf s6).toNat)
  case atStart => exact ⟨0, Nat.zero_le _, rfl, HK0⟩
  case round =>
    obtain ⟨k, hk, rfl, HK⟩ := hrel
    by_cases hlt : k < n
    · obtain ⟨g, off, rfl, hc⟩ := HC.out (by omega)
      obtain ⟨m0, m1⟩ := hc k hlt
      have HTK1 := Lib.hid (HTK.out k hlt)
      generalize l.getD k (0, 0) = x at *
      generalize hy : allL s (l.take k) = y at *
      have HKP := Lib.hid (fun X (y' : Sp) (K : WA w s bs pa y' X) => show X.cell? ⟨bs, 0, none⟩ = some (.int .i64 s.1) ∧ X.cell? ⟨bs, 1, none⟩ = some (.int .i64 s.2) ∧ X.cell? ⟨g, off + k * 2, none⟩ = some (.int .i64 x.1) ∧ X.cell? ⟨g, off + k * 2 + 1, none⟩ = some (.int .i64 x.2) from
        ⟨K.sp.c0, K.sp.c1, (K.below.cell (World.block_lt_of_cell? w _ m0)).trans m0, (K.below.cell (World.block_lt_of_cell? w _ m1)).trans m1⟩)
      have HTO := Lib.hid (fun X => rtouch_any x s X)
      clear m0 m1 hc HC HTK HEN HRF HS hy
      generalize touchB x s = tb at *
      have Kc := HK.out.later (Below.refl _ _).drew
      go_upto_region 7 with (fail)
      go_cut [26] from 21 to 33 (fun s26 wx => s26 = .bool tb ∧ Hid (WA w s bs pa y wx))
      case first =>
        refine wp_region_noPanic ?_
        refine wp_region_held_drew (S := (fun w' => w'.cell? ⟨bs, 0, none⟩ = some (.int .i64 s.1) ∧ w'.cell? ⟨bs, 1, none⟩ = some (.int .i64 s.2) ∧ w'.cell? ⟨g, off + k * 2, none⟩ = some (.int .i64 x.1) ∧ w'.cell? ⟨g, off + k * 2 + 1, none⟩ = some (.int .i64 x.2))) (by kernel_rfl) ?_ (fun hHeld => ?_)
        · ((try dsimp only); exact HKP.out _ _ Kc)
        generalize wr.drew = C0 at *
        refine wpAnyH_take (i := 0) (oi := _) (v := ?_) rfl (by kernel_rfl) (by kernel_rfl) (by kernel_rfl) (fun _ _ _ h => h) (Or.inl ⟨by rfl, ?_⟩) (by assumption) ?_
        rotate_left
        · (first | (intro v hSw; (try dsimp only at hSw); go_simp; done) | (intro v hSw; (try dsimp only at hSw); go_simp; with_reducible rfl))
        (try simp only [List.getElem_toArray, List.getElem_cons_succ, List.getElem_cons_zero, Act.put, List.setIfInBounds_toArray, List.set_cons_zero, List.set_cons_succ])
        refine wpAnyH_take (i := 1) (oi := _) (v := ?_) rfl (by kernel_rfl) (by kernel_rfl) (by kernel_rfl) (fun _ _ _ h => h) (Or.inl ⟨by rfl, ?_⟩) (by assumption) ?_
        rotate_left
        · (first | (intro v hSw; (try dsimp only at hSw); go_simp; done) | (intro v hSw; (try dsimp only at hSw); go_simp; with_reducible rfl))
        (try simp only [List.getElem_toArray, List.getElem_cons_succ, List.getElem_cons_zero, Act.put, List.setIfInBounds_toArray, List.set_cons_zero, List.set_cons_succ])
        refine wpAnyH_take (i := 2) (oi := _) (v := ?_) rfl (by kernel_rfl) (by kernel_rfl) (by kernel_rfl) (fun _ _ _ h => h) (Or.inl ⟨by rfl, ?_⟩) (by assumption) ?_
        rotate_left
        · (first | (intro v hSw; (try dsimp only at hSw); go_simp; done) | (intro v hSw; (try dsimp only at hSw); go_simp; with_reducible rfl))
        (try simp only [List.getElem_toArray, List.getElem_cons_succ, List.getElem_cons_zero, Act.put, List.setIfInBounds_toArray, List.set_cons_zero, List.set_cons_succ])
        refine wpAnyH_take (i := 3) (oi := _) (v := ?_) rfl (by kernel_rfl) (by kernel_rfl) (by kernel_rfl) (fun _ _ _ h => h) (Or.inl ⟨by rfl, ?_⟩) (by assumption) ?_
        rotate_left
        · (first | (intro v hSw; (try dsimp only at hSw); go_simp; done) | (intro v hSw; (try dsimp only at hSw); go_simp; with_reducible rfl))
        (try simp only [List.getElem_toArray, List.getElem_cons_succ, List.getElem_cons_zero, Act.put, List.setIfInBounds_toArray, List.set_cons_zero, List.set_cons_succ])
        refine wpAnyH_take (i := 4) (oi := _) (v := ?_) rfl (by kernel_rfl) (by kernel_rfl) (by kernel_rfl) (fun _ _ _ h => h) (Or.inl ⟨by rfl, ?_⟩) (by assumption) ?_
        rotate_left
        · (first | (intro v hSw; (try dsimp only at hSw); go_simp; done) | (intro v hSw; (try dsimp only at hSw); go_simp; with_reducible rfl))
        (try simp only [List.getElem_toArray, List.getElem_cons_succ, List.getElem_cons_zero, Act.put, List.setIfInBounds_toArray, List.set_cons_zero, List.set_cons_succ])
        refine wpAnyH_ready (rs := [5]) (by kernel_rfl) (by simp) ?_
        refine AllReadyH.cons (o := _) rfl (fun K hK => ?_) AllReadyH.nil
        go_simp
        (refine (HTO.out _).mono ?_)
        rintro e w3 ⟨rfl, h3⟩
        replace Kc := Kc.later h3
        refine hK.out _ _ ?_ (fun hHeld => ?_)
        · ((try dsimp only); exact HKP.out _ _ Kc)
        clear hK K
        (try simp only [List.getElem_toArray, List.getElem_cons_succ, List.getElem_cons_zero, Act.put, List.setIfInBounds_toArray, List.set_cons_zero, List.set_cons_succ])
        refine wpAnyH_done (by kernel_rfl) ?_ _
        refine NoPanic.normal ?_
        clear hHeld
        go_wp2_with fail
        go_meet
        exact ⟨rfl, Lib.hid Kc⟩
      case rest =>
        obtain ⟨rfl, HK7⟩ := hcut
        clear Kc HK
        cases tb
        · rw [if_neg (by simp)] at HTK1
          go_wp2_with fail
          go_roundw
          case rel => exact ⟨k + 1, by omega, by go_num, by rw [HTK1.out]; exact HK7⟩
          case measure => simp [intOf]; omega
        · rw [if_pos rfl] at HTK1
          have Kc := HK7.out.later (Below.refl _ _).drew
          have p0 := Kc.all.c0
          have p1 := Kc.all.c1
          go_upto_region 8 with (fail)
          refine wp_region_noPanic ?_
          refine wp_region_held_drew (S := (fun w' => w'.cell? ⟨bs, 0, none⟩ = some (.int .i64 s.1) ∧ w'.cell? ⟨bs, 1, none⟩ = some (.int .i64 s.2) ∧ w'.cell? ⟨g, off + k * 2, none⟩ = some (.int .i64 x.1) ∧ w'.cell? ⟨g, off + k * 2 + 1, none⟩ = some (.int .i64 x.2))) (by kernel_rfl) ?_ (fun hHeld => ?_)
          · ((try dsimp only); exact HKP.out _ _ Kc)
          generalize wc.drew = C0 at *
          refine wpAnyH_take (i := 1) (oi := _) (v := ?_) rfl (by kernel_rfl) (by kernel_rfl) (by kernel_rfl) (fun _ _ _ h => h) (Or.inl ⟨by rfl, ?_⟩) (by assumption) ?_
          rotate_left
          · (first | (intro v hSw; (try dsimp only at hSw); go_simp; done) | (intro v hSw; (try dsimp only at hSw); go_simp; with_reducible rfl))
          (try simp only [List.getElem_toArray, List.getElem_cons_succ, List.getElem_cons_zero, Act.put, List.setIfInBounds_toArray, List.set_cons_zero, List.set_cons_succ])
          refine wpAnyH_take (i := 2) (oi := _) (v := ?_) rfl (by kernel_rfl) (by kernel_rfl) (by kernel_rfl) (fun _ _ _ h => h) (Or.inl ⟨by rfl, ?_⟩) (by assumption) ?_
          rotate_left
          · (first | (intro v hSw; (try dsimp only at hSw); go_simp; done) | (intro v hSw; (try dsimp only at hSw); go_simp; with_reducible rfl))
          (try simp only [List.getElem_toArray, List.getElem_cons_succ, List.getElem_cons_zero, Act.put, List.setIfInBounds_toArray, List.set_cons_zero, List.set_cons_succ])
          refine wpAnyH_take (i := 3) (oi := _) (v := ?_) rfl (by kernel_rfl) (by kernel_rfl) (by kernel_rfl) (fun _ _ _ h => h) (Or.inl ⟨by rfl, ?_⟩) (by assumption) ?_
          rotate_left
          · (first | (intro v hSw; (try dsimp only at hSw); go_simp; done) | (intro v hSw; (try dsimp only at hSw); go_simp; with_reducible rfl))
          (try simp only [List.getElem_toArray, List.getElem_cons_succ, List.getElem_cons_zero, Act.put, List.setIfInBounds_toArray, List.set_cons_zero, List.set_cons_succ])
          refine wpAnyH_take (i := 4) (oi := _) (v := ?_) rfl (by kernel_rfl) (by kernel_rfl) (by kernel_rfl) (fun _ _ _ h => h) (Or.inl ⟨by rfl, ?_⟩) (by assumption) ?_
          rotate_left
          · (first | (intro v hSw; (try dsimp only at hSw); go_simp; done) | (intro v hSw; (try dsimp only at hSw); go_simp; with_reducible rfl))
          (try simp only [List.getElem_toArray, List.getElem_cons_succ, List.getElem_cons_zero, Act.put, List.setIfInBounds_toArray, List.set_cons_zero, List.set_cons_succ])
          refine wpAnyH_ready (rs := [0]) (by kernel_rfl) (by simp) ?_
          refine AllReadyH.cons (o := _) rfl (fun K hK => ?_) AllReadyH.nil
          go_simp
          refine hK.out _ _ ?_ (fun hHeld => ?_)
          · ((try dsimp only); exact HKP.out _ _ Kc)
          clear hK K
          (try simp only [List.getElem_toArray, List.getElem_cons_succ, List.getElem_cons_zero, Act.put, List.setIfInBounds_toArray, List.set_cons_zero, List.set_cons_succ])
          refine wpAnyH_ready (rs := [5]) (by kernel_rfl) (by simp) ?_
          refine AllReadyH.cons (o := _) rfl (fun K hK => ?_) AllReadyH.nil
          go_simp
          have sl := sls_two C0 y x
          replace Kc := Kc.al (.cells #[.int .i64 y.1, .int .i64 y.2, .int .i64 x.1, .int .i64 x.2] 24)
          refine hK.out _ _ ?_ (fun hHeld => ?_)
          · ((try dsimp only); exact HKP.out _ _ Kc)
          clear hK K
          (try simp only [List.getElem_toArray, List.getElem_cons_succ, List.getElem_cons_zero, Act.put, List.setIfInBounds_toArray, List.set_cons_zero, List.set_cons_succ])
          refine wpAnyH_ready (rs := [6]) (by kernel_rfl) (by simp) ?_
          refine AllReadyH.cons (o := _) rfl (fun K hK => ?_) AllReadyH.nil
          go_simp
          (refine (rhull_any _ _ _ _ _ sl).mono ?_)
          rintro e w5 ⟨rfl, h5⟩
          replace Kc := Kc.later h5
          have z0 := Kc.all.c0
          have z1 := Kc.all.c1
          have z2 := Kc.all.f0
          have z3 := Kc.all.f1
          refine hK.out _ _ ?_ (fun hHeld => ?_)
          · ((try dsimp only); exact HKP.out _ _ Kc)
          clear hK K
          (try simp only [List.getElem_toArray, List.getElem_cons_succ, List.getElem_cons_zero, Act.put, List.setIfInBounds_toArray, List.set_cons_zero, List.set_cons_succ])
          refine wpAnyH_ready (rs := [7]) (by kernel_rfl) (by simp) ?_
          refine AllReadyH.cons (o := _) rfl (fun K hK => ?_) AllReadyH.nil
          go_simp
          replace Kc := Kc.put (hullP [y, x]).1 (hullP [y, x]).2
          go_simp
          refine hK.out _ _ ?_ (fun hHeld => ?_)
          · ((try dsimp only); exact HKP.out _ _ Kc)
          clear hK K
          (try simp only [List.getElem_toArray, List.getElem_cons_succ, List.getElem_cons_zero, Act.put, List.setIfInBounds_toArray, List.set_cons_zero, List.set_cons_succ])
          refine wpAnyH_done (by kernel_rfl) ?_ _
          refine NoPanic.normal ?_
          clear hHeld
          go_wp2_with fail
          go_roundw
          case rel => exact ⟨k + 1, by omega, by go_num, by rw [HTK1.out]; exact Lib.hid Kc⟩
          case measure => simp [intOf]; omega
    · obtain rfl : k = n := by omega
      rw [HEN.out] at HK
      have HTP := Lib.hid (fun j (hj : j < k) => put_take (l := l) (allL s l) (k := j) (by rw [HLN.out]; exact hj))
      have HLE := Lib.hid (put_len (allL s l) l)
      have HEP := Lib.hid (show putL (allL s l) (l.take k) = putL (allL s l) l from by rw [List.take_of_length_le (by rw [HLN.out]; exact Nat.le_refl _)])
      have HK0 : Hid (WOs w (allL s l) pa [] (.slice none 0 0) wr) := Lib.hid ⟨World.ownsRow_nil _ _ _ _, HK.out.all, HK.out.below, HK.out.ge.2⟩
      generalize allL s l = A at *
      clear HTK HEN HS HLS HK hlt hk
      rename_i wq
      go_wp2_with fail
      go_loopw [7, 8, 9] (fun s7 s8 s9 wr => ∃ j : Nat, j ≤ k ∧ s9 = .int .i64 j ∧ s8 = .bool (putL A (l.take j)).2 ∧ Hid (WOs w A pa (putL A (l.take j)).1 s7 wr)) (fun _ _ s9 _ => k - (intOf s9).toNat)
      case atStart => exact ⟨0, Nat.zero_le _, rfl, rfl, HK0⟩
      case round =>
        obtain ⟨j, hj, rfl, rfl, HK⟩ := hrel
        by_cases hlt : j < k
        · obtain ⟨g, off, rfl, hc⟩ := HC.out (by omega)
          obtain ⟨m0, m1⟩ := hc j hlt
          have HTK1 := Lib.hid (HTP.out j hlt)
          have hLE := HLE.out j
          generalize l.getD j (0, 0) = x at *
          generalize hq : putL A (l.take j) = q at *
          obtain ⟨L, pb⟩ := q
          have HKP := Lib.hid (fun X (L' : List Sp) (v' : Value) (K : WOs w A pa L' v' X) => show X.cell? ⟨pa, 0, none⟩ = some (.int .i64 A.1) ∧ X.cell? ⟨pa, 1, none⟩ = some (.int .i64 A.2) ∧ X.cell? ⟨g, off + j * 2, none⟩ = some (.int .i64 x.1) ∧ X.cell? ⟨g, off + j * 2 + 1, none⟩ = some (.int .i64 x.2) from
            ⟨K.sp.c0, K.sp.c1, (K.below.cell (World.block_lt_of_cell? w _ m0)).trans m0, (K.below.cell (World.block_lt_of_cell? w _ m1)).trans m1⟩)
          have HTO := Lib.hid (fun X => rtouch_any x A X)
          have HPS := Lib.hid (show putS A (L, pb) x = if touchB x A = true then (L, pb) else if pb = false ∧ A.1 < x.1 then (L ++ [A] ++ [x], true) else (L ++ [x], pb) from rfl)
          clear m0 m1 hc HC HTP HLE HEP HRF hq
          dsimp only at hLE HK
          generalize touchB x A = tb at *
          have Kc := HK.out.later (Below.refl _ _).drew
          go_upto_region 14 with (fail)
          go_cut [45] from 34 to 68 (fun s45 wx => s45 = .bool tb ∧ Hid (WOs w A pa L u7 wx))
          case first =>
            refine wp_region_noPanic ?_
            refine wp_region_held_drew (S := (fun w' => w'.cell? ⟨pa, 0, none⟩ = some (.int .i64 A.1) ∧ w'.cell? ⟨pa, 1, none⟩ = some (.int .i64 A.2) ∧ w'.cell? ⟨g, off + j * 2, none⟩ = some (.int .i64 x.1) ∧ w'.cell? ⟨g, off + j * 2 + 1, none⟩ = some (.int .i64 x.2))) (by kernel_rfl) ?_ (fun hHeld => ?_)
            · ((try dsimp only); exact HKP.out _ _ _ Kc)
            generalize wr.drew = C0 at *
            refine wpAnyH_take (i := 0) (oi := _) (v := ?_) rfl (by kernel_rfl) (by kernel_rfl) (by kernel_rfl) (fun _ _ _ h => h) (Or.inl ⟨by rfl, ?_⟩) (by assumption) ?_
            rotate_left
            · (first | (intro v hSw; (try dsimp only at hSw); go_simp; done) | (intro v hSw; (try dsimp only at hSw); go_simp; with_reducible rfl))
            (try simp only [List.getElem_toArray, List.getElem_cons_succ, List.getElem_cons_zero, Act.put, List.setIfInBounds_toArray, List.set_cons_zero, List.set_cons_succ])
            refine wpAnyH_take (i := 1) (oi := _) (v := ?_) rfl (by kernel_rfl) (by kernel_rfl) (by kernel_rfl) (fun _ _ _ h => h) (Or.inl ⟨by rfl, ?_⟩) (by assumption) ?_
            rotate_left
            · (first | (intro v hSw; (try dsimp only at hSw); go_simp; done) | (intro v hSw; (try dsimp only at hSw); go_simp; with_reducible rfl))
            (try simp only [List.getElem_toArray, List.getElem_cons_succ, List.getElem_cons_zero, Act.put, List.setIfInBounds_toArray, List.set_cons_zero, List.set_cons_succ])
            refine wpAnyH_take (i := 2) (oi := _) (v := ?_) rfl (by kernel_rfl) (by kernel_rfl) (by kernel_rfl) (fun _ _ _ h => h) (Or.inl ⟨by rfl, ?_⟩) (by assumption) ?_
            rotate_left
            · (first | (intro v hSw; (try dsimp only at hSw); go_simp; done) | (intro v hSw; (try dsimp only at hSw); go_simp; with_reducible rfl))
            (try simp only [List.getElem_toArray, List.getElem_cons_succ, List.getElem_cons_zero, Act.put, List.setIfInBounds_toArray, List.set_cons_zero, List.set_cons_succ])
            refine wpAnyH_take (i := 3) (oi := _) (v := ?_) rfl (by kernel_rfl) (by kernel_rfl) (by kernel_rfl) (fun _ _ _ h => h) (Or.inl ⟨by rfl, ?_⟩) (by assumption) ?_
            rotate_left
            · (first | (intro v hSw; (try dsimp only at hSw); go_simp; done) | (intro v hSw; (try dsimp only at hSw); go_simp; with_reducible rfl))
            (try simp only [List.getElem_toArray, List.getElem_cons_succ, List.getElem_cons_zero, Act.put, List.setIfInBounds_toArray, List.set_cons_zero, List.set_cons_succ])
            refine wpAnyH_take (i := 4) (oi := _) (v := ?_) rfl (by kernel_rfl) (by kernel_rfl) (by kernel_rfl) (fun _ _ _ h => h) (Or.inl ⟨by rfl, ?_⟩) (by assumption) ?_
            rotate_left
            · (first | (intro v hSw; (try dsimp only at hSw); go_simp; done) | (intro v hSw; (try dsimp only at hSw); go_simp; with_reducible rfl))
            (try simp only [List.getElem_toArray, List.getElem_cons_succ, List.getElem_cons_zero, Act.put, List.setIfInBounds_toArray, List.set_cons_zero, List.set_cons_succ])
            refine wpAnyH_ready (rs := [5]) (by kernel_rfl) (by simp) ?_
            refine AllReadyH.cons (o := _) rfl (fun K hK => ?_) AllReadyH.nil
            go_simp
            (refine (HTO.out _).mono ?_)
            rintro e w3 ⟨rfl, h3⟩
            replace Kc := Kc.later h3
            refine hK.out _ _ ?_ (fun hHeld => ?_)
            · ((try dsimp only); exact HKP.out _ _ _ Kc)
            clear hK K
            (try simp only [List.getElem_toArray, List.getElem_cons_succ, List.getElem_cons_zero, Act.put, List.setIfInBounds_toArray, List.set_cons_zero, List.set_cons_succ])
            refine wpAnyH_done (by kernel_rfl) ?_ _
            refine NoPanic.normal ?_
            clear hHeld
            go_wp2_with fail
            go_meet
            exact ⟨rfl, Lib.hid Kc⟩
          case rest =>
            obtain ⟨rfl, HK7⟩ := hcut
            clear Kc HK
            cases tb
            · rw [if_neg (by simp)] at HPS
              have HAP := Lib.hid (fun (v : Value) (X : World) (L2 : List Sp) (pb2 : Bool) (hps : putS A (L, pb) x = (L2, pb2)) (K : WOs w A pa L2 v X) => show (pb2 = (putL A (l.take (j + 1))).2 ∧ Hid (WOs w A pa (putL A (l.take (j + 1))).1 v X)) from
                ⟨by rw [HTK1.out, hps], by rw [HTK1.out, hps]; exact Lib.hid K⟩)
              have Kc := HK7.out.later (Below.refl _ _).drew
              obtain ⟨f0, f1, f2, f3⟩ := HKP.out _ _ _ Kc
              clear HTK1
              go_upto_region 15 with (fail)
              go_cut [57] from 34 to 68 (fun s57 wx => s57 = .bool (!pb && decide (A.1 < x.1)) ∧ Hid (WOs w A pa L u7 wx))
              case first =>
                cases pb
                · clear f0 f1 f2 f3
                  refine wp_region_noPanic ?_
                  refine wp_region_held_drew (S := (fun w' => w'.cell? ⟨pa, 0, none⟩ = some (.int .i64 A.1) ∧ w'.cell? ⟨pa, 1, none⟩ = some (.int .i64 A.2) ∧ w'.cell? ⟨g, off + j * 2, none⟩ = some (.int .i64 x.1) ∧ w'.cell? ⟨g, off + j * 2 + 1, none⟩ = some (.int .i64 x.2))) (by kernel_rfl) ?_ (fun hHeld => ?_)
                  · ((try dsimp only); exact HKP.out _ _ _ Kc)
                  generalize wc.drew = C0 at *
                  refine wpAnyH_take (i := 0) (oi := _) (v := ?_) rfl (by kernel_rfl) (by kernel_rfl) (by kernel_rfl) (fun _ _ _ h => h) (Or.inl ⟨by rfl, ?_⟩) (by assumption) ?_
                  rotate_left
                  · (first | (intro v hSw; (try dsimp only at hSw); go_simp; done) | (intro v hSw; (try dsimp only at hSw); go_simp; with_reducible rfl))
                  (try simp only [List.getElem_toArray, List.getElem_cons_succ, List.getElem_cons_zero, Act.put, List.setIfInBounds_toArray, List.set_cons_zero, List.set_cons_succ])
                  refine wpAnyH_take (i := 1) (oi := _) (v := ?_) rfl (by kernel_rfl) (by kernel_rfl) (by kernel_rfl) (fun _ _ _ h => h) (Or.inl ⟨by rfl, ?_⟩) (by assumption) ?_
                  rotate_left
                  · (first | (intro v hSw; (try dsimp only at hSw); go_simp; done) | (intro v hSw; (try dsimp only at hSw); go_simp; with_reducible rfl))
                  (try simp only [List.getElem_toArray, List.getElem_cons_succ, List.getElem_cons_zero, Act.put, List.setIfInBounds_toArray, List.set_cons_zero, List.set_cons_succ])
                  refine wpAnyH_take (i := 2) (oi := _) (v := ?_) rfl (by kernel_rfl) (by kernel_rfl) (by kernel_rfl) (fun _ _ _ h => h) (Or.inl ⟨by rfl, ?_⟩) (by assumption) ?_
                  rotate_left
                  · (first | (intro v hSw; (try dsimp only at hSw); go_simp; done) | (intro v hSw; (try dsimp only at hSw); go_simp; with_reducible rfl))
                  (try simp only [List.getElem_toArray, List.getElem_cons_succ, List.getElem_cons_zero, Act.put, List.setIfInBounds_toArray, List.set_cons_zero, List.set_cons_succ])
                  refine wpAnyH_take (i := 3) (oi := _) (v := ?_) rfl (by kernel_rfl) (by kernel_rfl) (by kernel_rfl) (fun _ _ _ h => h) (Or.inl ⟨by rfl, ?_⟩) (by assumption) ?_
                  rotate_left
                  · (first | (intro v hSw; (try dsimp only at hSw); go_simp; done) | (intro v hSw; (try dsimp only at hSw); go_simp; with_reducible rfl))
                  (try simp only [List.getElem_toArray, List.getElem_cons_succ, List.getElem_cons_zero, Act.put, List.setIfInBounds_toArray, List.set_cons_zero, List.set_cons_succ])
                  refine wpAnyH_take (i := 4) (oi := _) (v := ?_) rfl (by kernel_rfl) (by kernel_rfl) (by kernel_rfl) (fun _ _ _ h => h) (Or.inl ⟨by rfl, ?_⟩) (by assumption) ?_
                  rotate_left
                  · (first | (intro v hSw; (try dsimp only at hSw); go_simp; done) | (intro v hSw; (try dsimp only at hSw); go_simp; with_reducible rfl))
                  (try simp only [List.getElem_toArray, List.getElem_cons_succ, List.getElem_cons_zero, Act.put, List.setIfInBounds_toArray, List.set_cons_zero, List.set_cons_succ])
                  refine wpAnyH_take (i := 5) (oi := _) (v := ?_) rfl (by kernel_rfl) (by kernel_rfl) (by kernel_rfl) (fun _ _ _ h => h) (Or.inl ⟨by rfl, ?_⟩) (by assumption) ?_
                  rotate_left
                  · (first | (intro v hSw; (try dsimp only at hSw); go_simp; done) | (intro v hSw; (try dsimp only at hSw); go_simp; with_reducible rfl))
                  (try simp only [List.getElem_toArray, List.getElem_cons_succ, List.getElem_cons_zero, Act.put, List.setIfInBounds_toArray, List.set_cons_zero, List.set_cons_succ])
                  refine wpAnyH_take (i := 6) (oi := _) (v := ?_) rfl (by kernel_rfl) (by kernel_rfl) (by kernel_rfl) (fun _ _ _ h => h) (Or.inl ⟨by rfl, ?_⟩) (by assumption) ?_
                  rotate_left
                  · (first | (intro v hSw; (try dsimp only at hSw); go_simp; done) | (intro v hSw; (try dsimp only at hSw); go_simp; with_reducible rfl))
                  (try simp only [List.getElem_toArray, List.getElem_cons_succ, List.getElem_cons_zero, Act.put, List.setIfInBounds_toArray, List.set_cons_zero, List.set_cons_succ])
                  refine wpAnyH_take (i := 7) (oi := _) (v := ?_) rfl (by kernel_rfl) (by kernel_rfl) (by kernel_rfl) (fun _ _ _ h => h) (Or.inl ⟨by rfl, ?_⟩) (by assumption) ?_
                  rotate_left
                  · (first | (intro v hSw; (try dsimp only at hSw); go_simp; done) | (intro v hSw; (try dsimp only at hSw); go_simp; with_reducible rfl))
                  (try simp only [List.getElem_toArray, List.getElem_cons_succ, List.getElem_cons_zero, Act.put, List.setIfInBounds_toArray, List.set_cons_zero, List.set_cons_succ])
                  refine wpAnyH_take (i := 8) (oi := _) (v := ?_) rfl (by kernel_rfl) (by kernel_rfl) (by kernel_rfl) (fun _ _ _ h => h) (Or.inl ⟨by rfl, ?_⟩) (by assumption) ?_
                  rotate_left
                  · (first | (intro v hSw; (try dsimp only at hSw); go_simp; done) | (intro v hSw; (try dsimp only at hSw); go_simp; with_reducible rfl))
                  (try simp only [List.getElem_toArray, List.getElem_cons_succ, List.getElem_cons_zero, Act.put, List.setIfInBounds_toArray, List.set_cons_zero, List.set_cons_succ])
                  refine wpAnyH_take (i := 9) (oi := _) (v := ?_) rfl (by kernel_rfl) (by kernel_rfl) (by kernel_rfl) (fun _ _ _ h => h) (Or.inl ⟨by rfl, ?_⟩) (by assumption) ?_
                  rotate_left
                  · (first | (intro v hSw; (try dsimp only at hSw); go_simp; done) | (intro v hSw; (try dsimp only at hSw); go_simp; with_reducible rfl))
                  (try simp only [List.getElem_toArray, List.getElem_cons_succ, List.getElem_cons_zero, Act.put, List.setIfInBounds_toArray, List.set_cons_zero, List.set_cons_succ])
                  refine wpAnyH_take (i := 10) (oi := _) (v := ?_) rfl (by kernel_rfl) (by kernel_rfl) (by kernel_rfl) (fun _ _ _ h => h) (Or.inl ⟨by rfl, ?_⟩) (by assumption) ?_
                  rotate_left
                  · (first | (intro v hSw; (try dsimp only at hSw); go_simp; done) | (intro v hSw; (try dsimp only at hSw); go_simp; with_reducible rfl))
                  (try simp only [List.getElem_toArray, List.getElem_cons_succ, List.getElem_cons_zero, Act.put, List.setIfInBounds_toArray, List.set_cons_zero, List.set_cons_succ])
                  refine wpAnyH_take (i := 11) (oi := _) (v := ?_) rfl (by kernel_rfl) (by kernel_rfl) (by kernel_rfl) (fun _ _ _ h => h) (Or.inl ⟨by rfl, ?_⟩) (by assumption) ?_
                  rotate_left
                  · (first | (intro v hSw; (try dsimp only at hSw); go_simp; done) | (intro v hSw; (try dsimp only at hSw); go_simp; with_reducible rfl))
                  (try simp only [List.getElem_toArray, List.getElem_cons_succ, List.getElem_cons_zero, Act.put, List.setIfInBounds_toArray, List.set_cons_zero, List.set_cons_succ])
                  refine wpAnyH_done (by kernel_rfl) ?_ _
                  refine NoPanic.normal ?_
                  clear hHeld
                  go_wp2_with fail
                  go_meet
                  exact ⟨by simp, Lib.hid Kc⟩
                · clear f0 f1 f2 f3
                  refine wp_region_noPanic ?_
                  refine wp_region_held_drew (S := (fun w' => w'.cell? ⟨pa, 0, none⟩ = some (.int .i64 A.1) ∧ w'.cell? ⟨pa, 1, none⟩ = some (.int .i64 A.2) ∧ w'.cell? ⟨g, off + j * 2, none⟩ = some (.int .i64 x.1) ∧ w'.cell? ⟨g, off + j * 2 + 1, none⟩ = some (.int .i64 x.2))) (by kernel_rfl) ?_ (fun hHeld => ?_)
                  · ((try dsimp only); exact HKP.out _ _ _ Kc)
                  generalize wc.drew = C0 at *
                  refine wpAnyH_take (i := 0) (oi := _) (v := ?_) rfl (by kernel_rfl) (by kernel_rfl) (by kernel_rfl) (fun _ _ _ h => h) (Or.inl ⟨by rfl, ?_⟩) (by assumption) ?_
                  rotate_left
                  · (first | (intro v hSw; (try dsimp only at hSw); go_simp; done) | (intro v hSw; (try dsimp only at hSw); go_simp; with_reducible rfl))
                  (try simp only [List.getElem_toArray, List.getElem_cons_succ, List.getElem_cons_zero, Act.put, List.setIfInBounds_toArray, List.set_cons_zero, List.set_cons_succ])
                  refine wpAnyH_take (i := 1) (oi := _) (v := ?_) rfl (by kernel_rfl) (by kernel_rfl) (by kernel_rfl) (fun _ _ _ h => h) (Or.inl ⟨by rfl, ?_⟩) (by assumption) ?_
                  rotate_left
                  · (first | (intro v hSw; (try dsimp only at hSw); go_simp; done) | (intro v hSw; (try dsimp only at hSw); go_simp; with_reducible rfl))
                  (try simp only [List.getElem_toArray, List.getElem_cons_succ, List.getElem_cons_zero, Act.put, List.setIfInBounds_toArray, List.set_cons_zero, List.set_cons_succ])
                  refine wpAnyH_take (i := 2) (oi := _) (v := ?_) rfl (by kernel_rfl) (by kernel_rfl) (by kernel_rfl) (fun _ _ _ h => h) (Or.inl ⟨by rfl, ?_⟩) (by assumption) ?_
                  rotate_left
                  · (first | (intro v hSw; (try dsimp only at hSw); go_simp; done) | (intro v hSw; (try dsimp only at hSw); go_simp; with_reducible rfl))
                  (try simp only [List.getElem_toArray, List.getElem_cons_succ, List.getElem_cons_zero, Act.put, List.setIfInBounds_toArray, List.set_cons_zero, List.set_cons_succ])
                  refine wpAnyH_take (i := 3) (oi := _) (v := undef) rfl (by kernel_rfl) (by kernel_rfl) (by kernel_rfl) (fun _ _ _ h => h) (Or.inr ⟨by rfl, rfl⟩) (by assumption) ?_
                  (try simp only [List.getElem_toArray, List.getElem_cons_succ, List.getElem_cons_zero, Act.put, List.setIfInBounds_toArray, List.set_cons_zero, List.set_cons_succ])
                  refine wpAnyH_take (i := 4) (oi := _) (v := undef) rfl (by kernel_rfl) (by kernel_rfl) (by kernel_rfl) (fun _ _ _ h => h) (Or.inr ⟨by rfl, rfl⟩) (by assumption) ?_
                  (try simp only [List.getElem_toArray, List.getElem_cons_succ, List.getElem_cons_zero, Act.put, List.setIfInBounds_toArray, List.set_cons_zero, List.set_cons_succ])
                  refine wpAnyH_take (i := 5) (oi := _) (v := undef) rfl (by kernel_rfl) (by kernel_rfl) (by kernel_rfl) (fun _ _ _ h => h) (Or.inr ⟨by rfl, rfl⟩) (by assumption) ?_
                  (try simp only [List.getElem_toArray, List.getElem_cons_succ, List.getElem_cons_zero, Act.put, List.setIfInBounds_toArray, List.set_cons_zero, List.set_cons_succ])
                  refine wpAnyH_take (i := 6) (oi := _) (v := undef) rfl (by kernel_rfl) (by kernel_rfl) (by kernel_rfl) (fun _ _ _ h => h) (Or.inr ⟨by rfl, rfl⟩) (by assumption) ?_
                  (try simp only [List.getElem_toArray, List.getElem_cons_succ, List.getElem_cons_zero, Act.put, List.setIfInBounds_toArray, List.set_cons_zero, List.set_cons_succ])
                  refine wpAnyH_take (i := 7) (oi := _) (v := undef) rfl (by kernel_rfl) (by kernel_rfl) (by kernel_rfl) (fun _ _ _ h => h) (Or.inr ⟨by rfl, rfl⟩) (by assumption) ?_
                  (try simp only [List.getElem_toArray, List.getElem_cons_succ, List.getElem_cons_zero, Act.put, List.setIfInBounds_toArray, List.set_cons_zero, List.set_cons_succ])
                  refine wpAnyH_take (i := 8) (oi := _) (v := undef) rfl (by kernel_rfl) (by kernel_rfl) (by kernel_rfl) (fun _ _ _ h => h) (Or.inr ⟨by rfl, rfl⟩) (by assumption) ?_
                  (try simp only [List.getElem_toArray, List.getElem_cons_succ, List.getElem_cons_zero, Act.put, List.setIfInBounds_toArray, List.set_cons_zero, List.set_cons_succ])
                  refine wpAnyH_take (i := 9) (oi := _) (v := undef) rfl (by kernel_rfl) (by kernel_rfl) (by kernel_rfl) (fun _ _ _ h => h) (Or.inr ⟨by rfl, rfl⟩) (by assumption) ?_
                  (try simp only [List.getElem_toArray, List.getElem_cons_succ, List.getElem_cons_zero, Act.put, List.setIfInBounds_toArray, List.set_cons_zero, List.set_cons_succ])
                  refine wpAnyH_take (i := 10) (oi := _) (v := undef) rfl (by kernel_rfl) (by kernel_rfl) (by kernel_rfl) (fun _ _ _ h => h) (Or.inr ⟨by rfl, rfl⟩) (by assumption) ?_
                  (try simp only [List.getElem_toArray, List.getElem_cons_succ, List.getElem_cons_zero, Act.put, List.setIfInBounds_toArray, List.set_cons_zero, List.set_cons_succ])
                  refine wpAnyH_take (i := 11) (oi := _) (v := ?_) rfl (by kernel_rfl) (by kernel_rfl) (by kernel_rfl) (fun _ _ _ h => h) (Or.inl ⟨by rfl, ?_⟩) (by assumption) ?_
                  rotate_left
                  · (first | (intro v hSw; (try dsimp only at hSw); go_simp; done) | (intro v hSw; (try dsimp only at hSw); go_simp; with_reducible rfl))
                  (try simp only [List.getElem_toArray, List.getElem_cons_succ, List.getElem_cons_zero, Act.put, List.setIfInBounds_toArray, List.set_cons_zero, List.set_cons_succ])
                  refine wpAnyH_done (by kernel_rfl) ?_ _
                  refine NoPanic.normal ?_
                  clear hHeld
                  go_wp2_with fail
                  go_meet
                  exact ⟨by simp, Lib.hid Kc⟩
              case rest =>
                obtain ⟨rfl, HK8⟩ := hcut
                clear Kc f0 f1 f2 f3 HK7
                have Kc := HK8.out
                obtain ⟨f0, f1, f2, f3⟩ := HKP.out _ _ _ Kc
                by_cases hcd : pb = false ∧ A.1 < x.1
                · rw [if_pos hcd] at HPS
                  have hcb : (!pb && decide (A.1 < x.1)) = true := by simp [hcd]
                  rw [hcb]
                  clear hcd hcb HK8
                  have HO := Lib.hid (Kc.al (.cells #[.int .i64 A.1, .int .i64 A.2] 24)).own
                  have HSRC := Lib.hid (span_src wc A)
                  have hbs := Kc.sp.lt
                  have HKK := Lib.hid Kc
                  clear Kc
                  go_wp2_with (at_builtin; refine wpList_append_sz _ rfl (.tmp 58) (.tmp 60) 30 30 rfl (pa + 1) 24 i0 (.agg #[.int .i64 0, .int .i64 0]) 2 16 Try.underlying30 hi hz0 hz1 (by decide) hz2 rfl u7 (L).length (spCells (L)) rfl HO.out _ rfl 1 [.int .i64 A.1, .int .i64 A.2] HSRC.out (by unfold maxLen; (try simp only [List.length_append, List.length_singleton]); omega) (by (try simp only [List.length_append, List.length_singleton]); omega) (by simp; omega) ?_)
                  intro a58 cap58 w5 ho hg hw
                  have K5 := (HKK.out.al (.cells #[.int .i64 A.1, .int .i64 A.2] 24)).grow (by simp) ho hg
                  clear HO HSRC ho hg hw HKK hbs
                  clear f0 f1 f2 f3
                  obtain ⟨f0, f1, f2, f3⟩ := HKP.out _ _ _ K5
                  have HO := Lib.hid (K5.al (.cells #[.int .i64 x.1, .int .i64 x.2] 24)).own
                  have HSRC := Lib.hid (span_src w5 x)
                  have hbs := K5.sp.lt
                  have HKK := Lib.hid K5
                  clear K5
                  go_wp2_with (at_builtin; refine wpList_append_sz _ rfl (.tmp 62) (.tmp 67) 30 30 rfl (pa + 1) 24 i0 (.agg #[.int .i64 0, .int .i64 0]) 2 16 Try.underlying30 hi hz0 hz1 (by decide) hz2 rfl (.slice a58 (L.length + 1) cap58) ((L ++ [A])).length (spCells ((L ++ [A]))) rfl HO.out _ rfl 1 [.int .i64 x.1, .int .i64 x.2] HSRC.out (by unfold maxLen; (try simp only [List.length_append, List.length_singleton]); omega) (by (try simp only [List.length_append, List.length_singleton]); omega) (by simp; omega) ?_)
                  intro a62 cap62 w6 ho hg hw
                  have K6 := (HKK.out.al (.cells #[.int .i64 x.1, .int .i64 x.2] 24)).grow (by simp) ho hg
                  clear HO HSRC ho hg hw HKK hbs
                  have HF := Lib.hid (HAP.out _ _ _ _ HPS.out K6)
                  clear f0 f1 f2 f3 K6
                  go_wp2_with fail
                  go_roundw
                  case rel => exact ⟨j + 1, by omega, by go_num, by rw [← HF.out.1], HF.out.2⟩
                  case measure => simp [intOf]; omega
                · rw [if_neg hcd] at HPS
                  have hcb : (!pb && decide (A.1 < x.1)) = false := by cases pb <;> simp at hcd ⊢ <;> omega
                  rw [hcb]
                  clear hcd hcb HK8
                  have HO := Lib.hid (Kc.al (.cells #[.int .i64 x.1, .int .i64 x.2] 24)).own
                  have HSRC := Lib.hid (span_src wc x)
                  have hbs := Kc.sp.lt
                  have HKK := Lib.hid Kc
                  clear Kc
                  go_wp2_with (at_builtin; refine wpList_append_sz _ rfl (.tmp 62) (.tmp 67) 30 30 rfl (pa + 1) 24 i0 (.agg #[.int .i64 0, .int .i64 0]) 2 16 Try.underlying30 hi hz0 hz1 (by decide) hz2 rfl u7 (L).length (spCells (L)) rfl HO.out _ rfl 1 [.int .i64 x.1, .int .i64 x.2] HSRC.out (by unfold maxLen; (try simp only [List.length_append, List.length_singleton]); omega) (by (try simp only [List.length_append, List.length_singleton]); omega) (by simp; omega) ?_)
                  intro a62 cap62 w6 ho hg hw
                  have K6 := (HKK.out.al (.cells #[.int .i64 x.1, .int .i64 x.2] 24)).grow (by simp) ho hg
                  clear HO HSRC ho hg hw HKK hbs
                  have HF := Lib.hid (HAP.out _ _ _ _ HPS.out K6)
                  clear f0 f1 f2 f3 K6
                  go_wp2_with fail
                  go_roundw
                  case rel => exact ⟨j + 1, by omega, by go_num, by rw [← HF.out.1], HF.out.2⟩
                  case measure => simp [intOf]; omega
            · rw [if_pos rfl] at HPS
              have HF := Lib.hid (show (pb = (putL A (l.take (j + 1))).2 ∧ Hid (WOs w A pa (putL A (l.take (j + 1))).1 u7 wc)) from
                ⟨by rw [HTK1.out, HPS.out], by rw [HTK1.out, HPS.out]; exact HK7⟩)
              clear HTK1 HPS
              go_wp2_with fail
              go_roundw
              case rel => exact ⟨j + 1, by omega, by go_num, by rw [← HF.out.1], HF.out.2⟩
              case measure => simp [intOf]; omega
        · obtain rfl : j = k := by omega
          rw [HEP.out] at HK ⊢
          have hLE := HLE.out j
          rw [HEP.out] at hLE
          generalize putL A l = q at *
          obtain ⟨L, pb⟩ := q
          dsimp only at hLE HK ⊢
          have HRF' := Lib.hid (show refWi l s = if pb = true then L else L ++ [A] from HRF.out)
          have Kc := HK.out
          clear HC HTP HLE HEP HRF HK HK0
          cases pb
          · rw [if_neg (by simp)] at HRF'
            have f0 := Kc.sp.c0; have f1 := Kc.sp.c1
            have HO := Lib.hid (Kc.al (.cells #[.int .i64 A.1, .int .i64 A.2] 24)).own
            have HSRC := Lib.hid (span_src wr A)
            have hbs := Kc.sp.lt
            have HKK := Lib.hid Kc
            clear Kc
            go_wp2_with (at_builtin; refine wpList_append_sz _ rfl (.tmp 71) (.tmp 73) 30 30 rfl (pa + 1) 24 i0 (.agg #[.int .i64 0, .int .i64 0]) 2 16 Try.underlying30 hi hz0 hz1 (by decide) hz2 rfl u7 (L).length (spCells (L)) rfl HO.out _ rfl 1 [.int .i64 A.1, .int .i64 A.2] HSRC.out (by unfold maxLen; (try simp only [List.length_append, List.length_singleton]); omega) (by (try simp only [List.length_append, List.length_singleton]); omega) (by simp; omega) ?_)
            intro a71 cap71 w6 ho hg hw
            have K6 := (HKK.out.al (.cells #[.int .i64 A.1, .int .i64 A.2] 24)).grow (by simp) ho hg
            clear HO HSRC ho hg hw HKK hbs
            obtain ⟨a', cap', hv, hsl, hob⟩ := sls_of_own K6.own
            have hfar : ∀ x, a' = some x → w.heap.size ≤ x.block := fun x hx => by have := (own_in K6.own (hob x hx)).2; have := K6.ge; omega
            clear hob
            have HF := Lib.hid (show SlS w6 a' _ cap' (refWi l s) from by rw [HRF'.out]; exact hsl)
            have hb := K6.below
            rw [hv]
            clear f0 f1 hsl K6
            go_wp2_with fail
            go_ret
            exact ⟨_, _, _, rfl, HF.out, hb, fun x hx => .inr (hfar x hx)⟩
          · rw [if_pos rfl] at HRF'
            obtain ⟨a', cap', rfl, hsl, hob⟩ := sls_of_own Kc.own
            have hfar : ∀ x, a' = some x → w.heap.size ≤ x.block := fun x hx => by have := (own_in Kc.own (hob x hx)).2; have := Kc.ge; omega
            clear hob
            have HF := Lib.hid (show SlS wr a' _ cap' (refWi l s) from by rw [HRF'.out]; exact hsl)
            have hb := Kc.below
            clear hsl Kc
            go_wp2_with fail
            go_ret
            exact ⟨_, _, _, rfl, HF.out, hb, fun x hx => .inr (hfar x hx)⟩
end Go.Proofs.Ytegbkeichkifnaa.rn
/-!   Rows of which all is known: append into room, copy, clear, append of zeros that grows (slices.Grow). Imports nothing of the program.
-/
namespace Go.Proofs.Ytegbkeichkifnaa.mem
open Go.RowKit aid
set_option linter.unusedVariables false
set_option linter.unusedSimpArgs false

/-- a slice's row, all of it -/
structure SlP (w : World) (e : TypeId) (sz g off n cap : Nat) (xs P R : List Value) : Prop where
  heap : w.heap[g]? = some (.cells (P ++ xs ++ R).toArray e (0, 0))
  p : P.length = off
  len : xs.length = n * sz
  le : n ≤ cap
  most : cap ≤ maxLen
  room : cap * sz ≤ xs.length + R.length
theorem SlP.slr {w : World} {e : TypeId} {sz g off n cap : Nat} {xs P R : List Value} (h : SlP w e sz g off n cap xs P R) : SlR w e sz (some ⟨g, off, none⟩) n cap xs :=
  ⟨h.len, h.le, h.most, fun _ => ⟨g, off, _, rfl, h.heap, by
    have h1 := h.p; have h2 := h.room
    simp only [List.size_toArray, List.length_append]
    omega, fun j hj => by
    have h1 := h.p; have h2 := h.len
    rw [List.getElem?_toArray, List.append_assoc, List.getElem?_append_right (by omega), List.getElem?_append_left (by omega)]
    congr 1
    omega⟩⟩
theorem SlR.slp {w : World} {e : TypeId} {sz n cap : Nat} {a : Option Addr} {xs : List Value} (h : SlR w e sz a n cap xs) (h0 : 0 < cap) : ∃ g off P R, a = some ⟨g, off, none⟩ ∧ SlP w e sz g off n cap xs P R := by
  obtain ⟨g, off, cur, rfl, hg, h1, h2⟩ := h.rest h0
  have hmul : n * sz ≤ cap * sz := Nat.mul_le_mul_right _ h.le
  have hlen := h.len
  have e1 : cur.toList = cur.toList.take off ++ xs ++ cur.toList.drop (off + n * sz) := by
    have e2 : (cur.toList.drop off).take (n * sz) = xs := by
      apply List.ext_getElem?
      intro j
      rw [List.getElem?_take]
      by_cases hj : j < n * sz
      · rw [if_pos hj, List.getElem?_drop, ← h2 j hj]
        simp
      · rw [if_neg hj, List.getElem?_eq_none (by omega)]
    conv => lhs; rw [← List.take_append_drop off cur.toList]
    rw [List.append_assoc]
    congr 1
    conv => lhs; rw [← List.take_append_drop (n * sz) (cur.toList.drop off)]
    rw [e2, List.drop_drop]
  refine ⟨g, off, cur.toList.take off, cur.toList.drop (off + n * sz), rfl, ?_, ?_, hlen, h.le, h.most, ?_⟩
  · rw [← e1]; simpa using hg
  · rw [List.length_take, Array.length_toList]; omega
  · show cap * sz ≤ xs.length + (cur.toList.drop (off + n * sz)).length
    have hc : cur.toList.length = cur.size := Array.length_toList
    rw [List.length_drop, hc, hlen]; omega
theorem SlP.later {w w' : World} {e : TypeId} {sz g off n cap : Nat} {xs P R : List Value} (h : SlP w e sz g off n cap xs P R) (hb : Below w.heap.size w w') : SlP w' e sz g off n cap xs P R :=
  ⟨(hb.block _ (lt_of_block h.heap)).trans h.heap, h.p, h.len, h.le, h.most, h.room⟩
theorem addr_add (g off j : Nat) : (⟨g, off, none⟩ : Addr).add j = ⟨g, off + j, none⟩ := by unfold Addr.add; split <;> simp_all
theorem kept_setRow (w : World) (g : Nat) (cs : Array Value) : Kept [g] w (w.setRow g cs) := ⟨rfl, rfl, rfl, by simp [World.setRow], fun k _ hk => setRow_other w g k cs (fun e => hk (by simp [e]))⟩
section
variable {P : Program} (w : World)
/-- what a store of cells leaves -/
theorem run_store_row (g o : Nat) (t : TypeId) (A B C vs : List Value) (hg : w.heap[g]? = some (.cells (A ++ B ++ C).toArray t (0, 0))) (hA : A.length = o) (hB : B.length = vs.length) (h1 : ∀ v ∈ vs, v.oneCell' = true) :
    (storeCells ⟨g, o, none⟩ vs 0).run P w = .ok () (w.setRow g (A ++ vs ++ C).toArray) := by
  have := run_storeCells_at P g o t vs 0 _ w hg (by simp; omega) h1
  rw [this]
  congr 3
  simp only [Nat.add_zero]
  have e1 : (A ++ B ++ C).take o = A := by rw [List.append_assoc, ← hA]; exact List.take_left
  have e2 : (A ++ B ++ C).drop (o + vs.length) = C := by
    rw [show o + vs.length = (A ++ B).length by simp; omega]
    exact List.drop_left
  rw [e1, e2]
/-- append, where there is room -/
theorem run_append_p (t tx ty : TypeId) (e : TypeId) (i : TypeInfo) (sz : Nat) (ht : P.underlying t = some (.slice e)) (hi : P.info? e = some i) (hsize : i.size = sz) (g off n cap : Nat) (A B C : List Value)
    (hg : w.heap[g]? = some (.cells (A ++ B ++ C).toArray e (0, 0))) (hA : A.length = off + n * sz) (x : Value) (m : Nat) (news : List Value) (hs : Src P sz tx x m news w) (hB : B.length = m * sz) (hroom : n + m ≤ cap) :
    (Builtin.append_ #[t, tx] ty #[.slice (some ⟨g, off, none⟩) n cap, x]).run P w = .ok (.slice (some ⟨g, off, none⟩) (n + m) cap) (w.setRow g (A ++ news ++ C).toArray) := by
  subst hsize
  have hnl : news.length = m * i.size := by simpa using hs.newsLen
  have hst := run_store_row (P := P) w g (off + n * i.size) e A B C news hg hA (by rw [hB, hnl]) hs.one
  rcases hs.kind with ⟨e', hk⟩ | hk <;> simp [Builtin.append_, run_underlying ht, run_underlying hk, sizeOf, typeInfo, hi, hs.len, hroom, hs.cells, Addr.add_lit, hst]
theorem step_append_p {ops : Array Oper} {o : Oper} {a : Act} {K : Act → World → Prop} {Q : Exit → Act → World → Prop} {E : Prop} (hgd : o.guard = none) (s x : Operand) (t tx : TypeId)
    (ho : o.op = .call { callee := .builtin .append, args := #[s, x], argTypes := #[t, tx] })
    (e : TypeId) (i : TypeInfo) (sz : Nat) (ht : P.underlying t = some (.slice e)) (hi : P.info? e = some i) (hsize : i.size = sz) (g off n cap : Nat) (A B C : List Value) (hsv : a.eval s = .slice (some ⟨g, off, none⟩) n cap)
    (hg : w.heap[g]? = some (.cells (A ++ B ++ C).toArray e (0, 0))) (hA : A.length = off + n * sz) (xv : Value) (hx : a.eval x = xv) (m : Nat) (news : List Value) (hs : Src P sz tx xv m news w) (hB : B.length = m * sz) (hroom : n + m ≤ cap)
    (h : K (a.put o.dst (.slice (some ⟨g, off, none⟩) (n + m) cap)) (w.setRow g (A ++ news ++ C).toArray)) :
    if Region.wanted o (yielded ops a.tmps) = true then Oper.wp P o a w K Q else E := by
  have hw : Region.wanted o (yielded ops a.tmps) = true := by simp [Region.wanted, hgd]
  rw [if_pos hw]
  have hr := run_append_p (P := P) w t tx o.type e i sz ht hi hsize g off n cap A B C hg hA xv m news hs hB hroom
  unfold Oper.wp execOp
  simp only [ho, resolve, invoke, builtin, Sem.run_bind, Sem.run_pure, Result.andThen_ok, List.map_toArray, List.map_cons, List.map_nil, hsv, hx, hr]
  exact h
/-- copy, onto a part of a row -/
theorem run_copy_p (t tx ty : TypeId) (e : TypeId) (i : TypeInfo) (sz : Nat) (ht : P.underlying t = some (.slice e)) (hi : P.info? e = some i) (hsize : i.size = sz) (g off cap m : Nat) (A B C : List Value)
    (hg : w.heap[g]? = some (.cells (A ++ B ++ C).toArray e (0, 0))) (hA : A.length = off) (x : Value) (news : List Value) (hs : Src P sz tx x m news w) (hB : B.length = m * sz) :
    (Builtin.copy_ #[t, tx] ty #[.slice (some ⟨g, off, none⟩) m cap, x]).run P w = .ok (goInt m) (w.setRow g (A ++ news ++ C).toArray) := by
  subst hsize
  have hnl : news.length = m * i.size := by simpa using hs.newsLen
  have hst := run_store_row (P := P) w g off e A B C news hg hA (by rw [hB, hnl]) hs.one
  simp [Builtin.copy_, run_underlying ht, sizeOf, typeInfo, hi, hs.len, hs.cells, hst]
theorem wpList_copy_p {ops : Array Oper} {rest : List Oper} {o : Oper} {a : Act} {Q : Exit → Act → World → Prop} (hgd : o.guard = none) (s x : Operand) (t tx : TypeId)
    (ho : o.op = .call { callee := .builtin .copy, args := #[s, x], argTypes := #[t, tx] })
    (e : TypeId) (i : TypeInfo) (sz : Nat) (ht : P.underlying t = some (.slice e)) (hi : P.info? e = some i) (hsize : i.size = sz) (g off cap m : Nat) (A B C : List Value) (hsv : a.eval s = .slice (some ⟨g, off, none⟩) m cap)
    (hg : w.heap[g]? = some (.cells (A ++ B ++ C).toArray e (0, 0))) (hA : A.length = off) (xv : Value) (hx : a.eval x = xv) (news : List Value) (hs : Src P sz tx xv m news w) (hB : B.length = m * sz)
    (h : wpList P ops Q rest (a.put o.dst (goInt m)) (w.setRow g (A ++ news ++ C).toArray)) : wpList P ops Q (o :: rest) a w :=
  wpList_plain hgd fun _ hK => by
    have hr := run_copy_p (P := P) w t tx o.type e i sz ht hi hsize g off cap m A B C hg hA xv news hs hB
    unfold Oper.wp execOp
    simp only [ho, resolve, invoke, builtin, Sem.run_bind, Sem.run_pure, Result.andThen_ok, List.map_toArray, List.map_cons, List.map_nil, hsv, hx, hr]
    exact hK _ _ h
/-- nothing is copied -/
theorem run_copy_p0 (t tx ty : TypeId) (e : TypeId) (i : TypeInfo) (ht : P.underlying t = some (.slice e)) (hi : P.info? e = some i) (b : Option Addr) (cap : Nat) (c : Option Addr) (m k : Nat) :
    (Builtin.copy_ #[t, tx] ty #[.slice b 0 cap, .slice c m k]).run P w = .ok (goInt 0) w := by
  have hl : (Builtin.lenOf (.slice c m k)).run P w = .ok m w := rfl
  have hf : (Builtin.firstCells i.size 0 (.slice c m k)).run P w = .ok #[] w := by
    cases c with
    | none => simp [Builtin.firstCells]
    | some y => exact run_firstCells_some w i.size 0 y m k [] (by simp) (fun j v hj => by simp at hj)
  cases b <;> simp [Builtin.copy_, run_underlying ht, sizeOf, typeInfo, hi, hl, hf, storeCells]
theorem wpList_copy_p0 {ops : Array Oper} {rest : List Oper} {o : Oper} {a : Act} {Q : Exit → Act → World → Prop} (hgd : o.guard = none) (s x : Operand) (t tx : TypeId)
    (ho : o.op = .call { callee := .builtin .copy, args := #[s, x], argTypes := #[t, tx] })
    (e : TypeId) (i : TypeInfo) (ht : P.underlying t = some (.slice e)) (hi : P.info? e = some i) (b : Option Addr) (cap : Nat) (c : Option Addr) (m k : Nat) (hsv : a.eval s = .slice b 0 cap) (hx : a.eval x = .slice c m k)
    (h : wpList P ops Q rest (a.put o.dst (goInt 0)) w) : wpList P ops Q (o :: rest) a w :=
  wpList_plain hgd fun _ hK => by
    have hr := run_copy_p0 (P := P) w t tx o.type e i ht hi b cap c m k
    unfold Oper.wp execOp
    simp only [ho, resolve, invoke, builtin, Sem.run_bind, Sem.run_pure, Result.andThen_ok, List.map_toArray, List.map_cons, List.map_nil, hsv, hx, hr]
    exact hK _ _ h
/-- append of zeros that grows -/
theorem run_append_zeros (t tx ty : TypeId) (e : TypeId) (i : TypeInfo) (z : Value) (k : IntKind) (ht : P.underlying t = some (.slice e)) (htx : P.underlying tx = some (.int k)) (hi : P.info? e = some i) (hz : i.zero = some z) (hsz : 0 < i.size) (b : Option Addr) (n cap : Nat) (olds : List Value)
    (hold : (Builtin.firstCells i.size n (.slice b n cap)).run P w.drew = .ok olds.toArray w.drew) (m : Nat) (hm0 : 0 < m) (hg : cap < n + m) (h63 : n + m ≤ maxLen) (hbytes : (n + m) * i.bytes ≤ 140737488355328) :
    (Builtin.append_ #[t, tx] ty #[.slice b n cap, .int .i64 m]).run P w = .ok (.slice (some ⟨w.heap.size, 0, none⟩) (n + m) (grownCap w (n + m) cap e))
      (w.drew.alloc (.cells ((olds ++ (Builtin.zeroCells z.cells m).toList).toArray ++ Builtin.zeroCells z.cells (grownCap w (n + m) cap e - (n + m))) e)) := by
  have hn : ¬ (n + m ≤ cap) := by omega
  unfold maxLen at h63
  have hmb : m * i.bytes ≤ (n + m) * i.bytes := Nat.mul_le_mul_right _ (by omega)
  have h63' : ¬ (9223372036854775807 < ((n : Int) + (m : Int))) := by omega
  have hfit : Builtin.nextslicecap (n + m) cap * i.bytes ≤ 281474976710656 := growslice_fits (by omega) hbytes
  have h48' : ¬ (281474976710656 < Builtin.nextslicecap (n + m) cap * i.bytes) := by omega
  have hw : IntKind.i64.wrap (m : Int) = (m : Int) := IntWalk.i64_in _ (by omega)
  have h0 : ¬ ((m : Int) < 0) := by omega
  have h1 : ¬ (281474976710656 < (m : Int) * (i.bytes : Int)) := by
    have : ((m * i.bytes : Nat) : Int) = (m : Int) * (i.bytes : Int) := by simp
    omega
  have h2 : ¬ (m * i.size = 0) := by
    have := Nat.mul_pos hm0 hsz
    omega
  have h3 : ¬ (m = 0) := by omega
  have h4 : ¬ (i.size = 0) := by omega
  have hai : (asIntOf (.int .i64 (m : Int))).run P w = .ok (.i64, (m : Int)) w := rfl
  simp [Builtin.append_, run_underlying ht, run_underlying htx, sizeOf, typeInfo, zeroValue, hi, hz, asInt, hai, hw, h0, h1, h2, h3, h4, hn, h63', h48', Question.forced, hold, newRow, grownCap]
  congr 2
  apply Array.ext'
  simp [List.append_assoc]
theorem wpList_append_zeros {ops : Array Oper} {rest : List Oper} {o : Oper} {a : Act} {Q : Exit → Act → World → Prop} (hgd : o.guard = none) (s x : Operand) (t tx : TypeId)
    (ho : o.op = .call { callee := .builtin .append, args := #[s, x], argTypes := #[t, tx] })
    (e : TypeId) (i : TypeInfo) (z : Value) (k : IntKind) (ht : P.underlying t = some (.slice e)) (htx : P.underlying tx = some (.int k)) (hi : P.info? e = some i) (hz : i.zero = some z) (hsz : 0 < i.size) (b : Option Addr) (n cap : Nat) (olds : List Value) (hsv : a.eval s = .slice b n cap)
    (hold : (Builtin.firstCells i.size n (.slice b n cap)).run P w.drew = .ok olds.toArray w.drew) (m : Nat) (hx : a.eval x = .int .i64 m) (hm0 : 0 < m) (hg : cap < n + m) (h63 : n + m ≤ maxLen) (hbytes : (n + m) * i.bytes ≤ 140737488355328)
    (h : ∀ cap', n + m ≤ cap' → cap' ≤ maxLen → ∀ w', Hid (w' = w.drew.alloc (.cells ((olds ++ (Builtin.zeroCells z.cells m).toList).toArray ++ Builtin.zeroCells z.cells (cap' - (n + m))) e)) → wpList P ops Q rest (a.put o.dst (.slice (some ⟨w.heap.size, 0, none⟩) (n + m) cap')) w') : wpList P ops Q (o :: rest) a w :=
  wpList_plain hgd fun _ hK => by
    have hr := run_append_zeros (P := P) w t tx o.type e i z k ht htx hi hz hsz b n cap olds hold m hm0 hg h63 hbytes
    unfold Oper.wp execOp
    simp only [ho, resolve, invoke, builtin, Sem.run_bind, Sem.run_pure, Result.andThen_ok, List.map_toArray, List.map_cons, List.map_nil, hsv, hx, hr]
    exact hK _ _ (h _ (grownCap_ge w (n + m) cap e) (grownCap_le_maxLen w (n + m) cap e h63) _ (Lib.hid rfl))
/-- clear -/
theorem run_clear_p (t ty : TypeId) (e : TypeId) (i : TypeInfo) (z : Value) (ht : P.underlying t = some (.slice e)) (hi : P.info? e = some i) (hz : i.zero = some z) (g off cap m : Nat) (hm : 0 < m) (A B C : List Value)
    (hg : w.heap[g]? = some (.cells (A ++ B ++ C).toArray e (0, 0))) (hA : A.length = off) (hB : B.length = (Builtin.zeroCells z.cells m).toList.length) (h1 : ∀ u ∈ (Builtin.zeroCells z.cells m).toList, u.oneCell' = true) :
    (Builtin.clear_ #[t] ty #[.slice (some ⟨g, off, none⟩) m cap]).run P w = .ok (.tuple #[]) (w.setRow g (A ++ (Builtin.zeroCells z.cells m).toList ++ C).toArray) := by
  have hst := run_store_row (P := P) w g off e A B C _ hg hA hB h1
  obtain ⟨q, rfl⟩ : ∃ q, m = q + 1 := ⟨m - 1, by omega⟩
  simp [Builtin.clear_, run_underlying ht, zeroValue, typeInfo, hi, hz, hst]
theorem wpList_clear_p {ops : Array Oper} {rest : List Oper} {o : Oper} {a : Act} {Q : Exit → Act → World → Prop} (hgd : o.guard = none) (s : Operand) (t : TypeId)
    (ho : o.op = .call { callee := .builtin .clear, args := #[s], argTypes := #[t] })
    (e : TypeId) (i : TypeInfo) (z : Value) (ht : P.underlying t = some (.slice e)) (hi : P.info? e = some i) (hz : i.zero = some z) (g off cap m : Nat) (hm : 0 < m) (A B C : List Value) (hsv : a.eval s = .slice (some ⟨g, off, none⟩) m cap)
    (hg : w.heap[g]? = some (.cells (A ++ B ++ C).toArray e (0, 0))) (hA : A.length = off) (hB : B.length = (Builtin.zeroCells z.cells m).toList.length) (h1 : ∀ u ∈ (Builtin.zeroCells z.cells m).toList, u.oneCell' = true)
    (h : wpList P ops Q rest (a.put o.dst (.tuple #[])) (w.setRow g (A ++ (Builtin.zeroCells z.cells m).toList ++ C).toArray)) : wpList P ops Q (o :: rest) a w :=
  wpList_plain hgd fun _ hK => by
    have hr := run_clear_p (P := P) w t o.type e i z ht hi hz g off cap m hm A B C hg hA hB h1
    unfold Oper.wp execOp
    simp only [ho, resolve, invoke, builtin, Sem.run_bind, Sem.run_pure, Result.andThen_ok, List.map_toArray, List.map_cons, List.map_nil, hsv, hr]
    exact hK _ _ h
theorem step_append_q {ops : Array Oper} {o : Oper} {a : Act} {K : Act → World → Prop} {Q : Exit → Act → World → Prop} {E : Prop} (hgd : o.guard = none) (s x : Operand) (t tx : TypeId)
    (ho : o.op = .call { callee := .builtin .append, args := #[s, x], argTypes := #[t, tx] })
    (e : TypeId) (i : TypeInfo) (sz : Nat) (ht : P.underlying t = some (.slice e)) (hi : P.info? e = some i) (hsize : i.size = sz) (g off n cap : Nat) (A B C : List Value) (hsv : a.eval s = .slice (some ⟨g, off, none⟩) n cap)
    (hg : w.heap[g]? = some (.cells (A ++ B ++ C).toArray e (0, 0))) (hA : A.length = off + n * sz) (xv : Value) (hx : a.eval x = xv) (m : Nat) (news : List Value) (hs : Src P sz tx xv m news w) (hB : B.length = m * sz) (hroom : n + m ≤ cap)
    (h : ∀ w', Hid (w'.heap[g]? = some (.cells (A ++ news ++ C).toArray e (0, 0))) → Kept [g] w w' → K (a.put o.dst (.slice (some ⟨g, off, none⟩) (n + m) cap)) w') :
    if Region.wanted o (yielded ops a.tmps) = true then Oper.wp P o a w K Q else E :=
  step_append_p w hgd s x t tx ho e i sz ht hi hsize g off n cap A B C hsv hg hA xv hx m news hs hB hroom (h _ (Lib.hid (setRow_heap w g _ _ e _ hg)) (kept_setRow w g _))
theorem wpList_copy_q {ops : Array Oper} {rest : List Oper} {o : Oper} {a : Act} {Q : Exit → Act → World → Prop} (hgd : o.guard = none) (s x : Operand) (t tx : TypeId)
    (ho : o.op = .call { callee := .builtin .copy, args := #[s, x], argTypes := #[t, tx] })
    (e : TypeId) (i : TypeInfo) (sz : Nat) (ht : P.underlying t = some (.slice e)) (hi : P.info? e = some i) (hsize : i.size = sz) (g off cap m : Nat) (A B C : List Value) (hsv : a.eval s = .slice (some ⟨g, off, none⟩) m cap)
    (hg : w.heap[g]? = some (.cells (A ++ B ++ C).toArray e (0, 0))) (hA : A.length = off) (xv : Value) (hx : a.eval x = xv) (news : List Value) (hs : Src P sz tx xv m news w) (hB : B.length = m * sz)
    (h : ∀ w', Hid (w'.heap[g]? = some (.cells (A ++ news ++ C).toArray e (0, 0))) → Kept [g] w w' → wpList P ops Q rest (a.put o.dst (goInt m)) w') : wpList P ops Q (o :: rest) a w :=
  wpList_copy_p w hgd s x t tx ho e i sz ht hi hsize g off cap m A B C hsv hg hA xv hx news hs hB (h _ (Lib.hid (setRow_heap w g _ _ e _ hg)) (kept_setRow w g _))
end
section
variable {P : Program} (w : World)
/-- append onto a slice without room: a new row -/
theorem run_append_full (t tx ty : TypeId) (e : TypeId) (i : TypeInfo) (z : Value) (sz bytes : Nat) (ht : P.underlying t = some (.slice e)) (hi : P.info? e = some i) (hz : i.zero = some z)
    (hsize : i.size = sz) (hsz : 0 < sz) (hby : i.bytes = bytes) (hzs : z.cells.size = sz)
    (a : Option Addr) (n : Nat) (xs : List Value) (hown : SlR w e sz a n n xs) (x : Value) (m : Nat) (hm0 : 0 < m) (news : List Value) (hs : Src P sz tx x m news w)
    (h63 : n + m ≤ maxLen) (hbytes : (n + m) * bytes ≤ 140737488355328) :
    ∃ a' cap' w', (Builtin.append_ #[t, tx] ty #[.slice a n n, x]).run P w = .ok (.slice a' (n + m) cap') w' ∧ SlR w' e sz a' (n + m) cap' (xs ++ news) ∧ Below w.heap.size w w' ∧
      ∀ b ∈ blk a' cap', w.heap.size ≤ b := by
  have hnl : news.length = m * sz := by simpa using hs.newsLen
  have hxl : xs.length = n * sz := hown.len
  have h63' : ((n + m : Nat) : Int) ≤ 9223372036854775807 := by unfold maxLen at h63; omega
  have hs' : Src P i.size tx x m news w := by rw [hsize]; exact hs
  have hlen : (xs ++ news).length = (n + m) * sz := by rw [List.length_append, hxl, hnl, Nat.add_mul]
  have hold : (Builtin.firstCells i.size n (.slice a n n)).run P w.drew = .ok xs.toArray w.drew := by
    cases hc0 : n with
    | zero =>
      subst hc0
      have hx0 : xs = [] := List.eq_nil_of_length_eq_zero (by omega)
      subst hx0
      cases a with
      | none => exact run_firstCells_none w.drew i.size 0 0 0
      | some y => exact run_firstCells_some w.drew i.size 0 y 0 0 [] (by simp) (fun j v hj => by simp at hj)
    | succ c =>
      obtain ⟨g, off, cur, rfl, hg, h1, h2⟩ := hown.rest (by omega)
      refine run_firstCells_some w.drew i.size (c + 1) ⟨g, off, none⟩ (c + 1) (c + 1) xs (by rw [hxl, hsize, hc0]) ?_
      intro j v hj
      have hjl : j < n * sz := by rw [← hxl]; exact (List.getElem?_eq_some_iff.1 hj).1
      rw [addr_add]
      have := cell_of_row w g (off + j) cur e (0, 0) hg
      rw [h2 j hjl, hj] at this
      exact this
  have hr := run_append_grow_src (P := P) w t tx ty e i z ht hi hz a n n xs hold x m news hs' (by omega) h63' (by rw [hby]; exact growslice_fits (by omega) hbytes)
  have hge := grownCap_ge w (n + m) n e
  have hgm := grownCap_le_maxLen w (n + m) n e h63
  refine ⟨_, _, _, hr, ⟨hlen, hge, hgm, fun _ => ⟨w.heap.size, 0, _, rfl, heap_alloc_new w.drew _, ?_, fun j hj => ?_⟩⟩, ⟨rfl, rfl, rfl, by simp, fun k hk => Below.heap_alloc w.drew _ k hk⟩, fun b hb => ?_⟩
  · simp only [Array.size_append, List.size_toArray, size_zeroCells, hzs]
    rw [hlen]
    have : grownCap w (n + m) n e = (n + m) + (grownCap w (n + m) n e - (n + m)) := by omega
    generalize grownCap w (n + m) n e - (n + m) = q at *
    rw [this, Nat.add_mul]
    omega
  · rw [Nat.zero_add, Array.getElem?_append_left (by simp only [List.size_toArray]; omega), List.getElem?_toArray]
  · rw [blk_some _ _ _ (by omega)] at hb
    simp at hb
    omega
theorem step_append_full {ops : Array Oper} {o : Oper} {a : Act} {K : Act → World → Prop} {Q : Exit → Act → World → Prop} {E : Prop} (hgd : o.guard = none) (s x : Operand) (t tx : TypeId)
    (ho : o.op = .call { callee := .builtin .append, args := #[s, x], argTypes := #[t, tx] })
    (e : TypeId) (i : TypeInfo) (z : Value) (sz bytes : Nat) (ht : P.underlying t = some (.slice e)) (hi : P.info? e = some i) (hz : i.zero = some z)
    (hsize : i.size = sz) (hsz : 0 < sz) (hby : i.bytes = bytes) (hzs : z.cells.size = sz)
    (ad : Option Addr) (n : Nat) (xs : List Value) (hsv : a.eval s = .slice ad n n) (hown : SlR w e sz ad n n xs) (xv : Value) (hx : a.eval x = xv) (m : Nat) (hm0 : 0 < m) (news : List Value) (hs : Src P sz tx xv m news w)
    (h63 : n + m ≤ maxLen) (hbytes : (n + m) * bytes ≤ 140737488355328)
    (h : ∀ a' cap' w', SlR w' e sz a' (n + m) cap' (xs ++ news) → Below w.heap.size w w' → (∀ b ∈ blk a' cap', w.heap.size ≤ b) → K (a.put o.dst (.slice a' (n + m) cap')) w') :
    if Region.wanted o (yielded ops a.tmps) = true then Oper.wp P o a w K Q else E := by
  have hw : Region.wanted o (yielded ops a.tmps) = true := by simp [Region.wanted, hgd]
  rw [if_pos hw]
  obtain ⟨a', cap', w', hr, h2, h3, h4⟩ := run_append_full (P := P) w t tx o.type e i z sz bytes ht hi hz hsize hsz hby hzs ad n xs hown xv m hm0 news hs h63 hbytes
  unfold Oper.wp execOp
  simp only [ho, resolve, invoke, builtin, Sem.run_bind, Sem.run_pure, Result.andThen_ok, List.map_toArray, List.map_cons, List.map_nil, hsv, hx, hr]
  exact h a' cap' w' h2 h3 h4
end
/-- how a row is cut where something is set in a place's stead -/
theorem rep_cut (P xs R : List Value) (off n cap f t E m : Nat) (hP : P.length = off) (hx : xs.length = n * 2) (hr : cap * 2 ≤ xs.length + R.length) (hft : f ≤ t) (htn : t ≤ n) (hE : E = f + m) (hc : n + m ≤ cap) :
    ∃ A1 B1 C1 B2, P ++ xs ++ R = A1 ++ B1 ++ C1 ∧ A1.length = off + E * 2 ∧ B1.length = (n - t) * 2 ∧ A1 = (P ++ xs.take (f * 2)) ++ B2 ∧ B2.length = m * 2 ∧ (P ++ xs.take (f * 2)).length = off + f * 2 ∧ cap * 2 ≤ (E + (n - t)) * 2 + C1.length := by
  refine ⟨P ++ (xs ++ R).take (E * 2), ((xs ++ R).drop (E * 2)).take ((n - t) * 2), ((xs ++ R).drop (E * 2)).drop ((n - t) * 2), ((xs ++ R).take (E * 2)).drop (f * 2), ?_, ?_, ?_, ?_, ?_, ?_, ?_⟩
  · rw [List.append_assoc, List.append_assoc, List.append_assoc, List.take_append_drop, List.take_append_drop]
  · simp only [List.length_append, List.length_take, hP]; omega
  · simp only [List.length_append, List.length_take, List.length_drop]; omega
  · have : xs.take (f * 2) = ((xs ++ R).take (E * 2)).take (f * 2) := by
      rw [List.take_take, show min (f * 2) (E * 2) = f * 2 by omega, List.take_append_of_le_length (by omega)]
    rw [this, List.append_assoc, List.take_append_drop]
  · simp only [List.length_append, List.length_take, List.length_drop]; omega
  · simp only [List.length_append, List.length_take, hP]; omega
  · simp only [List.length_append, List.length_drop]; omega
end Go.Proofs.Ytegbkeichkifnaa.mem
/-!   slices.Grow over spans.
-/
namespace Go.Proofs.Ytegbkeichkifnaa.rn
open Go.RowKit Go.Shelf aid mem rng sp
attribute [local go_sem ↓] Go.wp_at_zero Go.wp_at_succ
set_option linter.unusedVariables false
set_option linter.unusedSimpArgs false

def GrowPost (a : Option Addr) (n cap k : Nat) (l : List Sp) (w : World) (e : Ending) (w' : World) : Prop :=
  ∃ a' cap', e = .returned (.slice a' n cap') ∧ SlR w' 24 2 a' n cap' (spCells l) ∧ n + k ≤ cap' ∧ Below w.heap.size w w' ∧ ∀ b ∈ blk a' cap', b ∈ blk a cap ∨ w.heap.size ≤ b
theorem grow_new {w : World} {n cap cap' m : Nat} {l : List Sp} {olds Z1 : List Value} {zs : Array Value} (a : Option Addr) (k : Nat) (ho : olds.take (n * 2) = spCells l) (hol : olds.length = cap * 2) (hl : l.length = n) (hn : n ≤ cap) (hz1 : Z1.length = m * 2) (hz2 : zs.size = (cap' - (cap + m)) * 2)
    (hc : cap + m ≤ cap') (hm : cap' ≤ maxLen) (hk : n + k ≤ cap') (w' : World) (hw : w' = w.drew.alloc (.cells ((olds ++ Z1).toArray ++ zs) 24)) : GrowPost a n cap k l w (.returned (.slice (some ⟨w.heap.size, 0, none⟩) n cap')) w' := by
  subst hw
  have hx : w.drew.heap.size = w.heap.size := rfl
  refine ⟨_, cap', rfl, SlP.slr (P := []) (R := olds.drop (n * 2) ++ Z1 ++ zs.toList) ⟨?_, rfl, by rw [spCells_len, hl], by omega, hm, ?_⟩, hk, ?_, fun b hb => .inr ?_⟩
  · have := heap_alloc_new w.drew (.cells ((olds ++ Z1).toArray ++ zs) 24)
    rw [hx] at this
    rw [this]
    congr 2
    apply Array.ext'
    simp only [Array.toList_append, List.nil_append]
    rw [← ho, ← List.append_assoc, ← List.append_assoc, List.take_append_drop]
  · simp only [List.length_append, List.length_drop, spCells_len, hl, hol, hz1, Array.length_toList, hz2]
    omega
  · exact ⟨rfl, rfl, rfl, by simp, fun k hk => Below.heap_alloc w.drew _ k hk⟩
  · by_cases h0 : cap' = 0
    · subst h0; simp [blk_zero] at hb
    · rw [blk_some _ _ _ (by omega)] at hb
      simp at hb
      omega
end Go.Proofs.Ytegbkeichkifnaa.rn
/-!   slices.IndexFunc, slices.DeleteFunc over one or two spans: those that are empty go.
-/
namespace Go.Proofs.Ytegbkeichkifnaa.rn
open Go.RowKit Go.Shelf aid mem rng sp
attribute [local go_sem ↓] Go.wp_at_zero Go.wp_at_succ
set_option linter.unusedVariables false
set_option linter.unusedSimpArgs false

/-- where the first empty one stands -/
def idxE (l : List Sp) : Nat := plc (fun x => decide (lenI x = 0)) l
def RetX (l : List Sp) (w : World) (e : Ending) (w' : World) : Prop := e = .returned (.int .i64 (if idxE l < l.length then (idxE l : Int) else -1)) ∧ Below w.heap.size w w'
/-- what is left in the row behind a deletion -/
def DelPost (sg : Nat) (ys : List Sp) (k : Nat) (w : World) (e : Ending) (w' : World) : Prop :=
  e = .returned (.slice (some ⟨sg, 0, none⟩) ys.length k) ∧ SlR w' 24 2 (some ⟨sg, 0, none⟩) ys.length k (spCells ys) ∧ Kept [sg] w w'
end Go.Proofs.Ytegbkeichkifnaa.rn
/-!   slices.DeleteFunc over two spans, of which one is empty at least.
-/
namespace Go.Proofs.Ytegbkeichkifnaa.rn
open Go.RowKit Go.Shelf aid mem rng sp
attribute [local go_sem ↓] Go.wp_at_zero Go.wp_at_succ
set_option linter.unusedVariables false
set_option linter.unusedSimpArgs false

def Row2 (w : World) (sg : Nat) (x y : Sp) : Prop := w.heap[sg]? = some (.cells #[.int .i64 x.1, .int .i64 x.2, .int .i64 y.1, .int .i64 y.2] 24 (0, 0))
theorem Row2.slr {w : World} {sg : Nat} {x y : Sp} (h : Row2 w sg x y) : SlR w 24 2 (some ⟨sg, 0, none⟩) 2 2 (spCells [x, y]) :=
  SlP.slr (P := []) (R := []) ⟨h, rfl, rfl, by simp, by decide, by simp [spCells]⟩
theorem Row2.keep {w w' : World} {sg : Nat} {x y : Sp} (h : Row2 w sg x y) (hb : Below w.heap.size w w') : Row2 w' sg x y := (hb.block _ (lt_of_block h)).trans h
theorem row2_ends {w w' : World} {sg : Nat} {x y : Sp} (h : Row2 w' sg x y) (hk : Kept [sg] w w') : DelPost sg [x] 2 w (.returned (.slice (some ⟨sg, 0, none⟩) 1 2)) w' :=
  ⟨rfl, SlP.slr (P := []) (R := [.int .i64 y.1, .int .i64 y.2]) ⟨h, rfl, rfl, by simp, by decide, by simp [spCells]⟩, hk⟩
theorem row2_none {w w' : World} {sg : Nat} {x y : Sp} (h : Row2 w' sg x y) (hk : Kept [sg] w w') : DelPost sg [] 2 w (.returned (.slice (some ⟨sg, 0, none⟩) 0 2)) w' :=
  ⟨rfl, SlP.slr (P := []) (R := [.int .i64 x.1, .int .i64 x.2, .int .i64 y.1, .int .i64 y.2]) ⟨h, rfl, rfl, by simp, by decide, by simp [spCells]⟩, hk⟩
theorem zero1 : (Builtin.zeroCells (Value.cells (.agg #[.int .i64 0, .int .i64 0])) 1).toList = [.int .i64 0, .int .i64 0] := by kernel_rfl
theorem zero2 : (Builtin.zeroCells (Value.cells (.agg #[.int .i64 0, .int .i64 0])) 2).toList = [.int .i64 0, .int .i64 0, .int .i64 0, .int .i64 0] := by kernel_rfl
theorem idx_two {x y : Sp} (hx : lenI x ≠ 0) (hy : lenI y = 0) : idxE [x, y] = 1 := by unfold idxE plc; simp [hx, hy]
theorem idx_one {x y : Sp} (hx : lenI x = 0) : idxE [x, y] = 0 := by unfold idxE plc; simp [hx]
/-- between two rounds -/
def DRel (w : World) (sg : Nat) (x y : Sp) (ne : Bool) (i j : Nat) (wr : World) : Prop :=
  (i = 0 ∧ j = 1 ∧ Row2 wr sg x y ∧ Kept [sg] w wr) ∨ (j = 2 ∧ Kept [sg] w wr ∧ if ne = true then i = 1 ∧ Row2 wr sg y y else i = 0 ∧ Row2 wr sg x y)
end Go.Proofs.Ytegbkeichkifnaa.rn
/-!   Package runs: replace.
-/
namespace Go.Proofs.Ytegbkeichkifnaa.rn
open Go.RowKit Go.Shelf aid mem rng sp
attribute [local go_sem ↓] Go.wp_at_zero Go.wp_at_succ
set_option linter.unusedVariables false
set_option linter.unusedSimpArgs false

end Go.Proofs.Ytegbkeichkifnaa.rn
/-!   What Add and Remove answer, and what they leave, as lists. Imports nothing of the program.
-/
namespace Go.Proofs.Ytegbkeichkifnaa.rn
open Go.RowKit aid sp
set_option linter.unusedVariables false

theorem bytes_zero {l : List Sp} (h : ∀ x ∈ l, ROk x) (h0 : bytesL l = 0) : l = [] := by
  cases l with
  | nil => rfl
  | cons x l =>
    have hx := h x (by simp)
    have := hx.2.1
    have hb : 0 ≤ bytesL l := by
      clear h0
      induction l with
      | nil => rw [bytes_nil]; omega
      | cons y l ih =>
        have := ih (fun z hz => h z (by simp at hz ⊢; rcases hz with hz | hz; exact .inl hz; exact .inr (.inr hz)))
        have hy := h y (by simp)
        have := hy.2.1
        rw [bytes_cons, len_rok hy]; omega
    rw [bytes_cons, len_rok hx] at h0
    omega
theorem came_none {l : List Sp} {s : Sp} (hl : Rn l) (hs : ROk s) (h : lenI s - withinL l s = 0) : refWi l s = l := by
  obtain ⟨w1, w2, _⟩ := wi_spec hl hs
  obtain ⟨g1, g2, g3, g4⟩ := gaps_all s hl
  have hg : gapsL l s = [] := bytes_zero (by rw [← g2]; exact g1.ok) (by rw [g4]; exact h)
  refine Rn.ext w1 hl (fun o => ?_)
  rw [w2]
  constructor
  · rintro (a | a)
    · exact a
    · by_cases c : In l o
      · exact c
      · have := (g3 o).2 ⟨by rw [fit_of hs.ok]; exact a, c⟩
        rw [hg] at this
        exact absurd this In.nil
  · exact fun a => .inl a
theorem went_none {l : List Sp} {s : Sp} (hl : Rn l) (hs : Ok s) (h : withinL l s = 0) : refWo l s = l := by
  by_cases h0 : lenI s = 0
  · unfold refWo; rw [if_pos h0]
  · have hk := rok_of hs h0
    obtain ⟨w1, w2, _⟩ := wo_spec hl hk
    obtain ⟨p1, p2, p3, _⟩ := parts_spec s hl
    have hp : partsL l s = [] := bytes_zero p1.ok (by rw [p3]; exact h)
    unfold refWo
    rw [if_neg h0]
    refine Rn.ext w1 hl (fun o => ?_)
    rw [w2]
    constructor
    · exact fun a => a.1
    · intro a
      refine ⟨a, fun b => ?_⟩
      have := (p2 o).2 ⟨a, by rw [fit_of hs]; exact b⟩
      rw [hp] at this
      exact In.nil this
/-- where what touches s begins and ends -/
def lo1 (l : List Sp) (s : Sp) : Nat := plc (fun x => decide (s.1 ≤ x.2)) l
def hi1 (l : List Sp) (s : Sp) : Nat := plc (fun x => decide (s.2 < x.1)) l
def hi2 (l : List Sp) (s : Sp) : Nat := plc (fun x => decide (s.2 ≤ x.1)) l
theorem lo1_spec {l : List Sp} (s : Sp) (hl : Rn l) : lo1 l s ≤ l.length ∧ (∀ x ∈ l.take (lo1 l s), x.2 < s.1) ∧ (∀ x ∈ l.drop (lo1 l s), s.1 ≤ x.2) := by
  have hf := plc_found (q := fun x => decide (s.1 ≤ x.2)) (l := l) (hl.mono2' s.1)
  obtain ⟨h1, h2⟩ := Found.take (q := fun x => decide (s.1 ≤ x.2)) hf rfl
  exact ⟨hf.le, fun x hx => by have := of_decide_eq_false (h1 x hx); omega, fun x hx => of_decide_eq_true (h2 x hx)⟩
theorem hi1_spec {l : List Sp} (s : Sp) (hl : Rn l) : hi1 l s ≤ l.length ∧ (∀ x ∈ l.take (hi1 l s), x.1 ≤ s.2) ∧ (∀ x ∈ l.drop (hi1 l s), s.2 < x.1) := by
  have hf := plc_found (q := fun x => decide (s.2 < x.1)) (l := l) (hl.mono1 s.2)
  obtain ⟨h1, h2⟩ := Found.take (q := fun x => decide (s.2 < x.1)) hf rfl
  exact ⟨hf.le, fun x hx => by have := of_decide_eq_false (h1 x hx); omega, fun x hx => of_decide_eq_true (h2 x hx)⟩
theorem hi2_spec {l : List Sp} (s : Sp) (hl : Rn l) : hi2 l s ≤ l.length ∧ (∀ x ∈ l.take (hi2 l s), x.1 < s.2) ∧ (∀ x ∈ l.drop (hi2 l s), s.2 ≤ x.1) := by
  have hf := plc_found (q := fun x => decide (s.2 ≤ x.1)) (l := l) (hl.mono1' s.2)
  obtain ⟨h1, h2⟩ := Found.take (q := fun x => decide (s.2 ≤ x.1)) hf rfl
  exact ⟨hf.le, fun x hx => by have := of_decide_eq_false (h1 x hx); omega, fun x hx => of_decide_eq_true (h2 x hx)⟩
theorem take_mem {l : List Sp} {i k : Nat} (h : i < k) (hl : i < l.length) : l.getD i (0, 0) ∈ l.take k := by
  have h1 : i < (l.take k).length := by rw [List.length_take]; omega
  have e : (l.take k)[i] = l.getD i (0, 0) := by simp [List.getD, hl]
  rw [← e]; exact List.getElem_mem _
theorem drop_mem {l : List Sp} {i k : Nat} (h : k ≤ i) (hl : i < l.length) : l.getD i (0, 0) ∈ l.drop k := by
  have h1 : i - k < (l.drop k).length := by rw [List.length_drop]; omega
  have e : (l.drop k)[i - k] = l.getD i (0, 0) := by
    rw [List.getElem_drop]
    simp [List.getD, hl, show k + (i - k) = i by omega]
  rw [← e]; exact List.getElem_mem _
theorem lo1_hi1 {l : List Sp} {s : Sp} (hl : Rn l) (hs : ROk s) : lo1 l s ≤ hi1 l s := by
  obtain ⟨a1, a2, a3⟩ := lo1_spec s hl
  obtain ⟨b1, b2, b3⟩ := hi1_spec s hl
  by_cases c : lo1 l s ≤ hi1 l s
  · exact c
  · exfalso
    have h1 := a2 _ (take_mem (show hi1 l s < lo1 l s by omega) (by omega))
    have h2 := b3 _ (drop_mem (Nat.le_refl _) (show hi1 l s < l.length by omega))
    have := (hl.ok _ (getD_mem (show hi1 l s < l.length by omega))).2.1
    have := hs.2.1
    omega
theorem bhd_hi2 {l : List Sp} {s : Sp} (hl : Rn l) (hs : ROk s) (hw : withinL l s ≠ 0) : bhd l s.1 < hi2 l s := by
  obtain ⟨a1, a2, a3⟩ := bhd_spec hl s.1
  obtain ⟨b1, b2, b3⟩ := hi2_spec s hl
  by_cases c : bhd l s.1 < hi2 l s
  · exact c
  · exfalso
    apply hw
    obtain ⟨p1, p2, p3, _⟩ := parts_spec s hl
    rw [← p3]
    have hp : partsL l s = [] := by
      cases hq : partsL l s with
      | nil => rfl
      | cons x t =>
        exfalso
        have hx := (p1.ok x (by rw [hq]; simp))
        obtain ⟨⟨y, hy, h1, h2⟩, h3⟩ := (p2 x.1).1 (by rw [hq]; exact ⟨x, by simp, Int.le_refl _, hx.2.1⟩)
        rw [fit_of hs.ok] at h3
        have hy' := hy
        rw [← List.take_append_drop (hi2 l s) l] at hy'
        rcases List.mem_append.1 hy' with h | h
        · have hm : y ∈ l.take (bhd l s.1) := by
            have e : l.take (hi2 l s) = (l.take (bhd l s.1)).take (hi2 l s) := by rw [List.take_take]; congr 1; omega
            rw [e] at h
            exact List.mem_of_mem_take h
          have := a2 y hm
          omega
        · have := b3 y h
          omega
    rw [hp, bytes_nil]
/-- how many came, what is told, what the set is then -/
def addN (l : List Sp) (s : Sp) : Int × Int × List Sp :=
  if mayB s.1 s.2 = true then (if lenI s - withinL l s = 0 then (0, 0, l) else if 4096 < (refWi l s).length then (0, 4, l) else (lenI s - withinL l s, 0, refWi l s)) else (0, 3, l)
def remN (l : List Sp) (s : Sp) : Int × Int × List Sp :=
  if mayB s.1 s.2 = true then (if withinL l s = 0 then (0, 0, l) else if 4096 < (refWo l s).length then (0, 4, l) else (withinL l s, 0, refWo l s)) else (0, 3, l)
theorem wi_rn {l : List Sp} {s : Sp} (hl : Rn l) (hs : Ok s) : Rn (refWi l s) := by
  by_cases h0 : lenI s = 0
  · unfold refWi; rw [if_pos h0]; exact hl
  · exact (wi_spec hl (rok_of hs h0)).1
theorem wo_rn {l : List Sp} {s : Sp} (hl : Rn l) (hs : Ok s) : Rn (refWo l s) := by
  by_cases h0 : lenI s = 0
  · unfold refWo; rw [if_pos h0]; exact hl
  · unfold refWo; rw [if_neg h0]; exact (wo_spec hl (rok_of hs h0)).1
theorem addN_rn {l : List Sp} {s : Sp} (hl : Rn l) : Rn (addN l s).2.2 := by
  unfold addN
  by_cases h : mayB s.1 s.2 = true
  · rw [if_pos h]
    have hs : Ok s := mayB_iff.1 h
    split
    · exact hl
    · split
      · exact hl
      · exact wi_rn hl hs
  · rw [if_neg h]; exact hl
theorem remN_rn {l : List Sp} {s : Sp} (hl : Rn l) : Rn (remN l s).2.2 := by
  unfold remN
  by_cases h : mayB s.1 s.2 = true
  · rw [if_pos h]
    have hs : Ok s := mayB_iff.1 h
    split
    · exact hl
    · split
      · exact hl
      · exact wo_rn hl hs
  · rw [if_neg h]; exact hl
/-- where there is room, it is what the reference says -/
theorem addN_ok {l : List Sp} {s : Sp} (hl : Rn l) (hs : Ok s) (hr : (refWi l s).length ≤ 4096) : addN l s = (bytesL (refWi l s) - bytesL l, 0, refWi l s) := by
  unfold addN
  rw [if_pos (mayB_iff.2 hs)]
  have hb : bytesL (refWi l s) - bytesL l = lenI s - withinL l s := by
    by_cases h0 : lenI s = 0
    · have e : refWi l s = l := by unfold refWi; rw [if_pos h0]
      have hw : withinL l s = 0 := by rw [← (parts_spec s hl).2.2.1, parts_none hl.ok h0]; rfl
      rw [e, hw, h0]; omega
    · exact (wi_spec hl (rok_of hs h0)).2.2
  by_cases h : lenI s - withinL l s = 0
  · rw [if_pos h]
    have e : refWi l s = l := by
      by_cases h0 : lenI s = 0
      · unfold refWi; rw [if_pos h0]
      · exact came_none hl (rok_of hs h0) h
    rw [e]; simp
  · rw [if_neg h, if_neg (by omega), hb]
theorem remN_ok {l : List Sp} {s : Sp} (hl : Rn l) (hs : Ok s) (hr : (refWo l s).length ≤ 4096) : remN l s = (bytesL l - bytesL (refWo l s), 0, refWo l s) := by
  unfold remN
  rw [if_pos (mayB_iff.2 hs)]
  have hb : bytesL l - bytesL (refWo l s) = withinL l s := by
    by_cases h0 : lenI s = 0
    · have e : refWo l s = l := by unfold refWo; rw [if_pos h0]
      have hw : withinL l s = 0 := by rw [← (parts_spec s hl).2.2.1, parts_none hl.ok h0]; rfl
      rw [e, hw]; omega
    · have := (wo_spec hl (rok_of hs h0)).2.2.1
      unfold refWo; rw [if_neg h0]; omega
  by_cases h : withinL l s = 0
  · rw [if_pos h, went_none hl hs h]; simp
  · rw [if_neg h, if_neg (by omega), hb]
theorem wo_len (l : List Sp) (s : Sp) (hl : Rn l) (hs : Ok s) : (refWo l s).length ≤ l.length + 1 := by
  by_cases h0 : lenI s = 0
  · unfold refWo; rw [if_pos h0]; omega
  · have hk := rok_of hs h0
    by_cases hw : withinL l s = 0
    · rw [went_none hl hs hw]; omega
    · obtain ⟨a1, a2, a3⟩ := bhd_spec hl s.1
      obtain ⟨b1, b2, b3⟩ := hi2_spec s hl
      have hlt := bhd_hi2 hl hk hw
      rw [← rem_at (0, 0) hl hk hlt b1 a2 a3 b2 b3]
      unfold remAt
      have h1 : ∀ x : Sp, (ne x).length ≤ 1 := fun x => by unfold ne; split <;> simp
      have h2 := h1 (belowP (l.getD (bhd l s.1) (0, 0)) s.1)
      have h3 := h1 (fromP (l.getD (hi2 l s - 1) (0, 0)) s.2)
      simp only [List.length_append, List.length_take, List.length_drop]
      omega
theorem wi_len (l : List Sp) (s : Sp) (hl : Rn l) (hs : Ok s) : (refWi l s).length ≤ l.length + 1 := by
  by_cases h0 : lenI s = 0
  · unfold refWi; rw [if_pos h0]; omega
  · have hk := rok_of hs h0
    obtain ⟨a1, a2, a3⟩ := lo1_spec s hl
    obtain ⟨b1, b2, b3⟩ := hi1_spec s hl
    have hlt := lo1_hi1 hl hk
    rw [← add_at hl hk hlt a2 a3 b2 b3]
    unfold addAt
    simp only [List.length_append, List.length_take, List.length_drop, List.length_singleton]
    omega
end Go.Proofs.Ytegbkeichkifnaa.rn
/-!   Package runs: Add.
-/
namespace Go.Proofs.Ytegbkeichkifnaa.rn
open Go.RowKit Go.Shelf aid mem rng sp
attribute [local go_sem ↓] Go.wp_at_zero Go.wp_at_succ
set_option linter.unusedVariables false
set_option linter.unusedSimpArgs false

theorem ret2 {a b c d : Int} (h1 : a = c) (h2 : b = d) : Ending.returned (.tuple #[.int .i64 a, .int .i64 b]) = .returned (.tuple #[.int .i64 c, .int .i64 d]) := by rw [h1, h2]
/-- list[f:t:t] -/
theorem slice3_any {w : World} {a : Option Addr} {n cap : Nat} {l : List Sp} (h : SlR w 24 2 a n cap (spCells l)) (f t : Nat) (hft : f ≤ t) (htn : t ≤ n) :
    ∃ a', (∀ wx, (Instr.slice 30 (.slice a n cap) (some (.int .i64 (f : Int))) (some (.int .i64 (t : Int))) (some (.int .i64 (t : Int)))).run Try.prog wx = .ok (.slice a' (t - f) (t - f)) wx) ∧
      ∀ C, SlR C 24 2 a n cap (spCells l) → SlR C 24 2 a' (t - f) (t - f) (spCells ((l.take t).drop f)) := by
  obtain ⟨i0, hi, hz0, hz1, hz2⟩ := info_split info_span
  have hle := h.le
  have hlen := row_len h
  have h1 : t ≤ cap := by omega
  refine ⟨if t = f then a else a.map (·.add (f * 2)), fun wx => ?_, fun C hC => ?_⟩
  · have e1 : (asIntOf (.int .i64 (t : Int))).run Try.prog wx = .ok (.i64, (t : Int)) wx := rfl
    have e2 : (asIntOf (.int .i64 (f : Int))).run Try.prog wx = .ok (.i64, (f : Int)) wx := rfl
    simp [Instr.slice, Instr.sliceBounds, Instr.sliceBound, run_underlying Try.underlying30, sizeOf, typeInfo, hi, hz1, e1, e2, h1, hft]
  · by_cases c : t = f
    · subst c
      have e : spCells ((l.take t).drop t) = [] := by
        rw [List.drop_eq_nil_of_le (by rw [List.length_take]; omega)]; rfl
      rw [e, Nat.sub_self, if_pos rfl]
      exact SlR.sub0 a
    · obtain ⟨g, off, rfl, _⟩ := row_cells hC (by omega)
      have := hC.sub f t t hft htn (Nat.le_refl _) (by omega) (by omega)
      rw [spTake, spDrop] at this
      rw [if_neg c, Option.map_some, addr_add]
      exact this
theorem span_src' {X : World} {p : Nat} {s : Sp} (h : SpAt X p s) : Src Try.prog 2 30 (.slice (some ⟨p, 0, none⟩) 1 1) 1 (spCells [s]) X :=
  (SlP.slr (P := []) (R := []) ⟨h, rfl, rfl, by simp, by decide, by simp [spCells]⟩ : SlR X 24 2 (some ⟨p, 0, none⟩) 1 1 (spCells [s])).src Try.underlying30 (spCells_one [s])
end Go.Proofs.Ytegbkeichkifnaa.rn
/-!   Package runs: Remove.
-/
namespace Go.Proofs.Ytegbkeichkifnaa.rn
open Go.RowKit Go.Shelf aid mem rng sp
attribute [local go_sem ↓] Go.wp_at_zero Go.wp_at_succ
set_option linter.unusedVariables false
set_option linter.unusedSimpArgs false

theorem row2_new (w : World) (x y : Sp) : Row2 (w.alloc (.cells #[.int .i64 x.1, .int .i64 x.2, .int .i64 y.1, .int .i64 y.2] 24)) w.heap.size x y := heap_alloc_new w _
end Go.Proofs.Ytegbkeichkifnaa.rn
/-!   Sets of one's own; known.
-/
namespace Go.Proofs.Ytegbkeichkifnaa.rn
open Go.RowKit Go.Shelf aid mem rng sp
attribute [local go_sem ↓] Go.wp_at_zero Go.wp_at_succ
set_option linter.unusedVariables false
set_option linter.unusedSimpArgs false

theorem kn1 : addN [] (2, 5) = (3, 0, [(2, 5)]) := by decide
theorem kn2 : addN [(2, 5)] (7, 9) = (2, 0, [(2, 5), (7, 9)]) := by decide
theorem kn3 : addN [(2, 5), (7, 9)] (5, 7) = (2, 0, [(2, 9)]) := by decide
theorem kn4 : gapL [(2, 9)] 4 = 9 := by decide
theorem kn5 : bytesL [(2, 9)] = 7 := by decide
theorem kr1 : Rn [(2, 5)] := by have := addN_rn (l := []) (s := (2, 5)) Rn.nil; rw [kn1] at this; exact this
theorem kr2 : Rn [(2, 5), (7, 9)] := by have := addN_rn (l := [(2, 5)]) (s := (7, 9)) kr1; rw [kn2] at this; exact this
theorem kr3 : Rn [(2, 9)] := by have := addN_rn (l := [(2, 5), (7, 9)]) (s := (5, 7)) kr2; rw [kn3] at this; exact this
theorem kept_new {S : List Nat} {b : Nat} {w w1 w2 : World} (h : Below b w w1) (hb : b ≤ w.heap.size) (hk : Kept S w1 w2) (hS : ∀ x ∈ S, b ≤ x) : Below b w w2 := h.trans (hk.below hS (by have := h.size; omega))
end Go.Proofs.Ytegbkeichkifnaa.rn
/-!   Operations on sets, that came in.
-/
namespace Go.Proofs.Ytegbkeichkifnaa.rn
open Go.RowKit aid mem opn sp Go.ChangeShapes Go.WideShapes Go.ChangeAt
set_option linter.unusedVariables false
set_option linter.unusedSimpArgs false

structure OpV where
  out : Bool
  s : Int × Int
instance : Inhabited OpV := ⟨⟨false, (0, 0)⟩⟩
theorem cells_bool : Try.prog.cellsOf 4 = 1 := by kernel_rfl
def OpIs (cs : List Value) (q : OpV) : Prop := cs = [.bool q.out, .int .i64 q.s.1, .int .i64 q.s.2]
/-- the operations lie where the slice leads -/
structure OpA (w : World) (a : Option Addr) (n cap : Nat) (l : List OpV) : Prop where
  len : l.length = n
  le : n ≤ cap
  most : cap ≤ maxLen
  cells : 0 < n → ∃ b off, a = some ⟨b, off, none⟩ ∧ ∀ i, i < n → w.cell? ⟨b, off + i * 3, none⟩ = some (.bool (l.getD i default).out) ∧ w.cell? ⟨b, off + i * 3 + 1, none⟩ = some (.int .i64 (l.getD i default).s.1) ∧ w.cell? ⟨b, off + i * 3 + 2, none⟩ = some (.int .i64 (l.getD i default).s.2)
section
variable {H : Type} {enc : TypeId × Value → H} {w : World} {base : Nat}
theorem opa_of_els {a : Option Addr} {len cap : Nat} {l : List OpV} (h : ElA OpIs 3 w a len cap l) : OpA w a len cap l := by
  refine ⟨h.len, h.le, h.most, fun h0 => ?_⟩
  obtain ⟨b, off, ha, hc⟩ := h.cells h0
  refine ⟨b, off, ha, fun i hi => ?_⟩
  have hil : i < l.length := by rw [h.len]; exact hi
  obtain ⟨cs, hR, _, hj⟩ := hc i hil
  have hg : l.getD i default = l[i] := by simp [List.getD, hil]
  obtain rfl := hR
  rw [hg]
  have h0 := hj 0 (by omega)
  have h1 := hj 1 (by omega)
  have h2 := hj 2 (by omega)
  exact ⟨by simpa using h0, by simpa [Nat.add_assoc] using h1, by simpa [Nat.add_assoc] using h2⟩
end
end Go.Proofs.Ytegbkeichkifnaa.rn
/-!   The law's does: an operation with both.
-/
namespace Go.Proofs.Ytegbkeichkifnaa.rn
open Go.RowKit Go.Shelf aid mem rng sp
attribute [local go_sem ↓] Go.wp_at_zero Go.wp_at_succ
set_option linter.unusedVariables false
set_option linter.unusedSimpArgs false

def opN (l : List Sp) (q : OpV) : Int × Int × List Sp := if q.out then remN l q.s else addN l q.s
def opL (l : List Sp) (q : OpV) : List Sp := if q.out then refWo l q.s else refWi l q.s
theorem len_bad {s : Sp} (h : mayB s.1 s.2 = false) : lenI s = 0 := by
  unfold lenI fitP; rw [if_neg (by rw [h]; simp)]; rfl
theorem opL_bad {l : List Sp} {q : OpV} (h : mayB q.s.1 q.s.2 = false) : opL l q = l := by
  unfold opL refWo refWi; rw [if_pos (len_bad h), if_pos (len_bad h)]; split <;> rfl
theorem opN_bad {l : List Sp} {q : OpV} (h : mayB q.s.1 q.s.2 = false) : opN l q = (0, 3, l) := by
  unfold opN remN addN
  have h' : ¬ mayB q.s.1 q.s.2 = true := by rw [h]; simp
  simp only [if_neg h', ite_self]
theorem opL_len {l : List Sp} (hl : Rn l) (q : OpV) : (opL l q).length ≤ l.length + 1 := by
  cases h : mayB q.s.1 q.s.2
  · rw [opL_bad h]; omega
  · unfold opL; split
    · exact wo_len l q.s hl (mayB_iff.1 h)
    · exact wi_len l q.s hl (mayB_iff.1 h)
theorem opL_rn {l : List Sp} (hl : Rn l) (q : OpV) : Rn (opL l q) := by
  cases h : mayB q.s.1 q.s.2
  · rw [opL_bad h]; exact hl
  · unfold opL; split
    · exact wo_rn hl (mayB_iff.1 h)
    · exact wi_rn hl (mayB_iff.1 h)
theorem opN_list {l : List Sp} (hl : Rn l) (hn : l.length ≤ 4000) (q : OpV) : (opN l q).2.2 = opL l q := by
  cases h : mayB q.s.1 q.s.2
  · rw [opN_bad h, opL_bad h]
  · have hlen := opL_len hl q
    unfold opN opL at *
    split
    · rename_i ho; rw [if_pos ho] at hlen; rw [remN_ok hl (mayB_iff.1 h) (by omega)]
    · rename_i ho; rw [if_neg ho] at hlen; rw [addN_ok hl (mayB_iff.1 h) (by omega)]
end Go.Proofs.Ytegbkeichkifnaa.rn
/-!   The reference's Next and Gaps.
-/
namespace Go.Proofs.Ytegbkeichkifnaa.rn
open Go.RowKit Go.Shelf aid mem rng sp
attribute [local go_sem ↓] Go.wp_at_zero Go.wp_at_succ
set_option linter.unusedVariables false
set_option linter.unusedSimpArgs false

theorem sls_one (X : World) (y : Sp) : SlS (X.alloc (.cells #[.int .i64 y.1, .int .i64 y.2] 24)) (some ⟨X.heap.size, 0, none⟩) 1 1 [y] := by
  refine ⟨rfl, Nat.le_refl _, by decide, (fun h => by cases h), fun _ => ⟨X.heap.size, 0, rfl, fun i hi => ?_⟩⟩
  have hr := heap_alloc_new X (.cells #[.int .i64 y.1, .int .i64 y.2] 24)
  rw [cell_of_row _ X.heap.size _ _ _ (0, 0) hr, cell_of_row _ X.heap.size _ _ _ (0, 0) hr]
  obtain rfl : i = 0 := by omega
  exact ⟨rfl, rfl⟩
theorem sls_nil (X : World) : SlS X none 0 0 ([] : List Sp) := ⟨rfl, Nat.le_refl _, by decide, fun _ => rfl, fun h => by omega⟩
theorem foldWo_len' : ∀ (l q : List Sp), (∀ x ∈ l, ROk x) → Rn q → (l.foldl refWo q).length ≤ q.length + l.length ∧ Rn (l.foldl refWo q) := by
  intro l
  induction l with
  | nil => intro q _ hq; exact ⟨by simp, hq⟩
  | cons x l ih =>
    intro q h hq
    have hx := h x (by simp)
    have hk : Ok x := ⟨hx.1, by have := hx.2.1; omega, hx.2.2⟩
    obtain ⟨i1, i2⟩ := ih (refWo q x) (fun y hy => h y (by simp [hy])) (wo_rn hq hk)
    have := wo_len q x hq hk
    exact ⟨by simp only [List.foldl_cons, List.length_cons]; omega, i2⟩
set_option maxHeartbeats 1000000 in
theorem rgaps_any {w : World} {a : Option Addr} {n cap : Nat} {l : List Sp} (h : SlS w a n cap l) (hl : Rn l) (hn : n ≤ 4096) (s : Sp) : Calls Try.prog 54 #[.slice a n cap, spV s] w fun e w' => ∃ a' n' cap', e = .returned (.slice a' n' cap') ∧ SlS w' a' n' cap' (gapsL l s) ∧ Below w.heap.size w w' := by
  have hle := h.le
  have hmost := h.most
  have hlen := h.len
  unfold maxLen at hmost
  have HC := Lib.hid (fun h0 => h.cells h0)
  have HG := Lib.hid (show gapsL l s = if lenI s = 0 then [] else l.foldl refWo [s] from rfl)
  have b1 := bal (w := w) (.cells #[.int .i64 s.1, .int .i64 s.2] 24)
  have s1 := sp_new w s
  have HB1 := Lib.hid (And.intro b1 s1)
  have c0 := s1.c0; have c1 := s1.c1
  have HLS := Lib.hid (fun X => rlen_any s X)
  have HRK := Lib.hid (fun (hz : lenI s ≠ 0) => show Rn [s] from by
    have := rok_of (x := s) (by cases hm : mayB s.1 s.2; exact (hz (by unfold lenI fitP; rw [if_neg (by rw [hm]; simp)]; rfl)).elim; exact mayB_iff.1 hm) hz
    exact ⟨fun x hx => by simp at hx; subst hx; exact this, List.pairwise_singleton _ _⟩)
  have HLN := Lib.hid hlen
  have HLOK := Lib.hid hl.ok
  clear b1 s1 h hlen hl
  generalize hz : lenI s = z at *
  go_enter Try.func54, Try.ntmps54
  go_wp2_with fail
  refine (HLS.out _).mono ?_
  rintro e w2 ⟨rfl, h2⟩
  obtain ⟨b1, s1⟩ := HB1.out
  have b2 := b1.trans (h2.mono b1.size)
  have s2 := s1.later h2
  clear b1 s1 h2 c0 c1 HB1
  by_cases h0 : z = 0
  · subst h0
    rw [if_pos rfl] at HG
    have HF := Lib.hid (And.intro (show SlS w2 none 0 0 (gapsL l s) from by rw [HG.out]; exact sls_nil _) b2)
    clear s2 b2 HC
    go_wp2
    go_ret
    exact ⟨_, _, _, rfl, HF.out⟩
  rw [if_neg h0] at HG
  have hrs := HRK.out h0
  have c0 := s2.c0; have c1 := s2.c1
  have b3 := bal (w := w2) (.cells #[.int .i64 s.1, .int .i64 s.2] 24)
  have HK : Hid (∃ a5 n5 c5, (.slice (some ⟨w2.heap.size, 0, none⟩) 1 1 : Value) = .slice a5 n5 c5 ∧ SlS (w2.alloc (.cells #[.int .i64 s.1, .int .i64 s.2] 24)) a5 n5 c5 ((l.take 0).foldl refWo [s]) ∧ Below w.heap.size w (w2.alloc (.cells #[.int .i64 s.1, .int .i64 s.2] 24))) := Lib.hid ⟨_, _, _, rfl, sls_one w2 s, b2.trans (b3.mono b2.size)⟩
  have HRS := Lib.hid hrs
  clear s2 b2 b3 hrs
  go_wp2_with fail
  rename (z == 0) = false => hzz
  simp only [hzz]
  clear h0 hzz c0 c1
  go_loopw [5, 6] (fun s5 s6 wr => ∃ k : Nat, k ≤ n ∧ s6 = .int .i64 k ∧ Hid (∃ a5 n5 c5, s5 = .slice a5 n5 c5 ∧ SlS wr a5 n5 c5 ((l.take k).foldl refWo [s]) ∧ Below w.heap.size w wr)) (fun _ s6 _ => n - (intOf s6).toNat)
  case atStart => exact ⟨0, Nat.zero_le _, rfl, HK⟩
  case round =>
    obtain ⟨k, hk, rfl, HR⟩ := hrel
    by_cases hlt : k < n
    · obtain ⟨a5, n5, c5, rfl, sl, hbw⟩ := HR.out
      obtain ⟨g, off, rfl, hc⟩ := HC.out (by omega)
      obtain ⟨m0, m1⟩ := hc k hlt
      replace m0 := (hbw.cell (World.block_lt_of_cell? w _ m0)).trans m0
      replace m1 := (hbw.cell (World.block_lt_of_cell? w _ m1)).trans m1
      have hln := (foldWo_len' (l.take k) [s] (fun x hx => HLOK.out x (List.mem_of_mem_take hx)) HRS.out).1
      have hstep : (l.take (k + 1)).foldl refWo [s] = refWo ((l.take k).foldl refWo [s]) (l.getD k (0, 0)) := by
        have hk' : k < l.length := by rw [HLN.out]; exact hlt
        rw [show l.getD k (0, 0) = l[k] from by simp [List.getD, hk'], List.take_succ_eq_append_getElem hk', List.foldl_append]; rfl
      rw [List.length_take, List.length_singleton] at hln
      have hsl := sl.len
      have HST := Lib.hid hstep
      generalize l.getD k (0, 0) = x at *
      have HW := Lib.hid (rwithout_any sl (by omega) x)
      have HBW := Lib.hid hbw
      clear hc sl hbw hln hstep hsl HR
      go_wp2_with fail
      refine HW.out.mono ?_
      rintro e w5 ⟨a6, n6, c6, rfl, sl6, h6, _⟩
      have HK6 : Hid (∃ a5 n5 c5, (.slice a6 n6 c6 : Value) = .slice a5 n5 c5 ∧ SlS w5 a5 n5 c5 ((l.take (k + 1)).foldl refWo [s]) ∧ Below w.heap.size w w5) := Lib.hid ⟨_, _, _, rfl, by rw [HST.out]; exact sl6, HBW.out.trans (h6.mono HBW.out.size)⟩
      clear sl6 h6 m0 m1 HBW HW HST
      go_wp2_with fail
      go_roundw
      case rel => exact ⟨k + 1, by omega, by go_num, HK6⟩
      case measure => simp [intOf]; omega
    · obtain rfl : k = n := by omega
      obtain ⟨a5, n5, c5, rfl, sl, hbw⟩ := HR.out
      rw [List.take_of_length_le (by rw [HLN.out]; exact Nat.le_refl _), ← HG.out] at sl
      have HF := Lib.hid (And.intro sl hbw)
      clear sl hbw HR HC
      go_wp2_with fail
      go_ret
      exact ⟨_, _, _, rfl, HF.out⟩
end Go.Proofs.Ytegbkeichkifnaa.rn
