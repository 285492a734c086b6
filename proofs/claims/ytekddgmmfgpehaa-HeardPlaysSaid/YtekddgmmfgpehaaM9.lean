/-
  Several texts in one: RunWi RunO RunDo RunNx HrdQ HrdR
-/
import Derived.Test.YtekddgmmfgpehaaM8
/-!   The reference's With.
-/
namespace Go.Proofs.Ytekddgmmfgpehaa.rn
open Go.RowKit Go.Shelf aid mem rng sp
attribute [local go_sem ↓] Go.wp_at_zero Go.wp_at_succ
set_option linter.unusedVariables false
set_option linter.unusedSimpArgs false

set_option maxRecDepth 100000 in
theorem sls_two (X : World) (y x : Sp) : SlS (X.alloc (.cells #[.int .i64 y.1, .int .i64 y.2, .int .i64 x.1, .int .i64 x.2] 36)) (some ⟨X.heap.size, 0, none⟩) 2 2 [y, x] := by
  refine ⟨rfl, Nat.le_refl _, by decide, (fun h => by cases h), fun _ => ⟨X.heap.size, 0, rfl, fun i hi => ?_⟩⟩
  have hr := heap_alloc_new X (.cells #[.int .i64 y.1, .int .i64 y.2, .int .i64 x.1, .int .i64 x.2] 36)
  rw [cell_of_row _ X.heap.size _ _ _ (0, 0) hr, cell_of_row _ X.heap.size _ _ _ (0, 0) hr]
  rcases (show i = 0 ∨ i = 1 by omega) with rfl | rfl
  · exact ⟨rfl, rfl⟩
  · exact ⟨rfl, rfl⟩
/-- a span in its box, and one that grows in another -/
structure WA (w : World) (s : Sp) (bs pa : Nat) (y : Sp) (X : World) : Prop where
  sp : SpAt X bs s
  all : SpAt X pa y
  below : Below w.heap.size w X
  ge : w.heap.size ≤ bs ∧ w.heap.size ≤ pa
  ne : bs ≠ pa
set_option maxRecDepth 100000 in
theorem WA.later {w : World} {s y : Sp} {bs pa : Nat} {X Y : World} (h : WA w s bs pa y X) (hb : Below X.heap.size X Y) : WA w s bs pa y Y :=
  ⟨h.sp.later hb, h.all.later hb, h.below.trans (hb.mono h.below.size), h.ge, h.ne⟩
set_option maxRecDepth 100000 in
theorem WA.al {w : World} {s y : Sp} {bs pa : Nat} {X : World} (h : WA w s bs pa y X) (o : Obj) : WA w s bs pa y (X.alloc o) := h.later (bal o)
set_option maxRecDepth 100000 in
theorem WA.put {w : World} {s y : Sp} {bs pa : Nat} {X : World} (h : WA w s bs pa y X) (a b : Int) : WA w s bs pa (a, b) ((X.setCell ⟨pa, 0, none⟩ (.int .i64 a)).setCell ⟨pa, 1, none⟩ (.int .i64 b)) := by
  have hk := kput X pa (.int .i64 a) (.int .i64 b)
  exact ⟨h.sp.keep hk (by simpa using h.ne), h.all.put a b, h.below.trans (hk.below (B := w.heap.size) (fun k hk => by simp at hk; subst hk; exact h.ge.2) h.below.size), h.ge, h.ne⟩
set_option maxRecDepth 100000 in
theorem all_take {l : List Sp} (s : Sp) {k : Nat} (hk : k < l.length) : allL s (l.take (k + 1)) = if touchB (l.getD k (0, 0)) s = true then hullP [allL s (l.take k), l.getD k (0, 0)] else allL s (l.take k) := by
  rw [show l.getD k (0, 0) = l[k] from by simp [List.getD, hk]]
  unfold allL
  rw [List.take_succ_eq_append_getElem hk, List.foldl_append]
  rfl
set_option maxRecDepth 100000 in
theorem put_take {l : List Sp} (a : Sp) {k : Nat} (hk : k < l.length) : putL a (l.take (k + 1)) = putS a (putL a (l.take k)) (l.getD k (0, 0)) := by
  rw [show l.getD k (0, 0) = l[k] from by simp [List.getD, hk]]
  unfold putL
  rw [List.take_succ_eq_append_getElem hk, List.foldl_append]
  rfl
set_option maxRecDepth 100000 in
theorem put_len (a : Sp) (l : List Sp) : ∀ k, (putL a (l.take k)).1.length ≤ 2 * k := by
  intro k
  induction k with
  | zero => simp [putL]
  | succ k ih =>
    by_cases hk : k < l.length
    · rw [put_take a hk]
      unfold putS
      split
      · omega
      · split
        · simp only [List.length_append, List.length_singleton]; omega
        · simp only [List.length_append, List.length_singleton]; omega
    · rw [List.take_of_length_le (by omega)] at ih ⊢
      omega
set_option maxRecDepth 100000 in
set_option maxHeartbeats 8000000 in
theorem rwith_any {w : World} {a : Option Addr} {n cap : Nat} {l : List Sp} (h : SlS w a n cap l) (hn : n ≤ 100000) (s : Sp) : Calls Try.prog 32 #[.slice a n cap, spV s] w fun e w' => ∃ a' n' cap', e = .returned (.slice a' n' cap') ∧ SlS w' a' n' cap' (refWi l s) ∧ Below w.heap.size w w' ∧ ∀ x, a' = some x → (a = some x ∧ n' = n) ∨ w.heap.size ≤ x.block := by
  have hle := h.le
  have hmost := h.most
  have hlen := h.len
  unfold maxLen at hmost
  have HC := Lib.hid (fun h0 => h.cells h0)
  have b1 := bal (w := w) (.cells #[.int .i64 s.1, .int .i64 s.2] 36)
  have s1 := sp_new w s
  have c0 := s1.c0; have c1 := s1.c1
  have HLS := Lib.hid (fun X => rlen_any s X)
  have HRF := Lib.hid (show refWi l s = if lenI s = 0 then l else endL (allL s l) (putL (allL s l) l) from rfl)
  have HTK := Lib.hid (fun k (hk : k < n) => all_take (l := l) s (k := k) (by omega))
  have HEN := Lib.hid (show allL s (l.take n) = allL s l from by rw [List.take_of_length_le (by omega)])
  have HB1 := Lib.hid (And.intro b1 s1)
  have HS := Lib.hid h
  have HLN := Lib.hid hlen
  clear b1 s1 h hlen
  obtain ⟨i0, hi, hz0, hz1, hz2⟩ := info_split info_span
  generalize lenI s = z at *
  go_enter Try.func32, Try.ntmps32
  go_wp2_with fail
  refine (HLS.out _).mono ?_
  rintro e w2 ⟨rfl, h2⟩
  obtain ⟨b1, s1⟩ := HB1.out
  have b2 := b1.trans (h2.mono b1.size)
  have s2 := s1.later h2
  clear b1 s1 h2 c0 c1 HB1
  by_cases hz : z = 0
  · subst hz
    rw [if_pos rfl] at HRF
    have HF := Lib.hid (show SlS w2 a n cap (refWi l s) from by rw [HRF.out]; exact HS.out.later b2)
    clear HC HLS HTK HEN HRF
    go_wp2
    go_ret
    exact ⟨_, _, _, rfl, HF.out, b2, fun x hx => .inl ⟨hx, rfl⟩⟩
  rw [if_neg hz] at HRF
  have b3 := bal (w := w2) (.cells #[.int .i64 s.1, .int .i64 s.2] 36)
  have K0 : WA w s w.heap.size w2.heap.size s (w2.alloc (.cells #[.int .i64 s.1, .int .i64 s.2] 36)) := ⟨s2.later b3, sp_new w2 s, b2.trans (b3.mono b2.size), ⟨Nat.le_refl _, b2.size⟩, by have := s2.lt; omega⟩
  have HK0 := Lib.hid K0
  have c0 := s2.c0; have c1 := s2.c1
  clear K0 s2 b2 b3
  generalize w.heap.size = bs at *
  go_wp2_with fail
  rename (z == 0) = false => hzz
  simp only [hzz]
  clear hz hzz c0 c1
  generalize w2.heap.size = pa at *
  go_loopw [6] (fun s6 wr => ∃ k : Nat, k ≤ n ∧ s6 = .int .i64 k ∧ Hid (WA w s bs pa (allL s (l.take k)) wr)) (fun s6 _ => n - (intOf s6).toNat)
  case atStart => exact ⟨0, Nat.zero_le _, rfl, HK0⟩
  case round =>
    obtain ⟨k, hk, rfl, HK⟩ := hrel
    by_cases hlt : k < n
    · obtain ⟨g, off, rfl, hc⟩ := HC.out (by omega)
      obtain ⟨m0, m1⟩ := hc k hlt
      have HTK1 := Lib.hid (HTK.out k hlt)
      generalize l.getD k (0, 0) = x at *
      generalize hy : allL s (l.take k) = y at *
      have HKP := Lib.hid (fun X (y' : Sp) (K : WA w s bs pa y' X) => show X.cell? ⟨bs, 0, none⟩ = some (.int .i64 s.1) ∧ X.cell? ⟨bs, 1, none⟩ = some (.int .i64 s.2) ∧ X.cell? ⟨g, off + k * 2, none⟩ = some (.int .i64 x.1) ∧ X.cell? ⟨g, off + k * 2 + 1, none⟩ = some (.int .i64 x.2) from
        ⟨K.sp.c0, K.sp.c1, (K.below.cell (World.block_lt_of_cell? w _ m0)).trans m0, (K.below.cell (World.block_lt_of_cell? w _ m1)).trans m1⟩)
      have HTO := Lib.hid (fun X => rtouch_any x s X)
      clear m0 m1 hc HC HTK HEN HRF HS hy
      generalize touchB x s = tb at *
      have Kc := HK.out.later (Below.refl _ _).drew
      go_upto_region 7 with (fail)
      go_cut [26] from 21 to 33 (fun s26 wx => s26 = .bool tb ∧ Hid (WA w s bs pa y wx))
      case first =>
        refine wp_region_noPanic ?_
        refine wp_region_held_drew (S := (fun w' => w'.cell? ⟨bs, 0, none⟩ = some (.int .i64 s.1) ∧ w'.cell? ⟨bs, 1, none⟩ = some (.int .i64 s.2) ∧ w'.cell? ⟨g, off + k * 2, none⟩ = some (.int .i64 x.1) ∧ w'.cell? ⟨g, off + k * 2 + 1, none⟩ = some (.int .i64 x.2))) (by kernel_rfl) ?_ (fun hHeld => ?_)
        · ((try dsimp only); exact HKP.out _ _ Kc)
        generalize wr.drew = C0 at *
        refine wpAnyH_take (i := 0) (oi := _) (v := ?_) rfl (by kernel_rfl) (by kernel_rfl) (by kernel_rfl) (fun _ _ _ h => h) (Or.inl ⟨by rfl, ?_⟩) (by assumption) ?_
        rotate_left
        · (first | (intro v hSw; (try dsimp only at hSw); go_simp; done) | (intro v hSw; (try dsimp only at hSw); go_simp; with_reducible rfl))
        (try simp only [List.getElem_toArray, List.getElem_cons_succ, List.getElem_cons_zero, Act.put, List.setIfInBounds_toArray, List.set_cons_zero, List.set_cons_succ])
        refine wpAnyH_take (i := 1) (oi := _) (v := ?_) rfl (by kernel_rfl) (by kernel_rfl) (by kernel_rfl) (fun _ _ _ h => h) (Or.inl ⟨by rfl, ?_⟩) (by assumption) ?_
        rotate_left
        · (first | (intro v hSw; (try dsimp only at hSw); go_simp; done) | (intro v hSw; (try dsimp only at hSw); go_simp; with_reducible rfl))
        (try simp only [List.getElem_toArray, List.getElem_cons_succ, List.getElem_cons_zero, Act.put, List.setIfInBounds_toArray, List.set_cons_zero, List.set_cons_succ])
        refine wpAnyH_take (i := 2) (oi := _) (v := ?_) rfl (by kernel_rfl) (by kernel_rfl) (by kernel_rfl) (fun _ _ _ h => h) (Or.inl ⟨by rfl, ?_⟩) (by assumption) ?_
        rotate_left
        · (first | (intro v hSw; (try dsimp only at hSw); go_simp; done) | (intro v hSw; (try dsimp only at hSw); go_simp; with_reducible rfl))
        (try simp only [List.getElem_toArray, List.getElem_cons_succ, List.getElem_cons_zero, Act.put, List.setIfInBounds_toArray, List.set_cons_zero, List.set_cons_succ])
        refine wpAnyH_take (i := 3) (oi := _) (v := ?_) rfl (by kernel_rfl) (by kernel_rfl) (by kernel_rfl) (fun _ _ _ h => h) (Or.inl ⟨by rfl, ?_⟩) (by assumption) ?_
        rotate_left
        · (first | (intro v hSw; (try dsimp only at hSw); go_simp; done) | (intro v hSw; (try dsimp only at hSw); go_simp; with_reducible rfl))
        (try simp only [List.getElem_toArray, List.getElem_cons_succ, List.getElem_cons_zero, Act.put, List.setIfInBounds_toArray, List.set_cons_zero, List.set_cons_succ])
        refine wpAnyH_take (i := 4) (oi := _) (v := ?_) rfl (by kernel_rfl) (by kernel_rfl) (by kernel_rfl) (fun _ _ _ h => h) (Or.inl ⟨by rfl, ?_⟩) (by assumption) ?_
        rotate_left
        · (first | (intro v hSw; (try dsimp only at hSw); go_simp; done) | (intro v hSw; (try dsimp only at hSw); go_simp; with_reducible rfl))
        (try simp only [List.getElem_toArray, List.getElem_cons_succ, List.getElem_cons_zero, Act.put, List.setIfInBounds_toArray, List.set_cons_zero, List.set_cons_succ])
        refine wpAnyH_ready (rs := [5]) (by kernel_rfl) (by simp) ?_
        refine AllReadyH.cons (o := _) rfl (fun K hK => ?_) AllReadyH.nil
        go_simp
        (refine (HTO.out _).mono ?_)
        rintro e w3 ⟨rfl, h3⟩
        replace Kc := Kc.later h3
        refine hK.out _ _ ?_ (fun hHeld => ?_)
        · ((try dsimp only); exact HKP.out _ _ Kc)
        clear hK K
        (try simp only [List.getElem_toArray, List.getElem_cons_succ, List.getElem_cons_zero, Act.put, List.setIfInBounds_toArray, List.set_cons_zero, List.set_cons_succ])
        refine wpAnyH_done (by kernel_rfl) ?_ _
        refine NoPanic.normal ?_
        clear hHeld
        go_wp2_with fail
        go_meet
        exact ⟨rfl, Lib.hid Kc⟩
      case rest =>
        obtain ⟨rfl, HK7⟩ := hcut
        clear Kc HK
        cases tb
        · rw [if_neg (by simp)] at HTK1
          go_wp2_with fail
          go_roundw
          case rel => exact ⟨k + 1, by omega, by go_num, by rw [HTK1.out]; exact HK7⟩
          case measure => simp [intOf]; omega
        · rw [if_pos rfl] at HTK1
          have Kc := HK7.out.later (Below.refl _ _).drew
          have p0 := Kc.all.c0
          have p1 := Kc.all.c1
          go_upto_region 8 with (fail)
          refine wp_region_noPanic ?_
          refine wp_region_held_drew (S := (fun w' => w'.cell? ⟨bs, 0, none⟩ = some (.int .i64 s.1) ∧ w'.cell? ⟨bs, 1, none⟩ = some (.int .i64 s.2) ∧ w'.cell? ⟨g, off + k * 2, none⟩ = some (.int .i64 x.1) ∧ w'.cell? ⟨g, off + k * 2 + 1, none⟩ = some (.int .i64 x.2))) (by kernel_rfl) ?_ (fun hHeld => ?_)
          · ((try dsimp only); exact HKP.out _ _ Kc)
          generalize wc.drew = C0 at *
          refine wpAnyH_take (i := 1) (oi := _) (v := ?_) rfl (by kernel_rfl) (by kernel_rfl) (by kernel_rfl) (fun _ _ _ h => h) (Or.inl ⟨by rfl, ?_⟩) (by assumption) ?_
          rotate_left
          · (first | (intro v hSw; (try dsimp only at hSw); go_simp; done) | (intro v hSw; (try dsimp only at hSw); go_simp; with_reducible rfl))
          (try simp only [List.getElem_toArray, List.getElem_cons_succ, List.getElem_cons_zero, Act.put, List.setIfInBounds_toArray, List.set_cons_zero, List.set_cons_succ])
          refine wpAnyH_take (i := 2) (oi := _) (v := ?_) rfl (by kernel_rfl) (by kernel_rfl) (by kernel_rfl) (fun _ _ _ h => h) (Or.inl ⟨by rfl, ?_⟩) (by assumption) ?_
          rotate_left
          · (first | (intro v hSw; (try dsimp only at hSw); go_simp; done) | (intro v hSw; (try dsimp only at hSw); go_simp; with_reducible rfl))
          (try simp only [List.getElem_toArray, List.getElem_cons_succ, List.getElem_cons_zero, Act.put, List.setIfInBounds_toArray, List.set_cons_zero, List.set_cons_succ])
          refine wpAnyH_take (i := 3) (oi := _) (v := ?_) rfl (by kernel_rfl) (by kernel_rfl) (by kernel_rfl) (fun _ _ _ h => h) (Or.inl ⟨by rfl, ?_⟩) (by assumption) ?_
          rotate_left
          · (first | (intro v hSw; (try dsimp only at hSw); go_simp; done) | (intro v hSw; (try dsimp only at hSw); go_simp; with_reducible rfl))
          (try simp only [List.getElem_toArray, List.getElem_cons_succ, List.getElem_cons_zero, Act.put, List.setIfInBounds_toArray, List.set_cons_zero, List.set_cons_succ])
          refine wpAnyH_take (i := 4) (oi := _) (v := ?_) rfl (by kernel_rfl) (by kernel_rfl) (by kernel_rfl) (fun _ _ _ h => h) (Or.inl ⟨by rfl, ?_⟩) (by assumption) ?_
          rotate_left
          · (first | (intro v hSw; (try dsimp only at hSw); go_simp; done) | (intro v hSw; (try dsimp only at hSw); go_simp; with_reducible rfl))
          (try simp only [List.getElem_toArray, List.getElem_cons_succ, List.getElem_cons_zero, Act.put, List.setIfInBounds_toArray, List.set_cons_zero, List.set_cons_succ])
          refine wpAnyH_ready (rs := [0]) (by kernel_rfl) (by simp) ?_
          refine AllReadyH.cons (o := _) rfl (fun K hK => ?_) AllReadyH.nil
          go_simp
          refine hK.out _ _ ?_ (fun hHeld => ?_)
          · ((try dsimp only); exact HKP.out _ _ Kc)
          clear hK K
          (try simp only [List.getElem_toArray, List.getElem_cons_succ, List.getElem_cons_zero, Act.put, List.setIfInBounds_toArray, List.set_cons_zero, List.set_cons_succ])
          refine wpAnyH_ready (rs := [5]) (by kernel_rfl) (by simp) ?_
          refine AllReadyH.cons (o := _) rfl (fun K hK => ?_) AllReadyH.nil
          go_simp
          have sl := sls_two C0 y x
          replace Kc := Kc.al (.cells #[.int .i64 y.1, .int .i64 y.2, .int .i64 x.1, .int .i64 x.2] 36)
          refine hK.out _ _ ?_ (fun hHeld => ?_)
          · ((try dsimp only); exact HKP.out _ _ Kc)
          clear hK K
          (try simp only [List.getElem_toArray, List.getElem_cons_succ, List.getElem_cons_zero, Act.put, List.setIfInBounds_toArray, List.set_cons_zero, List.set_cons_succ])
          refine wpAnyH_ready (rs := [6]) (by kernel_rfl) (by simp) ?_
          refine AllReadyH.cons (o := _) rfl (fun K hK => ?_) AllReadyH.nil
          go_simp
          (refine (rhull_any _ _ _ _ _ sl).mono ?_)
          rintro e w5 ⟨rfl, h5⟩
          replace Kc := Kc.later h5
          have z0 := Kc.all.c0
          have z1 := Kc.all.c1
          have z2 := Kc.all.f0
          have z3 := Kc.all.f1
          refine hK.out _ _ ?_ (fun hHeld => ?_)
          · ((try dsimp only); exact HKP.out _ _ Kc)
          clear hK K
          (try simp only [List.getElem_toArray, List.getElem_cons_succ, List.getElem_cons_zero, Act.put, List.setIfInBounds_toArray, List.set_cons_zero, List.set_cons_succ])
          refine wpAnyH_ready (rs := [7]) (by kernel_rfl) (by simp) ?_
          refine AllReadyH.cons (o := _) rfl (fun K hK => ?_) AllReadyH.nil
          go_simp
          replace Kc := Kc.put (hullP [y, x]).1 (hullP [y, x]).2
          go_simp
          refine hK.out _ _ ?_ (fun hHeld => ?_)
          · ((try dsimp only); exact HKP.out _ _ Kc)
          clear hK K
          (try simp only [List.getElem_toArray, List.getElem_cons_succ, List.getElem_cons_zero, Act.put, List.setIfInBounds_toArray, List.set_cons_zero, List.set_cons_succ])
          refine wpAnyH_done (by kernel_rfl) ?_ _
          refine NoPanic.normal ?_
          clear hHeld
          go_wp2_with fail
          go_roundw
          case rel => exact ⟨k + 1, by omega, by go_num, by rw [HTK1.out]; exact Lib.hid Kc⟩
          case measure => simp [intOf]; omega
    · obtain rfl : k = n := by omega
      rw [HEN.out] at HK
      have HTP := Lib.hid (fun j (hj : j < k) => put_take (l := l) (allL s l) (k := j) (by rw [HLN.out]; exact hj))
      have HLE := Lib.hid (put_len (allL s l) l)
      have HEP := Lib.hid (show putL (allL s l) (l.take k) = putL (allL s l) l from by rw [List.take_of_length_le (by rw [HLN.out]; exact Nat.le_refl _)])
      have HK0 : Hid (WOs w (allL s l) pa [] (.slice none 0 0) wr) := Lib.hid ⟨World.ownsRow_nil _ _ _ _, HK.out.all, HK.out.below, HK.out.ge.2⟩
      generalize allL s l = A at *
      clear HTK HEN HS HLS HK hlt hk
      rename_i wq
      go_wp2_with fail
      go_loopw [7, 8, 9] (fun s7 s8 s9 wr => ∃ j : Nat, j ≤ k ∧ s9 = .int .i64 j ∧ s8 = .bool (putL A (l.take j)).2 ∧ Hid (WOs w A pa (putL A (l.take j)).1 s7 wr)) (fun _ _ s9 _ => k - (intOf s9).toNat)
      case atStart => exact ⟨0, Nat.zero_le _, rfl, rfl, HK0⟩
      case round =>
        obtain ⟨j, hj, rfl, rfl, HK⟩ := hrel
        by_cases hlt : j < k
        · obtain ⟨g, off, rfl, hc⟩ := HC.out (by omega)
          obtain ⟨m0, m1⟩ := hc j hlt
          have HTK1 := Lib.hid (HTP.out j hlt)
          have hLE := HLE.out j
          generalize l.getD j (0, 0) = x at *
          generalize hq : putL A (l.take j) = q at *
          obtain ⟨L, pb⟩ := q
          have HKP := Lib.hid (fun X (L' : List Sp) (v' : Value) (K : WOs w A pa L' v' X) => show X.cell? ⟨pa, 0, none⟩ = some (.int .i64 A.1) ∧ X.cell? ⟨pa, 1, none⟩ = some (.int .i64 A.2) ∧ X.cell? ⟨g, off + j * 2, none⟩ = some (.int .i64 x.1) ∧ X.cell? ⟨g, off + j * 2 + 1, none⟩ = some (.int .i64 x.2) from
            ⟨K.sp.c0, K.sp.c1, (K.below.cell (World.block_lt_of_cell? w _ m0)).trans m0, (K.below.cell (World.block_lt_of_cell? w _ m1)).trans m1⟩)
          have HTO := Lib.hid (fun X => rtouch_any x A X)
          have HPS := Lib.hid (show putS A (L, pb) x = if touchB x A = true then (L, pb) else if pb = false ∧ A.1 < x.1 then (L ++ [A] ++ [x], true) else (L ++ [x], pb) from rfl)
          clear m0 m1 hc HC HTP HLE HEP HRF hq
          dsimp only at hLE HK
          generalize touchB x A = tb at *
          have Kc := HK.out.later (Below.refl _ _).drew
          go_upto_region 14 with (fail)
          go_cut [45] from 34 to 68 (fun s45 wx => s45 = .bool tb ∧ Hid (WOs w A pa L u7 wx))
          case first =>
            refine wp_region_noPanic ?_
            refine wp_region_held_drew (S := (fun w' => w'.cell? ⟨pa, 0, none⟩ = some (.int .i64 A.1) ∧ w'.cell? ⟨pa, 1, none⟩ = some (.int .i64 A.2) ∧ w'.cell? ⟨g, off + j * 2, none⟩ = some (.int .i64 x.1) ∧ w'.cell? ⟨g, off + j * 2 + 1, none⟩ = some (.int .i64 x.2))) (by kernel_rfl) ?_ (fun hHeld => ?_)
            · ((try dsimp only); exact HKP.out _ _ _ Kc)
            generalize wr.drew = C0 at *
            refine wpAnyH_take (i := 0) (oi := _) (v := ?_) rfl (by kernel_rfl) (by kernel_rfl) (by kernel_rfl) (fun _ _ _ h => h) (Or.inl ⟨by rfl, ?_⟩) (by assumption) ?_
            rotate_left
            · (first | (intro v hSw; (try dsimp only at hSw); go_simp; done) | (intro v hSw; (try dsimp only at hSw); go_simp; with_reducible rfl))
            (try simp only [List.getElem_toArray, List.getElem_cons_succ, List.getElem_cons_zero, Act.put, List.setIfInBounds_toArray, List.set_cons_zero, List.set_cons_succ])
            refine wpAnyH_take (i := 1) (oi := _) (v := ?_) rfl (by kernel_rfl) (by kernel_rfl) (by kernel_rfl) (fun _ _ _ h => h) (Or.inl ⟨by rfl, ?_⟩) (by assumption) ?_
            rotate_left
            · (first | (intro v hSw; (try dsimp only at hSw); go_simp; done) | (intro v hSw; (try dsimp only at hSw); go_simp; with_reducible rfl))
            (try simp only [List.getElem_toArray, List.getElem_cons_succ, List.getElem_cons_zero, Act.put, List.setIfInBounds_toArray, List.set_cons_zero, List.set_cons_succ])
            refine wpAnyH_take (i := 2) (oi := _) (v := ?_) rfl (by kernel_rfl) (by kernel_rfl) (by kernel_rfl) (fun _ _ _ h => h) (Or.inl ⟨by rfl, ?_⟩) (by assumption) ?_
            rotate_left
            · (first | (intro v hSw; (try dsimp only at hSw); go_simp; done) | (intro v hSw; (try dsimp only at hSw); go_simp; with_reducible rfl))
            (try simp only [List.getElem_toArray, List.getElem_cons_succ, List.getElem_cons_zero, Act.put, List.setIfInBounds_toArray, List.set_cons_zero, List.set_cons_succ])
            refine wpAnyH_take (i := 3) (oi := _) (v := ?_) rfl (by kernel_rfl) (by kernel_rfl) (by kernel_rfl) (fun _ _ _ h => h) (Or.inl ⟨by rfl, ?_⟩) (by assumption) ?_
            rotate_left
            · (first | (intro v hSw; (try dsimp only at hSw); go_simp; done) | (intro v hSw; (try dsimp only at hSw); go_simp; with_reducible rfl))
            (try simp only [List.getElem_toArray, List.getElem_cons_succ, List.getElem_cons_zero, Act.put, List.setIfInBounds_toArray, List.set_cons_zero, List.set_cons_succ])
            refine wpAnyH_take (i := 4) (oi := _) (v := ?_) rfl (by kernel_rfl) (by kernel_rfl) (by kernel_rfl) (fun _ _ _ h => h) (Or.inl ⟨by rfl, ?_⟩) (by assumption) ?_
            rotate_left
            · (first | (intro v hSw; (try dsimp only at hSw); go_simp; done) | (intro v hSw; (try dsimp only at hSw); go_simp; with_reducible rfl))
            (try simp only [List.getElem_toArray, List.getElem_cons_succ, List.getElem_cons_zero, Act.put, List.setIfInBounds_toArray, List.set_cons_zero, List.set_cons_succ])
            refine wpAnyH_ready (rs := [5]) (by kernel_rfl) (by simp) ?_
            refine AllReadyH.cons (o := _) rfl (fun K hK => ?_) AllReadyH.nil
            go_simp
            (refine (HTO.out _).mono ?_)
            rintro e w3 ⟨rfl, h3⟩
            replace Kc := Kc.later h3
            refine hK.out _ _ ?_ (fun hHeld => ?_)
            · ((try dsimp only); exact HKP.out _ _ _ Kc)
            clear hK K
            (try simp only [List.getElem_toArray, List.getElem_cons_succ, List.getElem_cons_zero, Act.put, List.setIfInBounds_toArray, List.set_cons_zero, List.set_cons_succ])
            refine wpAnyH_done (by kernel_rfl) ?_ _
            refine NoPanic.normal ?_
            clear hHeld
            go_wp2_with fail
            go_meet
            exact ⟨rfl, Lib.hid Kc⟩
          case rest =>
            obtain ⟨rfl, HK7⟩ := hcut
            clear Kc HK
            cases tb
            · rw [if_neg (by simp)] at HPS
              have HAP := Lib.hid (fun (v : Value) (X : World) (L2 : List Sp) (pb2 : Bool) (hps : putS A (L, pb) x = (L2, pb2)) (K : WOs w A pa L2 v X) => show (pb2 = (putL A (l.take (j + 1))).2 ∧ Hid (WOs w A pa (putL A (l.take (j + 1))).1 v X)) from
                ⟨by rw [HTK1.out, hps], by rw [HTK1.out, hps]; exact Lib.hid K⟩)
              have Kc := HK7.out.later (Below.refl _ _).drew
              obtain ⟨f0, f1, f2, f3⟩ := HKP.out _ _ _ Kc
              clear HTK1
              go_upto_region 15 with (fail)
              go_cut [57] from 34 to 68 (fun s57 wx => s57 = .bool (!pb && decide (A.1 < x.1)) ∧ Hid (WOs w A pa L u7 wx))
              case first =>
                cases pb
                · clear f0 f1 f2 f3
                  refine wp_region_noPanic ?_
                  refine wp_region_held_drew (S := (fun w' => w'.cell? ⟨pa, 0, none⟩ = some (.int .i64 A.1) ∧ w'.cell? ⟨pa, 1, none⟩ = some (.int .i64 A.2) ∧ w'.cell? ⟨g, off + j * 2, none⟩ = some (.int .i64 x.1) ∧ w'.cell? ⟨g, off + j * 2 + 1, none⟩ = some (.int .i64 x.2))) (by kernel_rfl) ?_ (fun hHeld => ?_)
                  · ((try dsimp only); exact HKP.out _ _ _ Kc)
                  generalize wc.drew = C0 at *
                  refine wpAnyH_take (i := 0) (oi := _) (v := ?_) rfl (by kernel_rfl) (by kernel_rfl) (by kernel_rfl) (fun _ _ _ h => h) (Or.inl ⟨by rfl, ?_⟩) (by assumption) ?_
                  rotate_left
                  · (first | (intro v hSw; (try dsimp only at hSw); go_simp; done) | (intro v hSw; (try dsimp only at hSw); go_simp; with_reducible rfl))
                  (try simp only [List.getElem_toArray, List.getElem_cons_succ, List.getElem_cons_zero, Act.put, List.setIfInBounds_toArray, List.set_cons_zero, List.set_cons_succ])
                  refine wpAnyH_take (i := 1) (oi := _) (v := ?_) rfl (by kernel_rfl) (by kernel_rfl) (by kernel_rfl) (fun _ _ _ h => h) (Or.inl ⟨by rfl, ?_⟩) (by assumption) ?_
                  rotate_left
                  · (first | (intro v hSw; (try dsimp only at hSw); go_simp; done) | (intro v hSw; (try dsimp only at hSw); go_simp; with_reducible rfl))
                  (try simp only [List.getElem_toArray, List.getElem_cons_succ, List.getElem_cons_zero, Act.put, List.setIfInBounds_toArray, List.set_cons_zero, List.set_cons_succ])
                  refine wpAnyH_take (i := 2) (oi := _) (v := ?_) rfl (by kernel_rfl) (by kernel_rfl) (by kernel_rfl) (fun _ _ _ h => h) (Or.inl ⟨by rfl, ?_⟩) (by assumption) ?_
                  rotate_left
                  · (first | (intro v hSw; (try dsimp only at hSw); go_simp; done) | (intro v hSw; (try dsimp only at hSw); go_simp; with_reducible rfl))
                  (try simp only [List.getElem_toArray, List.getElem_cons_succ, List.getElem_cons_zero, Act.put, List.setIfInBounds_toArray, List.set_cons_zero, List.set_cons_succ])
                  refine wpAnyH_take (i := 3) (oi := _) (v := ?_) rfl (by kernel_rfl) (by kernel_rfl) (by kernel_rfl) (fun _ _ _ h => h) (Or.inl ⟨by rfl, ?_⟩) (by assumption) ?_
                  rotate_left
                  · (first | (intro v hSw; (try dsimp only at hSw); go_simp; done) | (intro v hSw; (try dsimp only at hSw); go_simp; with_reducible rfl))
                  (try simp only [List.getElem_toArray, List.getElem_cons_succ, List.getElem_cons_zero, Act.put, List.setIfInBounds_toArray, List.set_cons_zero, List.set_cons_succ])
                  refine wpAnyH_take (i := 4) (oi := _) (v := ?_) rfl (by kernel_rfl) (by kernel_rfl) (by kernel_rfl) (fun _ _ _ h => h) (Or.inl ⟨by rfl, ?_⟩) (by assumption) ?_
                  rotate_left
                  · (first | (intro v hSw; (try dsimp only at hSw); go_simp; done) | (intro v hSw; (try dsimp only at hSw); go_simp; with_reducible rfl))
                  (try simp only [List.getElem_toArray, List.getElem_cons_succ, List.getElem_cons_zero, Act.put, List.setIfInBounds_toArray, List.set_cons_zero, List.set_cons_succ])
                  refine wpAnyH_take (i := 5) (oi := _) (v := ?_) rfl (by kernel_rfl) (by kernel_rfl) (by kernel_rfl) (fun _ _ _ h => h) (Or.inl ⟨by rfl, ?_⟩) (by assumption) ?_
                  rotate_left
                  · (first | (intro v hSw; (try dsimp only at hSw); go_simp; done) | (intro v hSw; (try dsimp only at hSw); go_simp; with_reducible rfl))
                  (try simp only [List.getElem_toArray, List.getElem_cons_succ, List.getElem_cons_zero, Act.put, List.setIfInBounds_toArray, List.set_cons_zero, List.set_cons_succ])
                  refine wpAnyH_take (i := 6) (oi := _) (v := ?_) rfl (by kernel_rfl) (by kernel_rfl) (by kernel_rfl) (fun _ _ _ h => h) (Or.inl ⟨by rfl, ?_⟩) (by assumption) ?_
                  rotate_left
                  · (first | (intro v hSw; (try dsimp only at hSw); go_simp; done) | (intro v hSw; (try dsimp only at hSw); go_simp; with_reducible rfl))
                  (try simp only [List.getElem_toArray, List.getElem_cons_succ, List.getElem_cons_zero, Act.put, List.setIfInBounds_toArray, List.set_cons_zero, List.set_cons_succ])
                  refine wpAnyH_take (i := 7) (oi := _) (v := ?_) rfl (by kernel_rfl) (by kernel_rfl) (by kernel_rfl) (fun _ _ _ h => h) (Or.inl ⟨by rfl, ?_⟩) (by assumption) ?_
                  rotate_left
                  · (first | (intro v hSw; (try dsimp only at hSw); go_simp; done) | (intro v hSw; (try dsimp only at hSw); go_simp; with_reducible rfl))
                  (try simp only [List.getElem_toArray, List.getElem_cons_succ, List.getElem_cons_zero, Act.put, List.setIfInBounds_toArray, List.set_cons_zero, List.set_cons_succ])
                  refine wpAnyH_take (i := 8) (oi := _) (v := ?_) rfl (by kernel_rfl) (by kernel_rfl) (by kernel_rfl) (fun _ _ _ h => h) (Or.inl ⟨by rfl, ?_⟩) (by assumption) ?_
                  rotate_left
                  · (first | (intro v hSw; (try dsimp only at hSw); go_simp; done) | (intro v hSw; (try dsimp only at hSw); go_simp; with_reducible rfl))
                  (try simp only [List.getElem_toArray, List.getElem_cons_succ, List.getElem_cons_zero, Act.put, List.setIfInBounds_toArray, List.set_cons_zero, List.set_cons_succ])
                  refine wpAnyH_take (i := 9) (oi := _) (v := ?_) rfl (by kernel_rfl) (by kernel_rfl) (by kernel_rfl) (fun _ _ _ h => h) (Or.inl ⟨by rfl, ?_⟩) (by assumption) ?_
                  rotate_left
                  · (first | (intro v hSw; (try dsimp only at hSw); go_simp; done) | (intro v hSw; (try dsimp only at hSw); go_simp; with_reducible rfl))
                  (try simp only [List.getElem_toArray, List.getElem_cons_succ, List.getElem_cons_zero, Act.put, List.setIfInBounds_toArray, List.set_cons_zero, List.set_cons_succ])
                  refine wpAnyH_take (i := 10) (oi := _) (v := ?_) rfl (by kernel_rfl) (by kernel_rfl) (by kernel_rfl) (fun _ _ _ h => h) (Or.inl ⟨by rfl, ?_⟩) (by assumption) ?_
                  rotate_left
                  · (first | (intro v hSw; (try dsimp only at hSw); go_simp; done) | (intro v hSw; (try dsimp only at hSw); go_simp; with_reducible rfl))
                  (try simp only [List.getElem_toArray, List.getElem_cons_succ, List.getElem_cons_zero, Act.put, List.setIfInBounds_toArray, List.set_cons_zero, List.set_cons_succ])
                  refine wpAnyH_take (i := 11) (oi := _) (v := ?_) rfl (by kernel_rfl) (by kernel_rfl) (by kernel_rfl) (fun _ _ _ h => h) (Or.inl ⟨by rfl, ?_⟩) (by assumption) ?_
                  rotate_left
                  · (first | (intro v hSw; (try dsimp only at hSw); go_simp; done) | (intro v hSw; (try dsimp only at hSw); go_simp; with_reducible rfl))
                  (try simp only [List.getElem_toArray, List.getElem_cons_succ, List.getElem_cons_zero, Act.put, List.setIfInBounds_toArray, List.set_cons_zero, List.set_cons_succ])
                  refine wpAnyH_done (by kernel_rfl) ?_ _
                  refine NoPanic.normal ?_
                  clear hHeld
                  go_wp2_with fail
                  go_meet
                  exact ⟨by simp, Lib.hid Kc⟩
                · clear f0 f1 f2 f3
                  refine wp_region_noPanic ?_
                  refine wp_region_held_drew (S := (fun w' => w'.cell? ⟨pa, 0, none⟩ = some (.int .i64 A.1) ∧ w'.cell? ⟨pa, 1, none⟩ = some (.int .i64 A.2) ∧ w'.cell? ⟨g, off + j * 2, none⟩ = some (.int .i64 x.1) ∧ w'.cell? ⟨g, off + j * 2 + 1, none⟩ = some (.int .i64 x.2))) (by kernel_rfl) ?_ (fun hHeld => ?_)
                  · ((try dsimp only); exact HKP.out _ _ _ Kc)
                  generalize wc.drew = C0 at *
                  refine wpAnyH_take (i := 0) (oi := _) (v := ?_) rfl (by kernel_rfl) (by kernel_rfl) (by kernel_rfl) (fun _ _ _ h => h) (Or.inl ⟨by rfl, ?_⟩) (by assumption) ?_
                  rotate_left
                  · (first | (intro v hSw; (try dsimp only at hSw); go_simp; done) | (intro v hSw; (try dsimp only at hSw); go_simp; with_reducible rfl))
                  (try simp only [List.getElem_toArray, List.getElem_cons_succ, List.getElem_cons_zero, Act.put, List.setIfInBounds_toArray, List.set_cons_zero, List.set_cons_succ])
                  refine wpAnyH_take (i := 1) (oi := _) (v := ?_) rfl (by kernel_rfl) (by kernel_rfl) (by kernel_rfl) (fun _ _ _ h => h) (Or.inl ⟨by rfl, ?_⟩) (by assumption) ?_
                  rotate_left
                  · (first | (intro v hSw; (try dsimp only at hSw); go_simp; done) | (intro v hSw; (try dsimp only at hSw); go_simp; with_reducible rfl))
                  (try simp only [List.getElem_toArray, List.getElem_cons_succ, List.getElem_cons_zero, Act.put, List.setIfInBounds_toArray, List.set_cons_zero, List.set_cons_succ])
                  refine wpAnyH_take (i := 2) (oi := _) (v := ?_) rfl (by kernel_rfl) (by kernel_rfl) (by kernel_rfl) (fun _ _ _ h => h) (Or.inl ⟨by rfl, ?_⟩) (by assumption) ?_
                  rotate_left
                  · (first | (intro v hSw; (try dsimp only at hSw); go_simp; done) | (intro v hSw; (try dsimp only at hSw); go_simp; with_reducible rfl))
                  (try simp only [List.getElem_toArray, List.getElem_cons_succ, List.getElem_cons_zero, Act.put, List.setIfInBounds_toArray, List.set_cons_zero, List.set_cons_succ])
                  refine wpAnyH_take (i := 3) (oi := _) (v := undef) rfl (by kernel_rfl) (by kernel_rfl) (by kernel_rfl) (fun _ _ _ h => h) (Or.inr ⟨by rfl, rfl⟩) (by assumption) ?_
                  (try simp only [List.getElem_toArray, List.getElem_cons_succ, List.getElem_cons_zero, Act.put, List.setIfInBounds_toArray, List.set_cons_zero, List.set_cons_succ])
                  refine wpAnyH_take (i := 4) (oi := _) (v := undef) rfl (by kernel_rfl) (by kernel_rfl) (by kernel_rfl) (fun _ _ _ h => h) (Or.inr ⟨by rfl, rfl⟩) (by assumption) ?_
                  (try simp only [List.getElem_toArray, List.getElem_cons_succ, List.getElem_cons_zero, Act.put, List.setIfInBounds_toArray, List.set_cons_zero, List.set_cons_succ])
                  refine wpAnyH_take (i := 5) (oi := _) (v := undef) rfl (by kernel_rfl) (by kernel_rfl) (by kernel_rfl) (fun _ _ _ h => h) (Or.inr ⟨by rfl, rfl⟩) (by assumption) ?_
                  (try simp only [List.getElem_toArray, List.getElem_cons_succ, List.getElem_cons_zero, Act.put, List.setIfInBounds_toArray, List.set_cons_zero, List.set_cons_succ])
                  refine wpAnyH_take (i := 6) (oi := _) (v := undef) rfl (by kernel_rfl) (by kernel_rfl) (by kernel_rfl) (fun _ _ _ h => h) (Or.inr ⟨by rfl, rfl⟩) (by assumption) ?_
                  (try simp only [List.getElem_toArray, List.getElem_cons_succ, List.getElem_cons_zero, Act.put, List.setIfInBounds_toArray, List.set_cons_zero, List.set_cons_succ])
                  refine wpAnyH_take (i := 7) (oi := _) (v := undef) rfl (by kernel_rfl) (by kernel_rfl) (by kernel_rfl) (fun _ _ _ h => h) (Or.inr ⟨by rfl, rfl⟩) (by assumption) ?_
                  (try simp only [List.getElem_toArray, List.getElem_cons_succ, List.getElem_cons_zero, Act.put, List.setIfInBounds_toArray, List.set_cons_zero, List.set_cons_succ])
                  refine wpAnyH_take (i := 8) (oi := _) (v := undef) rfl (by kernel_rfl) (by kernel_rfl) (by kernel_rfl) (fun _ _ _ h => h) (Or.inr ⟨by rfl, rfl⟩) (by assumption) ?_
                  (try simp only [List.getElem_toArray, List.getElem_cons_succ, List.getElem_cons_zero, Act.put, List.setIfInBounds_toArray, List.set_cons_zero, List.set_cons_succ])
                  refine wpAnyH_take (i := 9) (oi := _) (v := undef) rfl (by kernel_rfl) (by kernel_rfl) (by kernel_rfl) (fun _ _ _ h => h) (Or.inr ⟨by rfl, rfl⟩) (by assumption) ?_
                  (try simp only [List.getElem_toArray, List.getElem_cons_succ, List.getElem_cons_zero, Act.put, List.setIfInBounds_toArray, List.set_cons_zero, List.set_cons_succ])
                  refine wpAnyH_take (i := 10) (oi := _) (v := undef) rfl (by kernel_rfl) (by kernel_rfl) (by kernel_rfl) (fun _ _ _ h => h) (Or.inr ⟨by rfl, rfl⟩) (by assumption) ?_
                  (try simp only [List.getElem_toArray, List.getElem_cons_succ, List.getElem_cons_zero, Act.put, List.setIfInBounds_toArray, List.set_cons_zero, List.set_cons_succ])
                  refine wpAnyH_take (i := 11) (oi := _) (v := ?_) rfl (by kernel_rfl) (by kernel_rfl) (by kernel_rfl) (fun _ _ _ h => h) (Or.inl ⟨by rfl, ?_⟩) (by assumption) ?_
                  rotate_left
                  · (first | (intro v hSw; (try dsimp only at hSw); go_simp; done) | (intro v hSw; (try dsimp only at hSw); go_simp; with_reducible rfl))
                  (try simp only [List.getElem_toArray, List.getElem_cons_succ, List.getElem_cons_zero, Act.put, List.setIfInBounds_toArray, List.set_cons_zero, List.set_cons_succ])
                  refine wpAnyH_done (by kernel_rfl) ?_ _
                  refine NoPanic.normal ?_
                  clear hHeld
                  go_wp2_with fail
                  go_meet
                  exact ⟨by simp, Lib.hid Kc⟩
              case rest =>
                obtain ⟨rfl, HK8⟩ := hcut
                clear Kc f0 f1 f2 f3 HK7
                have Kc := HK8.out
                obtain ⟨f0, f1, f2, f3⟩ := HKP.out _ _ _ Kc
                by_cases hcd : pb = false ∧ A.1 < x.1
                · rw [if_pos hcd] at HPS
                  have hcb : (!pb && decide (A.1 < x.1)) = true := by simp [hcd]
                  rw [hcb]
                  clear hcd hcb HK8
                  have HO := Lib.hid (Kc.al (.cells #[.int .i64 A.1, .int .i64 A.2] 36)).own
                  have HSRC := Lib.hid (span_src wc A)
                  have hbs := Kc.sp.lt
                  have HKK := Lib.hid Kc
                  clear Kc
                  go_wp2_with (at_builtin; refine wpList_append_sz _ rfl (.tmp 58) (.tmp 60) 32 32 rfl (pa + 1) 36 i0 (.agg #[.int .i64 0, .int .i64 0]) 2 16 Try.underlying32 hi hz0 hz1 (by decide) hz2 rfl u7 (L).length (spCells (L)) rfl HO.out _ rfl 1 [.int .i64 A.1, .int .i64 A.2] HSRC.out (by unfold maxLen; (try simp only [List.length_append, List.length_singleton]); omega) (by (try simp only [List.length_append, List.length_singleton]); omega) (by simp; omega) ?_)
                  intro a58 cap58 w5 ho hg hw
                  have K5 := (HKK.out.al (.cells #[.int .i64 A.1, .int .i64 A.2] 36)).grow (by simp) ho hg
                  clear HO HSRC ho hg hw HKK hbs
                  clear f0 f1 f2 f3
                  obtain ⟨f0, f1, f2, f3⟩ := HKP.out _ _ _ K5
                  have HO := Lib.hid (K5.al (.cells #[.int .i64 x.1, .int .i64 x.2] 36)).own
                  have HSRC := Lib.hid (span_src w5 x)
                  have hbs := K5.sp.lt
                  have HKK := Lib.hid K5
                  clear K5
                  go_wp2_with (at_builtin; refine wpList_append_sz _ rfl (.tmp 62) (.tmp 67) 32 32 rfl (pa + 1) 36 i0 (.agg #[.int .i64 0, .int .i64 0]) 2 16 Try.underlying32 hi hz0 hz1 (by decide) hz2 rfl (.slice a58 (L.length + 1) cap58) ((L ++ [A])).length (spCells ((L ++ [A]))) rfl HO.out _ rfl 1 [.int .i64 x.1, .int .i64 x.2] HSRC.out (by unfold maxLen; (try simp only [List.length_append, List.length_singleton]); omega) (by (try simp only [List.length_append, List.length_singleton]); omega) (by simp; omega) ?_)
                  intro a62 cap62 w6 ho hg hw
                  have K6 := (HKK.out.al (.cells #[.int .i64 x.1, .int .i64 x.2] 36)).grow (by simp) ho hg
                  clear HO HSRC ho hg hw HKK hbs
                  have HF := Lib.hid (HAP.out _ _ _ _ HPS.out K6)
                  clear f0 f1 f2 f3 K6
                  go_wp2_with fail
                  go_roundw
                  case rel => exact ⟨j + 1, by omega, by go_num, by rw [← HF.out.1], HF.out.2⟩
                  case measure => simp [intOf]; omega
                · rw [if_neg hcd] at HPS
                  have hcb : (!pb && decide (A.1 < x.1)) = false := by cases pb <;> simp at hcd ⊢ <;> omega
                  rw [hcb]
                  clear hcd hcb HK8
                  have HO := Lib.hid (Kc.al (.cells #[.int .i64 x.1, .int .i64 x.2] 36)).own
                  have HSRC := Lib.hid (span_src wc x)
                  have hbs := Kc.sp.lt
                  have HKK := Lib.hid Kc
                  clear Kc
                  go_wp2_with (at_builtin; refine wpList_append_sz _ rfl (.tmp 62) (.tmp 67) 32 32 rfl (pa + 1) 36 i0 (.agg #[.int .i64 0, .int .i64 0]) 2 16 Try.underlying32 hi hz0 hz1 (by decide) hz2 rfl u7 (L).length (spCells (L)) rfl HO.out _ rfl 1 [.int .i64 x.1, .int .i64 x.2] HSRC.out (by unfold maxLen; (try simp only [List.length_append, List.length_singleton]); omega) (by (try simp only [List.length_append, List.length_singleton]); omega) (by simp; omega) ?_)
                  intro a62 cap62 w6 ho hg hw
                  have K6 := (HKK.out.al (.cells #[.int .i64 x.1, .int .i64 x.2] 36)).grow (by simp) ho hg
                  clear HO HSRC ho hg hw HKK hbs
                  have HF := Lib.hid (HAP.out _ _ _ _ HPS.out K6)
                  clear f0 f1 f2 f3 K6
                  go_wp2_with fail
                  go_roundw
                  case rel => exact ⟨j + 1, by omega, by go_num, by rw [← HF.out.1], HF.out.2⟩
                  case measure => simp [intOf]; omega
            · rw [if_pos rfl] at HPS
              have HF := Lib.hid (show (pb = (putL A (l.take (j + 1))).2 ∧ Hid (WOs w A pa (putL A (l.take (j + 1))).1 u7 wc)) from
                ⟨by rw [HTK1.out, HPS.out], by rw [HTK1.out, HPS.out]; exact HK7⟩)
              clear HTK1 HPS
              go_wp2_with fail
              go_roundw
              case rel => exact ⟨j + 1, by omega, by go_num, by rw [← HF.out.1], HF.out.2⟩
              case measure => simp [intOf]; omega
        · obtain rfl : j = k := by omega
          rw [HEP.out] at HK ⊢
          have hLE := HLE.out j
          rw [HEP.out] at hLE
          generalize putL A l = q at *
          obtain ⟨L, pb⟩ := q
          dsimp only at hLE HK ⊢
          have HRF' := Lib.hid (show refWi l s = if pb = true then L else L ++ [A] from HRF.out)
          have Kc := HK.out
          clear HC HTP HLE HEP HRF HK HK0
          cases pb
          · rw [if_neg (by simp)] at HRF'
            have f0 := Kc.sp.c0; have f1 := Kc.sp.c1
            have HO := Lib.hid (Kc.al (.cells #[.int .i64 A.1, .int .i64 A.2] 36)).own
            have HSRC := Lib.hid (span_src wr A)
            have hbs := Kc.sp.lt
            have HKK := Lib.hid Kc
            clear Kc
            go_wp2_with (at_builtin; refine wpList_append_sz _ rfl (.tmp 71) (.tmp 73) 32 32 rfl (pa + 1) 36 i0 (.agg #[.int .i64 0, .int .i64 0]) 2 16 Try.underlying32 hi hz0 hz1 (by decide) hz2 rfl u7 (L).length (spCells (L)) rfl HO.out _ rfl 1 [.int .i64 A.1, .int .i64 A.2] HSRC.out (by unfold maxLen; (try simp only [List.length_append, List.length_singleton]); omega) (by (try simp only [List.length_append, List.length_singleton]); omega) (by simp; omega) ?_)
            intro a71 cap71 w6 ho hg hw
            have K6 := (HKK.out.al (.cells #[.int .i64 A.1, .int .i64 A.2] 36)).grow (by simp) ho hg
            clear HO HSRC ho hg hw HKK hbs
            obtain ⟨a', cap', hv, hsl, hob⟩ := sls_of_own K6.own
            have hfar : ∀ x, a' = some x → w.heap.size ≤ x.block := fun x hx => by have := (own_in K6.own (hob x hx)).2; have := K6.ge; omega
            clear hob
            have HF := Lib.hid (show SlS w6 a' _ cap' (refWi l s) from by rw [HRF'.out]; exact hsl)
            have hb := K6.below
            rw [hv]
            clear f0 f1 hsl K6
            go_wp2_with fail
            go_ret
            exact ⟨_, _, _, rfl, HF.out, hb, fun x hx => .inr (hfar x hx)⟩
          · rw [if_pos rfl] at HRF'
            obtain ⟨a', cap', rfl, hsl, hob⟩ := sls_of_own Kc.own
            have hfar : ∀ x, a' = some x → w.heap.size ≤ x.block := fun x hx => by have := (own_in Kc.own (hob x hx)).2; have := Kc.ge; omega
            clear hob
            have HF := Lib.hid (show SlS wr a' _ cap' (refWi l s) from by rw [HRF'.out]; exact hsl)
            have hb := Kc.below
            clear hsl Kc
            go_wp2_with fail
            go_ret
            exact ⟨_, _, _, rfl, HF.out, hb, fun x hx => .inr (hfar x hx)⟩
end Go.Proofs.Ytekddgmmfgpehaa.rn
/-!   Operations on sets, that came in.
-/
namespace Go.Proofs.Ytekddgmmfgpehaa.rn
open Go.RowKit aid mem opn sp Go.ChangeShapes Go.WideShapes Go.ChangeAt
set_option linter.unusedVariables false
set_option linter.unusedSimpArgs false

structure OpV where
  out : Bool
  s : Int × Int
instance : Inhabited OpV := ⟨⟨false, (0, 0)⟩⟩
theorem cells_bool : Try.prog.cellsOf 4 = 1 := by kernel_rfl
def OpIs (cs : List Value) (q : OpV) : Prop := cs = [.bool q.out, .int .i64 q.s.1, .int .i64 q.s.2]
/-- the operations lie where the slice leads -/
structure OpA (w : World) (a : Option Addr) (n cap : Nat) (l : List OpV) : Prop where
  len : l.length = n
  le : n ≤ cap
  most : cap ≤ maxLen
  cells : 0 < n → ∃ b off, a = some ⟨b, off, none⟩ ∧ ∀ i, i < n → w.cell? ⟨b, off + i * 3, none⟩ = some (.bool (l.getD i default).out) ∧ w.cell? ⟨b, off + i * 3 + 1, none⟩ = some (.int .i64 (l.getD i default).s.1) ∧ w.cell? ⟨b, off + i * 3 + 2, none⟩ = some (.int .i64 (l.getD i default).s.2)
section
variable {H : Type} {enc : TypeId × Value → H} {w : World} {base : Nat}
theorem opa_of_els {a : Option Addr} {len cap : Nat} {l : List OpV} (h : ElA OpIs 3 w a len cap l) : OpA w a len cap l := by
  refine ⟨h.len, h.le, h.most, fun h0 => ?_⟩
  obtain ⟨b, off, ha, hc⟩ := h.cells h0
  refine ⟨b, off, ha, fun i hi => ?_⟩
  have hil : i < l.length := by rw [h.len]; exact hi
  obtain ⟨cs, hR, _, hj⟩ := hc i hil
  have hg : l.getD i default = l[i] := by simp [List.getD, hil]
  obtain rfl := hR
  rw [hg]
  have h0 := hj 0 (by omega)
  have h1 := hj 1 (by omega)
  have h2 := hj 2 (by omega)
  exact ⟨by simpa using h0, by simpa [Nat.add_assoc] using h1, by simpa [Nat.add_assoc] using h2⟩
end
end Go.Proofs.Ytekddgmmfgpehaa.rn
/-!   The law's does: an operation with both.
-/
namespace Go.Proofs.Ytekddgmmfgpehaa.rn
open Go.RowKit Go.Shelf aid mem rng sp
attribute [local go_sem ↓] Go.wp_at_zero Go.wp_at_succ
set_option linter.unusedVariables false
set_option linter.unusedSimpArgs false

def opN (l : List Sp) (q : OpV) : Int × Int × List Sp := if q.out then remN l q.s else addN l q.s
def opL (l : List Sp) (q : OpV) : List Sp := if q.out then refWo l q.s else refWi l q.s
set_option maxRecDepth 100000 in
theorem len_bad {s : Sp} (h : mayB s.1 s.2 = false) : lenI s = 0 := by
  unfold lenI fitP; rw [if_neg (by rw [h]; simp)]; rfl
set_option maxRecDepth 100000 in
theorem opL_bad {l : List Sp} {q : OpV} (h : mayB q.s.1 q.s.2 = false) : opL l q = l := by
  unfold opL refWo refWi; rw [if_pos (len_bad h), if_pos (len_bad h)]; split <;> rfl
set_option maxRecDepth 100000 in
theorem opN_bad {l : List Sp} {q : OpV} (h : mayB q.s.1 q.s.2 = false) : opN l q = (0, 3, l) := by
  unfold opN remN addN
  have h' : ¬ mayB q.s.1 q.s.2 = true := by rw [h]; simp
  simp only [if_neg h', ite_self]
set_option maxRecDepth 100000 in
theorem opL_len {l : List Sp} (hl : Rn l) (q : OpV) : (opL l q).length ≤ l.length + 1 := by
  cases h : mayB q.s.1 q.s.2
  · rw [opL_bad h]; omega
  · unfold opL; split
    · exact wo_len l q.s hl (mayB_iff.1 h)
    · exact wi_len l q.s hl (mayB_iff.1 h)
set_option maxRecDepth 100000 in
theorem opL_rn {l : List Sp} (hl : Rn l) (q : OpV) : Rn (opL l q) := by
  cases h : mayB q.s.1 q.s.2
  · rw [opL_bad h]; exact hl
  · unfold opL; split
    · exact wo_rn hl (mayB_iff.1 h)
    · exact wi_rn hl (mayB_iff.1 h)
set_option maxRecDepth 100000 in
theorem opN_list {l : List Sp} (hl : Rn l) (hn : l.length ≤ 4000) (q : OpV) : (opN l q).2.2 = opL l q := by
  cases h : mayB q.s.1 q.s.2
  · rw [opN_bad h, opL_bad h]
  · have hlen := opL_len hl q
    unfold opN opL at *
    split
    · rename_i ho; rw [if_pos ho] at hlen; rw [remN_ok hl (mayB_iff.1 h) (by omega)]
    · rename_i ho; rw [if_neg ho] at hlen; rw [addN_ok hl (mayB_iff.1 h) (by omega)]
/-- what does hands back -/
def Doe (B : Nat) (S : List Nat) (L : List Sp) (w : World) (e : Ending) (w' : World) : Prop :=
  ∃ a n cap S', e = .returned (.tuple #[.slice a n cap, .bool true]) ∧ SlS w' a n cap L ∧ Own B L S' w' ∧ Kept S w w' ∧ (∀ b ∈ S', b ∈ S ∨ w.heap.size ≤ b) ∧ ∀ x, a = some x → 0 < n → x.block ∉ S'
end Go.Proofs.Ytekddgmmfgpehaa.rn
/-!   The reference's Next and Gaps.
-/
namespace Go.Proofs.Ytekddgmmfgpehaa.rn
open Go.RowKit Go.Shelf aid mem rng sp
attribute [local go_sem ↓] Go.wp_at_zero Go.wp_at_succ
set_option linter.unusedVariables false
set_option linter.unusedSimpArgs false

set_option maxRecDepth 100000 in
set_option maxHeartbeats 1000000 in
theorem rnext_any {w : World} {a : Option Addr} {n cap : Nat} {l : List Sp} (h : SlS w a n cap l) (o : Int) : Calls Try.prog 34 #[.slice a n cap, .int .i64 o] w (RetS (nextL l o) w) := by
  have hle := h.le
  have hmost := h.most
  have hlen := h.len
  unfold maxLen at hmost
  have HC := Lib.hid (fun h0 => h.cells h0)
  have HT := Lib.hid (fun k (hk : k < n) => next_step (l := l) (o := o) (k := k) (by omega))
  have HE := Lib.hid (show nextL (l.drop n) o = (0, 0) from by rw [List.drop_eq_nil_of_le (by omega)]; rfl)
  have b1 := bal (w := w) (.cells #[.int .i64 0, .int .i64 0] 36)
  have s1 := sp_new w (0, 0)
  have HB1 := Lib.hid (And.intro b1 s1)
  have H0 := Lib.hid (show nextL l o = nextL (l.drop 0) o from by rw [List.drop_zero])
  generalize nextL l o = R at *
  clear h hlen b1 s1
  go_enter Try.func34, Try.ntmps34
  go_wp2_with fail
  go_loopw [5] (fun s5 wr => ∃ k : Nat, k ≤ n ∧ s5 = .int .i64 k ∧ Hid (R = nextL (l.drop k) o) ∧ Below w.heap.size w wr ∧ SpAt wr w.heap.size (0, 0)) (fun s5 _ => n - (intOf s5).toNat)
  case atStart => exact ⟨0, Nat.zero_le _, rfl, H0, HB1.out.1, HB1.out.2⟩
  case round =>
    obtain ⟨k, hk, rfl, HR, hbw, hsp⟩ := hrel
    by_cases hlt : k < n
    · obtain ⟨g, off, rfl, hc⟩ := HC.out (by omega)
      obtain ⟨m0, m1⟩ := hc k hlt
      replace m0 := (hbw.cell (World.block_lt_of_cell? w _ m0)).trans m0
      replace m1 := (hbw.cell (World.block_lt_of_cell? w _ m1)).trans m1
      have ht := HT.out k hlt
      have HH := Lib.hid (fun X => rfrom_any (l.getD k (0, 0)) o X)
      generalize l.getD k (0, 0) = m at *
      generalize fromP m o = y at *
      have HL := Lib.hid (fun X => rlen_any y X)
      have HSP := Lib.hid hsp
      clear hc hsp
      by_cases hb : 0 < lenI y
      all_goals
        first | rw [if_pos hb] at ht | rw [if_neg hb] at ht
        generalize lenI y = z at *
        have HR2 := Lib.hid (HR.out.trans ht)
        clear ht
        go_wp2_with fail
        refine (HH.out _).mono ?_
        rintro e w2 ⟨rfl, h2⟩
        have b2 := hbw.trans (h2.mono hbw.size)
        have b3 := bal (w := w2) (.cells #[.int .i64 y.1, .int .i64 y.2] 36)
        have y3 := sp_new w2 y
        have s3 := (HSP.out.later h2).later b3
        have HQ := Lib.hid (And.intro (b2.trans (b3.mono b2.size)) (And.intro s3 y3))
        have c0 := y3.c0; have c1 := y3.c1
        clear m0 m1 h2 b2 b3 y3 s3
        go_wp2_with fail
        refine (HL.out _).mono ?_
        rintro e w4 ⟨rfl, h4⟩
        have b4 := HQ.out.1.trans (h4.mono HQ.out.1.size)
        have s4 := HQ.out.2.1.later h4
        have y4 := HQ.out.2.2.later h4
        clear c0 c1 h4 HQ
      · have c0 := y4.c0; have c1 := y4.c1
        have d0 := s4.c0; have d1 := s4.c1; have f0 := s4.f0; have f1 := s4.f1
        have s5 := s4.put y.1 y.2
        have e0 := s5.c0; have e1 := s5.c1
        have HB5 := Lib.hid (b4.trans ((kput w4 w.heap.size (.int .i64 y.1) (.int .i64 y.2)).below (B := w.heap.size) (by simp) b4.size))
        clear s4 y4 s5 b4
        go_wp2
        exact bodyPost_ret (v := .agg #[.int .i64 y.1, .int .i64 y.2]) (by simp [results, Try.results34, go_sem, e0, e1]) rfl ⟨by rw [HR2.out], HB5.out⟩
      · have HQ := Lib.hid (And.intro b4 s4)
        clear b4 s4 y4
        go_wp2
        go_roundw
        case rel => exact ⟨k + 1, by omega, by go_num, HR2, HQ.out.1, HQ.out.2⟩
        case measure => simp [intOf]; omega
    · obtain rfl : k = n := by omega
      have HR2 := Lib.hid (HR.out.trans HE.out)
      have c0 := hsp.c0; have c1 := hsp.c1; have f0 := hsp.f0; have f1 := hsp.f1
      have s3 := hsp.put 0 0
      have d0 := s3.c0; have d1 := s3.c1
      have HB3 := Lib.hid (hbw.trans ((kput wr w.heap.size (.int .i64 0) (.int .i64 0)).below (B := w.heap.size) (by simp) hbw.size))
      clear hsp s3
      go_wp2
      exact bodyPost_ret (v := .agg #[.int .i64 0, .int .i64 0]) (by simp [results, Try.results34, go_sem, d0, d1]) rfl ⟨by rw [HR2.out], HB3.out⟩
set_option maxRecDepth 100000 in
theorem sls_one (X : World) (y : Sp) : SlS (X.alloc (.cells #[.int .i64 y.1, .int .i64 y.2] 36)) (some ⟨X.heap.size, 0, none⟩) 1 1 [y] := by
  refine ⟨rfl, Nat.le_refl _, by decide, (fun h => by cases h), fun _ => ⟨X.heap.size, 0, rfl, fun i hi => ?_⟩⟩
  have hr := heap_alloc_new X (.cells #[.int .i64 y.1, .int .i64 y.2] 36)
  rw [cell_of_row _ X.heap.size _ _ _ (0, 0) hr, cell_of_row _ X.heap.size _ _ _ (0, 0) hr]
  obtain rfl : i = 0 := by omega
  exact ⟨rfl, rfl⟩
set_option maxRecDepth 100000 in
theorem sls_nil (X : World) : SlS X none 0 0 ([] : List Sp) := ⟨rfl, Nat.le_refl _, by decide, fun _ => rfl, fun h => by omega⟩
set_option maxRecDepth 100000 in
theorem foldWo_len' : ∀ (l q : List Sp), (∀ x ∈ l, ROk x) → Rn q → (l.foldl refWo q).length ≤ q.length + l.length ∧ Rn (l.foldl refWo q) := by
  intro l
  induction l with
  | nil => intro q _ hq; exact ⟨by simp, hq⟩
  | cons x l ih =>
    intro q h hq
    have hx := h x (by simp)
    have hk : Ok x := ⟨hx.1, by have := hx.2.1; omega, hx.2.2⟩
    obtain ⟨i1, i2⟩ := ih (refWo q x) (fun y hy => h y (by simp [hy])) (wo_rn hq hk)
    have := wo_len q x hq hk
    exact ⟨by simp only [List.foldl_cons, List.length_cons]; omega, i2⟩
end Go.Proofs.Ytekddgmmfgpehaa.rn
/-!   Layer 23's reference: Next, Text, Above, lay.
-/
namespace Go.Proofs.Ytekddgmmfgpehaa.hd
open Go.RowKit Go.Shelf aid mem rng sp rn
attribute [local go_sem ↓] Go.wp_at_zero Go.wp_at_succ
set_option linter.unusedVariables false
set_option linter.unusedSimpArgs false

/-- the document's receiver: where its lists lie -/
structure Rl where
  la : Option Addr
  ln : Nat
  lc : Nat
  ba : Option Addr
  bn : Nat
  bc : Nat
abbrev hrC (x : Hd) (q : Rl) : Array Value := #[.int .u32 x.first, .int .i64 (x.room : Int), .slice q.la q.ln q.lc, .slice q.ba q.bn q.bc]
abbrev hrO (x : Hd) (q : Rl) : Obj := .cells (hrC x q) 34
abbrev H4 (b : Nat) (x : Hd) (q : Rl) (W : World) : Prop := W.cell? ⟨b, 0, none⟩ = some (.int .u32 x.first) ∧ W.cell? ⟨b, 1, none⟩ = some (.int .i64 (x.room : Int)) ∧ W.cell? ⟨b, 2, none⟩ = some (.slice q.la q.ln q.lc) ∧ W.cell? ⟨b, 3, none⟩ = some (.slice q.ba q.bn q.bc)
theorem h4_of {W : World} {b : Nat} {x : Hd} {q : Rl} (h : W.heap[b]? = some (hrO x q)) : H4 b x q W := ⟨cofr h 0 _ rfl, cofr h 1 _ rfl, cofr h 2 _ rfl, cofr h 3 _ rfl⟩
/-- what it holds -/
structure RA (w : World) (x : Hd) (q : Rl) (b : List Int) : Prop where
  l : SlS w q.la q.ln q.lc x.l
  b : SlA .u8 w q.ba q.bn q.bc b
theorem RA.later {w w' : World} {x : Hd} {q : Rl} {b : List Int} (h : RA w x q b) (hb : Below w.heap.size w w') : RA w' x q b := ⟨h.l.later hb, h.b.later hb⟩
theorem RA.keep {w w' : World} {x : Hd} {q : Rl} {b : List Int} (h : RA w x q b) {S : List Nat} (hk : Kept S w w') (h1 : ∀ y, q.la = some y → 0 < q.ln → y.block ∉ S) (h2 : ∀ y, q.ba = some y → 0 < q.bc → y.block ∉ S) : RA w' x q b := ⟨h.l.keep hk h1, h.b.keepIf hk h2⟩
set_option maxRecDepth 100000 in
set_option maxHeartbeats 1000000 in
theorem rnx_any {w : World} {x : Hd} {q : Rl} (h : SlS w q.la q.ln q.lc x.l) : Calls Try.prog 29 #[.agg (hrC x q)] w (RetI (nx x.l) w) := by
  have hb := bal (w := w) (hrO x q)
  obtain ⟨c0, c1, c2, c3⟩ := h4_of (heap_alloc_new w (hrO x q))
  have HG := Lib.hid (fun X (q' : Below w.heap.size w X) => show Calls Try.prog 64 #[.slice q.la q.ln q.lc, .int .i64 0] X (RetI (nx x.l) X) from rgap_any (h.later q') 0)
  unfold RetI at HG
  clear h
  go_enter Try.func29, Try.ntmps29
  go_wp2_with (go_at_call 64; (with_reducible refine (HG.out _ hb).mono ?_); rintro e w1 ⟨rfl, h1⟩)
  go_ret
  exact ⟨rfl, hb.trans (h1.mono hb.size)⟩
theorem run_slice_to (P : Program) (t : TypeId) (e : TypeId) (i : TypeInfo) (ht : P.underlying t = some (.slice e)) (hi : P.info? e = some i) (hsize : i.size = 1) (a : Option Addr) (n cap k : Nat) (hk : k ≤ cap) :
    ∀ wx, (Instr.slice t (.slice a n cap) none (some (.int .i64 (k : Int))) none).run P wx = .ok (.slice a k cap) wx := by
  intro wx
  have e1 : (asIntOf (.int .i64 (k : Int))).run P wx = .ok (.i64, (k : Int)) wx := rfl
  cases a with
  | none => simp [Instr.slice, Instr.sliceBounds, Instr.sliceBound, run_underlying ht, sizeOf, typeInfo, hi, hsize, e1, hk]
  | some x => simp [Instr.slice, Instr.sliceBounds, Instr.sliceBound, run_underlying ht, sizeOf, typeInfo, hi, hsize, e1, hk, Addr.add]
set_option maxRecDepth 100000 in
set_option maxHeartbeats 1000000 in
theorem rtext_any {w : World} {x : Hd} {q : Rl} {b : List Int} (h : RA w x q b) (ho : Ok x) (hb : RB b x) : Calls Try.prog 38 #[.agg (hrC x q)] w fun e w' => e = .returned (.slice q.ba (nx x.l).toNat q.bc) ∧ SlA .u8 w' q.ba (nx x.l).toNat q.bc (txt x) ∧ Below w.heap.size w w' := by
  obtain ⟨t1, t2⟩ := rb_txt ho hb
  have hbl := h.b.len
  have hle := h.b.le
  have hn0 : (((nx x.l).toNat : Nat) : Int) = nx x.l := by have := (nx_spec ho.l).1; omega
  obtain ⟨i0, hi, hz0, hz1, hz2⟩ := info_split8
  have hsl := run_slice_to Try.prog 24 5 i0 Try.underlying24 hi hz1 q.ba q.bn q.bc (nx x.l).toNat (by omega)
  rw [hn0] at hsl
  have HT := Lib.hid (fun W (q' : Below w.heap.size w W) => show SlA .u8 W q.ba (nx x.l).toNat q.bc (txt x) from by
    have := (h.b.later q').take (nx x.l).toNat (by omega)
    rw [t2] at this
    exact this)
  have hb1 := bal (w := w) (hrO x q)
  have hx1 := heap_alloc_new w (hrO x q)
  have HN := Lib.hid (fun X (q' : Below w.heap.size w X) => rnx_any (q := q) (x := x) (h.l.later q'))
  unfold RetI at HN
  obtain ⟨c0, c1, c2, c3⟩ := h4_of hx1
  have P0 := h4_of (show (w.alloc (hrO x q)).drew.heap[w.heap.size]? = some (hrO x q) from hx1)
  have HX := Lib.hid hx1
  have hbd := hb1.drew
  clear h t1 t2 hbl hle hn0 hx1
  generalize nx x.l = n1 at *
  go_enter Try.func38, Try.ntmps38
  go_wp2_with fail
  go_region_held3 (fun W => H4 w.heap.size x q W) (first | with_reducible exact P0 | with_reducible exact P1 | go_keep)
    ((go_at_call 29; (with_reducible refine (HN.out _ hbd).mono ?_); rintro e w1 ⟨rfl, h1⟩; have P1 := h4_of ((h1.block w.heap.size (by simp)).trans HX.out)))
  have hF := hbd.trans (h1.mono hbd.size)
  clear P0 P1 c0 c1 c2 c3 hb1 hbd h1
  go_wp2_with fail
  go_ret
  exact ⟨rfl, HT.out _ hF, hF⟩
/-- a store into a row of one's own -/
theorem slr_put {w : World} {a : Option Addr} {n cap : Nat} {l : List Int} (h : BRow w a n cap l) {j : Nat} (hj : j < n) (c : Int) : ∃ g off, a = some ⟨g, off, none⟩ ∧ blk a cap = [g] ∧ w.cell? ⟨g, off + j, none⟩ = some (.int .u8 (l.getD j 0)) ∧ w.frozen? ⟨g, off + j, none⟩ = false ∧
    BRow (w.setCell ⟨g, off + j, none⟩ (.int .u8 c)) a n cap (l.set j c) ∧ Kept [g] w (w.setCell ⟨g, off + j, none⟩ (.int .u8 c)) := by
  have hle := h.le
  have hl := brow_len h
  obtain ⟨g, off, cur, rfl, hg, h1, h2⟩ := h.rest (by omega)
  have hc := cell_of_row w g (off + j) _ _ (0, 0) hg
  rw [h2 j (by omega), ints, getD_map_some (by omega)] at hc
  refine ⟨g, off, rfl, blk_some _ _ _ (by omega), hc, by simp [World.frozen?, hg], ⟨by simp [ints, hl], hle, h.most, fun _ => ⟨g, off, _, rfl, heap_setCell_same w g (off + j) _ _ (.int .u8 c) hg, by simpa using h1, fun i hi => ?_⟩⟩, (Kept.refl [g] w).setCell (.inl (by simp)) _⟩
  have hi' : i < n := by omega
  rw [Array.getElem?_setIfInBounds]
  by_cases e : i = j
  · subst e
    rw [if_pos rfl, if_pos (by omega)]
    simp [ints, hl, hi']
  · rw [if_neg (by omega), h2 i hi]
    simp only [ints, List.map_set, List.getElem?_set]
    rw [if_neg (fun q => e q.symm)]
set_option maxRecDepth 100000 in
set_option maxHeartbeats 4000000 in
theorem rlay_any {w : World} {a : Option Addr} {n cap : Nat} {l : List Int} (h : BRow w a n cap l) (at' : Nat) (c : Int) (hn : n ≤ 100000000000) (ha : at' ≤ 100000000000) :
    Calls Try.prog 37 #[.slice a n cap, .int .i64 (at' : Int), .int .u8 c] w fun e w' => ∃ a' n' cap', e = .returned (.slice a' n' cap') ∧ BRow w' a' n' cap' (layB l at' c) ∧ Kept (blk a cap) w w' ∧ ∀ b ∈ blk a' cap', b ∈ blk a cap ∨ w.heap.size ≤ b := by
  obtain ⟨i0, hi, hz0, hz1, hz2⟩ := info_split8
  have hl := brow_len h
  have hk0 : BRow w a (n + 0) cap (l ++ List.replicate 0 0) := by simpa using h
  have HBL := Lib.hid (fun b (hb : b ∈ blk a cap) => (h.lt b hb).1)
  clear h
  go_enter Try.func37, Try.ntmps37
  go_wp2
  go_loopw [7] (fun v wr => ∃ (k : Nat) (a' : Option Addr) (cap' : Nat), k ≤ at' + 1 - n ∧ v = .slice a' (n + k) cap' ∧ BRow wr a' (n + k) cap' (l ++ List.replicate k 0) ∧ Kept (blk a cap) w wr ∧ ∀ b ∈ blk a' cap', b ∈ blk a cap ∨ w.heap.size ≤ b) (fun v _ => at' + 1 - (match v with | .slice _ m _ => m | _ => 0))
  case atStart => exact ⟨0, a, cap, Nat.zero_le _, rfl, hk0, Kept.refl _ _, fun b hb => .inl hb⟩
  case round =>
    obtain ⟨k, a', cap', hk, rfl, hr, hkp, hbl⟩ := hrel
    clear hk0
    by_cases hlt : n + k ≤ at'
    · have hlt' : (n : Int) + (k : Int) ≤ (at' : Int) := by omega
      have hlt2 : (((n + k : Nat)) : Int) ≤ (at' : Int) := by omega
      have b1 := bal (w := wr) (.cells #[.int .u8 0] 5)
      have HO := Lib.hid (hr.later b1)
      have HSRC := Lib.hid ((sl_new .u8 5 wr [0] (by simp [maxLen])).src (P := Try.prog) Try.underlying24)
      have HK1 := Lib.hid (hkp.alloc (.cells #[.int .u8 0] 5))
      have HB := Lib.hid hbl
      have HZ := Lib.hid hkp.size
      clear hr hkp hbl b1
      go_wp2_with (at_builtin; refine wpList_append_slr _ rfl (.tmp 13) (.tmp 14) 24 24 rfl 5 i0 (.int .u8 0) 1 1 Try.underlying24 hi hz0 hz1 (by decide) hz2 rfl a' (n + k) cap' _ rfl HO.out _ rfl 1 (by decide) (ints .u8 [0]) HSRC.out (by unfold maxLen; omega) (by omega) ?_; intro a3 cap3 w3 hrow hkp3 hat3)
      have HF := Lib.hid (show BRow w3 a3 (n + (k + 1)) cap3 (l ++ List.replicate (k + 1) 0) ∧ Kept (blk a cap) w w3 ∧ ∀ b ∈ blk a3 cap3, b ∈ blk a cap ∨ w.heap.size ≤ b from ⟨by
        rw [List.replicate_succ', ← List.append_assoc]
        have e : ints .u8 (l ++ List.replicate k 0 ++ [0]) = ints .u8 (l ++ List.replicate k 0) ++ ints .u8 [0] := List.map_append
        unfold BRow
        rw [e]
        exact hrow, HK1.out.trans hkp3 (fun b hb => HB.out b hb), fun b hb => by
        rcases hat3 b hb with e | e
        · exact HB.out b e
        · have := HZ.out
          simp at e
          exact .inr (by omega)⟩)
      clear hrow hkp3 hat3
      go_wp2
      go_roundw
      case rel => exact ⟨k + 1, a3, cap3, by omega, rfl, HF.out.1, HF.out.2⟩
      case measure => simp; omega
    · have hlt2 : ¬ (((n + k : Nat)) : Int) ≤ (at' : Int) := by omega
      have hlt3 : ¬ (n : Int) + (k : Int) ≤ (at' : Int) := by omega
      have hkk : k = at' + 1 - n := by omega
      obtain ⟨g, off, rfl, hbk, hc, hf, hrow, hks⟩ := slr_put hr (j := at') (by omega) c
      have HF := Lib.hid (show BRow (wr.setCell ⟨g, off + at', none⟩ (.int .u8 c)) (some ⟨g, off, none⟩) (n + k) cap' (layB l at' c) ∧ Kept (blk a cap) w (wr.setCell ⟨g, off + at', none⟩ (.int .u8 c)) ∧ ∀ b ∈ blk (some ⟨g, off, none⟩) cap', b ∈ blk a cap ∨ w.heap.size ≤ b from ⟨by
        unfold layB
        rw [hl, ← hkk]
        exact hrow, hkp.trans hks (fun b hb => hbl b (by rw [hbk]; exact hb)), hbl⟩)
      generalize (l ++ List.replicate k 0).getD at' 0 = z at *
      clear hr hkp hbl hrow hks hbk hkk
      go_wp2
      go_ret
      exact ⟨_, _, _, rfl, HF.out⟩
theorem spCells_one' (y : Sp) : spCells [y] = [.int .i64 y.1, .int .i64 y.2] := rfl
set_option maxRecDepth 100000 in
set_option maxHeartbeats 4000000 in
theorem rabove_any {w : World} {x : Hd} {q : Rl} (h : SlS w q.la q.ln q.lc x.l) (hn : q.ln ≤ 100000) (ho : Ok x) :
    Calls Try.prog 39 #[.agg (hrC x q)] w fun e w' => ∃ a n cap, e = .returned (.slice a n cap) ∧ SlS w' a n cap (abv x) ∧ Below w.heap.size w w' := by
  obtain ⟨i0, hi, hz0, hz1, hz2⟩ := info_split info_span
  rw [← abv_eq ho.l]
  have hb1 := bal (w := w) (hrO x q)
  have hx1 := heap_alloc_new w (hrO x q)
  have HN := Lib.hid (fun X (q' : Below w.heap.size w X) => rnx_any (q := q) (x := x) (h.later q'))
  unfold RetI at HN
  have HL := Lib.hid h
  have hlen := h.len
  have hle := h.le
  have hmost := h.most
  clear h
  generalize nx x.l = n1 at *
  go_enter Try.func39, Try.ntmps39
  go_wp2_with fail
  generalize w.alloc (hrO x q) = W0 at *
  have P0 : Below w.heap.size w W0 ∧ W0.heap[w.heap.size]? = some (hrO x q) := ⟨hb1, hx1⟩
  clear hb1 hx1
  go_loopw [3, 4] (fun v i wr => ∃ (k : Nat) (m : Nat) (a : Option Addr) (cap : Nat), k ≤ q.ln ∧ i = .int .i64 k ∧ v = .slice a m cap ∧ SlR wr 36 2 a m cap (spCells ((x.l.take k).filter (fun s => decide (n1 ≤ s.1)))) ∧ Below w.heap.size w wr ∧ wr.heap[w.heap.size]? = some (hrO x q) ∧ m ≤ k ∧ ∀ b ∈ blk a cap, w.heap.size < b) (fun _ i _ => q.ln - (intOf i).toNat)
  case atStart => exact ⟨0, 0, none, 0, Nat.zero_le _, rfl, rfl, SlR.nil _ _ _, P0.1, P0.2, Nat.le_refl _, fun b hb => by simp [blk_zero] at hb⟩
  case round =>
    clear P0
    obtain ⟨k, m, a, cap, hk, rfl, rfl, hr, hb, hx, hmk, hbl⟩ := hrel
    obtain ⟨c0, c1, c2, c3⟩ := h4_of hx
    unfold maxLen at hmost
    by_cases hlt : k < q.ln
    · obtain ⟨g, off, hga, hcell⟩ := (HL.out.later hb).cells (by omega)
      obtain ⟨d0, d1⟩ := hcell k hlt
      have hgb : Hid (∀ X, Below wr.heap.size wr X → X.cell? ⟨g, off + k * 2, none⟩ = some (.int .i64 (x.l.getD k (0, 0)).1) ∧ X.cell? ⟨g, off + k * 2 + 1, none⟩ = some (.int .i64 (x.l.getD k (0, 0)).2)) := Lib.hid (fun X hX => ⟨kcell hX d0, kcell hX d1⟩)
      have hsn : x.l.take (k + 1) = x.l.take k ++ [x.l.getD k (0, 0)] := by rw [List.take_succ_eq_append_getElem (by omega)]; simp [List.getD, show k < x.l.length by omega]
      have HF := Lib.hid (filt_snoc (x.l.take k) (x.l.getD k (0, 0)) (fun s => decide (n1 ≤ s.1)))
      rw [← hsn] at HF
      clear hcell hsn
      generalize x.l.getD k (0, 0) = y at *
      obtain ⟨G, hG⟩ : ∃ G, (x.l.take k).filter (fun s => decide (n1 ≤ s.1)) = G := ⟨_, rfl⟩
      rw [hG] at hr HF
      have HR := Lib.hid hr
      have HBL := Lib.hid hbl
      have HX := Lib.hid hx
      have HB := Lib.hid hb
      clear hr hbl hG
      obtain ⟨la, ln, lc, ba, bn, bc⟩ := q
      dsimp only at *
      subst hga
      go_upto_region 5 with fail
      go_cut [20] (fun s20 wx => s20 = .bool (decide (n1 ≤ y.1)) ∧ Hid (Below wr.heap.size wr wx))
      case first =>
        have P0 := h4_of (show wr.drew.heap[w.heap.size]? = some (hrO x ⟨some ⟨g, off, none⟩, ln, lc, ba, bn, bc⟩) from hx)
        have e0 : wr.drew.cell? ⟨g, off + k * 2, none⟩ = some (.int .i64 y.1) := d0
        go_wp2_with fail
        go_region_held3 (fun X => H4 w.heap.size x ⟨some ⟨g, off, none⟩, ln, lc, ba, bn, bc⟩ X ∧ X.cell? ⟨g, off + k * 2, none⟩ = some (.int .i64 y.1)) (first | with_reducible exact And.intro P0 e0 | with_reducible exact P1 | go_keep)
          ((go_at_call 29; (with_reducible refine (HN.out _ hb.drew).mono ?_); rintro e w1 ⟨rfl, h1⟩; have P1 := And.intro (h4_of ((h1.block w.heap.size (lt_of_block hx)).trans hx)) (kcell h1 e0)))
        have HR1 := Lib.hid ((Below.refl wr.heap.size wr).drew.trans h1)
        clear P0 P1 e0 c0 c1 c2 c3 d0 d1 h1
        go_wp2_with fail
        go_meet
        exact ⟨rfl, HR1⟩
      case rest =>
        obtain ⟨rfl, HW⟩ := hcut
        generalize wc = V at *
        have hbV := HB.out.trans (HW.out.mono HB.out.size)
        have hxV := (HW.out.block _ (lt_of_block HX.out)).trans HX.out
        have hrV := HR.out.later HW.out
        obtain ⟨f0, f1⟩ := hgb.out _ HW.out
        clear c0 c1 c2 c3 d0 d1
        obtain ⟨c0, c1, c2, c3⟩ := h4_of hxV
        by_cases hc : n1 ≤ y.1
        · have b1 := bal (w := V) (.cells #[.int .i64 y.1, .int .i64 y.2] 36)
          have HO := Lib.hid (hrV.later b1)
          have HSRC := Lib.hid (span_src V y)
          have HV1 := Lib.hid (And.intro (hbV.trans (b1.mono hbV.size)) ((b1.block _ (lt_of_block hxV)).trans hxV))
          have hgl := lt_of_block hxV
          clear hrV hbV b1
          go_wp2_with (at_builtin; refine wpList_append_slr _ rfl (.tmp 21) (.tmp 27) 32 32 rfl 36 i0 (.agg #[.int .i64 0, .int .i64 0]) 2 16 Try.underlying32 hi hz0 hz1 (by decide) hz2 rfl a m cap _ rfl HO.out _ rfl 1 (by decide) [.int .i64 y.1, .int .i64 y.2] HSRC.out (by unfold maxLen; omega) (by omega) ?_; intro a3 cap3 w3 hrow hkp3 hat3)
          have HQ := Lib.hid (show SlR w3 36 2 a3 (m + 1) cap3 (spCells ((x.l.take (k + 1)).filter (fun s => decide (n1 ≤ s.1)))) ∧ Below w.heap.size w w3 ∧ w3.heap[w.heap.size]? = some (hrO x ⟨some ⟨g, off, none⟩, ln, lc, ba, bn, bc⟩) ∧ ∀ b ∈ blk a3 cap3, w.heap.size < b from by
            have e := HF.out
            rw [if_pos (by simpa using hc)] at e
            have hd : ∀ b ∈ blk a cap, w.heap.size ≤ b := fun b hb => Nat.le_of_lt (HBL.out b hb)
            refine ⟨by rw [e, spCells_snoc]; exact hrow, HV1.out.1.trans (hkp3.below hd HV1.out.1.size), hkp3.heap (fun q => by have := HBL.out _ q; omega) HV1.out.2, fun b hb => ?_⟩
            rcases hat3 b hb with q | q
            · exact HBL.out b q
            · simp at q; omega)
          clear hrow hkp3 hat3 c0 c1 c2 c3 f0 f1
          go_wp2_with fail
          go_roundw
          case rel => exact ⟨k + 1, m + 1, a3, cap3, by omega, by go_num, rfl, HQ.out.1, HQ.out.2.1, HQ.out.2.2.1, by omega, HQ.out.2.2.2⟩
          case measure => simp [intOf]; omega
        · have HQ := Lib.hid (show SlR V 36 2 a m cap (spCells ((x.l.take (k + 1)).filter (fun s => decide (n1 ≤ s.1)))) ∧ Below w.heap.size w V ∧ V.heap[w.heap.size]? = some (hrO x ⟨some ⟨g, off, none⟩, ln, lc, ba, bn, bc⟩) ∧ ∀ b ∈ blk a cap, w.heap.size < b from by
            have e := HF.out
            rw [if_neg (by simpa using hc), List.append_nil] at e
            rw [e]
            exact ⟨hrV, hbV, hxV, HBL.out⟩)
          clear c0 c1 c2 c3 f0 f1 hrV hbV hxV
          go_wp2_with fail
          go_roundw
          case rel => exact ⟨k + 1, m, a, cap, by omega, by go_num, rfl, HQ.out.1, HQ.out.2.1, HQ.out.2.2.1, by omega, HQ.out.2.2.2⟩
          case measure => simp [intOf]; omega
    · have hkn : x.l.take k = x.l := List.take_of_length_le (by omega)
      rw [hkn] at hr
      have HF := Lib.hid (show SlS wr a m cap (x.l.filter (fun s => decide (n1 ≤ s.1))) ∧ Below w.heap.size w wr from ⟨sls_of hr, hb⟩)
      clear hr hb hx hbl
      go_wp2_with fail
      go_ret
      exact ⟨_, _, _, rfl, HF.out⟩
end Go.Proofs.Ytekddgmmfgpehaa.hd
/-!   Layer 23's reference: Take, what is refused.
-/
namespace Go.Proofs.Ytekddgmmfgpehaa.hd
open Go.RowKit Go.Shelf aid mem rng sp rn
attribute [local go_sem ↓] Go.wp_at_zero Go.wp_at_succ
set_option linter.unusedVariables false
set_option linter.unusedSimpArgs false

/-- what comes of a segment -/
def RtP (q0 : Rl) (x' : Hd) (t : Td) (er : Int) (w : World) (e : Ending) (w' : World) : Prop := ∃ (q : Rl) (b : List Int), e = .returned (.tuple #[.agg (hrC x' q), .agg (tdC t), .int .i64 er]) ∧ RA w' x' q b ∧ RB b x' ∧ Below w.heap.size w w' ∧ (∀ y, q.la = some y → 0 < q.ln → (q0.la = some y ∧ 0 < q0.ln) ∨ w.heap.size ≤ y.block) ∧ (∀ y, q.ba = some y → 0 < q.bc → (q0.ba = some y ∧ 0 < q0.bc) ∨ (w.heap.size ≤ y.block ∧ y.block < w'.heap.size))
theorem RA.llt {w : World} {x : Hd} {q : Rl} {b : List Int} (h : RA w x q b) : ∀ y, q.la = some y → 0 < q.ln → y.block < w.heap.size := fun y hy h0 => by
  obtain ⟨bb, off, hb1, hb2⟩ := h.l.cells h0
  rw [hy] at hb1
  injection hb1 with hb1
  subst hb1
  exact World.block_lt_of_cell? w _ (hb2 0 h0).1
abbrev rtO (t : Td) : Obj := .cells (tdC t) 41
abbrev rtZ : Obj := .cells #[.int .i64 0, .int .i64 0, .int .i64 0, .bool false, .int .i64 0, .int .i64 0] 41
abbrev hrZ : Obj := .cells #[.int .u32 0, .int .i64 0, .slice none 0 0, .slice none 0 0] 34
abbrev put4 (b : Nat) (v0 v1 v2 v3 : Value) (W : World) : World := (((W.setCell ⟨b, 0, none⟩ v0).setCell ⟨b, 1, none⟩ v1).setCell ⟨b, 2, none⟩ v2).setCell ⟨b, 3, none⟩ v3
theorem setq {w : World} {b i : Nat} {cs ds : Array Value} {T : TypeId} (h : w.heap[b]? = some (.cells cs T (0, 0))) (u : Value) (hz : cs.setIfInBounds i u = ds) : (w.setCell ⟨b, i, none⟩ u).heap[b]? = some (.cells ds T (0, 0)) := by
  have this : (w.setCell ⟨b, i, none⟩ u).heap[b]? = _ := heap_setCell_same _ _ i _ _ u h
  rw [hz] at this
  exact this
theorem put4_at {W : World} {b : Nat} {T : TypeId} {a0 a1 a2 a3 : Value} (h : W.heap[b]? = some (.cells #[a0, a1, a2, a3] T (0, 0))) (v0 v1 v2 v3 : Value) : (put4 b v0 v1 v2 v3 W).heap[b]? = some (.cells #[v0, v1, v2, v3] T (0, 0)) :=
  setq (setq (setq (setq h v0 rfl) v1 rfl) v2 rfl) v3 rfl
theorem put4_kept (b : Nat) (v0 v1 v2 v3 : Value) (W : World) : Kept [b] W (put4 b v0 v1 v2 v3 W) :=
  ((((Kept.refl [b] W).setCell (.inl (by simp)) _).setCell (.inl (by simp)) _).setCell (.inl (by simp)) _).setCell (.inl (by simp)) _
theorem put6_at {W : World} {b : Nat} {T : TypeId} {a0 a1 a2 a3 a4 a5 : Value} (h : W.heap[b]? = some (.cells #[a0, a1, a2, a3, a4, a5] T (0, 0))) (v0 v1 v2 v3 v4 v5 : Value) : (put6 b v0 v1 v2 v3 v4 v5 W).heap[b]? = some (.cells #[v0, v1, v2, v3, v4, v5] T (0, 0)) :=
  setq (setq (setq (setq (setq (setq h v0 rfl) v1 rfl) v2 rfl) v3 rfl) v4 rfl) v5 rfl
/-- the boxes of the document's Take -/
structure R3 (w : World) (x : Hd) (q : Rl) (W : World) : Prop where
  b0 : W.heap[w.heap.size]? = some (hrO x q)
  rh : W.heap[w.heap.size + 1]? = some hrZ
  rt : W.heap[w.heap.size + 2]? = some rtZ
  below : Below w.heap.size w W
theorem R3.later {w W W' : World} {x : Hd} {q : Rl} (h : R3 w x q W) (hb : Below W.heap.size W W') : R3 w x q W' :=
  ⟨(hb.block _ (lt_of_block h.b0)).trans h.b0, (hb.block _ (lt_of_block h.rh)).trans h.rh, (hb.block _ (lt_of_block h.rt)).trans h.rt, h.below.trans (hb.mono h.below.size)⟩
theorem r3_new (w : World) (x : Hd) (q : Rl) : R3 w x q (((w.alloc (hrO x q)).alloc hrZ).alloc rtZ) := by
  have b1 := bal (w := w) (hrO x q)
  have x1 := heap_alloc_new w (hrO x q)
  have z1 : (w.alloc (hrO x q)).heap.size = w.heap.size + 1 := by simp
  generalize w.alloc (hrO x q) = w1 at *
  have b2 := bal (w := w1) hrZ
  have x2 := heap_alloc_new w1 hrZ
  have z2 : (w1.alloc hrZ).heap.size = w.heap.size + 2 := by simp [z1]
  rw [z1] at x2
  have b12 := b1.trans (b2.mono b1.size)
  have y1 := (b2.block _ (lt_of_block x1)).trans x1
  generalize w1.alloc hrZ = w2 at *
  have b3 := bal (w := w2) rtZ
  have x3 := heap_alloc_new w2 rtZ
  rw [z2] at x3
  exact ⟨(b3.block _ (lt_of_block y1)).trans y1, (b3.block _ (lt_of_block x2)).trans x2, x3, b12.trans (b3.mono b12.size)⟩
theorem hz_of {W : World} {b : Nat} (h : W.heap[b]? = some hrZ) : (W.cell? ⟨b, 0, none⟩ = some (.int .u32 0) ∧ W.cell? ⟨b, 1, none⟩ = some (.int .i64 0) ∧ W.cell? ⟨b, 2, none⟩ = some (.slice none 0 0) ∧ W.cell? ⟨b, 3, none⟩ = some (.slice none 0 0)) ∧ W.frozen? ⟨b, 0, none⟩ = false ∧ W.frozen? ⟨b, 1, none⟩ = false ∧ W.frozen? ⟨b, 2, none⟩ = false ∧ W.frozen? ⟨b, 3, none⟩ = false :=
  ⟨⟨cofr h 0 _ rfl, cofr h 1 _ rfl, cofr h 2 _ rfl, cofr h 3 _ rfl⟩, fofr h 0, fofr h 1, fofr h 2, fofr h 3⟩
theorem tz_of {W : World} {b : Nat} (h : W.heap[b]? = some rtZ) : (W.cell? ⟨b, 0, none⟩ = some (.int .i64 0) ∧ W.cell? ⟨b, 1, none⟩ = some (.int .i64 0) ∧ W.cell? ⟨b, 2, none⟩ = some (.int .i64 0) ∧ W.cell? ⟨b, 3, none⟩ = some (.bool false) ∧ W.cell? ⟨b, 4, none⟩ = some (.int .i64 0) ∧ W.cell? ⟨b, 5, none⟩ = some (.int .i64 0)) ∧
    W.frozen? ⟨b, 0, none⟩ = false ∧ W.frozen? ⟨b, 1, none⟩ = false ∧ W.frozen? ⟨b, 2, none⟩ = false ∧ W.frozen? ⟨b, 3, none⟩ = false ∧ W.frozen? ⟨b, 4, none⟩ = false ∧ W.frozen? ⟨b, 5, none⟩ = false :=
  ⟨⟨cofr h 0 _ rfl, cofr h 1 _ rfl, cofr h 2 _ rfl, cofr h 3 _ rfl, cofr h 4 _ rfl, cofr h 5 _ rfl⟩, fofr h 0, fofr h 1, fofr h 2, fofr h 3, fofr h 4, fofr h 5⟩
/-- the last world: both answers' boxes are written -/
abbrev endW (w : World) (x : Hd) (q : Rl) (v0 v1 v2 v3 v4 v5 : Value) (W : World) : World := put6 (w.heap.size + 2) v0 v1 v2 v3 v4 v5 (put4 (w.heap.size + 1) (.int .u32 x.first) (.int .i64 (x.room : Int)) (.slice q.la q.ln q.lc) (.slice q.ba q.bn q.bc) W)
theorem end_at {w W : World} {x : Hd} {q : Rl} (h1 : W.heap[w.heap.size + 1]? = some hrZ) (h2 : W.heap[w.heap.size + 2]? = some rtZ) (hb : Below w.heap.size w W) (v0 v1 v2 v3 v4 v5 : Value) :
    (endW w x q v0 v1 v2 v3 v4 v5 W).heap[w.heap.size + 1]? = some (hrO x q) ∧ (endW w x q v0 v1 v2 v3 v4 v5 W).heap[w.heap.size + 2]? = some (.cells #[v0, v1, v2, v3, v4, v5] 41 (0, 0)) ∧ Below w.heap.size w (endW w x q v0 v1 v2 v3 v4 v5 W) ∧ Kept [w.heap.size + 1, w.heap.size + 2] W (endW w x q v0 v1 v2 v3 v4 v5 W) := by
  have k4 := put4_kept (w.heap.size + 1) (.int .u32 x.first) (.int .i64 (x.room : Int)) (.slice q.la q.ln q.lc) (.slice q.ba q.bn q.bc) W
  have k6 := put6_kept (w.heap.size + 2) v0 v1 v2 v3 v4 v5 (put4 (w.heap.size + 1) (.int .u32 x.first) (.int .i64 (x.room : Int)) (.slice q.la q.ln q.lc) (.slice q.ba q.bn q.bc) W)
  have a4 := put4_at h1 (.int .u32 x.first) (.int .i64 (x.room : Int)) (.slice q.la q.ln q.lc) (.slice q.ba q.bn q.bc)
  have hb4 := hb.trans (k4.below (by simp) hb.size)
  exact ⟨k6.heap (by simp) a4, put6_at (k4.heap (by simp) h2) v0 v1 v2 v3 v4 v5, hb4.trans (k6.below (by simp) hb4.size), (k4.mono (by simp)).trans k6 (by simp)⟩
abbrev zV : Value := .int .i64 0
theorem rt_bad {w W : World} {x : Hd} {q : Rl} {b : List Int} (h : RA w x q b) (hb : RB b x) (k : R3 w x q W) (er : Int) : RtP q x ⟨(0, 0), 0, (0, 0)⟩ er w (.returned (.tuple #[.agg (hrC x q), .agg #[.int .i64 0, .int .i64 0, .int .i64 0, .bool false, .int .i64 0, .int .i64 0], .int .i64 er])) (endW w x q zV zV zV (.bool false) zV zV W) :=
  have he := end_at (x := x) (q := q) k.rh k.rt k.below zV zV zV (.bool false) zV zV
  ⟨q, b, by rw [tdz], h.later he.2.2.1, hb, he.2.2.1, fun y h1 h2 => .inl ⟨h1, h2⟩, fun y h1 h2 => .inl ⟨h1, h2⟩⟩
set_option maxRecDepth 100000 in
set_option maxHeartbeats 4000000 in
theorem rtake_len {w : World} {x : Hd} {q : Rl} {b : List Int} (h : RA w x q b) (hb : RB b x) (num : Int) {ba : Option Addr} {n bcap : Nat} (hn : n ≤ 9223372036854775807) (hc : n = 0 ∨ 2048 < n) :
    Calls Try.prog 10 #[.agg (hrC x q), .int .u32 num, .slice ba n bcap] w (RtP q x ⟨(0, 0), 0, (0, 0)⟩ (if n = 0 then 6 else 9) w) := by
  have HR := Lib.hid (r3_new w x q)
  have HF := Lib.hid (fun W (k : R3 w x q W) er => rt_bad h hb k er)
  clear h hb
  by_cases h0 : n = 0
  · subst h0
    rw [if_pos rfl]
    clear hc
    go_enter Try.func10, Try.ntmps10
    go_upto_region 1 with fail
    generalize ((w.alloc (hrO x q)).alloc hrZ).alloc rtZ = W at *
    obtain ⟨r0, r1, r2, r3⟩ := h4_of HR.out.b0
    obtain ⟨⟨z0, z1, z2, z3⟩, f0, f1, f2, f3⟩ := hz_of HR.out.rh
    obtain ⟨⟨y0, y1, y2, y3, y4, y5⟩, g0, g1, g2, g3, g4, g5⟩ := tz_of HR.out.rt
    have HE := Lib.hid (end_at (x := x) (q := q) HR.out.rh HR.out.rt HR.out.below zV zV zV (.bool false) zV zV)
    have HFF := Lib.hid (HF.out _ HR.out 6)
    obtain ⟨U, hU⟩ : ∃ U, U = endW w x q zV zV zV (.bool false) zV zV W := ⟨_, rfl⟩
    rw [← hU] at HE HFF
    have HU := Lib.hid hU
    clear hU
    obtain ⟨s0, s1, s2, s3⟩ := h4_of HE.out.1
    obtain ⟨⟨t0, t1, t2, t3, t4, t5⟩, _⟩ := tz_of HE.out.2.1
    go_wp2_with fail
    have hU := HU.out
    unfold endW put6 put4 zV at hU
    rw [← hU]
    exact bodyPost_ret (v := .tuple #[.agg (hrC x q), .agg #[.int .i64 0, .int .i64 0, .int .i64 0, .bool false, .int .i64 0, .int .i64 0], .int .i64 6]) (by simp [results, Try.results10, go_sem, s0, s1, s2, s3, t0, t1, t2, t3, t4, t5]) rfl HFF.out
  · rw [if_neg h0]
    have h1 : (2048 : Int) < (n : Int) := by omega
    have h2 : ¬ (n : Int) = 0 := by omega
    clear hc
    go_enter Try.func10, Try.ntmps10
    go_upto_region 1 with fail
    generalize ((w.alloc (hrO x q)).alloc hrZ).alloc rtZ = W at *
    obtain ⟨r0, r1, r2, r3⟩ := h4_of HR.out.b0
    obtain ⟨⟨z0, z1, z2, z3⟩, f0, f1, f2, f3⟩ := hz_of HR.out.rh
    obtain ⟨⟨y0, y1, y2, y3, y4, y5⟩, g0, g1, g2, g3, g4, g5⟩ := tz_of HR.out.rt
    have HE := Lib.hid (end_at (x := x) (q := q) HR.out.rh HR.out.rt HR.out.below zV zV zV (.bool false) zV zV)
    have HFF := Lib.hid (HF.out _ HR.out 9)
    obtain ⟨U, hU⟩ : ∃ U, U = endW w x q zV zV zV (.bool false) zV zV W := ⟨_, rfl⟩
    rw [← hU] at HE HFF
    have HU := Lib.hid hU
    clear hU
    obtain ⟨s0, s1, s2, s3⟩ := h4_of HE.out.1
    obtain ⟨⟨t0, t1, t2, t3, t4, t5⟩, _⟩ := tz_of HE.out.2.1
    go_wp2_with fail
    have hU := HU.out
    unfold endW put6 put4 zV at hU
    rw [← hU]
    exact bodyPost_ret (v := .tuple #[.agg (hrC x q), .agg #[.int .i64 0, .int .i64 0, .int .i64 0, .bool false, .int .i64 0, .int .i64 0], .int .i64 9]) (by simp [results, Try.results10, go_sem, s0, s1, s2, s3, t0, t1, t2, t3, t4, t5]) rfl HFF.out
theorem runw_unw (n s : Int) : sq.runw n s = if (sq.unw n s).2 = true then (sq.unw n s).1 else -1 := by
  unfold sq.runw sq.unw
  by_cases h0 : sq.isMay n = true
  · by_cases h1 : sq.isMay (n + sq.dist (sq.m32 n) s) = true <;> simp [h0, h1]
  · simp [h0]
theorem conv_u (n : Int) (h : 0 ≤ n ∧ n ≤ 4294967295) : IntKind.i64.wrap n = n := IntWalk.i64_in _ (by omega)
set_option maxRecDepth 100000 in
set_option maxHeartbeats 4000000 in
theorem rtake_old {w : World} {x : Hd} {q : Rl} {b : List Int} (h : RA w x q b) (ho : Ok x) (hb : RB b x) (num : Int) (hnum : 0 ≤ num ∧ num ≤ 4294967295) {ba : Option Addr} {n bcap : Nat} (h1 : ¬ n = 0) (h2 : ¬ 2048 < n) (hu : ¬ (sq.unw (nx x.l) (sq.m32 (num - x.first))).2 = true) :
    Calls Try.prog 10 #[.agg (hrC x q), .int .u32 num, .slice ba n bcap] w (RtP q x ⟨(0, 0), 0, (0, 0)⟩ 11 w) := by
  have HR := Lib.hid (r3_new w x q)
  have HF := Lib.hid (fun W (k : R3 w x q W) er => rt_bad h hb k er)
  have hf := ho.f
  have hx := nx_spec ho.l
  have hm := sq.m32_bd (num - x.first)
  have HN := Lib.hid (fun X (k : R3 w x q X) => rnx_any (q := q) (x := x) (h.l.later k.below))
  have HM := Lib.hid (fun X => sq.mod_any (num - x.first) X (by omega))
  have HU := Lib.hid (fun X => sq.runwrap_any (nx x.l) (sq.m32 (num - x.first)) X (by have := hx.1; have := hx.2.1; omega) (by omega))
  rw [runw_unw, if_neg hu] at HU
  unfold RetI at HN
  have hw1 : IntKind.i64.wrap (num - x.first) = num - x.first := IntWalk.i64_in _ (by omega)
  have hw2 := conv_u num hnum
  have hw3 := conv_u x.first hf
  have h3 : ¬ (2048 : Int) < (n : Int) := by omega
  have h4 : ¬ (n : Int) = 0 := by omega
  clear h hb ho hx hu
  generalize nx x.l = n1 at *
  go_enter Try.func10, Try.ntmps10
  go_upto_region 1 with fail
  generalize ((w.alloc (hrO x q)).alloc hrZ).alloc rtZ = W at *
  obtain ⟨r0, r1, r2, r3⟩ := h4_of HR.out.b0
  go_upto_region 6 with (go_at_call 29; (with_reducible refine (HN.out _ HR.out).mono ?_); rintro e w1 ⟨rfl, hb1⟩)
  have HR1 := Lib.hid (HR.out.later hb1)
  clear r0 r1 r2 r3 hb1 HR
  obtain ⟨r0, r1, r2, r3⟩ := h4_of HR1.out.b0
  go_upto_region 7 with (first
    | (go_at_call 31; (with_reducible refine (HM.out _).mono ?_); rintro e w2 ⟨rfl, rfl⟩)
    | (go_at_call 30; (with_reducible refine (HU.out _).mono ?_); rintro e w2 ⟨rfl, rfl⟩))
  obtain ⟨⟨z0, z1, z2, z3⟩, f0, f1, f2, f3⟩ := hz_of HR1.out.rh
  obtain ⟨⟨y0, y1, y2, y3, y4, y5⟩, g0, g1, g2, g3, g4, g5⟩ := tz_of HR1.out.rt
  have HE := Lib.hid (end_at (x := x) (q := q) HR1.out.rh HR1.out.rt HR1.out.below zV zV zV (.bool false) zV zV)
  have HFF := Lib.hid (HF.out _ HR1.out 11)
  obtain ⟨U, hU⟩ : ∃ U, U = endW w x q zV zV zV (.bool false) zV zV w1 := ⟨_, rfl⟩
  rw [← hU] at HE HFF
  have HU2 := Lib.hid hU
  clear hU
  obtain ⟨s0, s1, s2, s3⟩ := h4_of HE.out.1
  obtain ⟨⟨t0, t1, t2, t3, t4, t5⟩, _⟩ := tz_of HE.out.2.1
  go_wp2_with fail
  have hU := HU2.out
  unfold endW put6 put4 zV at hU
  rw [← hU]
  exact bodyPost_ret (v := .tuple #[.agg (hrC x q), .agg #[.int .i64 0, .int .i64 0, .int .i64 0, .bool false, .int .i64 0, .int .i64 0], .int .i64 11]) (by simp [results, Try.results10, go_sem, s0, s1, s2, s3, t0, t1, t2, t3, t4, t5]) rfl HFF.out
set_option maxRecDepth 100000 in
set_option maxHeartbeats 4000000 in
theorem rtake_ahead {w : World} {x : Hd} {q : Rl} {b : List Int} (h : RA w x q b) (ho : Ok x) (hb : RB b x) (num : Int) (hnum : 0 ≤ num ∧ num ≤ 4294967295) {ba : Option Addr} {n bcap : Nat} (h1 : ¬ n = 0) (h2 : ¬ 2048 < n) (hu : (sq.unw (nx x.l) (sq.m32 (num - x.first))).2 = true) (hz : nx x.l ≤ 1000000000) (ha : nx x.l + x.room < (sq.unw (nx x.l) (sq.m32 (num - x.first))).1 + n) (hub : 0 ≤ (sq.unw (nx x.l) (sq.m32 (num - x.first))).1 ∧ (sq.unw (nx x.l) (sq.m32 (num - x.first))).1 ≤ 4611686018427387904) :
    Calls Try.prog 10 #[.agg (hrC x q), .int .u32 num, .slice ba n bcap] w (RtP q x ⟨(0, 0), 0, (0, 0)⟩ 12 w) := by
  have HR := Lib.hid (r3_new w x q)
  have HF := Lib.hid (fun W (k : R3 w x q W) er => rt_bad h hb k er)
  have hf := ho.f
  have hx := nx_spec ho.l
  have hrm := ho.r
  have hm := sq.m32_bd (num - x.first)
  have HN := Lib.hid (fun X (k : R3 w x q X) => rnx_any (q := q) (x := x) (h.l.later k.below))
  have HM := Lib.hid (fun X => sq.mod_any (num - x.first) X (by omega))
  have HU := Lib.hid (fun X => sq.runwrap_any (nx x.l) (sq.m32 (num - x.first)) X (by have := hx.1; have := hx.2.1; omega) (by omega))
  rw [runw_unw, if_pos hu] at HU
  unfold RetI at HN
  generalize (sq.unw (nx x.l) (sq.m32 (num - x.first))).1 = u at *
  have hw1 : IntKind.i64.wrap (num - x.first) = num - x.first := IntWalk.i64_in _ (by omega)
  have hw2 := conv_u num hnum
  have hw3 := conv_u x.first hf
  have hw4 : IntKind.i64.wrap (u + (n : Int)) = u + (n : Int) := IntWalk.i64_in _ (by omega)
  have hw5 : IntKind.i64.wrap (nx x.l + (x.room : Int)) = nx x.l + (x.room : Int) := IntWalk.i64_in _ (by have := hx.1; omega)
  have h3 : ¬ (2048 : Int) < (n : Int) := by omega
  have h4 : ¬ (n : Int) = 0 := by omega
  have h5 : ¬ u < 0 := by omega
  clear h hb ho hx hu
  generalize nx x.l = n1 at *
  go_enter Try.func10, Try.ntmps10
  go_upto_region 1 with fail
  generalize ((w.alloc (hrO x q)).alloc hrZ).alloc rtZ = W at *
  obtain ⟨r0, r1, r2, r3⟩ := h4_of HR.out.b0
  go_upto_region 6 with (go_at_call 29; (with_reducible refine (HN.out _ HR.out).mono ?_); rintro e w1 ⟨rfl, hb1⟩)
  have HR1 := Lib.hid (HR.out.later hb1)
  clear r0 r1 r2 r3 hb1 HR
  obtain ⟨r0, r1, r2, r3⟩ := h4_of HR1.out.b0
  go_upto_region 7 with (first
    | (go_at_call 31; (with_reducible refine (HM.out _).mono ?_); rintro e w2 ⟨rfl, rfl⟩)
    | (go_at_call 30; (with_reducible refine (HU.out _).mono ?_); rintro e w2 ⟨rfl, rfl⟩))
  obtain ⟨⟨z0, z1, z2, z3⟩, f0, f1, f2, f3⟩ := hz_of HR1.out.rh
  obtain ⟨⟨y0, y1, y2, y3, y4, y5⟩, g0, g1, g2, g3, g4, g5⟩ := tz_of HR1.out.rt
  have HE := Lib.hid (end_at (x := x) (q := q) HR1.out.rh HR1.out.rt HR1.out.below zV zV zV (.bool false) zV zV)
  have HFF := Lib.hid (HF.out _ HR1.out 12)
  obtain ⟨U, hU⟩ : ∃ U, U = endW w x q zV zV zV (.bool false) zV zV w1 := ⟨_, rfl⟩
  rw [← hU] at HE HFF
  have HU2 := Lib.hid hU
  clear hU
  obtain ⟨s0, s1, s2, s3⟩ := h4_of HE.out.1
  obtain ⟨⟨t0, t1, t2, t3, t4, t5⟩, _⟩ := tz_of HE.out.2.1
  go_wp2_with fail
  have hU := HU2.out
  unfold endW put6 put4 zV at hU
  rw [← hU]
  exact bodyPost_ret (v := .tuple #[.agg (hrC x q), .agg #[.int .i64 0, .int .i64 0, .int .i64 0, .bool false, .int .i64 0, .int .i64 0], .int .i64 12]) (by simp [results, Try.results10, go_sem, s0, s1, s2, s3, t0, t1, t2, t3, t4, t5]) rfl HFF.out
end Go.Proofs.Ytekddgmmfgpehaa.hd
