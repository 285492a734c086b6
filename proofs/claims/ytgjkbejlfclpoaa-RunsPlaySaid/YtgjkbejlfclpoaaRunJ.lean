/-
  The reference's Without.
-/
import Derived.Test.YtgjkbejlfclpoaaRunU
import Derived.Test.YtgjkbejlfclpoaaRunR
import Derived.Test.YtgjkbejlfclpoaaRunP
namespace Go.Proofs.Ytgjkbejlfclpoaa.rn
open Go.RowKit Go.Shelf aid mem rng sp
attribute [local go_sem ↓] Go.wp_at_zero Go.wp_at_succ
set_option linter.unusedVariables false
set_option linter.unusedSimpArgs false

/-- a row that grows, beside a span in its box -/
structure WOs (w : World) (s : Sp) (bs : Nat) (L : List Sp) (v : Value) (X : World) : Prop where
  own : X.ownsRow (bs + 1) 24 2 v L.length (spCells L)
  sp : SpAt X bs s
  below : Below w.heap.size w X
  ge : w.heap.size ≤ bs
theorem WOs.later {w : World} {s : Sp} {bs : Nat} {L : List Sp} {v : Value} {X Y : World} (h : WOs w s bs L v X) (hb : Below X.heap.size X Y) : WOs w s bs L v Y :=
  ⟨own_later h.own hb, h.sp.later hb, h.below.trans (hb.mono h.below.size), h.ge⟩
theorem WOs.al {w : World} {s : Sp} {bs : Nat} {L : List Sp} {v : Value} {X : World} (h : WOs w s bs L v X) (o : Obj) : WOs w s bs L v (X.alloc o) := h.later (bal o)
/-- a new box beside it -/
structure Bx (w : World) (bs : Nat) (v : Value) (p : Nat) (y : Sp) (X : World) : Prop where
  at_ : SpAt X p y
  ne : bs ≠ p
  nown : v.ownBlock ≠ some p
  ge : w.heap.size ≤ p
theorem WOs.newbox {w : World} {s : Sp} {bs : Nat} {L : List Sp} {v : Value} {X : World} (h : WOs w s bs L v X) (y : Sp) : Bx w bs v X.heap.size y (X.alloc (.cells #[.int .i64 y.1, .int .i64 y.2] 24)) :=
  ⟨sp_new X y, by have := h.sp.lt; omega, fun e => by have := (own_in h.own e).1; omega, h.below.size⟩
theorem Bx.later {w : World} {bs p : Nat} {y : Sp} {v : Value} {X Y : World} (h : Bx w bs v p y X) (hb : Below X.heap.size X Y) : Bx w bs v p y Y := ⟨h.at_.later hb, h.ne, h.nown, h.ge⟩
theorem Bx.put {w : World} {s : Sp} {bs p : Nat} {L : List Sp} {y : Sp} {v : Value} {X : World} (hb : Bx w bs v p y X) (h : WOs w s bs L v X) (a b : Int) : WOs w s bs L v ((X.setCell ⟨p, 0, none⟩ (.int .i64 a)).setCell ⟨p, 1, none⟩ (.int .i64 b)) := by
  have hk := kput X p (.int .i64 a) (.int .i64 b)
  exact ⟨own_step h.own (fun k o hk1 hk2 => hk.heap (fun e => by simp at e; exact hb.nown (e ▸ hk1)) hk2), hk.heap (fun e => by simp at e; exact hb.ne e) h.sp, h.below.trans (hk.below (B := w.heap.size) (fun k hk => by simp at hk; subst hk; exact hb.ge) h.below.size), h.ge⟩
theorem Bx.put' {w : World} {bs p : Nat} {y : Sp} {v : Value} {X : World} (hb : Bx w bs v p y X) (a b : Int) : Bx w bs v p (a, b) ((X.setCell ⟨p, 0, none⟩ (.int .i64 a)).setCell ⟨p, 1, none⟩ (.int .i64 b)) := ⟨hb.at_.put a b, hb.ne, hb.nown, hb.ge⟩
theorem Bx.al {w : World} {bs p : Nat} {y : Sp} {v : Value} {X : World} (h : Bx w bs v p y X) (o : Obj) : Bx w bs v p y (X.alloc o) := h.later (bal o)
theorem WOs.sep {w : World} {s : Sp} {bs p : Nat} {L : List Sp} {y : Sp} {v : Value} {X : World} (h : WOs w s bs L v X) (hx : Bx w bs v p y X) : p ≠ X.heap.size := by have := hx.at_.lt; omega
theorem Bx.keep {w : World} {bs p q : Nat} {y : Sp} {v : Value} {X : World} (h : Bx w bs v p y X) (hn : p ≠ q) (a b : Int) : Bx w bs v p y ((X.setCell ⟨q, 0, none⟩ (.int .i64 a)).setCell ⟨q, 1, none⟩ (.int .i64 b)) :=
  ⟨h.at_.keep (kput X q (.int .i64 a) (.int .i64 b)) (by simpa using hn), h.ne, h.nown, h.ge⟩
/-- the row has grown -/
theorem WOs.grow {w : World} {s : Sp} {bs : Nat} {L : List Sp} {v v' : Value} {X Y : World} {y : Sp} {n : Nat} (h : WOs w s bs L v X) (hn : L.length + 1 = n) (ho : Y.ownsRow (bs + 1) 24 2 v' n (spCells L ++ [.int .i64 y.1, .int .i64 y.2])) (hg : X.grownBy Y v.ownBlock) : WOs w s bs (L ++ [y]) v' Y := by
  refine ⟨by rw [List.length_append, List.length_singleton, spCells_snoc, hn]; exact ho, (hg.block bs h.sp.lt (fun e => by have := (own_in h.own e.symm).2; omega)).trans h.sp, h.below.trans (below_grown hg h.below.size (fun k hk => by have := (own_in h.own hk).2; have := h.ge; omega)), h.ge⟩
theorem WOs.box {w : World} {s : Sp} {bs p : Nat} {L : List Sp} {v : Value} {X Y : World} {y : Sp} (h : WOs w s bs L v X) (hx : SpAt X p y) (hp : v.ownBlock ≠ some p) (hg : X.grownBy Y v.ownBlock) : SpAt Y p y :=
  (hg.block p hx.lt (fun e => hp e.symm)).trans hx
theorem wo_take {l : List Sp} (s : Sp) {k : Nat} (hk : k < l.length) : woL (l.take (k + 1)) s = woL (l.take k) s ++ (ne (belowP (l.getD k (0, 0)) s.1) ++ ne (fromP (l.getD k (0, 0)) s.2)) := by
  rw [show l.getD k (0, 0) = l[k] from by simp [List.getD, hk]]
  unfold woL
  rw [List.take_succ_eq_append_getElem hk, List.flatMap_append]
  simp
theorem wo_take_len (l : List Sp) (s : Sp) : ∀ k, (woL (l.take k) s).length ≤ 2 * k := by
  have h1 : ∀ x : Sp, (ne x).length ≤ 1 := fun x => by unfold ne; split <;> simp
  intro k
  induction k with
  | zero => simp [woL]
  | succ k ih =>
    by_cases hk : k < l.length
    · rw [wo_take s hk]
      have h2 := h1 (belowP (l.getD k (0, 0)) s.1)
      have h3 := h1 (fromP (l.getD k (0, 0)) s.2)
      simp only [List.length_append]
      omega
    · rw [List.take_of_length_le (by omega)] at ih ⊢
      omega
set_option maxRecDepth 100000 in
set_option maxHeartbeats 8000000 in
theorem rwithout_any {w : World} {a : Option Addr} {n cap : Nat} {l : List Sp} (h : SlS w a n cap l) (hn : n ≤ 100000) (s : Sp) : Calls Try.prog 29 #[.slice a n cap, spV s] w fun e w' => ∃ a' n' cap', e = .returned (.slice a' n' cap') ∧ SlS w' a' n' cap' (refWo l s) ∧ Below w.heap.size w w' ∧ ∀ x, a' = some x → (a = some x ∧ n' = n) ∨ w.heap.size ≤ x.block := by
  have hle := h.le
  have hmost := h.most
  have hlen := h.len
  unfold maxLen at hmost
  have HC := Lib.hid (fun h0 => h.cells h0)
  have b1 := bal (w := w) (.cells #[.int .i64 s.1, .int .i64 s.2] 24)
  have s1 := sp_new w s
  have c0 := s1.c0; have c1 := s1.c1
  have HLS := Lib.hid (fun X => rlen_any s X)
  have HRF := Lib.hid (show refWo l s = if lenI s = 0 then l else woL l s from rfl)
  have HTK := Lib.hid (fun k (hk : k < n) => wo_take (l := l) s (k := k) (by omega))
  have HLE := Lib.hid (wo_take_len l s)
  have HEN := Lib.hid (show woL (l.take n) s = woL l s from by rw [List.take_of_length_le (by omega)])
  have HB1 := Lib.hid (And.intro b1 s1)
  have HS := Lib.hid h
  clear b1 s1 h hlen
  obtain ⟨i0, hi, hz0, hz1, hz2⟩ := info_split info_span
  generalize lenI s = z at *
  go_enter Try.func29, Try.ntmps29
  go_wp2_with fail
  refine (HLS.out _).mono ?_
  rintro e w2 ⟨rfl, h2⟩
  obtain ⟨b1, s1⟩ := HB1.out
  have b2 := b1.trans (h2.mono b1.size)
  have s2 := s1.later h2
  clear b1 s1 h2 c0 c1 HB1
  by_cases hz : z = 0
  · subst hz
    rw [if_pos rfl] at HRF
    have HF := Lib.hid (show SlS w2 a n cap (refWo l s) from by rw [HRF.out]; exact HS.out.later b2)
    clear HC HLS HTK HLE HEN HRF
    go_wp2
    go_ret
    exact ⟨_, _, _, rfl, HF.out, b2, fun x hx => .inl ⟨hx, rfl⟩⟩
  rw [if_neg hz] at HRF
  have K0 : WOs w s w.heap.size [] (.slice none 0 0) w2 := ⟨World.ownsRow_nil _ _ _ _, s2, b2, Nat.le_refl _⟩
  have HK0 := Lib.hid K0
  clear K0 s2 b2
  generalize w.heap.size = bs at *
  go_wp2_with fail
  rename (z == 0) = false => hzz
  simp only [hzz]
  clear hz hzz
  go_loopw [5, 6] (fun s5 s6 wr => ∃ k : Nat, k ≤ n ∧ s6 = .int .i64 k ∧ Hid (WOs w s bs (woL (l.take k) s) s5 wr)) (fun _ s6 _ => n - (intOf s6).toNat)
  case atStart => exact ⟨0, Nat.zero_le _, rfl, HK0⟩
  case round =>
    obtain ⟨k, hk, rfl, HK⟩ := hrel
    by_cases hlt : k < n
    · obtain ⟨g, off, rfl, hc⟩ := HC.out (by omega)
      obtain ⟨m0, m1⟩ := hc k hlt
      have HTK1 := Lib.hid (HTK.out k hlt)
      have hLE := HLE.out k
      generalize l.getD k (0, 0) = x at *
      generalize woL (l.take k) s = L at *
      have HKP := Lib.hid (fun X (L' : List Sp) (v' : Value) (K : WOs w s bs L' v' X) => show X.cell? ⟨bs, 0, none⟩ = some (.int .i64 s.1) ∧ X.cell? ⟨bs, 1, none⟩ = some (.int .i64 s.2) ∧ X.cell? ⟨g, off + k * 2, none⟩ = some (.int .i64 x.1) ∧ X.cell? ⟨g, off + k * 2 + 1, none⟩ = some (.int .i64 x.2) from
        ⟨K.sp.c0, K.sp.c1, (K.below.cell (World.block_lt_of_cell? w _ m0)).trans m0, (K.below.cell (World.block_lt_of_cell? w _ m1)).trans m1⟩)
      have HBL := Lib.hid (fun X => rbelow_any x s.1 X)
      have HFR := Lib.hid (fun X => rfrom_any x s.2 X)
      clear m0 m1 hc HC HTK HLE HEN HRF HS
      generalize belowP x s.1 = q1 at *
      generalize fromP x s.2 = q2 at *
      have Kc := HK.out.later (Below.refl _ _).drew
      go_upto_region 7 with (fail)
      go_cut [7] from 13 to 46 (fun s7 wx => ∃ p : Nat, s7 = .pointer (some ⟨p, 0, none⟩) ∧ Hid (Bx w bs u5 p q1 wx ∧ WOs w s bs L u5 wx))
      case first =>
        refine wp_region_noPanic ?_
        refine wp_region_held_drew (S := (fun w' => w'.cell? ⟨bs, 0, none⟩ = some (.int .i64 s.1) ∧ w'.cell? ⟨bs, 1, none⟩ = some (.int .i64 s.2) ∧ w'.cell? ⟨g, off + k * 2, none⟩ = some (.int .i64 x.1) ∧ w'.cell? ⟨g, off + k * 2 + 1, none⟩ = some (.int .i64 x.2))) (by kernel_rfl) ?_ (fun hHeld => ?_)
        · ((try dsimp only); exact HKP.out _ _ _ Kc)
        generalize wr.drew = C0 at *
        refine wpAnyH_take (i := 0) (oi := _) (v := ?_) rfl (by kernel_rfl) (by kernel_rfl) (by kernel_rfl) (fun _ _ _ h => h) (Or.inl ⟨by rfl, ?_⟩) (by assumption) ?_
        rotate_left
        · (first | (intro v hSw; (try dsimp only at hSw); go_simp; done) | (intro v hSw; (try dsimp only at hSw); go_simp; with_reducible rfl))
        (try simp only [List.getElem_toArray, List.getElem_cons_succ, List.getElem_cons_zero, Act.put, List.setIfInBounds_toArray, List.set_cons_zero, List.set_cons_succ])
        refine wpAnyH_take (i := 1) (oi := _) (v := ?_) rfl (by kernel_rfl) (by kernel_rfl) (by kernel_rfl) (fun _ _ _ h => h) (Or.inl ⟨by rfl, ?_⟩) (by assumption) ?_
        rotate_left
        · (first | (intro v hSw; (try dsimp only at hSw); go_simp; done) | (intro v hSw; (try dsimp only at hSw); go_simp; with_reducible rfl))
        (try simp only [List.getElem_toArray, List.getElem_cons_succ, List.getElem_cons_zero, Act.put, List.setIfInBounds_toArray, List.set_cons_zero, List.set_cons_succ])
        refine wpAnyH_take (i := 2) (oi := _) (v := ?_) rfl (by kernel_rfl) (by kernel_rfl) (by kernel_rfl) (fun _ _ _ h => h) (Or.inl ⟨by rfl, ?_⟩) (by assumption) ?_
        rotate_left
        · (first | (intro v hSw; (try dsimp only at hSw); go_simp; done) | (intro v hSw; (try dsimp only at hSw); go_simp; with_reducible rfl))
        (try simp only [List.getElem_toArray, List.getElem_cons_succ, List.getElem_cons_zero, Act.put, List.setIfInBounds_toArray, List.set_cons_zero, List.set_cons_succ])
        refine wpAnyH_take (i := 3) (oi := _) (v := ?_) rfl (by kernel_rfl) (by kernel_rfl) (by kernel_rfl) (fun _ _ _ h => h) (Or.inl ⟨by rfl, ?_⟩) (by assumption) ?_
        rotate_left
        · (first | (intro v hSw; (try dsimp only at hSw); go_simp; done) | (intro v hSw; (try dsimp only at hSw); go_simp; with_reducible rfl))
        (try simp only [List.getElem_toArray, List.getElem_cons_succ, List.getElem_cons_zero, Act.put, List.setIfInBounds_toArray, List.set_cons_zero, List.set_cons_succ])
        refine wpAnyH_take (i := 4) (oi := _) (v := ?_) rfl (by kernel_rfl) (by kernel_rfl) (by kernel_rfl) (fun _ _ _ h => h) (Or.inl ⟨by rfl, ?_⟩) (by assumption) ?_
        rotate_left
        · (first | (intro v hSw; (try dsimp only at hSw); go_simp; done) | (intro v hSw; (try dsimp only at hSw); go_simp; with_reducible rfl))
        (try simp only [List.getElem_toArray, List.getElem_cons_succ, List.getElem_cons_zero, Act.put, List.setIfInBounds_toArray, List.set_cons_zero, List.set_cons_succ])
        refine wpAnyH_take (i := 5) (oi := _) (v := ?_) rfl (by kernel_rfl) (by kernel_rfl) (by kernel_rfl) (fun _ _ _ h => h) (Or.inl ⟨by rfl, ?_⟩) (by assumption) ?_
        rotate_left
        · (first | (intro v hSw; (try dsimp only at hSw); go_simp; done) | (intro v hSw; (try dsimp only at hSw); go_simp; with_reducible rfl))
        (try simp only [List.getElem_toArray, List.getElem_cons_succ, List.getElem_cons_zero, Act.put, List.setIfInBounds_toArray, List.set_cons_zero, List.set_cons_succ])
        refine wpAnyH_ready (rs := [6, 7]) (by kernel_rfl) (by simp) ?_
        refine AllReadyH.cons (o := _) rfl (fun K hK => ?_) ?_
        · go_simp
          (refine (HBL.out _).mono ?_)
          rintro e w3 ⟨rfl, h3⟩
          replace Kc := Kc.later h3
          (try replace xb := xb.later h3)
          refine hK.out _ _ ?_ (fun hHeld => ?_)
          · ((try dsimp only); exact HKP.out _ _ _ Kc)
          clear hK K
          (try simp only [List.getElem_toArray, List.getElem_cons_succ, List.getElem_cons_zero, Act.put, List.setIfInBounds_toArray, List.set_cons_zero, List.set_cons_succ])
          refine wpAnyH_ready (rs := [7]) (by kernel_rfl) (by simp) ?_
          refine AllReadyH.cons (o := _) rfl (fun K hK => ?_) AllReadyH.nil
          go_simp
          have yb := Kc.newbox q1
          have Kb := Kc.al (.cells #[.int .i64 q1.1, .int .i64 q1.2] 24)
          have xb := Kc.newbox (0, 0)
          replace Kc := Kc.al (.cells #[.int .i64 0, .int .i64 0] 24)
          refine hK.out _ _ ?_ (fun hHeld => ?_)
          · ((try dsimp only); exact HKP.out _ _ _ Kc)
          clear hK K
          (try simp only [List.getElem_toArray, List.getElem_cons_succ, List.getElem_cons_zero, Act.put, List.setIfInBounds_toArray, List.set_cons_zero, List.set_cons_succ])
          refine wpAnyH_ready (rs := [8]) (by kernel_rfl) (by simp) ?_
          refine AllReadyH.cons (o := _) rfl (fun K hK => ?_) AllReadyH.nil
          go_simp
          have z0 := xb.at_.c0
          have z1 := xb.at_.c1
          have z2 := xb.at_.f0
          have z3 := xb.at_.f1
          replace Kc := xb.put Kc q1.1 q1.2
          replace xb := xb.put' q1.1 q1.2
          go_simp
          refine hK.out _ _ ?_ (fun hHeld => ?_)
          · ((try dsimp only); (first | exact HKP.out _ _ _ Kc | exact HKP.out _ _ _ Kb))
          clear hK K
          (try simp only [List.getElem_toArray, List.getElem_cons_succ, List.getElem_cons_zero, Act.put, List.setIfInBounds_toArray, List.set_cons_zero, List.set_cons_succ])
          refine wpAnyH_done (by kernel_rfl) ?_ _
          refine NoPanic.normal ?_
          clear hHeld
          go_wp2_with fail
          go_meet
          (first | exact ⟨_, rfl, Lib.hid ⟨xb, Kc⟩⟩ | exact ⟨_, rfl, Lib.hid ⟨yb, Kb⟩⟩)
        refine AllReadyH.cons (o := _) rfl (fun K hK => ?_) AllReadyH.nil
        go_simp
        have yb := Kc.newbox q1
        have Kb := Kc.al (.cells #[.int .i64 q1.1, .int .i64 q1.2] 24)
        have xb := Kc.newbox (0, 0)
        replace Kc := Kc.al (.cells #[.int .i64 0, .int .i64 0] 24)
        refine hK.out _ _ ?_ (fun hHeld => ?_)
        · ((try dsimp only); exact HKP.out _ _ _ Kc)
        clear hK K
        (try simp only [List.getElem_toArray, List.getElem_cons_succ, List.getElem_cons_zero, Act.put, List.setIfInBounds_toArray, List.set_cons_zero, List.set_cons_succ])
        refine wpAnyH_ready (rs := [6]) (by kernel_rfl) (by simp) ?_
        refine AllReadyH.cons (o := _) rfl (fun K hK => ?_) AllReadyH.nil
        go_simp
        (refine (HBL.out _).mono ?_)
        rintro e w3 ⟨rfl, h3⟩
        replace Kc := Kc.later h3
        (try replace xb := xb.later h3)
        refine hK.out _ _ ?_ (fun hHeld => ?_)
        · ((try dsimp only); exact HKP.out _ _ _ Kc)
        clear hK K
        (try simp only [List.getElem_toArray, List.getElem_cons_succ, List.getElem_cons_zero, Act.put, List.setIfInBounds_toArray, List.set_cons_zero, List.set_cons_succ])
        refine wpAnyH_ready (rs := [8]) (by kernel_rfl) (by simp) ?_
        refine AllReadyH.cons (o := _) rfl (fun K hK => ?_) AllReadyH.nil
        go_simp
        have z0 := xb.at_.c0
        have z1 := xb.at_.c1
        have z2 := xb.at_.f0
        have z3 := xb.at_.f1
        replace Kc := xb.put Kc q1.1 q1.2
        replace xb := xb.put' q1.1 q1.2
        go_simp
        refine hK.out _ _ ?_ (fun hHeld => ?_)
        · ((try dsimp only); (first | exact HKP.out _ _ _ Kc | exact HKP.out _ _ _ Kb))
        clear hK K
        (try simp only [List.getElem_toArray, List.getElem_cons_succ, List.getElem_cons_zero, Act.put, List.setIfInBounds_toArray, List.set_cons_zero, List.set_cons_succ])
        refine wpAnyH_done (by kernel_rfl) ?_ _
        refine NoPanic.normal ?_
        clear hHeld
        go_wp2_with fail
        go_meet
        (first | exact ⟨_, rfl, Lib.hid ⟨xb, Kc⟩⟩ | exact ⟨_, rfl, Lib.hid ⟨yb, Kb⟩⟩)
      case rest =>
        obtain ⟨p7, rfl, HB7⟩ := hcut
        clear Kc HK
        have Kc := HB7.out.2.later (Below.refl _ _).drew
        go_upto_region 8 with (fail)
        go_cut [8] from 13 to 46 (fun s8 wx => ∃ p : Nat, s8 = .pointer (some ⟨p, 0, none⟩) ∧ Hid (Bx w bs u5 p7 q1 wx ∧ Bx w bs u5 p q2 wx ∧ WOs w s bs L u5 wx))
        case first =>
          have xa := HB7.out.1.later (Below.refl _ _).drew
          clear HB7
          refine wp_region_noPanic ?_
          refine wp_region_held_drew (S := (fun w' => w'.cell? ⟨bs, 0, none⟩ = some (.int .i64 s.1) ∧ w'.cell? ⟨bs, 1, none⟩ = some (.int .i64 s.2) ∧ w'.cell? ⟨g, off + k * 2, none⟩ = some (.int .i64 x.1) ∧ w'.cell? ⟨g, off + k * 2 + 1, none⟩ = some (.int .i64 x.2))) (by kernel_rfl) ?_ (fun hHeld => ?_)
          · ((try dsimp only); exact HKP.out _ _ _ Kc)
          generalize wc.drew = C0 at *
          refine wpAnyH_take (i := 0) (oi := _) (v := ?_) rfl (by kernel_rfl) (by kernel_rfl) (by kernel_rfl) (fun _ _ _ h => h) (Or.inl ⟨by rfl, ?_⟩) (by assumption) ?_
          rotate_left
          · (first | (intro v hSw; (try dsimp only at hSw); go_simp; done) | (intro v hSw; (try dsimp only at hSw); go_simp; with_reducible rfl))
          (try simp only [List.getElem_toArray, List.getElem_cons_succ, List.getElem_cons_zero, Act.put, List.setIfInBounds_toArray, List.set_cons_zero, List.set_cons_succ])
          refine wpAnyH_take (i := 1) (oi := _) (v := ?_) rfl (by kernel_rfl) (by kernel_rfl) (by kernel_rfl) (fun _ _ _ h => h) (Or.inl ⟨by rfl, ?_⟩) (by assumption) ?_
          rotate_left
          · (first | (intro v hSw; (try dsimp only at hSw); go_simp; done) | (intro v hSw; (try dsimp only at hSw); go_simp; with_reducible rfl))
          (try simp only [List.getElem_toArray, List.getElem_cons_succ, List.getElem_cons_zero, Act.put, List.setIfInBounds_toArray, List.set_cons_zero, List.set_cons_succ])
          refine wpAnyH_take (i := 2) (oi := _) (v := ?_) rfl (by kernel_rfl) (by kernel_rfl) (by kernel_rfl) (fun _ _ _ h => h) (Or.inl ⟨by rfl, ?_⟩) (by assumption) ?_
          rotate_left
          · (first | (intro v hSw; (try dsimp only at hSw); go_simp; done) | (intro v hSw; (try dsimp only at hSw); go_simp; with_reducible rfl))
          (try simp only [List.getElem_toArray, List.getElem_cons_succ, List.getElem_cons_zero, Act.put, List.setIfInBounds_toArray, List.set_cons_zero, List.set_cons_succ])
          refine wpAnyH_take (i := 3) (oi := _) (v := ?_) rfl (by kernel_rfl) (by kernel_rfl) (by kernel_rfl) (fun _ _ _ h => h) (Or.inl ⟨by rfl, ?_⟩) (by assumption) ?_
          rotate_left
          · (first | (intro v hSw; (try dsimp only at hSw); go_simp; done) | (intro v hSw; (try dsimp only at hSw); go_simp; with_reducible rfl))
          (try simp only [List.getElem_toArray, List.getElem_cons_succ, List.getElem_cons_zero, Act.put, List.setIfInBounds_toArray, List.set_cons_zero, List.set_cons_succ])
          refine wpAnyH_take (i := 4) (oi := _) (v := ?_) rfl (by kernel_rfl) (by kernel_rfl) (by kernel_rfl) (fun _ _ _ h => h) (Or.inl ⟨by rfl, ?_⟩) (by assumption) ?_
          rotate_left
          · (first | (intro v hSw; (try dsimp only at hSw); go_simp; done) | (intro v hSw; (try dsimp only at hSw); go_simp; with_reducible rfl))
          (try simp only [List.getElem_toArray, List.getElem_cons_succ, List.getElem_cons_zero, Act.put, List.setIfInBounds_toArray, List.set_cons_zero, List.set_cons_succ])
          refine wpAnyH_take (i := 5) (oi := _) (v := ?_) rfl (by kernel_rfl) (by kernel_rfl) (by kernel_rfl) (fun _ _ _ h => h) (Or.inl ⟨by rfl, ?_⟩) (by assumption) ?_
          rotate_left
          · (first | (intro v hSw; (try dsimp only at hSw); go_simp; done) | (intro v hSw; (try dsimp only at hSw); go_simp; with_reducible rfl))
          (try simp only [List.getElem_toArray, List.getElem_cons_succ, List.getElem_cons_zero, Act.put, List.setIfInBounds_toArray, List.set_cons_zero, List.set_cons_succ])
          refine wpAnyH_ready (rs := [6, 7]) (by kernel_rfl) (by simp) ?_
          refine AllReadyH.cons (o := _) rfl (fun K hK => ?_) ?_
          · go_simp
            (refine (HFR.out _).mono ?_)
            rintro e w3 ⟨rfl, h3⟩
            replace Kc := Kc.later h3
            replace xa := xa.later h3
            (try replace xb := xb.later h3)
            refine hK.out _ _ ?_ (fun hHeld => ?_)
            · ((try dsimp only); exact HKP.out _ _ _ Kc)
            clear hK K
            (try simp only [List.getElem_toArray, List.getElem_cons_succ, List.getElem_cons_zero, Act.put, List.setIfInBounds_toArray, List.set_cons_zero, List.set_cons_succ])
            refine wpAnyH_ready (rs := [7]) (by kernel_rfl) (by simp) ?_
            refine AllReadyH.cons (o := _) rfl (fun K hK => ?_) AllReadyH.nil
            go_simp
            have na := Kc.sep xa
            have ya := xa.al (.cells #[.int .i64 q2.1, .int .i64 q2.2] 24)
            replace xa := xa.al (.cells #[.int .i64 0, .int .i64 0] 24)
            have yb := Kc.newbox q2
            have Kb := Kc.al (.cells #[.int .i64 q2.1, .int .i64 q2.2] 24)
            have xb := Kc.newbox (0, 0)
            replace Kc := Kc.al (.cells #[.int .i64 0, .int .i64 0] 24)
            refine hK.out _ _ ?_ (fun hHeld => ?_)
            · ((try dsimp only); exact HKP.out _ _ _ Kc)
            clear hK K
            (try simp only [List.getElem_toArray, List.getElem_cons_succ, List.getElem_cons_zero, Act.put, List.setIfInBounds_toArray, List.set_cons_zero, List.set_cons_succ])
            refine wpAnyH_ready (rs := [8]) (by kernel_rfl) (by simp) ?_
            refine AllReadyH.cons (o := _) rfl (fun K hK => ?_) AllReadyH.nil
            go_simp
            have z0 := xb.at_.c0
            have z1 := xb.at_.c1
            have z2 := xb.at_.f0
            have z3 := xb.at_.f1
            replace xa := xa.keep na q2.1 q2.2
            replace Kc := xb.put Kc q2.1 q2.2
            replace xb := xb.put' q2.1 q2.2
            go_simp
            refine hK.out _ _ ?_ (fun hHeld => ?_)
            · ((try dsimp only); (first | exact HKP.out _ _ _ Kc | exact HKP.out _ _ _ Kb))
            clear hK K
            (try simp only [List.getElem_toArray, List.getElem_cons_succ, List.getElem_cons_zero, Act.put, List.setIfInBounds_toArray, List.set_cons_zero, List.set_cons_succ])
            refine wpAnyH_done (by kernel_rfl) ?_ _
            refine NoPanic.normal ?_
            clear hHeld
            go_wp2_with fail
            go_meet
            (first | exact ⟨_, rfl, Lib.hid ⟨xa, xb, Kc⟩⟩ | exact ⟨_, rfl, Lib.hid ⟨ya, yb, Kb⟩⟩)
          refine AllReadyH.cons (o := _) rfl (fun K hK => ?_) AllReadyH.nil
          go_simp
          have na := Kc.sep xa
          have ya := xa.al (.cells #[.int .i64 q2.1, .int .i64 q2.2] 24)
          replace xa := xa.al (.cells #[.int .i64 0, .int .i64 0] 24)
          have yb := Kc.newbox q2
          have Kb := Kc.al (.cells #[.int .i64 q2.1, .int .i64 q2.2] 24)
          have xb := Kc.newbox (0, 0)
          replace Kc := Kc.al (.cells #[.int .i64 0, .int .i64 0] 24)
          refine hK.out _ _ ?_ (fun hHeld => ?_)
          · ((try dsimp only); exact HKP.out _ _ _ Kc)
          clear hK K
          (try simp only [List.getElem_toArray, List.getElem_cons_succ, List.getElem_cons_zero, Act.put, List.setIfInBounds_toArray, List.set_cons_zero, List.set_cons_succ])
          refine wpAnyH_ready (rs := [6]) (by kernel_rfl) (by simp) ?_
          refine AllReadyH.cons (o := _) rfl (fun K hK => ?_) AllReadyH.nil
          go_simp
          (refine (HFR.out _).mono ?_)
          rintro e w3 ⟨rfl, h3⟩
          replace Kc := Kc.later h3
          replace xa := xa.later h3
          (try replace xb := xb.later h3)
          refine hK.out _ _ ?_ (fun hHeld => ?_)
          · ((try dsimp only); exact HKP.out _ _ _ Kc)
          clear hK K
          (try simp only [List.getElem_toArray, List.getElem_cons_succ, List.getElem_cons_zero, Act.put, List.setIfInBounds_toArray, List.set_cons_zero, List.set_cons_succ])
          refine wpAnyH_ready (rs := [8]) (by kernel_rfl) (by simp) ?_
          refine AllReadyH.cons (o := _) rfl (fun K hK => ?_) AllReadyH.nil
          go_simp
          have z0 := xb.at_.c0
          have z1 := xb.at_.c1
          have z2 := xb.at_.f0
          have z3 := xb.at_.f1
          replace xa := xa.keep na q2.1 q2.2
          replace Kc := xb.put Kc q2.1 q2.2
          replace xb := xb.put' q2.1 q2.2
          go_simp
          refine hK.out _ _ ?_ (fun hHeld => ?_)
          · ((try dsimp only); (first | exact HKP.out _ _ _ Kc | exact HKP.out _ _ _ Kb))
          clear hK K
          (try simp only [List.getElem_toArray, List.getElem_cons_succ, List.getElem_cons_zero, Act.put, List.setIfInBounds_toArray, List.set_cons_zero, List.set_cons_succ])
          refine wpAnyH_done (by kernel_rfl) ?_ _
          refine NoPanic.normal ?_
          clear hHeld
          go_wp2_with fail
          go_meet
          (first | exact ⟨_, rfl, Lib.hid ⟨xa, xb, Kc⟩⟩ | exact ⟨_, rfl, Lib.hid ⟨ya, yb, Kb⟩⟩)
        case rest =>
          obtain ⟨p8, rfl, HB8⟩ := hcut
          clear Kc HB7
          obtain ⟨x7, x8, Kc⟩ := HB8.out
          have HL1 := Lib.hid (fun X => rlen_any q1 X)
          have HL2 := Lib.hid (fun X => rlen_any q2 X)
          have hb1 := (lenI_bd q1).1
          have hb2 := (lenI_bd q2).1
          have HN1 := Lib.hid (fun (h : 0 < lenI q1) => show ne q1 = [q1] from by unfold ne; rw [if_neg (by omega)])
          have HM1 := Lib.hid (fun (h : ¬ 0 < lenI q1) => show ne q1 = [] from by unfold ne; rw [if_pos (by omega)])
          have HN2 := Lib.hid (fun (h : 0 < lenI q2) => show ne q2 = [q2] from by unfold ne; rw [if_neg (by omega)])
          have HM2 := Lib.hid (fun (h : ¬ 0 < lenI q2) => show ne q2 = [] from by unfold ne; rw [if_pos (by omega)])
          generalize lenI q1 = z1 at *
          generalize lenI q2 = z2 at *
          clear HB8 HKP HBL HFR
          have e0 := x7.at_.c0; have e1 := x7.at_.c1
          go_wp2_with fail
          refine (HL1.out _).mono ?_
          rintro e w4 ⟨rfl, h4⟩
          replace Kc := Kc.later h4
          replace x7 := x7.later h4
          replace x8 := x8.later h4
          clear e0 e1 h4
          by_cases g1 : 0 < z1
          · have hq1 := HN1.out g1
            have e0 := x7.at_.c0; have e1 := x7.at_.c1
            have HO := Lib.hid (Kc.al (.cells #[.int .i64 q1.1, .int .i64 q1.2] 24)).own
            have HSRC := Lib.hid (span_src w4 q1)
            have hbs := Kc.sp.lt
            have HKc := Lib.hid (And.intro Kc x8)
            clear Kc x7 x8
            go_wp2_with (at_builtin; refine wpList_append_sz _ rfl (.tmp 36) (.tmp 38) 28 28 rfl (bs + 1) 24 i0 (.agg #[.int .i64 0, .int .i64 0]) 2 16 Try.underlying28 hi hz0 hz1 (by decide) hz2 rfl u5 L.length (spCells L) rfl HO.out _ rfl 1 [.int .i64 q1.1, .int .i64 q1.2] HSRC.out (by unfold maxLen; omega) (by omega) (by simp; omega) ?_)
            intro a5 cap5 w5 ho hg hw
            obtain ⟨Kc, x8⟩ := HKc.out
            have K5 := (Kc.al (.cells #[.int .i64 q1.1, .int .i64 q1.2] 24)).grow (by simp) ho hg
            have y5 := (Kc.al (.cells #[.int .i64 q1.1, .int .i64 q1.2] 24)).box (x8.al _).at_ x8.nown hg
            clear e0 e1 HO HSRC ho hg hw Kc x8 HKc hbs
            have e0 := y5.c0; have e1 := y5.c1
            go_wp2_with fail
            refine (HL2.out _).mono ?_
            rintro e w6 ⟨rfl, h6⟩
            have K6 := K5.later h6
            have y6 := (y5).later h6
            clear e0 e1 h6
            by_cases g2 : 0 < z2
            · have hq := HN2.out g2
              have e0 := y6.c0; have e1 := y6.c1
              have HO := Lib.hid (K6.al (.cells #[.int .i64 q2.1, .int .i64 q2.2] 24)).own
              have HSRC := Lib.hid (span_src w6 q2)
              have hbs := K6.sp.lt
              have HK6 := Lib.hid K6
              clear K6 y6
              go_wp2_with (at_builtin; refine wpList_append_sz _ rfl (.tmp 43) (.tmp 45) 28 28 rfl (bs + 1) 24 i0 (.agg #[.int .i64 0, .int .i64 0]) 2 16 Try.underlying28 hi hz0 hz1 (by decide) hz2 rfl (.slice a5 (L.length + 1) cap5) ((L ++ [q1])).length (spCells ((L ++ [q1]))) rfl HO.out _ rfl 1 [.int .i64 q2.1, .int .i64 q2.2] HSRC.out (by unfold maxLen; (try simp only [List.length_append, List.length_singleton]); omega) (by (try simp only [List.length_append, List.length_singleton]); omega) (by simp; omega) ?_)
              intro a7 cap7 w7 ho hg hw
              have K7 := Lib.hid ((HK6.out.al (.cells #[.int .i64 q2.1, .int .i64 q2.2] 24)).grow (by simp) ho hg)
              rw [show (L ++ [q1]) ++ [q2] = woL (List.take (k + 1) l) s from by rw [HTK1.out, hq1, hq]; simp] at K7
              clear e0 e1 HO HSRC ho hg hw HK6
              go_wp2_with fail
              go_roundw
              case rel => exact ⟨k + 1, by omega, by go_num, K7⟩
              case measure => simp [intOf]; omega
            · have hq := HM2.out (by omega)
              have K7 := Lib.hid K6
              rw [show (L ++ [q1]) = woL (List.take (k + 1) l) s from by rw [HTK1.out, hq1, hq]; simp] at K7
              clear K6 y6
              go_wp2_with fail
              go_roundw
              case rel => exact ⟨k + 1, by omega, by go_num, K7⟩
              case measure => simp [intOf]; omega
          · have hq1 := HM1.out (by omega)
            have y4 := x8.at_
            clear x7 x8
            have e0 := y4.c0; have e1 := y4.c1
            go_wp2_with fail
            refine (HL2.out _).mono ?_
            rintro e w6 ⟨rfl, h6⟩
            have K6 := Kc.later h6
            have y6 := (y4).later h6
            clear e0 e1 h6
            by_cases g2 : 0 < z2
            · have hq := HN2.out g2
              have e0 := y6.c0; have e1 := y6.c1
              have HO := Lib.hid (K6.al (.cells #[.int .i64 q2.1, .int .i64 q2.2] 24)).own
              have HSRC := Lib.hid (span_src w6 q2)
              have hbs := K6.sp.lt
              have HK6 := Lib.hid K6
              clear K6 y6
              go_wp2_with (at_builtin; refine wpList_append_sz _ rfl (.tmp 43) (.tmp 45) 28 28 rfl (bs + 1) 24 i0 (.agg #[.int .i64 0, .int .i64 0]) 2 16 Try.underlying28 hi hz0 hz1 (by decide) hz2 rfl u5 (L).length (spCells (L)) rfl HO.out _ rfl 1 [.int .i64 q2.1, .int .i64 q2.2] HSRC.out (by unfold maxLen; (try simp only [List.length_append, List.length_singleton]); omega) (by (try simp only [List.length_append, List.length_singleton]); omega) (by simp; omega) ?_)
              intro a7 cap7 w7 ho hg hw
              have K7 := Lib.hid ((HK6.out.al (.cells #[.int .i64 q2.1, .int .i64 q2.2] 24)).grow (by simp) ho hg)
              rw [show L ++ [q2] = woL (List.take (k + 1) l) s from by rw [HTK1.out, hq1, hq]; simp] at K7
              clear e0 e1 HO HSRC ho hg hw HK6
              go_wp2_with fail
              go_roundw
              case rel => exact ⟨k + 1, by omega, by go_num, K7⟩
              case measure => simp [intOf]; omega
            · have hq := HM2.out (by omega)
              have K7 := Lib.hid K6
              rw [show L = woL (List.take (k + 1) l) s from by rw [HTK1.out, hq1, hq]; simp] at K7
              clear K6 y6
              go_wp2_with fail
              go_roundw
              case rel => exact ⟨k + 1, by omega, by go_num, K7⟩
              case measure => simp [intOf]; omega
    · obtain rfl : k = n := by omega
      rw [HEN.out] at HK
      obtain ⟨a', cap', rfl, hsl, hob⟩ := sls_of_own HK.out.own
      have hfar : ∀ x, a' = some x → w.heap.size ≤ x.block := fun x hx => by have := (own_in HK.out.own (hob x hx)).2; have := HK.out.ge; omega
      clear hob
      have HF := Lib.hid (show SlS wr a' (woL l s).length cap' (refWo l s) from by rw [HRF.out]; exact hsl)
      have hb := HK.out.below
      clear HC HLS HTK HLE HEN HRF HS HK hsl
      go_wp2
      go_ret
      exact ⟨_, _, _, rfl, HF.out, hb, fun x hx => .inr (hfar x hx)⟩
end Go.Proofs.Ytgjkbejlfclpoaa.rn
