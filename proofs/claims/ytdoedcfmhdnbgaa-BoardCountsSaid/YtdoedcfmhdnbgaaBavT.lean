/-
  Package avl: what a tree does.
-/
import Derived.Test.YtdoedcfmhdnbgaaBavP
namespace Go.Proofs.Ytdoedcfmhdnbgaa.bv
open Go.RowKit aid mem
attribute [local go_sem ↓] Go.wp_at_zero Go.wp_at_succ
set_option linter.unusedVariables false

/-- block b is a tree's, with what lies below it -/
def TrAt (w : World) (b : Nat) (t : T) : Prop := ∃ q, w.heap[b]? = some (.cells #[.pointer q] 94 (0, 0)) ∧ NdAt w q t
theorem TrAt.later {w w' : World} {b : Nat} {t : T} (h : TrAt w b t) (hb : Below w.heap.size w w') : TrAt w' b t := by
  obtain ⟨q, h1, h2⟩ := h
  exact ⟨q, (hb.block b (lt_of_block h1)).trans h1, h2.later hb⟩
theorem TrAt.lt {w : World} {b : Nat} {t : T} (h : TrAt w b t) : b < w.heap.size := by obtain ⟨q, h1, _⟩ := h; exact lt_of_block h1
/-- a tree that is not the one that was written stays as it was -/
theorem TrAt.keep {w w' : World} {b c : Nat} {t u : T} (h : TrAt w b t) (hc : TrAt w c u) (hk : Kept [c] w w') (hn : b ≠ c) : TrAt w' b t := by
  obtain ⟨q, h1, h2⟩ := h
  obtain ⟨q', h3, _⟩ := hc
  refine ⟨q, hk.heap (by simpa using hn) h1, h2.keepT (fun x cs hx => ?_)⟩
  refine hk.block x (lt_of_block hx) ?_
  simp only [List.mem_singleton]
  rintro rfl
  rw [h3] at hx
  simp at hx
/-- where a pointer leads: to a tree; or it is none -/
def TrO (w : World) (p : Option Addr) (t : T) : Prop := (p = none ∧ t = .nil) ∨ ∃ b, p = some ⟨b, 0, none⟩ ∧ TrAt w b t
theorem TrAt.o {w : World} {b : Nat} {t : T} (h : TrAt w b t) : TrO w (some ⟨b, 0, none⟩) t := .inr ⟨b, rfl, h⟩
theorem trO_none (w : World) : TrO w none .nil := .inl ⟨rfl, rfl⟩

theorem top_any {w : World} {p : Option Addr} {t : T} (h : TrO w p t) : Calls Try.prog 62 #[.pointer p] w fun e w' => ∃ q, e = .returned (.pointer q) ∧ NdAt w q t ∧ w = w' := by
  rcases h with ⟨rfl, rfl⟩ | ⟨b, rfl, q, h1, h2⟩
  · go_enter Try.func62, Try.ntmps62
    go_wp2
    go_ret
    exact ⟨none, rfl, rfl, rfl⟩
  · have c0 : w.cell? ⟨b, 0, none⟩ = some (.pointer q) := (cell_of_row w b 0 _ _ (0, 0) h1).trans rfl
    have HN := Lib.hid h2
    clear h2
    go_enter Try.func62, Try.ntmps62
    go_wp2
    go_ret
    exact ⟨q, rfl, HN.out, rfl⟩

theorem new_any (w : World) : Calls Try.prog 51 #[] w fun e w' => e = .returned (.pointer (some ⟨w.heap.size, 0, none⟩)) ∧ TrAt w' w.heap.size .nil ∧ Below w.heap.size w w' := by
  have h1 : TrAt (w.alloc (.cells #[.pointer none] 94)) w.heap.size .nil := ⟨none, heap_alloc_new w _, rfl⟩
  have H1 := Lib.hid h1
  clear h1
  go_enter Try.func51, Try.ntmps51
  go_wp2
  go_ret
  exact ⟨rfl, H1.out, bal' _⟩

theorem tlen_any {w : World} {p : Option Addr} {t : T} (h : TrO w p t) : Calls Try.prog 44 #[.pointer p] w fun e w' => e = .returned (.int .i64 (t.size : Int)) ∧ w = w' := by
  have H := Lib.hid h
  clear h
  go_enter Try.func44, Try.ntmps44
  go_wp2_with (first
    | (go_at_call 62; (with_reducible refine (top_any H.out).mono ?_); rintro e w' ⟨q, rfl, hq, rfl⟩)
    | (go_at_call 65; (with_reducible refine (count_any hq).mono ?_); rintro e w' ⟨rfl, rfl⟩))
  go_ret
  exact ⟨rfl, rfl⟩
/-- a tree's root is set -/
theorem set_root {w : World} {b : Nat} {q q' : Option Addr} {t' : T} (h : w.heap[b]? = some (.cells #[.pointer q] 94 (0, 0))) (hq : NdAt w q' t') : TrAt (w.setCell ⟨b, 0, none⟩ (.pointer q')) b t' := by
  refine ⟨q', (heap_setCell_same _ b 0 _ _ _ h).trans rfl, hq.keepT (fun x cs hx => ?_)⟩
  refine Below.heap_setCell w ⟨b, 0, none⟩ _ x ?_
  rintro rfl
  rw [h] at hx
  simp at hx

theorem kset1 (w : World) (b : Nat) (u : Value) : Kept [b] w (w.setCell ⟨b, 0, none⟩ u) := (Kept.refl [b] w).setCell (.inl (by simp)) u
set_option maxRecDepth 100000 in
set_option maxHeartbeats 4000000 in
theorem put_any {w : World} {b : Nat} {t : T} (k : Int) (v : Vt) (h : TrAt w b t) (hs : t.size ≤ 900000) :
    Calls Try.prog 59 #[.pointer (some ⟨b, 0, none⟩), .int .i64 k, .agg #[.int .i64 v.1, .int .i64 v.2]] w fun e w' => e = .returned (.bool (decide (t.size < (T.ins k v t).size))) ∧ TrAt w' b (T.ins k v t) ∧ Kept [b] w w' := by
  obtain ⟨q, h1, h2⟩ := h
  have bb := bal' (w := w) (.cells #[.int .i64 v.1, .int .i64 v.2] 24)
  have bx := box_sp w v
  have hbl := lt_of_block h1
  have hbn : w.heap.size ∉ [b] := by simp; omega
  have h1' := (bb.block _ hbl).trans h1
  have h2' := h2.later bb
  generalize hWd : w.alloc (.cells #[.int .i64 v.1, .int .i64 v.2] 24) = w0 at *
  have x0 : w0.drew.cell? ⟨w.heap.size, 0, none⟩ = _ := bx.1
  have x1 : w0.drew.cell? ⟨w.heap.size, 1, none⟩ = _ := bx.2
  have c0 : w0.drew.cell? ⟨b, 0, none⟩ = some (.pointer q) := (cell_of_row w0 b 0 _ _ (0, 0) h1').trans rfl
  have HT : Hid (TrO w0 (some ⟨b, 0, none⟩) t) := Lib.hid (TrAt.o ⟨q, h1', h2'⟩)
  have HW := Lib.hid (with_any k v t h2'.drew hs)
  have H1 := Lib.hid (show w0.drew.heap[b]? = _ from h1')
  have HB := Lib.hid bb.drew
  generalize T.ins k v t = t' at *
  clear h1 h2 h1' h2' bb bx
  subst hWd
  go_enter Try.func59, Try.ntmps59
  go_wp2_with fail
  refine (tlen_any HT.out).mono ?_
  rintro e w' ⟨rfl, rfl⟩
  go_wp2_with fail
  refine wp_region_noPanic ?_
  refine wp_region_held_drew (S := (fun w' => w'.cell? ⟨w.heap.size, 0, none⟩ = some (.int .i64 v.1) ∧ w'.cell? ⟨w.heap.size, 1, none⟩ = some (.int .i64 v.2))) (by kernel_rfl) ?_ (fun hHeld => ?_)
  · ((try dsimp only); exact ⟨x0, x1⟩)
  refine wpAnyH_take (i := 0) (oi := _) (v := ?_) rfl (by kernel_rfl) (by kernel_rfl) (by kernel_rfl) (fun _ _ _ h => h) (Or.inl ⟨by rfl, ?_⟩) (by assumption) ?_
  rotate_left
  · (first | (intro v hSw; (try dsimp only at hSw); go_simp; done) | (intro v hSw; (try dsimp only at hSw); go_simp; with_reducible rfl))
  refine wpAnyH_take (i := 1) (oi := _) (v := ?_) rfl (by kernel_rfl) (by kernel_rfl) (by kernel_rfl) (fun _ _ _ h => h) (Or.inl ⟨by rfl, ?_⟩) (by assumption) ?_
  rotate_left
  · (first | (intro v hSw; (try dsimp only at hSw); go_simp; done) | (intro v hSw; (try dsimp only at hSw); go_simp; with_reducible rfl))
  refine wpAnyH_take (i := 2) (oi := _) (v := ?_) rfl (by kernel_rfl) (by kernel_rfl) (by kernel_rfl) (fun _ _ _ h => h) (Or.inl ⟨by rfl, ?_⟩) (by assumption) ?_
  rotate_left
  · (first | (intro v hSw; (try dsimp only at hSw); go_simp; done) | (intro v hSw; (try dsimp only at hSw); go_simp; with_reducible rfl))
  refine wpAnyH_take (i := 3) (oi := _) (v := ?_) rfl (by kernel_rfl) (by kernel_rfl) (by kernel_rfl) (fun _ _ _ h => h) (Or.inl ⟨by rfl, ?_⟩) (by assumption) ?_
  rotate_left
  · (first | (intro v hSw; (try dsimp only at hSw); go_simp; done) | (intro v hSw; (try dsimp only at hSw); go_simp; with_reducible rfl))
  refine wpAnyH_take (i := 5) (oi := _) (v := ?_) rfl (by kernel_rfl) (by kernel_rfl) (by kernel_rfl) (fun _ _ _ h => h) (Or.inl ⟨by rfl, ?_⟩) (by assumption) ?_
  rotate_left
  · (first | (intro v hSw; (try dsimp only at hSw); go_simp; done) | (intro v hSw; (try dsimp only at hSw); go_simp; with_reducible rfl))
  refine wpAnyH_take (i := 6) (oi := _) (v := ?_) rfl (by kernel_rfl) (by kernel_rfl) (by kernel_rfl) (fun _ _ _ h => h) (Or.inl ⟨by rfl, ?_⟩) (by assumption) ?_
  rotate_left
  · (first | (intro v hSw; (try dsimp only at hSw); go_simp; done) | (intro v hSw; (try dsimp only at hSw); go_simp; with_reducible rfl))
  refine wpAnyH_ready (rs := [4]) (by kernel_rfl) (by simp) ?_
  refine AllReadyH.cons (o := _) rfl (fun K hK => ?_) ?_
  · go_simp
    refine hK.out _ _ ?_ (fun hHeld => ?_)
    · ((try dsimp only); exact ⟨x0, x1⟩)
    clear hK K
    refine wpAnyH_ready (rs := [7]) (by kernel_rfl) (by simp) ?_
    refine AllReadyH.cons (o := _) rfl (fun K hK => ?_) ?_
    · go_simp
      (refine HW.out.mono ?_)
      rintro e w1 ⟨q', rfl, hq', hb⟩
      have d1 := ck hb c0
      have y0 := ck hb x0
      have y1 := ck hb x1
      have H2 := Lib.hid ((hb.block b (lt_of_block H1.out)).trans H1.out)
      have g1 : w1.frozen? ⟨b, 0, none⟩ = false := (by simp [World.frozen?, H2.out])
      have HN := Lib.hid (set_root H2.out hq')
      clear hq'
      refine hK.out _ _ ?_ (fun hHeld => ?_)
      · ((try dsimp only); exact ⟨y0, y1⟩)
      clear hK K
      refine wpAnyH_take (i := 8) (oi := _) (v := ?_) rfl (by kernel_rfl) (by kernel_rfl) (by kernel_rfl) (fun _ _ _ h => h) (Or.inl ⟨by rfl, ?_⟩) (by assumption) ?_
      rotate_left
      · (first | (intro v hSw; (try dsimp only at hSw); go_simp; done) | (intro v hSw; (try dsimp only at hSw); go_simp; with_reducible rfl))
      refine wpAnyH_take (i := 9) (oi := _) (v := ?_) rfl (by kernel_rfl) (by kernel_rfl) (by kernel_rfl) (fun _ _ _ h => h) (Or.inl ⟨by rfl, ?_⟩) (by assumption) ?_
      rotate_left
      · (first | (intro v hSw; (try dsimp only at hSw); go_simp; done) | (intro v hSw; (try dsimp only at hSw); go_simp; with_reducible rfl))
      refine wpAnyH_ready (rs := [10]) (by kernel_rfl) (by simp) ?_
      refine AllReadyH.cons (o := _) rfl (fun K hK => ?_) ?_
      · go_simp
        refine hK.out _ _ ?_ (fun hHeld => ?_)
        · ((try dsimp only); exact ⟨(kset1 w1 b _).cell hbn y0, (kset1 w1 b _).cell hbn y1⟩)
        clear hK K
        refine wpAnyH_done (by kernel_rfl) ?_ _
        refine NoPanic.normal ?_
        go_wp2_with (go_at_call 44; (with_reducible refine (tlen_any HN.out.o).mono ?_); rintro e w' ⟨rfl, rfl⟩)
        go_ret
        exact ⟨ret_b (by simp), HN.out, ((Kept.of_below (HB.out.trans (hb.mono HB.out.size)) (Nat.le_refl _) [b]).trans (kset1 w1 b _) (by simp))⟩
      exact AllReadyH.nil
    exact AllReadyH.nil
  exact AllReadyH.nil

set_option maxHeartbeats 1000000 in
theorem delete_any {w : World} {b : Nat} {t : T} (k : Int) (h : TrAt w b t) (hs : t.size ≤ 900000) :
    Calls Try.prog 58 #[.pointer (some ⟨b, 0, none⟩), .int .i64 k] w fun e w' => e = .returned (.bool (decide ((T.del k t).size < t.size))) ∧ TrAt w' b (T.del k t) ∧ Kept [b] w w' := by
  obtain ⟨q, h1, h2⟩ := h
  have c0 : w.cell? ⟨b, 0, none⟩ = some (.pointer q) := (cell_of_row w b 0 _ _ (0, 0) h1).trans rfl
  have HT : Hid (TrO w (some ⟨b, 0, none⟩) t) := Lib.hid (TrAt.o ⟨q, h1, h2⟩)
  have HW := Lib.hid (without_any t k h2 hs)
  have H1 := Lib.hid h1
  generalize T.del k t = t' at *
  clear h1 h2
  go_enter Try.func58, Try.ntmps58
  go_wp2_with (first
    | (go_at_call 44; (with_reducible refine (tlen_any HT.out).mono ?_); rintro e w' ⟨rfl, rfl⟩)
    | (go_at_call 78; (with_reducible refine HW.out.mono ?_); rintro e w1 ⟨q', rfl, hq', hb⟩; have d1 := ck hb c0; have H2 := Lib.hid ((hb.block b (lt_of_block H1.out)).trans H1.out); have g1 : w1.frozen? ⟨b, 0, none⟩ = false := (by simp [World.frozen?, H2.out]); have HN := Lib.hid (set_root H2.out hq'); clear hq' c0)
    | (go_at_call 44; (with_reducible refine (tlen_any HN.out.o).mono ?_); rintro e w' ⟨rfl, rfl⟩))
  go_ret
  exact ⟨ret_b (by simp), HN.out, ((Kept.of_below hb (Nat.le_refl _) [b]).trans ((Kept.refl [b] w1).setCell (.inl (by simp)) _) (by simp))⟩

theorem put_none (w : World) (k : Int) (v : Vt) : Calls Try.prog 59 #[.pointer none, .int .i64 k, .agg #[.int .i64 v.1, .int .i64 v.2]] w fun e w' => e = .returned (.bool false) ∧ Below w.heap.size w w' := by
  go_enter Try.func59, Try.ntmps59
  go_wp2_with fail
  go_ret
  exact ⟨rfl, bal' _⟩
theorem delete_none (w : World) (k : Int) : Calls Try.prog 58 #[.pointer none, .int .i64 k] w fun e w' => e = .returned (.bool false) ∧ w = w' := by
  go_enter Try.func58, Try.ntmps58
  go_wp2_with fail
  go_ret
  exact ⟨rfl, rfl⟩
theorem clone_none (w : World) : Calls Try.prog 68 #[.pointer none] w fun e w' => e = .returned (.pointer none) ∧ w = w' := by
  go_enter Try.func68, Try.ntmps68
  go_wp2_with fail
  go_ret
  exact ⟨rfl, rfl⟩
theorem clone_any {w : World} {b : Nat} {t : T} (h : TrAt w b t) : Calls Try.prog 68 #[.pointer (some ⟨b, 0, none⟩)] w fun e w' => e = .returned (.pointer (some ⟨w.heap.size, 0, none⟩)) ∧ TrAt w' w.heap.size t ∧ Below w.heap.size w w' := by
  obtain ⟨q, h1, h2⟩ := h
  have c0 : w.cell? ⟨b, 0, none⟩ = some (.pointer q) := (cell_of_row w b 0 _ _ (0, 0) h1).trans rfl
  have HN : Hid (TrAt (w.alloc (.cells #[.pointer q] 94)) w.heap.size t) := Lib.hid ⟨q, heap_alloc_new w _, h2.later (bal' _)⟩
  clear h1 h2
  go_enter Try.func68, Try.ntmps68
  go_wp2_with fail
  go_ret
  exact ⟨rfl, HN.out, bal' _⟩

/-- a node of the bigger or none: a node (floor, ceil) -/
def RetNB (o : Option (Int × Vt)) (w : World) (e : Ending) (w' : World) : Prop := ∃ q, e = .returned (.pointer q) ∧ NodeOf w' q o ∧ Below w.heap.size w w'

set_option maxRecDepth 100000 in
set_option maxHeartbeats 4000000 in
theorem floor_any {t : T} {p : Option Addr} {w : World} (h : NdAt w p t) (key : Int) (hu : T.Up t.toL) :
    Calls Try.prog 87 #[.pointer p, .int .i64 key] w (RetNB (flL t.toL key) w) := by
  have HN := Lib.hid h
  have HU := Lib.hid hu
  obtain ⟨o, ho⟩ : ∃ o, o = flL t.toL key := ⟨_, rfl⟩
  rw [← ho]
  have HO : Hid (o = (flL t.toL key).or none) := Lib.hid (by rw [ho]; simp)
  clear ho h hu
  go_enter Try.func87, Try.ntmps87
  go_wp2
  go_loopg [0, 5] t.size (fun n s0 s5 wr => ∃ (t' : T) (p' q' : Option Addr) (o' : Option (Int × Vt)), s0 = .pointer p' ∧ s5 = .pointer q' ∧ t'.size = n ∧ NdAt wr p' t' ∧ NodeOf wr q' o' ∧ Hid (T.Up t'.toL) ∧ Hid (o = (flL t'.toL key).or o') ∧ Below w.heap.size w wr)
  case atStart => exact ⟨t, p, none, none, rfl, rfl, rfl, HN.out, rfl, HU, HO, Below.refl _ _⟩
  case round =>
    clear HN HO HU
    obtain ⟨t', p', q', o', rfl, rfl, rfl, hn, hq, HU, HO, hB⟩ := hrel
    cases t' with
    | nil =>
      obtain rfl : p' = none := hn
      have HQ := Lib.hid hq
      clear hq
      go_wp2
      go_ret
      exact ⟨q', rfl, by rw [HO.out]; exact HQ.out, hB⟩
    | node l k v r =>
      obtain ⟨b, pl, pr, rfl, hb, hl, hr⟩ := hn
      obtain ⟨c0, c1, c2, c3, _, _⟩ := cs_of hb
      have HL := Lib.hid hl
      have HR := Lib.hid hr
      have HQ := Lib.hid hq
      have hup := T.up_node.1 HU.out
      have HUL := Lib.hid hup.1
      have HUR := Lib.hid hup.2.1
      clear hup
      have HA := Lib.hid (show key < k → flL (T.node l k v r).toL key = flL l.toL key from fun hk => fl_hi HU.out hk)
      have HB := Lib.hid (show k ≤ key → flL (T.node l k v r).toL key = (flL r.toL key).or (some (k, v)) from fun hk => fl_lo hk)
      have HZ : Hid ((T.node l k v r).size = l.size + 1 + r.size) := Lib.hid rfl
      clear hb hl hr hq
      by_cases hk : key < k
      · have HE := Lib.hid (HA.out hk)
        go_wp2
        go_roundg l.size
        case measure => rw [HZ.out]; omega
        case rel => exact ⟨l, pl, q', o', rfl, rfl, rfl, HL.out, HQ.out, HUL, Lib.hid (by rw [HO.out, HE.out]), hB⟩
      · have HE := Lib.hid (HB.out (by omega))
        go_wp2
        go_quiet (fail)
        go_wp2
        have hb2 := below_drewN wr nq
        go_roundg r.size
        case measure => rw [HZ.out]; omega
        case rel => exact ⟨r, pr, some ⟨b, 0, none⟩, some (k, v), rfl, rfl, rfl, HR.out.later hb2, ⟨b, rfl, ck hb2 c0, ck2 hb2 c1⟩, HUR, Lib.hid (by rw [HO.out, HE.out]; cases flL r.toL key <;> rfl), hB.trans (hb2.mono hB.size)⟩

end Go.Proofs.Ytdoedcfmhdnbgaa.bv
