/-
  Alarms: the queue's put, Swap, Less, Len.
-/
import Derived.Test.YtnioaaahkhephaaAlmW
namespace Go.Proofs.Ytnioaaahkhephaa.al
open Go.RowKit Go.Maps aid mem
attribute [local go_sem ↓] Go.wp_at_zero Go.wp_at_succ
set_option linter.unusedVariables false
set_option linter.unusedSimpArgs false

theorem cofr {w : World} {B : Nat} {cs : Array Value} {t : TypeId} (h : w.heap[B]? = some (.cells cs t (0, 0))) (i : Nat) (v : Value) (hv : cs[i]? = some v) : w.cell? ⟨B, i, none⟩ = some v := (cell_of_row w B i _ _ (0, 0) h).trans hv
theorem fofr {w : World} {B : Nat} {cs : Array Value} {t : TypeId} (h : w.heap[B]? = some (.cells cs t (0, 0))) (i : Nat) : w.frozen? ⟨B, i, none⟩ = false := by simp [World.frozen?, h]
theorem bal {w : World} (o : Obj) : Below w.heap.size w (w.alloc o) := (Below.refl _ _).alloc (Nat.le_refl _) _
theorem kset (w : World) (p : Addr) (u : Value) : Kept [p.block] w (w.setCell p u) := (Kept.refl _ w).setCell (.inl (by simp)) u
def blkV (v : Value) : List Nat := v.ownBlock.toList
theorem blkV_some {b n cap : Nat} : blkV (.slice (some ⟨b, 0, none⟩) n cap) = [b] := rfl
/-- a clock with its alarms -/
structure QAt (w : World) (C : Nat) (nm now : Int) (v : Value) (bm : Nat) (l : List Al) (D : DataW Unit) : Prop where
  hdr : w.heap[C]? = some (.cells #[.int .i64 nm, .int .i64 now, v, .map (some bm)] 62 (0, 0))
  row : PRow w 71 v l
  map : MapAt w bm (Maps.size D) D
section
variable {w w' : World} {C : Nat} {nm now : Int} {v : Value} {bm : Nat} {l : List Al} {D : DataW Unit}
theorem QAt.keep (h : QAt w C nm now v bm l D) {S : List Nat} (hk : Kept S w w') (h1 : C ∉ S) (h2 : bm ∉ S) (h3 : ∀ k ∈ blkV v, k ∉ S) : QAt w' C nm now v bm l D :=
  ⟨hk.heap h1 h.hdr, h.row.step (fun k o hk' ho => hk.heap (h3 k (by unfold blkV; rw [hk']; simp)) ho), map_block h.map (fun o ho => hk.heap h2 ho)⟩
theorem QAt.later (h : QAt w C nm now v bm l D) (hb : Below w.heap.size w w') : QAt w' C nm now v bm l D :=
  h.keep (S := []) (Kept.of_below hb (Nat.le_refl _) []) (by simp) (by simp) (by simp)
theorem QAt.bm_lt (h : QAt w C nm now v bm l D) : bm < w.heap.size := h.map.lt
theorem QAt.ne1 (h : QAt w C nm now v bm l D) : bm ≠ C := fun e => map_no_cells h.map (by rw [e]; exact h.hdr)
theorem QAt.own_ne (h : QAt w C nm now v bm l D) {b : Nat} (hb : b ∈ blkV v) : b ≠ C ∧ b ≠ bm ∧ b < w.heap.size := by
  have hv : v.ownBlock = some b := by unfold blkV at hb; revert hb; cases v.ownBlock <;> simp; exact fun e => e.symm
  rcases h.row.2 with ⟨rfl, _⟩ | ⟨b', cap, cur, rfl, _, hg, _⟩
  · cases hv
  · cases hv
    refine ⟨fun e => ?_, fun e => map_no_cells h.map (by rw [← e]; exact hg), lt_of_block hg⟩
    have hh := h.hdr
    rw [← e] at hh
    simp only at hh hg
    have := hg.symm.trans hh
    injection this with this
    injection this with _ this
    exact absurd this (by decide)
theorem QAt.read (h : QAt w C nm now v bm l D) {i : Nat} (hi : i < l.length) : ∃ b cap, v = .slice (some ⟨b, 0, none⟩) l.length cap ∧ l.length ≤ cap ∧ cap ≤ maxLen ∧
    (∀ k, k < l.length → w.cell? ⟨b, k * 2, none⟩ = some (.int .i64 (g l k).1) ∧ w.cell? ⟨b, k * 2 + 1, none⟩ = some (.int .i64 (g l k).2)) ∧ (∀ k, w.frozen? ⟨b, k, none⟩ = false) ∧ b ≠ C ∧ b ≠ bm ∧ b < w.heap.size := by
  obtain ⟨b, cap, rfl, h1, h2, _, h3, h4⟩ := h.row.read hi
  obtain ⟨n1, n2, n3⟩ := h.own_ne (b := b) (by rw [blkV_some]; simp)
  exact ⟨b, cap, rfl, h1, h2, h3, h4, n1, n2, n3⟩
theorem QAt.put {b n cap : Nat} (h : QAt w C nm now (.slice (some ⟨b, 0, none⟩) n cap) bm l D) {i : Nat} (hi : i < l.length) (a : Al) :
    QAt ((w.setCell ⟨b, i * 2, none⟩ (.int .i64 a.1)).setCell ⟨b, i * 2 + 1, none⟩ (.int .i64 a.2)) C nm now (.slice (some ⟨b, 0, none⟩) n cap) bm (l.set i a) D ∧ Kept [b] w ((w.setCell ⟨b, i * 2, none⟩ (.int .i64 a.1)).setCell ⟨b, i * 2 + 1, none⟩ (.int .i64 a.2)) := by
  have k : Kept [b] w ((w.setCell ⟨b, i * 2, none⟩ (.int .i64 a.1)).setCell ⟨b, i * 2 + 1, none⟩ (.int .i64 a.2)) := ((Kept.refl [b] w).setCell (.inl (by simp)) _).setCell (.inl (by simp)) _
  obtain ⟨n1, n2, n3⟩ := h.own_ne (b := b) (by rw [blkV_some]; simp)
  exact ⟨⟨k.heap (by simpa using n1.symm) h.hdr, h.row.set hi a, map_block h.map (fun o ho => k.heap (by simpa using n2.symm) ho)⟩, k⟩
theorem QAt.put2 {b n cap : Nat} (h : QAt w C nm now (.slice (some ⟨b, 0, none⟩) n cap) bm l D) {i : Nat} (hi : i < l.length) (t : Int) :
    QAt (w.setCell ⟨b, i * 2 + 1, none⟩ (.int .i64 t)) C nm now (.slice (some ⟨b, 0, none⟩) n cap) bm (l.set i ((g l i).1, t)) D ∧ Kept [b] w (w.setCell ⟨b, i * 2 + 1, none⟩ (.int .i64 t)) := by
  have k : Kept [b] w (w.setCell ⟨b, i * 2 + 1, none⟩ (.int .i64 t)) := (Kept.refl [b] w).setCell (.inl (by simp)) _
  obtain ⟨n1, n2, n3⟩ := h.own_ne (b := b) (by rw [blkV_some]; simp)
  exact ⟨⟨k.heap (by simpa using n1.symm) h.hdr, h.row.set2 hi t, map_block h.map (fun o ho => k.heap (by simpa using n2.symm) ho)⟩, k⟩
/-- a store into the map -/
theorem QAt.store (h : QAt w C nm now v bm l D) (hD : Maps.size D ≤ 1000000) (key : Int) (i : Nat) (hk : -9223372036854775808 ≤ key ∧ key ≤ 9223372036854775807) (hi : i ≤ 1000000000) :
    ∃ w', (Instr.mapUpdate 57 (.map (some bm)) (.int .i64 key) (.int .i64 i)).run Try.prog w = .ok () w' ∧ QAt w' C nm now v bm l (D.put (kl key) (pl i)) ∧ Kept [bm] w w' := by
  obtain ⟨w', hrun, r1, r2⟩ := h.map.update keyed Try.underlying57 (by unfold maxLen; omega) (keyOf_int_mk Try.underlying3 (q := .i64) (a := key) (WalkArith.wf_i64 hk)) (plainElem_int Try.underlying3 (q := .i64) (a := (i : Int)) (WalkArith.wf_i64 (by omega)))
  have k : Kept [bm] w w' := (Kept.refl [bm] w).grown r2 (fun k hk => .inl (by cases hk; simp))
  refine ⟨w', hrun, ⟨k.heap (by simpa using h.ne1.symm) h.hdr, h.row.step (fun k' o hk' ho => k.heap (by
    have := (h.own_ne (b := k') (by unfold blkV; rw [hk']; simp)).2.1
    simpa using this) ho), map_tight r1⟩, k⟩
end
def PutPost (C : Nat) (nm now : Int) (v : Value) (bm : Nat) (l : List Al) (D : DataW Unit) (w : World) (e : Ending) (w' : World) : Prop :=
  e = .returned (.tuple #[]) ∧ QAt w' C nm now v bm l D ∧ Kept (bm :: blkV v) w w'
set_option maxRecDepth 100000 in
set_option maxHeartbeats 4000000 in
theorem put_any {w : World} {C : Nat} {nm now : Int} {v : Value} {bm : Nat} {l : List Al} {D : DataW Unit} (h : QAt w C nm now v bm l D) {i : Nat} (hi : i < l.length) (hl : l.length ≤ 100000) (hD : Maps.size D ≤ 100000) (a : Al)
    (ha : -9223372036854775808 ≤ a.1 ∧ a.1 ≤ 9223372036854775807) :
    Calls Try.prog 59 #[.pointer (some ⟨C, 2, none⟩), .int .i64 i, .agg #[.int .i64 a.1, .int .i64 a.2]] w (PutPost C nm now v bm (l.set i a) (D.put (kl a.1) (pl i)) w) := by
  obtain ⟨b, cap, rfl, hlc, hcm, hce, hfr, n1, n2, n3⟩ := h.read hi
  have b1 := bal (w := w) (.cells #[.int .i64 a.1, .int .i64 a.2] 71)
  have x1 := heap_alloc_new w (.cells #[.int .i64 a.1, .int .i64 a.2] 71)
  have h1 := h.later b1
  have hc2 := cofr h1.hdr 2 _ rfl
  have e0 := cofr x1 0 _ rfl
  have e1 := cofr x1 1 _ rfl
  obtain ⟨c0, c1⟩ := hce i hi
  have k0 := (b1.cell (World.block_lt_of_cell? w _ c0)).trans c0
  have k1 := (b1.cell (World.block_lt_of_cell? w _ c1)).trans c1
  have f0 : ∀ k, (w.alloc (.cells #[.int .i64 a.1, .int .i64 a.2] 71)).frozen? ⟨b, k, none⟩ = false := fun k => by
    obtain ⟨b', cap', hv, _, _, _, h4, _⟩ := h1.read hi
    injection hv with hv; injection hv with hv; injection hv with hv; subst hv; exact h4 k
  unfold maxLen at hcm
  have g0 := f0 (i * 2)
  have g1 := f0 (i * 2 + 1)
  have g2 := hfr (i * 2)
  have g3 := hfr (i * 2 + 1)
  have HH := Lib.hid (And.intro h1 (And.intro b1 x1))
  have HQ := Lib.hid (And.intro h hD)
  clear h h1 hce hfr b1 x1 f0
  go_enter Try.func59, Try.ntmps59
  go_wp2_with fail
  go_region
  obtain ⟨h1, b1, x1⟩ := HH.out
  obtain ⟨h, hb⟩ := HQ.out
  obtain ⟨q1, q2⟩ := h.put hi a
  generalize hW1 : ((w.setCell ⟨b, i * 2, none⟩ (.int .i64 a.1)).setCell ⟨b, i * 2 + 1, none⟩ (.int .i64 a.2)) = W1 at *
  have hz : W1.heap.size = w.heap.size := by rw [← hW1]; simp
  have b2 := (bal (w := W1) (.cells #[.int .i64 a.1, .int .i64 a.2] 71)).drew
  have x2 := heap_alloc_new W1 (.cells #[.int .i64 a.1, .int .i64 a.2] 71)
  rw [hz] at x2
  have Q2 := q1.later b2
  have K2 : Kept (bm :: [b]) w (W1.alloc (.cells #[.int .i64 a.1, .int .i64 a.2] 71)).drew := (q2.mono (S' := bm :: [b]) (fun k hk => .inl (by simp at hk; simp [hk]))).trans (Kept.of_below b2 (Nat.le_refl _) (bm :: [b])) (fun _ h => .inl h)
  have x2' : (W1.alloc (.cells #[.int .i64 a.1, .int .i64 a.2] 71)).drew.heap[w.heap.size]? = some (.cells #[.int .i64 a.1, .int .i64 a.2] 71 (0, 0)) := x2
  generalize (W1.alloc (.cells #[.int .i64 a.1, .int .i64 a.2] 71)).drew = W2 at *
  have Q3 := Q2.later (Below.refl _ _).drew
  obtain ⟨w', hrun, Q4, K4⟩ := Q3.store (by omega) a.1 i ha (by omega)
  have d3 := cofr Q2.hdr 3 _ rfl
  have e0 := cofr x2' 0 _ rfl
  have e1 := cofr x2' 1 _ rfl
  have HF := Lib.hid (show PutPost C nm now (.slice (some ⟨b, 0, none⟩) l.length cap) bm (l.set i a) (D.put (kl a.1) (pl i)) w (.returned (.tuple #[])) w' from
    ⟨rfl, Q4, (K2.trans (Kept.of_below (Below.refl _ W2).drew (Nat.le_refl _) (bm :: [b])) (fun _ h => .inl h)).trans K4 (fun k hk => .inl (by simp at hk; simp [hk]))⟩)
  clear HH HQ h hb h1 b1 x1 q1 q2 hW1 hz b2 x2 Q2 K2 Q3 Q4 K4 x2'
  go_wp2_with fail
  go_region
  go_wp2_with fail
  go_end0
  exact HF.out
/-- two boxes -/
def Two (C : Nat) (nm now : Int) (v : Value) (bm : Nat) (l : List Al) (D : DataW Unit) (w : World) (x y : Al) (bx bY : Nat) (W : World) : Prop :=
  QAt W C nm now v bm l D ∧ W.heap[bx]? = some (.cells #[.int .i64 x.1, .int .i64 x.2] 71 (0, 0)) ∧ W.heap[bY]? = some (.cells #[.int .i64 y.1, .int .i64 y.2] 71 (0, 0)) ∧ Below w.heap.size w W ∧ w.heap.size ≤ bx ∧ w.heap.size ≤ bY
theorem two_boxes {w : World} {C : Nat} {nm now : Int} {v : Value} {bm : Nat} {l : List Al} {D : DataW Unit} (h : QAt w C nm now v bm l D) (x y : Al) :
    Two C nm now v bm l D w x y w.heap.size (w.heap.size + 1) ((w.alloc (.cells #[.int .i64 x.1, .int .i64 x.2] 71)).alloc (.cells #[.int .i64 y.1, .int .i64 y.2] 71)).drew ∧
    Two C nm now v bm l D w y x (w.heap.size + 1) w.heap.size ((w.alloc (.cells #[.int .i64 x.1, .int .i64 x.2] 71)).alloc (.cells #[.int .i64 y.1, .int .i64 y.2] 71)).drew := by
  have b1 := bal (w := w) (.cells #[.int .i64 x.1, .int .i64 x.2] 71)
  have x1 := heap_alloc_new w (.cells #[.int .i64 x.1, .int .i64 x.2] 71)
  have hz : (w.alloc (.cells #[.int .i64 x.1, .int .i64 x.2] 71)).heap.size = w.heap.size + 1 := by simp
  have b2 := (bal (w := w.alloc (.cells #[.int .i64 x.1, .int .i64 x.2] 71)) (.cells #[.int .i64 y.1, .int .i64 y.2] 71)).drew
  have y2 := heap_alloc_new (w.alloc (.cells #[.int .i64 x.1, .int .i64 x.2] 71)) (.cells #[.int .i64 y.1, .int .i64 y.2] 71)
  rw [hz] at y2
  have x2 := (b2.block _ (lt_of_block x1)).trans x1
  have q := (h.later b1).later b2
  have hb := b1.trans (b2.mono b1.size)
  exact ⟨⟨q, x2, y2, hb, Nat.le_refl _, Nat.le_succ _⟩, ⟨q, y2, x2, hb, Nat.le_succ _, Nat.le_refl _⟩⟩
set_option maxRecDepth 100000 in
set_option maxHeartbeats 4000000 in
theorem swap_any {w : World} {C : Nat} {nm now : Int} {v : Value} {bm : Nat} {l : List Al} {D : DataW Unit} (h : QAt w C nm now v bm l D) {i j : Nat} (hi : i < l.length) (hj : j < l.length) (hl : l.length ≤ 100000) (hP : Pl l D)
    (hN : ∀ x ∈ l, -9223372036854775808 ≤ x.1 ∧ x.1 ≤ 9223372036854775807) :
    Calls Try.prog 58 #[.pointer (some ⟨C, 2, none⟩), .int .i64 i, .int .i64 j] w (fun e w' => e = .returned (.tuple #[]) ∧ ∃ D', QAt w' C nm now v bm (swp l i j) D' ∧ Pl (swp l i j) D' ∧ Kept (bm :: blkV v) w w') := by
  obtain ⟨b, cap, rfl, hlc, hcm, hce, hfr, n1, n2, n3⟩ := h.read hi
  have hc2 := cofr h.hdr 2 _ rfl
  obtain ⟨c0, c1⟩ := hce i hi
  obtain ⟨c2, c3⟩ := hce j hj
  unfold maxLen at hcm
  have HQ := Lib.hid (And.intro h (And.intro hP hN))
  have n4 := h.bm_lt
  generalize hgx : g l i = x at *
  generalize hgy : g l j = y at *
  have HE := Lib.hid (And.intro hgx hgy)
  clear hgx hgy
  have HA : ∀ (o : Obj) (W : World) (p : Addr) (u : Value), W.cell? p = some u → (W.alloc o).cell? p = some u := fun o W p u hp => ((bal o).cell (World.block_lt_of_cell? W _ hp)).trans hp
  have m1 := fun p u hp => HA (.cells #[.int .i64 0, .int .i64 0] 71) w p u hp
  have m2 := fun p u hp => HA (.cells #[.int .i64 0, .int .i64 0] 71) _ p u (m1 p u hp)
  have m3 := fun p u hp => HA (.cells #[.int .i64 x.1, .int .i64 x.2] 71) _ p u (m1 p u hp)
  have m4 := fun p u hp => HA (.cells #[.int .i64 0, .int .i64 0] 71) _ p u (HA (.cells #[.int .i64 x.1, .int .i64 x.2] 71) w p u hp)
  have d10 := m1 _ _ hc2; have d11 := m1 _ _ c0; have d12 := m1 _ _ c1; have d13 := m1 _ _ c2; have d14 := m1 _ _ c3
  have d20 := m2 _ _ hc2; have d21 := m2 _ _ c0; have d22 := m2 _ _ c1; have d23 := m2 _ _ c2; have d24 := m2 _ _ c3
  have d30 := m3 _ _ hc2; have d31 := m3 _ _ c0; have d32 := m3 _ _ c1; have d33 := m3 _ _ c2; have d34 := m3 _ _ c3
  have d40 := m4 _ _ hc2; have d41 := m4 _ _ c0; have d42 := m4 _ _ c1; have d43 := m4 _ _ c2; have d44 := m4 _ _ c3
  clear h hP hN hce hfr HA m1 m2 m3 m4
  go_enter Try.func58, Try.ntmps58
  go_wp2_with fail
  have HTW0 : Hid (Two C nm now (.slice (some ⟨b, 0, none⟩) l.length cap) bm l D w x y w.heap.size (w.heap.size + 1) ((w.alloc (.cells #[.int .i64 x.1, .int .i64 x.2] 71)).alloc (.cells #[.int .i64 y.1, .int .i64 y.2] 71)).drew ∧
      Two C nm now (.slice (some ⟨b, 0, none⟩) l.length cap) bm l D w x y (w.heap.size + 1) w.heap.size ((w.alloc (.cells #[.int .i64 y.1, .int .i64 y.2] 71)).alloc (.cells #[.int .i64 x.1, .int .i64 x.2] 71)).drew) := Lib.hid ⟨(two_boxes HQ.out.1 x y).1, (two_boxes HQ.out.1 y x).2⟩
  go_region
  rotate_left
  · have HTW := Lib.hid HTW0.out.2
    clear HTW0
    clear d10 d11 d12 d13 d14 d20 d21 d22 d23 d24 d30 d31 d32 d33 d34 d40 d41 d42 d43 d44 hc2 c0 c1 c2 c3
    generalize ((w.alloc (.cells #[.int .i64 y.1, .int .i64 y.2] 71)).alloc (.cells #[.int .i64 x.1, .int .i64 x.2] 71)).drew = W2 at HTW ⊢
    generalize w.heap.size + 1 = bx at HTW ⊢
    generalize hby : w.heap.size = bY at HTW ⊢
    clear hby
    obtain ⟨q, hx, hy, hb, hbx, hby⟩ := HTW.out
    have f0 := cofr hy 0 _ rfl
    have f1 := cofr hy 1 _ rfl
    have HP := Lib.hid (put_any q hi hl (by rw [HQ.out.2.1.size]; exact hl) y (HE.out.2 ▸ HQ.out.2.2 _ (g_mem hj)))
    have HX := Lib.hid (And.intro hx (And.intro hb hbx))
    clear q hx hy hb hbx hby HTW
    go_wp2_with fail
    refine HP.out.mono ?_
    rintro e w3 ⟨rfl, q3, k3⟩
    obtain ⟨hx, hb, hbx⟩ := HX.out
    have hbn : bx ∉ bm :: blkV (.slice (some ⟨b, 0, none⟩) l.length cap) := by
      rw [blkV_some]; simp
      exact ⟨by omega, by omega⟩
    have hx3 := k3.heap hbn hx
    have c0 := cofr hx3 0 _ rfl
    have c1 := cofr hx3 1 _ rfl
    have hs3 : Maps.size (D.put (kl y.1) (pl i)) ≤ 100000 := by
      rw [size_put HQ.out.2.1.tidy, if_pos (by rw [← HE.out.2]; exact (HQ.out.2.1.at_ j hj).1), HQ.out.2.1.size]; exact hl
    have HP2 := Lib.hid (put_any (i := j) q3 (by simpa using hj) (by simpa using hl) hs3 x (HE.out.1 ▸ HQ.out.2.2 _ (g_mem hi)))
    have HK := Lib.hid (And.intro hb k3)
    clear q3 k3 hx hb hbx hbn hx3 hs3 HP HX f0 f1
    go_wp2_with fail
    refine HP2.out.mono ?_
    rintro e w4 ⟨rfl, q4, k4⟩
    have HF := Lib.hid (show (Ending.returned (.tuple #[]) = .returned (.tuple #[]) ∧ ∃ D', QAt w4 C nm now (.slice (some ⟨b, 0, none⟩) l.length cap) bm (swp l i j) D' ∧ Pl (swp l i j) D' ∧ Kept (bm :: blkV (.slice (some ⟨b, 0, none⟩) l.length cap)) w w4) from
      ⟨rfl, _, by rw [show swp l i j = (l.set i y).set j x from by unfold swp; rw [HE.out.1, HE.out.2]]; exact q4, by have := pl_swp HQ.out.2.1 hi hj; rw [HE.out.1, HE.out.2] at this; exact this,
        ((Kept.of_below HK.out.1 (Nat.le_refl _) _).trans HK.out.2 (fun _ h => .inl h)).trans k4 (fun _ h => .inl h)⟩)
    clear q4 k4 HK HP2 c0 c1
    go_wp2_with fail
    go_end0
    exact ⟨rfl, HF.out.2⟩
  · have HTW := Lib.hid HTW0.out.1
    clear HTW0
    clear d10 d11 d12 d13 d14 d20 d21 d22 d23 d24 d30 d31 d32 d33 d34 d40 d41 d42 d43 d44 hc2 c0 c1 c2 c3
    generalize ((w.alloc (.cells #[.int .i64 x.1, .int .i64 x.2] 71)).alloc (.cells #[.int .i64 y.1, .int .i64 y.2] 71)).drew = W2 at HTW ⊢
    generalize w.heap.size + 1 = bY at HTW ⊢
    generalize hbx : w.heap.size = bx at HTW ⊢
    clear hbx
    obtain ⟨q, hx, hy, hb, hbx, hby⟩ := HTW.out
    have f0 := cofr hy 0 _ rfl
    have f1 := cofr hy 1 _ rfl
    have HP := Lib.hid (put_any q hi hl (by rw [HQ.out.2.1.size]; exact hl) y (HE.out.2 ▸ HQ.out.2.2 _ (g_mem hj)))
    have HX := Lib.hid (And.intro hx (And.intro hb hbx))
    clear q hx hy hb hbx hby HTW
    go_wp2_with fail
    refine HP.out.mono ?_
    rintro e w3 ⟨rfl, q3, k3⟩
    obtain ⟨hx, hb, hbx⟩ := HX.out
    have hbn : bx ∉ bm :: blkV (.slice (some ⟨b, 0, none⟩) l.length cap) := by
      rw [blkV_some]; simp
      exact ⟨by omega, by omega⟩
    have hx3 := k3.heap hbn hx
    have c0 := cofr hx3 0 _ rfl
    have c1 := cofr hx3 1 _ rfl
    have hs3 : Maps.size (D.put (kl y.1) (pl i)) ≤ 100000 := by
      rw [size_put HQ.out.2.1.tidy, if_pos (by rw [← HE.out.2]; exact (HQ.out.2.1.at_ j hj).1), HQ.out.2.1.size]; exact hl
    have HP2 := Lib.hid (put_any (i := j) q3 (by simpa using hj) (by simpa using hl) hs3 x (HE.out.1 ▸ HQ.out.2.2 _ (g_mem hi)))
    have HK := Lib.hid (And.intro hb k3)
    clear q3 k3 hx hb hbx hbn hx3 hs3 HP HX f0 f1
    go_wp2_with fail
    refine HP2.out.mono ?_
    rintro e w4 ⟨rfl, q4, k4⟩
    have HF := Lib.hid (show (Ending.returned (.tuple #[]) = .returned (.tuple #[]) ∧ ∃ D', QAt w4 C nm now (.slice (some ⟨b, 0, none⟩) l.length cap) bm (swp l i j) D' ∧ Pl (swp l i j) D' ∧ Kept (bm :: blkV (.slice (some ⟨b, 0, none⟩) l.length cap)) w w4) from
      ⟨rfl, _, by rw [show swp l i j = (l.set i y).set j x from by unfold swp; rw [HE.out.1, HE.out.2]]; exact q4, by have := pl_swp HQ.out.2.1 hi hj; rw [HE.out.1, HE.out.2] at this; exact this,
        ((Kept.of_below HK.out.1 (Nat.le_refl _) _).trans HK.out.2 (fun _ h => .inl h)).trans k4 (fun _ h => .inl h)⟩)
    clear q4 k4 HK HP2 c0 c1
    go_wp2_with fail
    go_end0
    exact ⟨rfl, HF.out.2⟩
end Go.Proofs.Ytnioaaahkhephaa.al
