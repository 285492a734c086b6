/-
  Alarms: the reference: put, Is, Set, Stop, Next, Len.
-/
import Derived.Test.YtnioaaahkhephaaAlmH
namespace Go.Proofs.Ytnioaaahkhephaa.al
open Go.RowKit Go.Maps aid mem
attribute [local go_sem ↓] Go.wp_at_zero Go.wp_at_succ
set_option linter.unusedVariables false
set_option linter.unusedSimpArgs false

abbrev rc (now : Int) (a : Option Addr) (n cap : Nat) : Value := .agg #[.int .i64 now, .slice a n cap]
abbrev rcO (now : Int) (a : Option Addr) (n cap : Nat) : Obj := .cells #[.int .i64 now, .slice a n cap] 30
/-- a clock of the reference -/
def RetC (now : Int) (L : List Int) (w : World) (e : Ending) (w' : World) : Prop := ∃ a cap, e = .returned (rc now a L.length cap) ∧ SlA .i64 w' a L.length cap L ∧ Below w.heap.size w w' ∧ ∀ x, a = some x → w.heap.size ≤ x.block
theorem sla_cells {w : World} {g n cap : Nat} {cur : Array Value} {T : TypeId} {L : List Int} (h : w.heap[g]? = some (.cells cur T (0, 0))) (hx : cur.toList.take n = ints .i64 L) (hl : L.length = n) (hc : n ≤ cap) (hm : cap ≤ maxLen) : SlA .i64 w (some ⟨g, 0, none⟩) n cap L := by
  refine ⟨hl, hc, hm, (fun e => by cases e), fun _ => ⟨g, 0, rfl, fun i hi => ?_⟩⟩
  rw [cell_of_row w g _ cur _ (0, 0) h]
  have : (cur.toList.take n)[i]? = (ints .i64 L)[i]? := by rw [hx]
  rw [List.getElem?_take, if_pos hi] at this
  simp only [Nat.zero_add]
  rw [← Array.getElem?_toList, this]
  simp [ints, List.getD, hl, hi]
theorem ints_set (L : List Int) (i : Nat) (t : Int) : (ints .i64 L).set i (.int .i64 t) = ints .i64 (L.set i t) := by simp [ints, List.map_set]
theorem int_empty {w : World} {b : Nat} (h : w.heap[b]? = some (.cells #[] 3 (0, 0))) : w.ownsRow b 3 1 (.slice (some ⟨b, 0, none⟩) 0 0) 0 (ints .i64 []) :=
  ⟨rfl, .inr ⟨b, 0, #[], rfl, Nat.le_refl _, h, Nat.le_refl _, by simp [maxLen], rfl, rfl⟩⟩
theorem put_fact {w w3 w4 : World} {n cap' : Nat} {a' : Option Addr} {L : List Int} {o1 o2 : Obj} (HB : Below w.heap.size w w3 ∧ w3.heap[w.heap.size]? = some o1 ∧ w3.heap[w.heap.size + 1]? = some o2)
    (hrow : w4.ownsRow (w.heap.size + 2) 3 1 (.slice a' n cap') n (ints .i64 L)) (hg : w3.grownBy w4 (some (w.heap.size + 2))) (h0 : 0 < n) :
    ∃ g cur, a' = some ⟨g, 0, none⟩ ∧ w4.heap[g]? = some (.cells cur 3 (0, 0)) ∧ w.heap.size + 2 ≤ g ∧ n ≤ cap' ∧ cap' ≤ maxLen ∧ cur.size = cap' ∧ cur.toList.take n = ints .i64 L ∧ w4.heap[w.heap.size]? = some o1 ∧ w4.heap[w.heap.size + 1]? = some o2 ∧ Below w.heap.size w w4 := by
  have e1 := (hg.block w.heap.size (lt_of_block HB.2.1) (by simp)).trans HB.2.1
  have e2 := (hg.block (w.heap.size + 1) (lt_of_block HB.2.2) (by simp)).trans HB.2.2
  have e3 : Below w.heap.size w w4 := HB.1.trans (below_grown (v := .slice (some ⟨w.heap.size + 2, 0, none⟩) 0 0) hg HB.1.size (fun k hk => by cases hk; exact Nat.le_add_right _ _))
  rcases hrow.2 with ⟨_, e⟩ | ⟨g, c, cur, e, q1, q2, q3, q4, q5, q6⟩
  · omega
  · injection e with f1 f2 f3
    subst f1; subst f3
    exact ⟨g, cur, rfl, q2, q1, q3, q4, by simpa using q5, by simpa using q6, e1, e2, e3⟩
/-- behind the three stores -/
theorem put_end {w w4 : World} {n cap' g i : Nat} {cur : Array Value} {L : List Int} {now t : Int} {a : Option Addr} {cap : Nat} (hl : L.length = n) (hg : w4.heap[g]? = some (.cells cur 3 (0, 0))) (hge : w.heap.size + 2 ≤ g) (hnc : n ≤ cap') (hcm : cap' ≤ maxLen)
    (hx : cur.toList.take n = ints .i64 L) (b1 : w4.heap[w.heap.size]? = some (rcO now a n cap)) (b2 : w4.heap[w.heap.size + 1]? = some (rcO 0 none 0 0)) (hb : Below w.heap.size w w4) :
    Hid (((w4.setCell ⟨g, i, none⟩ (.int .i64 t)).heap[w.heap.size]? = some (rcO now a n cap)) ∧
    ((w4.setCell ⟨g, i, none⟩ (.int .i64 t)).setCell ⟨w.heap.size, 1, none⟩ (.slice (some ⟨g, 0, none⟩) n cap')).heap[w.heap.size]? = some (rcO now (some ⟨g, 0, none⟩) n cap') ∧
    ((w4.setCell ⟨g, i, none⟩ (.int .i64 t)).setCell ⟨w.heap.size, 1, none⟩ (.slice (some ⟨g, 0, none⟩) n cap')).heap[w.heap.size + 1]? = some (rcO 0 none 0 0) ∧
    ((((w4.setCell ⟨g, i, none⟩ (.int .i64 t)).setCell ⟨w.heap.size, 1, none⟩ (.slice (some ⟨g, 0, none⟩) n cap')).setCell ⟨w.heap.size + 1, 0, none⟩ (.int .i64 now)).setCell ⟨w.heap.size + 1, 1, none⟩ (.slice (some ⟨g, 0, none⟩) n cap')).heap[w.heap.size + 1]? = some (rcO now (some ⟨g, 0, none⟩) n cap') ∧
    RetC now (L.set i t) w (.returned (rc now (some ⟨g, 0, none⟩) n cap')) ((((w4.setCell ⟨g, i, none⟩ (.int .i64 t)).setCell ⟨w.heap.size, 1, none⟩ (.slice (some ⟨g, 0, none⟩) n cap')).setCell ⟨w.heap.size + 1, 0, none⟩ (.int .i64 now)).setCell ⟨w.heap.size + 1, 1, none⟩ (.slice (some ⟨g, 0, none⟩) n cap'))) := by
  have s1 : (w4.setCell ⟨g, i, none⟩ (.int .i64 t)).heap[w.heap.size]? = some (rcO now a n cap) := ((kset w4 ⟨g, i, none⟩ (.int .i64 t)).heap (by simp; omega) b1)
  have s1' : (w4.setCell ⟨g, i, none⟩ (.int .i64 t)).heap[w.heap.size + 1]? = some (rcO 0 none 0 0) := ((kset w4 ⟨g, i, none⟩ (.int .i64 t)).heap (by simp; omega) b2)
  have s1g : (w4.setCell ⟨g, i, none⟩ (.int .i64 t)).heap[g]? = some (.cells (cur.setIfInBounds i (.int .i64 t)) 3 (0, 0)) := heap_setCell_same w4 g _ _ _ _ hg
  have k1 : Kept [g] w4 (w4.setCell ⟨g, i, none⟩ (.int .i64 t)) := (Kept.refl [g] w4).setCell (.inl (by simp)) _
  generalize w4.setCell ⟨g, i, none⟩ (.int .i64 t) = w5 at *
  have s2 : (w5.setCell ⟨w.heap.size, 1, none⟩ (.slice (some ⟨g, 0, none⟩) n cap')).heap[w.heap.size]? = some (rcO now (some ⟨g, 0, none⟩) n cap') := (heap_setCell_same w5 _ 1 _ _ _ s1).trans rfl
  have k2 : Kept [w.heap.size] w5 (w5.setCell ⟨w.heap.size, 1, none⟩ (.slice (some ⟨g, 0, none⟩) n cap')) := (Kept.refl [w.heap.size] w5).setCell (.inl (by simp)) _
  have s2' := k2.heap (k := w.heap.size + 1) (by simp) s1'
  have s2g := k2.heap (k := g) (by simp; omega) s1g
  generalize w5.setCell ⟨w.heap.size, 1, none⟩ (.slice (some ⟨g, 0, none⟩) n cap') = w6 at *
  have s3 : ((w6.setCell ⟨w.heap.size + 1, 0, none⟩ (.int .i64 now)).setCell ⟨w.heap.size + 1, 1, none⟩ (.slice (some ⟨g, 0, none⟩) n cap')).heap[w.heap.size + 1]? = some (rcO now (some ⟨g, 0, none⟩) n cap') :=
    (heap_setCell_same _ _ _ _ _ _ ((heap_setCell_same w6 _ 0 _ _ _ s2').trans rfl)).trans rfl
  have k3 : Kept [w.heap.size + 1] w6 ((w6.setCell ⟨w.heap.size + 1, 0, none⟩ (.int .i64 now)).setCell ⟨w.heap.size + 1, 1, none⟩ (.slice (some ⟨g, 0, none⟩) n cap')) := ((Kept.refl [w.heap.size + 1] w6).setCell (.inl (by simp)) _).setCell (.inl (by simp)) _
  have s3g := k3.heap (k := g) (by simp; omega) s2g
  refine Lib.hid ⟨s1, s2, s2', s3, some ⟨g, 0, none⟩, cap', by rw [List.length_set, hl], ?_, ?_, fun x hx => by cases hx; show w.heap.size ≤ g; omega⟩
  · rw [List.length_set, hl]
    refine sla_cells s3g ?_ (by simpa using hl) hnc hcm
    rw [Array.toList_setIfInBounds, List.take_set, hx, ints_set]
  · exact hb.trans (((k1.below (B := w.heap.size) (fun k hk => by simp at hk; omega) hb.size).trans (k2.below (B := w.heap.size) (fun k hk => by simp at hk; omega) (Nat.le_trans hb.size k1.size))).trans (k3.below (B := w.heap.size) (fun k hk => by simp at hk; omega) (Nat.le_trans (Nat.le_trans hb.size k1.size) k2.size)))
set_option maxHeartbeats 2000000 in
theorem rput_any {w : World} {a : Option Addr} {n cap : Nat} {L : List Int} (h : SlA .i64 w a n cap L) (now : Int) {i : Nat} (hi : i < n) (t : Int) (hn : n ≤ 1000) :
    Calls Try.prog 35 #[rc now a n cap, .int .i64 i, .int .i64 t] w (RetC now (L.set i t) w) := by
  obtain ⟨i0, hi0, hz0, hz1, hz2⟩ := info_split info_int8
  have hl := h.len
  have B1 := bal (w := w) (rcO now a n cap)
  have X1 := heap_alloc_new w (rcO now a n cap)
  generalize hw1 : w.alloc (rcO now a n cap) = w1 at *
  have z1 : w1.heap.size = w.heap.size + 1 := by rw [← hw1]; simp
  have B2 := bal (w := w1) (rcO 0 none 0 0)
  have X2 := heap_alloc_new w1 (rcO 0 none 0 0)
  generalize hw2 : w1.alloc (rcO 0 none 0 0) = w2 at *
  have z2 : w2.heap.size = w.heap.size + 2 := by rw [← hw2]; simp [z1]
  have B3 := bal (w := w2) (.cells #[] 3)
  have X3 := heap_alloc_new w2 (.cells #[] 3)
  generalize hw3 : w2.alloc (.cells #[] 3) = w3 at *
  have z3 : w3.heap.size = w.heap.size + 3 := by rw [← hw3]; simp [z2]
  have X1' := (B3.block _ (by omega)).trans ((B2.block _ (by omega)).trans X1)
  have X2' := (B3.block _ (by omega)).trans X2
  have BB : Below w.heap.size w w3 := (B1.trans (B2.mono B1.size)).trans (B3.mono (by omega))
  have ho := int_empty X3
  rw [z2] at ho
  have HO := Lib.hid ho
  rw [z1] at X2'
  have HS := Lib.hid (((h.later BB).src (t := 28) (e := 3) Try.underlying28))
  have d1 := cofr X1' 1 _ rfl
  have HB := Lib.hid (And.intro BB (And.intro X1' X2'))
  clear h B1 X1 B2 X2 B3 X3 X1' X2' BB ho
  subst hw3
  subst hw2
  subst hw1
  go_enter Try.func35, Try.ntmps35
  go_wp2_with (at_builtin; go_must (refine wpList_append_any _ rfl (.tmp 8) (.tmp 10) 28 28 rfl (w.heap.size + 2) 3 i0 (.int .i64 0) 8 Try.underlying28 hi0 hz0 hz1 hz2 rfl _ 0 (ints .i64 []) rfl HO.out _ rfl n (ints .i64 L) HS.out (by unfold maxLen; omega) (by omega) (by simp) ?_); intro a' cap' w4 hrow hgr hat; obtain ⟨g, cur, rfl, hg, hge, hnc, hcm, hcs, hxs, e1, e2, e3⟩ := put_fact (o1 := rcO now a n cap) (o2 := rcO 0 none 0 0) HB.out (by rw [Nat.zero_add] at hrow; exact hrow) (by exact hgr) (by omega); have HE := put_end (i := i) (t := t) hl hg hge hnc hcm hxs e1 e2 e3; have hci := cofr hg i _ (Array.getElem?_eq_getElem (show i < cur.size by omega)); have hfi := fofr hg i; have y1 := cofr HE.out.1 1 _ rfl; have f1 := fofr HE.out.1 1; have y2 := cofr HE.out.2.1 0 _ rfl; have y3 := cofr HE.out.2.1 1 _ rfl; have y4 := cofr HE.out.2.2.1 0 _ rfl; have y5 := cofr HE.out.2.2.1 1 _ rfl; have f4 := fofr HE.out.2.2.1 0; have f5 := fofr HE.out.2.2.1 1; have y6 := cofr HE.out.2.2.2.1 0 _ rfl; have y7 := cofr HE.out.2.2.2.1 1 _ rfl; unfold maxLen at hcm; clear hrow hgr hat hg hxs e1 e2 e3 HB HO HS d1 hi0 hz0 hz1 hz2)
  exact bodyPost_ret (v := rc now (some ⟨g, 0, none⟩) n cap') (by simp [results, Try.results35, go_sem, y6, y7]) rfl HE.out.2.2.2.2
end Go.Proofs.Ytnioaaahkhephaa.al
