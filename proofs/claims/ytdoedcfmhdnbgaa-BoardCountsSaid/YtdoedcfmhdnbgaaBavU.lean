/-
  Board's tree: what is asked of it.
-/
import Derived.Test.YtdoedcfmhdnbgaaBavT
namespace Go.Proofs.Ytdoedcfmhdnbgaa.bv
open Go.RowKit aid mem
attribute [local go_sem ↓] Go.wp_at_zero Go.wp_at_succ
set_option linter.unusedVariables false
set_option linter.unusedSimpArgs false

/-- three results -/
def tupO : Option (Int × Vt) → Value
  | none => .tuple #[.int .i64 0, .agg #[.int .i64 0, .int .i64 0], .bool false]
  | some x => .tuple #[.int .i64 x.1, .agg #[.int .i64 x.2.1, .int .i64 x.2.2], .bool true]
abbrev zS : Obj := .cells #[.int .i64 0, .int .i64 0] 24
abbrev vS (v : Vt) : Obj := .cells #[.int .i64 v.1, .int .i64 v.2] 24
theorem bx_c {W : World} {p : Nat} {v : Vt} (h : W.heap[p]? = some (vS v)) : W.cell? ⟨p, 0, none⟩ = some (.int .i64 v.1) ∧ W.cell? ⟨p, 1, none⟩ = some (.int .i64 v.2) ∧ W.frozen? ⟨p, 0, none⟩ = false ∧ W.frozen? ⟨p, 1, none⟩ = false :=
  ⟨(cell_of_row _ p 0 _ _ (0, 0) h).trans rfl, (cell_of_row _ p 1 _ _ (0, 0) h).trans rfl, by simp [World.frozen?, h], by simp [World.frozen?, h]⟩
theorem bx_put {w W : World} {v u : Vt} {p : Nat} (hp : W.heap[p]? = some (vS v)) (hge : w.heap.size ≤ p) (hb : Below w.heap.size w W) :
    ((W.setCell ⟨p, 0, none⟩ (.int .i64 u.1)).setCell ⟨p, 1, none⟩ (.int .i64 u.2)).heap[p]? = some (vS u) ∧ Below w.heap.size w ((W.setCell ⟨p, 0, none⟩ (.int .i64 u.1)).setCell ⟨p, 1, none⟩ (.int .i64 u.2)) := by
  have k : Kept [p] W ((W.setCell ⟨p, 0, none⟩ (.int .i64 u.1)).setCell ⟨p, 1, none⟩ (.int .i64 u.2)) := ((Kept.refl [p] W).setCell (.inl (by simp)) _).setCell (.inl (by simp)) _
  exact ⟨(heap_setCell_same _ _ _ _ _ _ ((heap_setCell_same W _ 0 _ _ _ hp).trans rfl)).trans rfl, hb.trans (k.below (B := w.heap.size) (fun k hk => by simp at hk; omega) hb.size)⟩
set_option maxHeartbeats 2000000 in
theorem told_none (w : World) : Calls Try.prog 64 #[.pointer none] w fun e w' => e = .returned (tupO none) ∧ Below w.heap.size w w' := by
  have x1 := heap_alloc_new w zS
  have HB := Lib.hid (bal' (w := w) zS).drew
  obtain ⟨c0, c1, f0, f1⟩ := bx_c (v := (0, 0)) x1
  clear x1
  go_enter Try.func64, Try.ntmps64
  go_wp2_with fail
  go_region
  have e0 : (w.alloc zS).drew.cell? ⟨w.heap.size, 0, none⟩ = some (.int .i64 0) := c0
  have e1 : (w.alloc zS).drew.cell? ⟨w.heap.size, 1, none⟩ = some (.int .i64 0) := c1
  go_wp2
  exact bodyPost_ret (v := .tuple #[.int .i64 0, .agg #[.int .i64 0, .int .i64 0], .bool false]) (by simp [results, Try.results64, go_sem, c0, c1, e0, e1]) rfl ⟨rfl, HB.out⟩
set_option maxHeartbeats 2000000 in
theorem told_some {w : World} {b : Nat} {x : Int × Vt} (c0 : w.cell? ⟨b, 0, none⟩ = some (.int .i64 x.1)) (c1 : w.cell? ⟨b, 1, none⟩ = some (.int .i64 x.2.1)) (c2 : w.cell? ⟨b, 2, none⟩ = some (.int .i64 x.2.2)) :
    Calls Try.prog 64 #[.pointer (some ⟨b, 0, none⟩)] w fun e w' => e = .returned (tupO (some x)) ∧ Below w.heap.size w w' := by
  have bb := bal' (w := w) zS
  have d0 := ck bb c0; have d1 := ck bb c1; have d2 := ck bb c2
  obtain ⟨z0, z1, f0, f1⟩ := bx_c (v := (0, 0)) (heap_alloc_new w zS)
  obtain ⟨y0, y1, g0, g1⟩ := bx_c (v := x.2) (W := (w.alloc (vS x.2)).drew) (heap_alloc_new w (vS x.2))
  have HB := Lib.hid (bal' (w := w) (vS x.2)).drew.drew
  clear bb
  go_enter Try.func64, Try.ntmps64
  go_wp2_with fail
  go_region
  go_wp2_with fail
  clear d0 d1 d2 z0 z1 f0 f1 c0 c1 c2
  go_region
  have e0 : (w.alloc (vS x.2)).drew.drew.cell? ⟨w.heap.size, 0, none⟩ = some (.int .i64 x.2.1) := y0
  have e1 : (w.alloc (vS x.2)).drew.drew.cell? ⟨w.heap.size, 1, none⟩ = some (.int .i64 x.2.2) := y1
  go_wp2
  exact bodyPost_ret (v := .tuple #[.int .i64 x.1, .agg #[.int .i64 x.2.1, .int .i64 x.2.2], .bool true]) (by simp [results, Try.results64, go_sem, y0, y1, e0, e1]) rfl ⟨rfl, HB.out⟩
theorem told_node {w : World} {q : Option Addr} {o : Option (Int × Vt)} (h : NodeOf w q o) : Calls Try.prog 64 #[.pointer q] w fun e w' => e = .returned (tupO o) ∧ Below w.heap.size w w' := by
  cases o with
  | none =>
    obtain rfl : q = none := h
    exact told_none w
  | some x =>
    obtain ⟨b, rfl, c0, c1, c2⟩ := h
    exact told_some c0 c1 c2
def oK (o : Option (Int × Vt)) : Int × Vt × Bool := match o with | none => (0, (0, 0), false) | some x => (x.1, x.2, true)
theorem tupO_eq (o : Option (Int × Vt)) : tupO o = .tuple #[.int .i64 (oK o).1, .agg #[.int .i64 (oK o).2.1.1, .int .i64 (oK o).2.1.2], .bool (oK o).2.2] := by cases o <;> rfl
set_option maxHeartbeats 2000000 in
theorem tat_any {w : World} {p : Option Addr} {t : T} (h : TrO w p t) (i : Int) (hi : -9223372036854775808 ≤ i ∧ i ≤ 9223372036854775807) (hs : t.size ≤ 1000000) : Calls Try.prog 43 #[.pointer p, .int .i64 i] w fun e w' => e = .returned (tupO (atL t.toL i)) ∧ Below w.heap.size w w' := by
  have bb := bal' (w := w) zS
  have HT : Hid (TrO (w.alloc zS) p t) := Lib.hid (by
    rcases h with ⟨e1, e2⟩ | ⟨b, e, hb⟩
    · exact .inl ⟨e1, e2⟩
    · exact .inr ⟨b, e, hb.later bb⟩)
  have HX := Lib.hid (heap_alloc_new w zS)
  have HB := Lib.hid bb
  clear bb h
  rw [tupO_eq]
  go_enter Try.func43, Try.ntmps43
  go_wp2_with fail
  refine (top_any HT.out).mono ?_
  rintro e w1 ⟨q, rfl, hq, rfl⟩
  have HQ := Lib.hid (at_any hq i hi hs)
  clear hq
  go_wp2_with fail
  refine HQ.out.mono ?_
  rintro e w2 ⟨q2, rfl, hq2, rfl⟩
  have HN := Lib.hid (told_node hq2)
  clear hq2 HQ
  go_wp2_with fail
  refine HN.out.mono ?_
  rintro e w3 ⟨rfl, hb3⟩
  rw [tupO_eq]
  have h3 := (hb3.block w.heap.size (by simp)).trans HX.out
  obtain ⟨z0, z1, f0, f1⟩ := bx_c (v := (0, 0)) h3
  obtain ⟨r1, r2⟩ := bx_put (v := (0, 0)) (u := (oK (atL t.toL i)).2.1) h3 (Nat.le_refl _) (HB.out.trans (hb3.mono HB.out.size))
  obtain ⟨y0, y1, _, _⟩ := bx_c r1
  have HR := Lib.hid r2
  clear r1 r2 h3 hb3 HN HT HX HB
  generalize ho : oK (atL t.toL i) = o at *
  have HO := Lib.hid ho
  clear ho
  obtain ⟨o1, o2, o3⟩ := o
  dsimp only at *
  go_wp2_with fail
  exact bodyPost_ret (v := .tuple #[.int .i64 o1, .agg #[.int .i64 o2.1, .int .i64 o2.2], .bool o3]) (by simp [results, Try.results43, go_sem, y0, y1]) rfl ⟨by rw [HO.out], HR.out⟩
set_option maxHeartbeats 2000000 in
theorem tfloor_any {w : World} {p : Option Addr} {t : T} (h : TrO w p t) (key : Int) (hu : T.Up t.toL) : Calls Try.prog 83 #[.pointer p, .int .i64 key] w fun e w' => e = .returned (tupO (flL t.toL key)) ∧ Below w.heap.size w w' := by
  have bb := bal' (w := w) zS
  have HT : Hid (TrO (w.alloc zS) p t) := Lib.hid (by
    rcases h with ⟨e1, e2⟩ | ⟨b, e, hb⟩
    · exact .inl ⟨e1, e2⟩
    · exact .inr ⟨b, e, hb.later bb⟩)
  have HX := Lib.hid (heap_alloc_new w zS)
  have HB := Lib.hid bb
  clear bb h
  rw [tupO_eq]
  have HU := Lib.hid hu
  clear hu
  go_enter Try.func83, Try.ntmps83
  go_wp2_with fail
  refine (top_any HT.out).mono ?_
  rintro e w1 ⟨q, rfl, hq, rfl⟩
  have HQ := Lib.hid (floor_any hq key HU.out)
  clear hq
  go_wp2_with fail
  refine HQ.out.mono ?_
  rintro e w2 ⟨q2, rfl, hq2, hb2⟩
  have HN := Lib.hid (told_node hq2)
  have HB2 := Lib.hid hb2
  clear hq2 HQ hb2
  go_wp2_with fail
  refine HN.out.mono ?_
  rintro e w3 ⟨rfl, hb3'⟩
  rw [tupO_eq]
  have hb3 := HB2.out.trans (hb3'.mono HB2.out.size)
  have h3 := (hb3.block w.heap.size (by simp)).trans HX.out
  obtain ⟨z0, z1, f0, f1⟩ := bx_c (v := (0, 0)) h3
  obtain ⟨r1, r2⟩ := bx_put (v := (0, 0)) (u := (oK (flL t.toL key)).2.1) h3 (Nat.le_refl _) (HB.out.trans (hb3.mono HB.out.size))
  obtain ⟨y0, y1, _, _⟩ := bx_c r1
  have HR := Lib.hid r2
  clear r1 r2 h3 hb3 hb3' HB2 HN HT HX HB
  generalize ho : oK (flL t.toL key) = o at *
  have HO := Lib.hid ho
  clear ho
  obtain ⟨o1, o2, o3⟩ := o
  dsimp only at *
  go_wp2_with fail
  exact bodyPost_ret (v := .tuple #[.int .i64 o1, .agg #[.int .i64 o2.1, .int .i64 o2.2], .bool o3]) (by simp [results, Try.results83, go_sem, y0, y1]) rfl ⟨by rw [HO.out], HR.out⟩
end Go.Proofs.Ytdoedcfmhdnbgaa.bv
