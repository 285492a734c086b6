/-
  Alarms: Less, Len; how the library reaches them.
-/
import Derived.Test.YtnioaaahkhephaaAlmP
namespace Go.Proofs.Ytnioaaahkhephaa.al
open Go.RowKit Go.Maps aid mem
attribute [local go_sem ↓] Go.wp_at_zero Go.wp_at_succ
set_option linter.unusedVariables false
set_option linter.unusedSimpArgs false

def RetB (b : Bool) (w : World) (e : Ending) (w' : World) : Prop := e = .returned (.bool b) ∧ Below w.heap.size w w'
def RetI (n : Int) (w : World) (e : Ending) (w' : World) : Prop := e = .returned (.int .i64 n) ∧ Below w.heap.size w w'
theorem len_list (X : World) (a : Option Addr) (n cap : Nat) : Calls Try.prog 29 #[.slice a n cap] X (fun e w' => e = .returned (.int .i64 (n : Int)) ∧ X = w') := by
  go_enter Try.func29, Try.ntmps29
  go_wp2_with fail
  go_ret
  exact ⟨rfl, rfl⟩
set_option maxRecDepth 100000 in
set_option maxHeartbeats 4000000 in
theorem less_any {w : World} {v : Value} {l : List Al} (h : PRow w 71 v l) {i j : Nat} (hi : i < l.length) (hj : j < l.length) :
    Calls Try.prog 55 #[v, .int .i64 i, .int .i64 j] w (RetB (lt (g l i) (g l j)) w) := by
  obtain ⟨b, cap, rfl, hlc, hcm, _, hce, hfr⟩ := h.read hi
  obtain ⟨c0, c1⟩ := hce i hi
  obtain ⟨c2, c3⟩ := hce j hj
  unfold maxLen at hcm
  clear h hce hfr
  generalize g l i = x at *
  generalize g l j = y at *
  have HA : ∀ (o : Obj) (W : World) (p : Addr) (u : Value), W.cell? p = some u → (W.alloc o).cell? p = some u := fun o W p u hp => ((bal o).cell (World.block_lt_of_cell? W _ hp)).trans hp
  have m1 := fun p u hp => HA (.cells #[.int .i64 0, .int .i64 0] 71) w p u hp
  have m2 := fun p u hp => HA (.cells #[.int .i64 0, .int .i64 0] 71) _ p u (m1 p u hp)
  have m3 := fun p u hp => HA (.cells #[.int .i64 x.1, .int .i64 x.2] 71) _ p u (m1 p u hp)
  have m4 := fun p u hp => HA (.cells #[.int .i64 0, .int .i64 0] 71) _ p u (HA (.cells #[.int .i64 x.1, .int .i64 x.2] 71) w p u hp)
  have d11 := m1 _ _ c0; have d12 := m1 _ _ c1; have d13 := m1 _ _ c2; have d14 := m1 _ _ c3
  have d21 := m2 _ _ c0; have d22 := m2 _ _ c1; have d23 := m2 _ _ c2; have d24 := m2 _ _ c3
  have d31 := m3 _ _ c0; have d32 := m3 _ _ c1; have d33 := m3 _ _ c2; have d34 := m3 _ _ c3
  have d41 := m4 _ _ c0; have d42 := m4 _ _ c1; have d43 := m4 _ _ c2; have d44 := m4 _ _ c3
  clear HA m1 m2 m3 m4
  have HW : Hid (∀ x y : Al, ((w.alloc (.cells #[.int .i64 x.1, .int .i64 x.2] 71)).alloc (.cells #[.int .i64 y.1, .int .i64 y.2] 71)).drew.heap[w.heap.size]? = some (.cells #[.int .i64 x.1, .int .i64 x.2] 71 (0, 0)) ∧
      ((w.alloc (.cells #[.int .i64 x.1, .int .i64 x.2] 71)).alloc (.cells #[.int .i64 y.1, .int .i64 y.2] 71)).drew.heap[w.heap.size + 1]? = some (.cells #[.int .i64 y.1, .int .i64 y.2] 71 (0, 0)) ∧
      Below w.heap.size w ((w.alloc (.cells #[.int .i64 x.1, .int .i64 x.2] 71)).alloc (.cells #[.int .i64 y.1, .int .i64 y.2] 71)).drew) := Lib.hid (fun x y => by
    have b1 := bal (w := w) (.cells #[.int .i64 x.1, .int .i64 x.2] 71)
    have x1 := heap_alloc_new w (.cells #[.int .i64 x.1, .int .i64 x.2] 71)
    have hz : (w.alloc (.cells #[.int .i64 x.1, .int .i64 x.2] 71)).heap.size = w.heap.size + 1 := by simp
    have b2 := (bal (w := w.alloc (.cells #[.int .i64 x.1, .int .i64 x.2] 71)) (.cells #[.int .i64 y.1, .int .i64 y.2] 71)).drew
    have y2 := heap_alloc_new (w.alloc (.cells #[.int .i64 x.1, .int .i64 x.2] 71)) (.cells #[.int .i64 y.1, .int .i64 y.2] 71)
    rw [hz] at y2
    exact ⟨(b2.block _ (lt_of_block x1)).trans x1, y2, b1.trans (b2.mono b1.size)⟩)
  have hlt : lt x y = (decide (x.2 < y.2) || (decide (x.2 = y.2) && decide (x.1 < y.1))) := rfl
  go_enter Try.func55, Try.ntmps55
  go_wp2_with fail
  go_region
  all_goals
    clear d11 d12 d13 d14 d21 d22 d23 d24 d31 d32 d33 d34 d41 d42 d43 d44 c0 c1 c2 c3
  rotate_left
  · obtain ⟨hy, hx, hb⟩ := HW.out y x
    clear HW
    generalize ((w.alloc (.cells #[.int .i64 y.1, .int .i64 y.2] 71)).alloc (.cells #[.int .i64 x.1, .int .i64 x.2] 71)).drew = W2 at hx hy hb ⊢
    generalize w.heap.size + 1 = bx at hx ⊢
    have HB := Lib.hid hb
    have f0 := cofr hx 0 _ rfl; have f1 := cofr hx 1 _ rfl; have f2 := cofr hy 0 _ rfl; have f3 := cofr hy 1 _ rfl
    clear hx hy hb
    have HL := Lib.hid hlt
    clear hlt
    by_cases h1 : x.2 < y.2
    · have e : lt x y = true := by rw [HL.out, decide_eq_true h1]; rfl
      rw [e]
      go_wp2_with fail
      go_ret
      exact ⟨by simp [e], HB.out⟩
    · by_cases h2 : x.2 = y.2
      · have e : lt x y = decide (x.1 < y.1) := by rw [HL.out, decide_eq_false h1, decide_eq_true h2]; simp
        rw [e]
        go_wp2_with fail
        go_ret
        exact ⟨by simp [e], HB.out⟩
      · have e : lt x y = false := by rw [HL.out, decide_eq_false h1, decide_eq_false h2]; rfl
        rw [e]
        go_wp2_with fail
        go_ret
        exact ⟨by simp [e], HB.out⟩
  · obtain ⟨hx, hy, hb⟩ := HW.out x y
    clear HW
    generalize ((w.alloc (.cells #[.int .i64 x.1, .int .i64 x.2] 71)).alloc (.cells #[.int .i64 y.1, .int .i64 y.2] 71)).drew = W2 at hx hy hb ⊢
    generalize w.heap.size + 1 = bY at hy ⊢
    have HB := Lib.hid hb
    have f0 := cofr hx 0 _ rfl; have f1 := cofr hx 1 _ rfl; have f2 := cofr hy 0 _ rfl; have f3 := cofr hy 1 _ rfl
    clear hx hy hb
    have HL := Lib.hid hlt
    clear hlt
    by_cases h1 : x.2 < y.2
    · have e : lt x y = true := by rw [HL.out, decide_eq_true h1]; rfl
      rw [e]
      go_wp2_with fail
      go_ret
      exact ⟨by simp [e], HB.out⟩
    · by_cases h2 : x.2 = y.2
      · have e : lt x y = decide (x.1 < y.1) := by rw [HL.out, decide_eq_false h1, decide_eq_true h2]; simp
        rw [e]
        go_wp2_with fail
        go_ret
        exact ⟨by simp [e], HB.out⟩
      · have e : lt x y = false := by rw [HL.out, decide_eq_false h1, decide_eq_false h2]; rfl
        rw [e]
        go_wp2_with fail
        go_ret
        exact ⟨by simp [e], HB.out⟩
theorem meth_swap (C : Nat) (n : Nat) (w : World) : (method (n + 1) 73 (.pointer (some ⟨C, 2, none⟩)) "Swap").run Try.prog w = .ok (58, .pointer (some ⟨C, 2, none⟩)) w := by kernel_rfl
theorem meth_push (C : Nat) (n : Nat) (w : World) : (method (n + 1) 73 (.pointer (some ⟨C, 2, none⟩)) "Push").run Try.prog w = .ok (57, .pointer (some ⟨C, 2, none⟩)) w := by kernel_rfl
theorem meth_pop (C : Nat) (n : Nat) (w : World) : (method (n + 1) 73 (.pointer (some ⟨C, 2, none⟩)) "Pop").run Try.prog w = .ok (56, .pointer (some ⟨C, 2, none⟩)) w := by kernel_rfl
theorem row_len : (Try.prog.info? 73).bind (fun i => (i.methods.find? (fun m => m.name == "Len")).map (fun m => (m.path, m.func))) = some (#[⟨59, 0, true⟩], some (29, false)) := by kernel_rfl
theorem row_less : (Try.prog.info? 73).bind (fun i => (i.methods.find? (fun m => m.name == "Less")).map (fun m => (m.path, m.func))) = some (#[⟨59, 0, true⟩], some (55, false)) := by kernel_rfl
theorem info_list : (Try.prog.info? 56).map (fun i => i.size) = some 1 := by kernel_rfl
theorem typeInfo_run {t : TypeId} {i : TypeInfo} {w : World} (h : Try.prog.info? t = some i) : (typeInfo t).run Try.prog w = .ok i w := by
  simp [typeInfo, h]
set_option maxHeartbeats 1000000 in
/-- a method of the embedded list, through the pointer to the queue -/
theorem meth_emb {C : Nat} {w : World} {v : Value} {name : String} {f : Nat}
    (hrow : (Try.prog.info? 73).bind (fun i => (i.methods.find? (fun m => m.name == name)).map (fun m => (m.path, m.func))) = some (#[⟨59, 0, true⟩], some (f, false)))
    (h : w.cell? ⟨C, 2, none⟩ = some v) (n : Nat) : (method (n + 1) 73 (.pointer (some ⟨C, 2, none⟩)) name).run Try.prog w = .ok (f, v) w := by
  obtain ⟨i, hi, hrow⟩ := Option.bind_eq_some_iff.1 hrow
  obtain ⟨m, hm, he⟩ := Option.map_eq_some_iff.1 hrow
  obtain ⟨nm, sg, path, fn⟩ := m
  simp only [Prod.mk.injEq] at he
  obtain ⟨rfl, rfl⟩ := he
  obtain ⟨j, hj, hs⟩ := Option.map_eq_some_iff.1 info_list
  unfold method
  simp [typeInfo_run hi, hm, follow, underlying, Try.underlying59, Try.underlying56, Place.get, loadVar, isAgg, fieldPlace, Go.sizeOf, typeInfo_run hj, hs, receiverAt, asAddr, h, run_load, Addr.add]
theorem meth_len {C : Nat} {w : World} {v : Value} (h : w.cell? ⟨C, 2, none⟩ = some v) (n : Nat) : (method (n + 1) 73 (.pointer (some ⟨C, 2, none⟩)) "Len").run Try.prog w = .ok (29, v) w := meth_emb row_len h n
theorem meth_less {C : Nat} {w : World} {v : Value} (h : w.cell? ⟨C, 2, none⟩ = some v) (n : Nat) : (method (n + 1) 73 (.pointer (some ⟨C, 2, none⟩)) "Less").run Try.prog w = .ok (55, v) w := meth_emb row_less h n
end Go.Proofs.Ytnioaaahkhephaa.al
