/-
  Several texts in one: BrdE BrdF BrdG BavW BavB BavP BavT BavU
-/
import Derived.Test.YtegbkeichkifnaaProg
import Derived.Laws.StructEq
import Derived.Deep.DrawnRows
import Derived.Test.YtegbkeichkifnaaM5
/-!   The document's board (layer 9): its calls.
-/
namespace Go.Proofs.Ytegbkeichkifnaa.bd
open Go.RowKit Go.Shelf aid mem rng sp rn bv
attribute [local go_sem ↓] Go.wp_at_zero Go.wp_at_succ
attribute [local go_sem] Oper.semAt_some
set_option linter.unusedVariables false
set_option linter.unusedSimpArgs false

abbrev cellsR (s : Bs) (a : Option Addr) (n cap : Nat) : Array Value := #[.int .i64 s.una, .int .i64 s.nxt, .slice a n cap]
abbrev rV (s : Bs) (a : Option Addr) (n cap : Nat) : Value := .agg (cellsR s a n cap)
abbrev rO (s : Bs) (a : Option Addr) (n cap : Nat) : Obj := .cells (cellsR s a n cap) 32
abbrev zO : Obj := .cells #[.int .i64 0, .int .i64 0, .slice none 0 0] 32
abbrev St (b : Nat) (s : Bs) (a : Option Addr) (n cap : Nat) (w : World) : Prop := w.cell? ⟨b, 0, none⟩ = some (.int .i64 s.una) ∧ w.cell? ⟨b, 1, none⟩ = some (.int .i64 s.nxt) ∧ w.cell? ⟨b, 2, none⟩ = some (.slice a n cap)
theorem st_of {w : World} {b : Nat} {s : Bs} {a : Option Addr} {n cap : Nat} (h : w.heap[b]? = some (rO s a n cap)) : St b s a n cap w := ⟨cofr h 0 _ rfl, cofr h 1 _ rfl, cofr h 2 _ rfl⟩
abbrev Fz (b : Nat) (w : World) : Prop := w.frozen? ⟨b, 0, none⟩ = false ∧ w.frozen? ⟨b, 1, none⟩ = false ∧ w.frozen? ⟨b, 2, none⟩ = false
theorem fz_of {w : World} {b : Nat} {s : Bs} {a : Option Addr} {n cap : Nat} (h : w.heap[b]? = some (rO s a n cap)) : Fz b w := ⟨fofr h 0, fofr h 1, fofr h 2⟩
abbrev put3 (b : Nat) (s : Bs) (a : Option Addr) (n cap : Nat) (W : World) : World := ((W.setCell ⟨b, 0, none⟩ (.int .i64 s.una)).setCell ⟨b, 1, none⟩ (.int .i64 s.nxt)).setCell ⟨b, 2, none⟩ (.slice a n cap)
theorem setr {w : World} {b i : Nat} {s s' : Bs} {a a' : Option Addr} {n cap n' cap' : Nat} (h : w.heap[b]? = some (rO s a n cap)) (u : Value) (hz : (cellsR s a n cap).setIfInBounds i u = cellsR s' a' n' cap') : (w.setCell ⟨b, i, none⟩ u).heap[b]? = some (rO s' a' n' cap') := by
  have this : (w.setCell ⟨b, i, none⟩ u).heap[b]? = _ := heap_setCell_same _ _ i _ _ u h
  rw [hz] at this
  exact this
theorem put3_at {b : Nat} {z : Bs} {a0 : Option Addr} {n0 c0 : Nat} {W : World} (h : W.heap[b]? = some (rO z a0 n0 c0)) (s : Bs) (a : Option Addr) (n cap : Nat) : (put3 b s a n cap W).heap[b]? = some (rO s a n cap) := by
  unfold put3
  have g0 : (W.setCell ⟨b, 0, none⟩ (.int .i64 s.una)).heap[b]? = some (rO ⟨s.una, z.nxt, z.l⟩ a0 n0 c0) := setr h _ rfl
  generalize W.setCell ⟨b, 0, none⟩ (.int .i64 s.una) = W0 at *
  have g1 : (W0.setCell ⟨b, 1, none⟩ (.int .i64 s.nxt)).heap[b]? = some (rO ⟨s.una, s.nxt, z.l⟩ a0 n0 c0) := setr g0 _ rfl
  generalize W0.setCell ⟨b, 1, none⟩ (.int .i64 s.nxt) = W1 at *
  exact setr g1 _ rfl
theorem put3_kept (b : Nat) (s : Bs) (a : Option Addr) (n cap : Nat) (W : World) : Kept [b] W (put3 b s a n cap W) :=
  (((Kept.refl [b] W).setCell (.inl (by simp)) _).setCell (.inl (by simp)) _).setCell (.inl (by simp)) _
theorem SlS.lt {w : World} {a : Option Addr} {n cap : Nat} {l : List Sp} (h : SlS w a n cap l) : ∀ x, a = some x → 0 < n → x.block < w.heap.size := fun x hx h0 => by
  obtain ⟨b, off, e, hc⟩ := h.cells h0
  rw [hx] at e
  obtain rfl := Option.some.inj e
  exact World.block_lt_of_cell? w _ (hc 0 h0).1
/-- where a row lies -/
def Frm (w : World) (a : Option Addr) (n : Nat) (a' : Option Addr) (n' : Nat) : Prop := ∀ x, a' = some x → 0 < n' → (a = some x ∧ 0 < n) ∨ w.heap.size ≤ x.block
theorem Frm.refl (w : World) (a : Option Addr) (n : Nat) : Frm w a n a n := fun x hx h0 => .inl ⟨hx, h0⟩
/-- what comes back of a call with a board -/
def RetA (s' : Bs) (v : Value) (a : Option Addr) (n : Nat) (w : World) (e : Ending) (w' : World) : Prop :=
  ∃ a' n' cap', e = .returned (.tuple #[rV s' a' n' cap', v]) ∧ SlS w' a' n' cap' s'.l ∧ Below w.heap.size w w' ∧ Frm w a n a' n'
def RetA2 (s' : Bs) (v u : Value) (a : Option Addr) (n : Nat) (w : World) (e : Ending) (w' : World) : Prop :=
  ∃ a' n' cap', e = .returned (.tuple #[rV s' a' n' cap', v, u]) ∧ SlS w' a' n' cap' s'.l ∧ Below w.heap.size w w' ∧ Frm w a n a' n'
/-- the boxes of a call, the row; r: where the result's box lies -/
structure RB (w : World) (r : Nat) (a0 : Option Addr) (n0 : Nat) (s : Bs) (a : Option Addr) (n cap : Nat) (W : World) : Prop where
  b0 : W.heap[w.heap.size]? = some (rO s a n cap)
  rs : W.heap[w.heap.size + r]? = some (rO Bs.zero none 0 0)
  row : SlS W a n cap s.l
  ra : ∀ x, a = some x → 0 < n → x.block ∉ [w.heap.size] ∧ x.block ∉ [w.heap.size + r]
  fr : Frm w a0 n0 a n
  below : Below w.heap.size w W
theorem RB.later {w W W' : World} {r : Nat} {a0 : Option Addr} {n0 : Nat} {s : Bs} {a : Option Addr} {n cap : Nat} (h : RB w r a0 n0 s a n cap W) (hb : Below W.heap.size W W') : RB w r a0 n0 s a n cap W' :=
  ⟨(hb.block _ (lt_of_block h.b0)).trans h.b0, (hb.block _ (lt_of_block h.rs)).trans h.rs, h.row.later hb, h.ra, h.fr, h.below.trans (hb.mono h.below.size)⟩
/-- a field of the first box is written -/
theorem RB.put {w W : World} {r : Nat} {a0 : Option Addr} {n0 : Nat} {s s' : Bs} {a a' : Option Addr} {n cap n' cap' : Nat} (h : RB w r a0 n0 s a n cap W) (hr : r ≠ 0) (i : Nat) (u : Value) (hz : (cellsR s a n cap).setIfInBounds i u = cellsR s' a' n' cap') (hs : SlS W a' n' cap' s'.l) (hn : ∀ x, a' = some x → 0 < n' → x.block ∉ [w.heap.size] ∧ x.block ∉ [w.heap.size + r]) (hf : Frm w a0 n0 a' n') : RB w r a0 n0 s' a' n' cap' (W.setCell ⟨w.heap.size, i, none⟩ u) := by
  have hk : Kept [w.heap.size] W (W.setCell ⟨w.heap.size, i, none⟩ u) := (Kept.refl _ W).setCell (.inl (by simp)) u
  exact ⟨setr h.b0 u hz, hk.heap (by simp; omega) h.rs, hs.keep hk (fun x hx h0 => (hn x hx h0).1), hn, hf, h.below.trans (hk.below (by simp) h.below.size)⟩
/-- the end: the answer's box is written -/
def FinR (w : World) (r : Nat) (a0 : Option Addr) (n0 : Nat) (s : Bs) (a : Option Addr) (n cap : Nat) (W : World) : Prop := W.heap[w.heap.size + r]? = some (rO s a n cap) ∧ SlS W a n cap s.l ∧ Below w.heap.size w W ∧ Frm w a0 n0 a n
theorem RB.fin {w W : World} {r : Nat} {a0 : Option Addr} {n0 : Nat} {s : Bs} {a : Option Addr} {n cap : Nat} (h : RB w r a0 n0 s a n cap W) : FinR w r a0 n0 s a n cap (put3 (w.heap.size + r) s a n cap W) := by
  have hk := put3_kept (w.heap.size + r) s a n cap W
  exact ⟨put3_at h.rs s a n cap, h.row.keep hk (fun x hx h0 => (h.ra x hx h0).2), h.below.trans (hk.below (by simp) h.below.size), h.fr⟩
theorem rb2 {w : World} {s : Bs} {a : Option Addr} {n cap : Nat} (h : SlS w a n cap s.l) : RB w 1 a n s a n cap ((w.alloc (rO s a n cap)).alloc zO) := by
  have b1 := bal (w := w) (rO s a n cap)
  have y1 := heap_alloc_new w (rO s a n cap)
  have z1 : (w.alloc (rO s a n cap)).heap.size = w.heap.size + 1 := by simp
  have h1 := h.later b1
  have hl := SlS.lt h
  generalize w.alloc (rO s a n cap) = w1 at *
  have b3 := bal (w := w1) zO
  have y4 := heap_alloc_new w1 zO
  rw [z1] at y4
  exact ⟨(b3.block _ (lt_of_block y1)).trans y1, y4, h1.later b3, fun x hx h0 => by have := hl x hx h0; simp only [List.mem_singleton]; omega, Frm.refl _ _ _, b1.trans (b3.mono b1.size)⟩
theorem rb3 {w : World} {s : Bs} {a : Option Addr} {n cap : Nat} (h : SlS w a n cap s.l) (y : Sp) : RB w 2 a n s a n cap (((w.alloc (rO s a n cap)).alloc (.cells #[.int .i64 y.1, .int .i64 y.2] 24)).alloc zO) ∧ SpAt (((w.alloc (rO s a n cap)).alloc (.cells #[.int .i64 y.1, .int .i64 y.2] 24)).alloc zO) (w.heap.size + 1) y := by
  have b1 := bal (w := w) (rO s a n cap)
  have y1 := heap_alloc_new w (rO s a n cap)
  have z1 : (w.alloc (rO s a n cap)).heap.size = w.heap.size + 1 := by simp
  have h1 := h.later b1
  have hl := SlS.lt h
  generalize w.alloc (rO s a n cap) = w1 at *
  have b2 := bal (w := w1) (.cells #[.int .i64 y.1, .int .i64 y.2] 24)
  have s2 := sp_new w1 y
  have z2 : (w1.alloc (.cells #[.int .i64 y.1, .int .i64 y.2] 24)).heap.size = w.heap.size + 2 := by simp [z1]
  rw [z1] at s2
  generalize w1.alloc (.cells #[.int .i64 y.1, .int .i64 y.2] 24) = w2 at *
  have b3 := bal (w := w2) zO
  have y4 := heap_alloc_new w2 zO
  rw [z2] at y4
  have b12 := b1.trans (b2.mono b1.size)
  exact ⟨⟨(b3.block _ (Nat.lt_of_lt_of_le (lt_of_block y1) b2.size)).trans ((b2.block _ (lt_of_block y1)).trans y1), y4, (h1.later b2).later b3, fun x hx h0 => by have := hl x hx h0; simp only [List.mem_singleton]; omega, Frm.refl _ _ _, b12.trans (b3.mono b12.size)⟩, s2.later b3⟩

set_option maxRecDepth 100000 in
set_option maxHeartbeats 4000000 in
theorem rsent_any {w : World} {s : Bs} {a : Option Addr} {n cap : Nat} (h : SlS w a n cap s.l) (ho : BOk s) (t : Int) (ht : -9223372036854775808 ≤ t ∧ t ≤ 9223372036854775807) :
    Calls Try.prog 27 #[rV s a n cap, .int .i64 t] w (RetA (sentN s t).2 (.int .i64 (sentN s t).1) a n w) := by
  have HR := Lib.hid (rb2 h)
  have hlo := ho.lo; have hle := ho.le; have hhi := ho.hi
  by_cases hbad : t < s.nxt ∨ 4611686018427387904 < t ∨ 65536 < t - s.una
  · have HX : Hid (sentN s t = (3, s)) := Lib.hid (by unfold sentN; rw [if_pos hbad])
    rw [HX.out]
    clear h HX
    by_cases h1 : t < s.nxt
    · clear hbad
      go_enter Try.func27, Try.ntmps27
      go_upto_region 1 with fail
      generalize (w.alloc (rO s a n cap)).alloc zO = W at *
      have HF := Lib.hid HR.out.fin
      obtain ⟨r0, r1, r2⟩ := st_of HR.out.b0; obtain ⟨z0, z1, z2⟩ := st_of HR.out.rs; obtain ⟨f0, f1, f2⟩ := fz_of HR.out.rs
      obtain ⟨y0, y1, y2⟩ := st_of HF.out.1
      go_wp2_with fail
      exact bodyPost_ret (v := .tuple #[rV s a n cap, .int .i64 3]) (by simp [results, Try.results27, go_sem, y0, y1, y2]) rfl ⟨a, n, cap, rfl, HF.out.2⟩
    by_cases h2 : 4611686018427387904 < t
    · clear hbad
      go_enter Try.func27, Try.ntmps27
      go_upto_region 1 with fail
      generalize (w.alloc (rO s a n cap)).alloc zO = W at *
      have HF := Lib.hid HR.out.fin
      obtain ⟨r0, r1, r2⟩ := st_of HR.out.b0; obtain ⟨z0, z1, z2⟩ := st_of HR.out.rs; obtain ⟨f0, f1, f2⟩ := fz_of HR.out.rs
      obtain ⟨y0, y1, y2⟩ := st_of HF.out.1
      go_wp2_with fail
      exact bodyPost_ret (v := .tuple #[rV s a n cap, .int .i64 3]) (by simp [results, Try.results27, go_sem, y0, y1, y2]) rfl ⟨a, n, cap, rfl, HF.out.2⟩
    have h3 : 65536 < t - s.una := by omega
    have hw1 : IntKind.i64.wrap (t - s.una) = t - s.una := IntWalk.i64_in _ (by omega)
    clear hbad
    go_enter Try.func27, Try.ntmps27
    go_upto_region 1 with fail
    generalize (w.alloc (rO s a n cap)).alloc zO = W at *
    have HF := Lib.hid HR.out.fin
    obtain ⟨r0, r1, r2⟩ := st_of HR.out.b0; obtain ⟨z0, z1, z2⟩ := st_of HR.out.rs; obtain ⟨f0, f1, f2⟩ := fz_of HR.out.rs
    obtain ⟨y0, y1, y2⟩ := st_of HF.out.1
    go_wp2_with fail
    exact bodyPost_ret (v := .tuple #[rV s a n cap, .int .i64 3]) (by simp [results, Try.results27, go_sem, y0, y1, y2]) rfl ⟨a, n, cap, rfl, HF.out.2⟩
  · have HX : Hid (sentN s t = (0, ⟨s.una, t, s.l⟩)) := Lib.hid (by unfold sentN; rw [if_neg hbad])
    rw [HX.out]
    have h1 : ¬ t < s.nxt := by omega
    have h2 : ¬ 4611686018427387904 < t := by omega
    have h3 : ¬ 65536 < t - s.una := by omega
    have hw1 : IntKind.i64.wrap (t - s.una) = t - s.una := IntWalk.i64_in _ (by omega)
    clear h HX hbad
    go_enter Try.func27, Try.ntmps27
    go_upto_region 1 with fail
    generalize (w.alloc (rO s a n cap)).alloc zO = W at *
    obtain ⟨r0, r1, r2⟩ := st_of HR.out.b0
    have g1 := (fz_of HR.out.b0).2.1
    have R' := HR.out.put (s' := ⟨s.una, t, s.l⟩) (a' := a) (n' := n) (cap' := cap) (by decide) 1 (.int .i64 t) rfl HR.out.row HR.out.ra HR.out.fr
    go_upto_region 4 with fail
    clear r0 r1 r2 g1
    generalize W.setCell ⟨w.heap.size, 1, none⟩ (.int .i64 t) = U at *
    have HF := Lib.hid R'.fin
    obtain ⟨r0, r1, r2⟩ := st_of R'.b0; obtain ⟨z0, z1, z2⟩ := st_of R'.rs; obtain ⟨f0, f1, f2⟩ := fz_of R'.rs
    clear R'
    obtain ⟨y0, y1, y2⟩ := st_of HF.out.1
    go_wp2_with fail
    exact bodyPost_ret (v := .tuple #[rV ⟨s.una, t, s.l⟩ a n cap, .int .i64 0]) (by simp [results, Try.results27, go_sem, y0, y1, y2]) rfl ⟨_, _, _, rfl, HF.out.2⟩
end Go.Proofs.Ytegbkeichkifnaa.bd
/-!   The document's board (layer 9): Ack, Sack.
-/
namespace Go.Proofs.Ytegbkeichkifnaa.bd
open Go.RowKit Go.Shelf aid mem rng sp rn bv
attribute [local go_sem ↓] Go.wp_at_zero Go.wp_at_succ
attribute [local go_sem] Oper.semAt_some
set_option linter.unusedVariables false
set_option linter.unusedSimpArgs false

/-- the boxes, and one of a span -/
structure AB (w : World) (r : Nat) (s : Bs) (a : Option Addr) (n cap : Nat) (G : Nat) (y : Sp) (W : World) : Prop where
  r : RB w r a n s a n cap W
  g : SpAt W G y
theorem AB.later {w W W' : World} {r : Nat} {s : Bs} {a : Option Addr} {n cap G : Nat} {y : Sp} (h : AB w r s a n cap G y W) (hb : Below W.heap.size W W') : AB w r s a n cap G y W' := ⟨h.r.later hb, h.g.later hb⟩
abbrev S3 (b G : Nat) (a : Option Addr) (n cap : Nat) (y : Sp) (W : World) : Prop := W.cell? ⟨b, 2, none⟩ = some (.slice a n cap) ∧ W.cell? ⟨G, 0, none⟩ = some (.int .i64 y.1) ∧ W.cell? ⟨G, 1, none⟩ = some (.int .i64 y.2)
theorem AB.s3 {w W : World} {r : Nat} {s : Bs} {a : Option Addr} {n cap G : Nat} {y : Sp} (h : AB w r s a n cap G y W) : S3 w.heap.size G a n cap y W := ⟨(st_of h.r.b0).2.2, h.g.c0, h.g.c1⟩
/-- a row that came of a call lies apart from the boxes -/
theorem RB.apart {w W : World} {r : Nat} {a0 : Option Addr} {n0 : Nat} {s : Bs} {a a' : Option Addr} {n cap n' : Nat} (h : RB w r a0 n0 s a n cap W) (q : ∀ x, a' = some x → (a = some x ∧ n' = n) ∨ W.heap.size ≤ x.block) :
    (∀ x, a' = some x → 0 < n' → x.block ∉ [w.heap.size] ∧ x.block ∉ [w.heap.size + r]) ∧ Frm w a0 n0 a' n' := by
  have h1 := lt_of_block h.b0; have h2 := lt_of_block h.rs; have h3 := h.below.size
  refine ⟨fun x hx h0 => ?_, fun x hx h0 => ?_⟩
  · rcases q x hx with ⟨e1, e2⟩ | e
    · exact h.ra x e1 (by omega)
    · simp only [List.mem_singleton]; omega
  · rcases q x hx with ⟨e1, e2⟩ | e
    · exact h.fr x e1 (by omega)
    · exact .inr (by omega)
set_option maxRecDepth 100000 in
set_option maxHeartbeats 4000000 in
theorem rback_any {w : World} {s : Bs} {a : Option Addr} {n cap : Nat} (h : SlS w a n cap s.l) (ho : BOk s) (t : Int) :
    Calls Try.prog 28 #[rV s a n cap, .int .i64 t] w (RetA2 (ackN s t).2.2 (.int .i64 (ackN s t).1) (.int .i64 (ackN s t).2.1) a n w) := by
  have HR := Lib.hid (rb2 h)
  have hlo := ho.lo; have hle := ho.le; have hhi := ho.hi
  by_cases h1 : t < s.una
  · have HX : Hid (ackN s t = (0, 11, s)) := Lib.hid (by unfold ackN; rw [if_pos h1])
    rw [HX.out]
    clear h HX
    go_enter Try.func28, Try.ntmps28
    go_upto_region 1 with fail
    generalize (w.alloc (rO s a n cap)).alloc zO = W at *
    have HF := Lib.hid HR.out.fin
    obtain ⟨r0, r1, r2⟩ := st_of HR.out.b0; obtain ⟨z0, z1, z2⟩ := st_of HR.out.rs; obtain ⟨f0, f1, f2⟩ := fz_of HR.out.rs
    obtain ⟨y0, y1, y2⟩ := st_of HF.out.1
    go_wp2_with fail
    exact bodyPost_ret (v := .tuple #[rV s a n cap, .int .i64 0, .int .i64 11]) (by simp [results, Try.results28, go_sem, y0, y1, y2]) rfl ⟨a, n, cap, rfl, HF.out.2⟩
  by_cases h2 : s.nxt < t
  · have HX : Hid (ackN s t = (0, 12, s)) := Lib.hid (by unfold ackN; rw [if_neg h1, if_pos h2])
    rw [HX.out]
    clear h HX
    go_enter Try.func28, Try.ntmps28
    go_upto_region 1 with fail
    generalize (w.alloc (rO s a n cap)).alloc zO = W at *
    have HF := Lib.hid HR.out.fin
    obtain ⟨r0, r1, r2⟩ := st_of HR.out.b0; obtain ⟨z0, z1, z2⟩ := st_of HR.out.rs; obtain ⟨f0, f1, f2⟩ := fz_of HR.out.rs
    obtain ⟨y0, y1, y2⟩ := st_of HF.out.1
    go_wp2_with fail
    exact bodyPost_ret (v := .tuple #[rV s a n cap, .int .i64 0, .int .i64 12]) (by simp [results, Try.results28, go_sem, y0, y1, y2]) rfl ⟨a, n, cap, rfl, HF.out.2⟩
  have HX : Hid (ackN s t = (lenI (s.una, t) - withinL s.l (s.una, t), 0, ⟨t, s.nxt, refWo s.l (s.una, t)⟩)) := Lib.hid (by unfold ackN; rw [if_neg h1, if_neg h2])
  rw [HX.out]
  have hn := h.len
  have hlen := ho.len
  have hw := within_lt ho.rn (s.una, t)
  have hl := len_ok (x := (s.una, t)) ⟨hlo, by simp only; omega, by simp only; omega⟩
  simp only at hl
  have HWO := Lib.hid (fun X (q : SlS X a n cap s.l) => rwithout_any q (by omega) (s.una, t))
  have HWI := Lib.hid (fun X (q : SlS X a n cap s.l) => rwithin_any q ho.rn (s.una, t))
  have HLN := Lib.hid (fun X => sp.rlen_any (s.una, t) X)
  have hw1 : IntKind.i64.wrap (lenI (s.una, t) - withinL s.l (s.una, t)) = lenI (s.una, t) - withinL s.l (s.una, t) := IntWalk.i64_in _ (by omega)
  have hw2 : wrap64 (lenI (s.una, t) - withinL s.l (s.una, t)) = lenI (s.una, t) - withinL s.l (s.una, t) := w64 _ (by omega)
  clear h HX hw hl hlen hn
  generalize withinL s.l (s.una, t) = q2 at *
  generalize lenI (s.una, t) = q1 at *
  generalize hL : refWo s.l (s.una, t) = L at *
  clear hL
  obtain ⟨z, hz⟩ : ∃ z, z = q1 - q2 := ⟨_, rfl⟩
  rw [← hz] at hw1 hw2 ⊢
  have hw1 : IntKind.i64.wrap (q1 - q2) = z := by rw [← hz]; exact hw1
  have hw2 : wrap64 (q1 - q2) = z := by rw [← hz]; exact hw2
  have HZ := Lib.hid hz
  clear hz
  go_enter Try.func28, Try.ntmps28
  go_upto_region 1 with fail
  generalize (w.alloc (rO s a n cap)).alloc zO = W at *
  obtain ⟨r0, r1, r2⟩ := st_of HR.out.b0
  have A0 : AB w 1 s a n cap W.heap.size (s.una, t) (W.alloc (.cells #[.int .i64 s.una, .int .i64 t] 24)) := ⟨HR.out.later (bal _), sp_new W (s.una, t)⟩
  go_upto_region 6 with fail
  clear r0 r1 r2 HR
  generalize W.alloc (.cells #[.int .i64 s.una, .int .i64 t] 24) = V at *
  generalize W.heap.size = G at *
  have A1 := A0.later (Below.refl _ _).drew
  have P1 := A1.s3
  clear A0
  go_region_held3 (fun W => S3 w.heap.size G a n cap (s.una, t) W) (first | with_reducible exact P3 | with_reducible exact P2 | with_reducible exact P1 | go_keep)
    (first
      | (go_at_call 25; (with_reducible refine (HLN.out _).mono ?_); rintro e w3 ⟨rfl, h3⟩; have A2 := A1.later h3; have P2 := A2.s3; clear A1 h3)
      | (go_at_call 12; (with_reducible refine (HWI.out _ A2.r.row).mono ?_); rintro e w4 ⟨rfl, h4⟩; have A3 := A2.later h4; have P3 := A3.s3; clear A2 h4))
  clear P1 P2
  obtain ⟨p2, p3, p4⟩ := P3
  obtain ⟨r0, r1, _⟩ := st_of A3.r.b0
  go_upto_region 8 with (go_at_call 52; (with_reducible refine (HWO.out _ A3.r.row).mono ?_); rintro e w5 ⟨a', n', cap', rfl, q1, q2, q3⟩; have A4 := A3.later q2; have HQ := Lib.hid (A3.r.apart q3); have HQ1 := Lib.hid q1; clear q1 q2 q3 p2 p3 p4 r0 r1 A3; obtain ⟨p2, p3, p4⟩ := A4.s3; have f2 := (fz_of A4.r.b0).2.2)
  have R5 := A4.r.put (s' := ⟨s.una, s.nxt, L⟩) (a' := a') (n' := n') (cap' := cap') (by decide) 2 (.slice a' n' cap') rfl HQ1.out HQ.out.1 HQ.out.2
  clear p2 p3 p4 f2 A4
  generalize w5.setCell ⟨w.heap.size, 2, none⟩ (.slice a' n' cap') = V5 at *
  obtain ⟨r0, r1, r2⟩ := st_of R5.b0
  have f0 := (fz_of R5.b0).1
  have R6 := R5.put (s' := ⟨t, s.nxt, L⟩) (a' := a') (n' := n') (cap' := cap') (by decide) 0 (.int .i64 t) rfl R5.row R5.ra R5.fr
  go_upto_region 9 with fail
  clear r0 r1 r2 f0 R5
  generalize V5.setCell ⟨w.heap.size, 0, none⟩ (.int .i64 t) = U at *
  have HF := Lib.hid R6.fin
  obtain ⟨r0, r1, r2⟩ := st_of R6.b0; obtain ⟨z0, z1, z2⟩ := st_of R6.rs; obtain ⟨f0, f1, f2⟩ := fz_of R6.rs
  clear R6
  obtain ⟨y0, y1, y2⟩ := st_of HF.out.1
  go_wp2_with fail
  exact bodyPost_ret (v := .tuple #[rV ⟨t, s.nxt, L⟩ a' n' cap', .int .i64 z, .int .i64 0]) (by simp [results, Try.results28, go_sem, y0, y1, y2]) rfl ⟨_, _, _, rfl, HF.out.2⟩
end Go.Proofs.Ytegbkeichkifnaa.bd
/-!   The document's board (layer 9): Sack, High, Has, Holes.
-/
namespace Go.Proofs.Ytegbkeichkifnaa.bd
open Go.RowKit Go.Shelf aid mem rng sp rn bv
attribute [local go_sem ↓] Go.wp_at_zero Go.wp_at_succ
attribute [local go_sem] Oper.semAt_some
set_option linter.unusedVariables false
set_option linter.unusedSimpArgs false

theorem wi_rn' {l : List Sp} (h : Rn l) (y : Sp) (u : Int) : Rn (refWi l (fromP y u)) := by
  by_cases c : lenI (fromP y u) = 0
  · unfold refWi; rw [if_pos c]; exact h
  · exact (wi_spec h (len_pos_ok c)).1
set_option maxRecDepth 100000 in
set_option maxHeartbeats 4000000 in
theorem rbsack_any {w : World} {s : Bs} {a : Option Addr} {n cap : Nat} (h : SlS w a n cap s.l) (ho : BOk s) (y : Sp) :
    Calls Try.prog 29 #[rV s a n cap, spV y] w (RetA2 (sackN s y).2.2 (.int .i64 (sackN s y).1) (.int .i64 (sackN s y).2.1) a n w) := by
  have HR := Lib.hid (rb3 h y)
  have hlo := ho.lo; have hle := ho.le; have hhi := ho.hi
  have HLN := Lib.hid (fun X => sp.rlen_any y X)
  by_cases h1 : lenI y = 0
  · have HX : Hid (sackN s y = (0, 3, s)) := Lib.hid (by unfold sackN; rw [if_pos h1])
    rw [HX.out]
    rw [h1] at HLN
    clear h HX h1
    go_enter Try.func29, Try.ntmps29
    go_upto_region 1 with fail
    generalize ((w.alloc (rO s a n cap)).alloc (.cells #[.int .i64 y.1, .int .i64 y.2] 24)).alloc zO = W at *
    have c0 := HR.out.2.c0; have c1 := HR.out.2.c1
    go_upto_region 2 with (go_at_call 25; (with_reducible refine (HLN.out _).mono ?_); rintro e w3 ⟨rfl, h3⟩; have R3 := HR.out.1.later h3; clear h3 c0 c1 HR; have HF := Lib.hid R3.fin; obtain ⟨r0, r1, r2⟩ := st_of R3.b0; obtain ⟨z0, z1, z2⟩ := st_of R3.rs; obtain ⟨f0, f1, f2⟩ := fz_of R3.rs)
    obtain ⟨y0, y1, y2⟩ := st_of HF.out.1
    go_wp2_with fail
    exact bodyPost_ret (v := .tuple #[rV s a n cap, .int .i64 0, .int .i64 3]) (by simp [results, Try.results29, go_sem, y0, y1, y2]) rfl ⟨a, n, cap, rfl, HF.out.2⟩
  have HQ0 := Lib.hid h1
  by_cases h2 : s.nxt < y.2
  · have HX : Hid (sackN s y = (0, 12, s)) := Lib.hid (by unfold sackN; rw [if_neg h1, if_pos h2])
    rw [HX.out]
    clear h HX HQ0
    generalize lenI y = q at *
    go_enter Try.func29, Try.ntmps29
    go_upto_region 1 with fail
    generalize ((w.alloc (rO s a n cap)).alloc (.cells #[.int .i64 y.1, .int .i64 y.2] 24)).alloc zO = W at *
    have c0 := HR.out.2.c0; have c1 := HR.out.2.c1
    go_upto_region 4 with (go_at_call 25; (with_reducible refine (HLN.out _).mono ?_); rintro e w3 ⟨rfl, h3⟩; have R3 := HR.out.1.later h3; have s3 := HR.out.2.later h3; clear h3 c0 c1 HR; have HF := Lib.hid R3.fin; obtain ⟨r0, r1, r2⟩ := st_of R3.b0; obtain ⟨z0, z1, z2⟩ := st_of R3.rs; obtain ⟨f0, f1, f2⟩ := fz_of R3.rs; have c0 := s3.c0; have c1 := s3.c1)
    obtain ⟨y0, y1, y2⟩ := st_of HF.out.1
    go_wp2_with fail
    exact bodyPost_ret (v := .tuple #[rV s a n cap, .int .i64 0, .int .i64 12]) (by simp [results, Try.results29, go_sem, y0, y1, y2]) rfl ⟨a, n, cap, rfl, HF.out.2⟩
  have HFR := Lib.hid (fun X => rfrom_any y s.una X)
  have hrl := wi_rn' ho.rn y s.una
  have hn := h.len
  have hlen := ho.len
  have HWI := Lib.hid (fun X (q : SlS X a n cap s.l) => rwith_any q (by omega) (fromP y s.una))
  by_cases h4 : 4096 < (refWi s.l (fromP y s.una)).length
  · have HX : Hid (sackN s y = (0, 4, s)) := Lib.hid (by unfold sackN; rw [if_neg h1, if_neg h2, if_pos h4])
    rw [HX.out]
    clear h HX HQ0 hrl
    generalize lenI y = q at *
    generalize refWi s.l (fromP y s.una) = L at *
    generalize fromP y s.una = x at *
    go_enter Try.func29, Try.ntmps29
    go_upto_region 1 with fail
    generalize ((w.alloc (rO s a n cap)).alloc (.cells #[.int .i64 y.1, .int .i64 y.2] 24)).alloc zO = W at *
    have c0 := HR.out.2.c0; have c1 := HR.out.2.c1
    go_upto_region 3 with (go_at_call 25; (with_reducible refine (HLN.out _).mono ?_); rintro e w3 ⟨rfl, h3⟩; have R3 := HR.out.1.later h3; have s3 := HR.out.2.later h3; clear h3 c0 c1 HR; obtain ⟨r0, r1, r2⟩ := st_of R3.b0; have c0 := s3.c0; have c1 := s3.c1)
    go_upto_region 6 with (go_at_call 39; (with_reducible refine (HFR.out _).mono ?_); rintro e w4 ⟨rfl, h4'⟩; have A4 : AB w 2 s a n cap w4.heap.size x (w4.alloc (.cells #[.int .i64 x.1, .int .i64 x.2] 24)) := ⟨(R3.later h4').later (bal _), sp_new w4 x⟩; clear h4' c0 c1 r0 r1 r2 R3 s3)
    generalize w4.alloc (.cells #[.int .i64 x.1, .int .i64 x.2] 24) = V at *
    generalize w4.heap.size = G at *
    obtain ⟨r2, c0, c1⟩ := A4.s3
    go_upto_region 8 with (go_at_call 53; (with_reducible refine (HWI.out _ A4.r.row).mono ?_); rintro e w5 ⟨a', n', cap', rfl, q1, q2, q3⟩; have hn' : 4096 < n' := by { have := q1.len; omega }; have hn2 : n' ≤ 9223372036854775807 := by { have := q1.le; have := q1.most; unfold maxLen at this; omega }; have R5 := A4.r.later q2; clear q1 q2 q3 A4 r2 c0 c1; have HF := Lib.hid R5.fin; obtain ⟨r0, r1, r2⟩ := st_of R5.b0; obtain ⟨z0, z1, z2⟩ := st_of R5.rs; obtain ⟨f0, f1, f2⟩ := fz_of R5.rs)
    obtain ⟨y0, y1, y2⟩ := st_of HF.out.1
    go_wp2_with fail
    exact bodyPost_ret (v := .tuple #[rV s a n cap, .int .i64 0, .int .i64 4]) (by simp [results, Try.results29, go_sem, y0, y1, y2]) rfl ⟨a, n, cap, rfl, HF.out.2⟩
  have hb1 := hrl.bytes; have hb2 := ho.rn.bytes
  have HX : Hid (sackN s y = (bytesL (refWi s.l (fromP y s.una)) - bytesL s.l, 0, ⟨s.una, s.nxt, refWi s.l (fromP y s.una)⟩)) := Lib.hid (by unfold sackN; rw [if_neg h1, if_neg h2, if_neg h4])
  rw [HX.out]
  have HBY := Lib.hid (fun X a' n' cap' (q : SlS X a' n' cap' (refWi s.l (fromP y s.una))) => rbytes_any q hrl)
  have HBZ := Lib.hid (fun X (q : SlS X a n cap s.l) => rbytes_any q ho.rn)
  obtain ⟨z, hz⟩ : ∃ z, z = bytesL (refWi s.l (fromP y s.una)) - bytesL s.l := ⟨_, rfl⟩
  have hw1 : IntKind.i64.wrap (bytesL (refWi s.l (fromP y s.una)) - bytesL s.l) = z := by rw [hz]; exact IntWalk.i64_in _ (by omega)
  have hw2 : wrap64 (bytesL (refWi s.l (fromP y s.una)) - bytesL s.l) = z := by rw [hz]; exact w64 _ (by omega)
  rw [← hz]
  clear hz h HX HQ0 hrl hb1 hb2
  generalize bytesL (refWi s.l (fromP y s.una)) = b1 at *
  generalize bytesL s.l = b2 at *
  generalize lenI y = q at *
  generalize refWi s.l (fromP y s.una) = L at *
  generalize fromP y s.una = x at *
  go_enter Try.func29, Try.ntmps29
  go_upto_region 1 with fail
  generalize ((w.alloc (rO s a n cap)).alloc (.cells #[.int .i64 y.1, .int .i64 y.2] 24)).alloc zO = W at *
  have c0 := HR.out.2.c0; have c1 := HR.out.2.c1
  go_upto_region 3 with (go_at_call 25; (with_reducible refine (HLN.out _).mono ?_); rintro e w3 ⟨rfl, h3⟩; have R3 := HR.out.1.later h3; have s3 := HR.out.2.later h3; clear h3 c0 c1 HR; obtain ⟨r0, r1, r2⟩ := st_of R3.b0; have c0 := s3.c0; have c1 := s3.c1)
  go_upto_region 6 with (go_at_call 39; (with_reducible refine (HFR.out _).mono ?_); rintro e w4 ⟨rfl, h4'⟩; have A4 : AB w 2 s a n cap w4.heap.size x (w4.alloc (.cells #[.int .i64 x.1, .int .i64 x.2] 24)) := ⟨(R3.later h4').later (bal _), sp_new w4 x⟩; clear h4' c0 c1 r0 r1 r2 R3 s3)
  generalize w4.alloc (.cells #[.int .i64 x.1, .int .i64 x.2] 24) = V at *
  generalize w4.heap.size = G at *
  obtain ⟨r2, c0, c1⟩ := A4.s3
  go_upto_region 9 with (go_at_call 53; (with_reducible refine (HWI.out _ A4.r.row).mono ?_); rintro e w5 ⟨a', n', cap', rfl, q1, q2, q3⟩; have hn' : ¬ 4096 < n' := by { have := q1.len; omega }; have A5 := A4.later q2; have HQ := Lib.hid (A4.r.apart q3); have HQ1 := Lib.hid q1; clear q1 q2 q3 A4 r2 c0 c1)
  have A6 := A5.later (Below.refl _ _).drew
  have HQ2 := Lib.hid (HQ1.out.later (Below.refl _ _).drew)
  have P1 := (st_of A6.r.b0).2.2
  clear A5 HQ1
  go_region_held3 (fun W => W.cell? ⟨w.heap.size, 2, none⟩ = some (.slice a n cap)) (first | with_reducible exact P3 | with_reducible exact P2 | with_reducible exact P1 | go_keep)
    ((go_at_call 31; first
      | ((with_reducible refine (HBY.out _ _ _ _ HQ2.out).mono ?_); rintro e w6 ⟨rfl, h6⟩; have A7 := A6.later h6; have HQ3 := Lib.hid (HQ2.out.later h6); have P2 := (st_of A7.r.b0).2.2; clear A6 HQ2 h6)
      | ((with_reducible refine (HBZ.out _ A7.r.row).mono ?_); rintro e w7 ⟨rfl, h7⟩; have A8 := A7.later h7; have HQ4 := Lib.hid (HQ3.out.later h7); have P3 := (st_of A8.r.b0).2.2; clear A7 HQ3 h7)))
  clear P1 P2
  have f2 := (fz_of A8.r.b0).2.2
  have R5 := A8.r.put (s' := ⟨s.una, s.nxt, L⟩) (a' := a') (n' := n') (cap' := cap') (by decide) 2 (.slice a' n' cap') rfl HQ4.out HQ.out.1 HQ.out.2
  go_upto_region 11 with fail
  clear P3 f2 A8
  generalize w7.setCell ⟨w.heap.size, 2, none⟩ (.slice a' n' cap') = V5 at *
  have HF := Lib.hid R5.fin
  obtain ⟨r0, r1, r2⟩ := st_of R5.b0; obtain ⟨z0, z1, z2⟩ := st_of R5.rs; obtain ⟨f0, f1, f2⟩ := fz_of R5.rs
  clear R5
  obtain ⟨y0, y1, y2⟩ := st_of HF.out.1
  go_wp2_with fail
  exact bodyPost_ret (v := .tuple #[rV ⟨s.una, s.nxt, L⟩ a' n' cap', .int .i64 z, .int .i64 0]) (by simp [results, Try.results29, go_sem, y0, y1, y2]) rfl ⟨_, _, _, rfl, HF.out.2⟩

/-! ### what is asked -/
/-- the box of what is asked -/
structure HB (w : World) (s : Bs) (a : Option Addr) (n cap : Nat) (W : World) : Prop where
  b0 : W.heap[w.heap.size]? = some (rO s a n cap)
  row : SlS W a n cap s.l
  below : Below w.heap.size w W
theorem HB.later {w W W' : World} {s : Bs} {a : Option Addr} {n cap : Nat} (h : HB w s a n cap W) (hb : Below W.heap.size W W') : HB w s a n cap W' := ⟨(hb.block _ (lt_of_block h.b0)).trans h.b0, h.row.later hb, h.below.trans (hb.mono h.below.size)⟩
set_option maxRecDepth 100000 in
set_option maxHeartbeats 4000000 in
theorem rhigh_any {w : World} {s : Bs} {a : Option Addr} {n cap : Nat} (h : SlS w a n cap s.l) :
    Calls Try.prog 30 #[rV s a n cap] w (RetI (highN s) w) := by
  have b1 := bal (w := w) (rO s a n cap)
  have y1 := heap_alloc_new w (rO s a n cap)
  have h1 := h.later b1
  have hn := h.len
  have hle := h.le
  have hmost := h.most
  unfold maxLen at hmost
  generalize hW : w.alloc (rO s a n cap) = W at *
  obtain ⟨r0, r1, r2⟩ := st_of y1
  have HB := Lib.hid b1
  by_cases h0 : n = 0
  · subst h0
    have e : highN s = s.una := by unfold highN; rw [List.length_eq_zero_iff.1 hn]; rfl
    rw [e]
    clear h y1 b1 h1
    go_enter Try.func30, Try.ntmps30
    go_wp2_with fail
    go_ret
    exact ⟨rfl, HB.out⟩
  · obtain ⟨b, off, rfl, hc⟩ := h1.cells (by omega)
    obtain ⟨c0, c1⟩ := hc (n - 1) (by omega)
    have e : highN s = (s.l.getD (n - 1) (0, 0)).2 := by
      unfold highN
      rw [List.getLast?_eq_getElem?, hn, List.getElem?_eq_getElem (by omega)]
      rw [List.getD_eq_getElem?_getD, List.getElem?_eq_getElem (by omega)]
      rfl
    rw [e]
    generalize (s.l.getD (n - 1) (0, 0)).2 = z at *
    generalize (s.l.getD (n - 1) (0, 0)).1 = z0 at *
    obtain ⟨k, rfl⟩ : ∃ k, n = k + 1 := ⟨n - 1, by omega⟩
    rw [show k + 1 - 1 = k by omega] at c0 c1
    have hw : IntKind.i64.wrap (((k + 1 : Nat) : Int) - 1) = (k : Int) := by rw [IntWalk.i64_in _ (by omega)]; omega
    clear h y1 b1 h1 hc e
    go_enter Try.func30, Try.ntmps30
    go_wp2_with fail
    go_ret
    exact ⟨rfl, HB.out⟩
set_option maxRecDepth 100000 in
set_option maxHeartbeats 4000000 in
theorem rhas_any {w : World} {s : Bs} {a : Option Addr} {n cap : Nat} (h : SlS w a n cap s.l) (ho : BOk s) (y : Sp) :
    Calls Try.prog 14 #[rV s a n cap, spV y] w (RetB (hasN s y) w) := by
  have b1 := bal (w := w) (rO s a n cap)
  have y1 := heap_alloc_new w (rO s a n cap)
  have h1 := h.later b1
  have z1 : (w.alloc (rO s a n cap)).heap.size = w.heap.size + 1 := by simp
  have HFR := Lib.hid (fun X => rfrom_any y s.una X)
  have e : hasN s y = decide (withinL s.l (fromP y s.una) = lenI (fromP y s.una)) := by
    unfold hasN missN
    congr 1
    simp only [eq_iff_iff]
    omega
  rw [e]
  have HLN := Lib.hid (fun X => sp.rlen_any (fromP y s.una) X)
  have HWI := Lib.hid (fun X (q : SlS X a n cap s.l) => rwithin_any q ho.rn (fromP y s.una))
  generalize withinL s.l (fromP y s.una) = q2 at *
  generalize lenI (fromP y s.una) = q1 at *
  generalize fromP y s.una = x at *
  generalize hW : w.alloc (rO s a n cap) = W at *
  have b2 := bal (w := W) (.cells #[.int .i64 y.1, .int .i64 y.2] 24)
  have s2 := sp_new W y
  have HA : Hid (HB w s a n cap (W.alloc (.cells #[.int .i64 y.1, .int .i64 y.2] 24)) ∧ SpAt (W.alloc (.cells #[.int .i64 y.1, .int .i64 y.2] 24)) W.heap.size y) :=
    Lib.hid ⟨⟨(b2.block _ (lt_of_block y1)).trans y1, h1.later b2, b1.trans (b2.mono b1.size)⟩, s2⟩
  clear h e ho b1 y1 h1 z1 b2 s2
  rw [← hW] at HA
  go_enter Try.func14, Try.ntmps14
  go_upto_region 1 with fail
  rw [hW] at HA
  clear hW
  generalize W.alloc (.cells #[.int .i64 y.1, .int .i64 y.2] 24) = V at *
  generalize W.heap.size = Y at *
  obtain ⟨r0, r1, r2⟩ := st_of HA.out.1.b0
  have c0 := HA.out.2.c0; have c1 := HA.out.2.c1
  go_upto_region 2 with (go_at_call 39; (with_reducible refine (HFR.out _).mono ?_); rintro e w4 ⟨rfl, h4⟩; have B4 := (HA.out.1.later h4).later (bal (.cells #[.int .i64 x.1, .int .i64 x.2] 24)); have S4 := sp_new w4 x; clear h4 c0 c1 r0 r1 r2 HA)
  generalize w4.alloc (.cells #[.int .i64 x.1, .int .i64 x.2] 24) = V4 at *
  generalize w4.heap.size = G at *
  have B5 := B4.later (Below.refl _ _).drew
  have S5 := SpAt.later S4 (Below.refl _ _).drew
  have P1 : S3 w.heap.size G a n cap x V4.drew := ⟨(st_of B5.b0).2.2, S5.c0, S5.c1⟩
  clear B4 S4
  go_region_held3 (fun W => S3 w.heap.size G a n cap x W) (first | with_reducible exact P3 | with_reducible exact P2 | with_reducible exact P1 | go_keep)
    (first
      | (go_at_call 12; (with_reducible refine (HWI.out _ B5.row).mono ?_); rintro e w6 ⟨rfl, h6⟩; have B6 := B5.later h6; have S6 := SpAt.later S5 h6; have P2 : S3 w.heap.size G a n cap x w6 := ⟨(st_of B6.b0).2.2, S6.c0, S6.c1⟩; clear B5 S5 h6)
      | (go_at_call 25; (with_reducible refine (HLN.out _).mono ?_); rintro e w7 ⟨rfl, h7⟩; have B7 := B6.later h7; have S7 := SpAt.later S6 h7; have P3 : S3 w.heap.size G a n cap x w7 := ⟨(st_of B7.b0).2.2, S7.c0, S7.c1⟩; clear B6 S6 h7))
  go_wp2_with fail
  go_ret
  exact ⟨by first | rfl | exact ret_b (by simp), B7.below⟩
set_option maxRecDepth 100000 in
set_option maxHeartbeats 4000000 in
theorem rholes_any {w : World} {s : Bs} {a : Option Addr} {n cap : Nat} (h : SlS w a n cap s.l) (ho : BOk s) :
    Calls Try.prog 33 #[rV s a n cap] w fun e w' => ∃ a' n' cap', e = .returned (.slice a' n' cap') ∧ SlS w' a' n' cap' (gapsL s.l (s.una, highN s)) ∧ Below w.heap.size w w' := by
  have b1 := bal (w := w) (rO s a n cap)
  have y1 := heap_alloc_new w (rO s a n cap)
  have h1 := h.later b1
  have hn := h.len
  have hlen := ho.len
  have HG := Lib.hid (fun X (q : SlS X a n cap s.l) => rgaps_any q ho.rn (by omega) (s.una, highN s))
  have HH := Lib.hid (fun X (q : SlS X a n cap s.l) => rhigh_any q)
  generalize gapsL s.l (s.una, highN s) = L at *
  generalize highN s = z at *
  have B0 : HB w s a n cap (w.alloc (rO s a n cap)) := ⟨y1, h1, b1⟩
  clear h ho b1 y1 h1 hn hlen
  go_enter Try.func33, Try.ntmps33
  go_upto_region 1 with fail
  generalize w.alloc (rO s a n cap) = W at *
  have B1 := B0.later (Below.refl _ _).drew
  have P1 := st_of B1.b0
  clear B0
  go_region_held3 (fun W => St w.heap.size s a n cap W) (first | with_reducible exact P3 | with_reducible exact P2 | with_reducible exact P1 | go_keep)
    (first
      | (go_at_call 30; (with_reducible refine (HH.out _ B1.row).mono ?_); rintro e w6 ⟨rfl, h6⟩; have B2 := B1.later h6; have P2 := st_of B2.b0; clear B1 h6)
      | (go_at_call 54; (with_reducible refine (HG.out _ B2.row).mono ?_); rintro e w7 ⟨a', n', cap', rfl, g1, g2⟩; have HQ := Lib.hid (And.intro g1 (B2.below.trans (g2.mono B2.below.size))); have P3 := st_of (B2.later g2).b0; clear B2 g1 g2))
  go_wp2_with fail
  go_ret
  exact ⟨a', n', cap', rfl, HQ.out⟩
end Go.Proofs.Ytegbkeichkifnaa.bd
/-!   Package avl: nodes in memory; making, putting, deleting.
-/
namespace Go.Proofs.Ytegbkeichkifnaa.bv
open Go.RowKit aid mem
attribute [local go_sem ↓] Go.wp_at_zero Go.wp_at_succ
set_option linter.unusedVariables false

theorem bal' {w : World} (o : Obj) : Below w.heap.size w (w.alloc o) := (Below.refl _ _).alloc (Nat.le_refl _) _
/-- the block of a node -/
abbrev ndB (l : T) (k : Int) (v : Vt) (r : T) (pl pr : Option Addr) : Obj :=
  .cells #[.int .i64 k, .int .i64 v.1, .int .i64 v.2, .pointer pl, .pointer pr, .int .i64 ((l.size + 1 + r.size : Nat) : Int), .int .i64 ((1 + max l.ht r.ht : Nat) : Int)] 100 (0, 0)
/-- a tree lies where a pointer leads -/
def NdAt (w : World) : Option Addr → T → Prop
  | p, .nil => p = none
  | p, .node l k v r => ∃ b pl pr, p = some ⟨b, 0, none⟩ ∧ w.heap[b]? = some (ndB l k v r pl pr) ∧ NdAt w pl l ∧ NdAt w pr r

theorem NdAt.keepT {w w' : World} (hk : ∀ (b : Nat) (cs : Array Value), w.heap[b]? = some (.cells cs 100 (0, 0)) → w'.heap[b]? = w.heap[b]?) : ∀ {t : T} {p : Option Addr}, NdAt w p t → NdAt w' p t := by
  intro t
  induction t with
  | nil => intro p h; exact h
  | node l k v r ihl ihr =>
    rintro p ⟨b, pl, pr, rfl, hb, hl, hr⟩
    exact ⟨b, pl, pr, rfl, (hk b _ hb).trans hb, ihl hl, ihr hr⟩
theorem NdAt.later {w w' : World} {t : T} {p : Option Addr} (h : NdAt w p t) (hb : Below w.heap.size w w') : NdAt w' p t :=
  h.keepT (fun b _ hc => hb.block b (lt_of_block hc))
theorem NdAt.nil {w : World} {t : T} (h : NdAt w none t) : t = .nil := by
  cases t with
  | nil => rfl
  | node l k v r => obtain ⟨b, _, _, h, _⟩ := h; cases h
/-- the six cells of a node -/
structure Cs (w : World) (b : Nat) (k : Int) (v : Vt) (pl pr : Option Addr) (n h : Nat) : Prop where
  c0 : w.cell? ⟨b, 0, none⟩ = some (.int .i64 k)
  c1 : w.cell? ⟨b, 1, none⟩ = some (.int .i64 v.1) ∧ w.cell? ⟨b, 2, none⟩ = some (.int .i64 v.2)
  c2 : w.cell? ⟨b, 3, none⟩ = some (.pointer pl)
  c3 : w.cell? ⟨b, 4, none⟩ = some (.pointer pr)
  c4 : w.cell? ⟨b, 5, none⟩ = some (.int .i64 (n : Int))
  c5 : w.cell? ⟨b, 6, none⟩ = some (.int .i64 (h : Int))
theorem cs_of {w : World} {b : Nat} {l r : T} {k : Int} {v : Vt} {pl pr : Option Addr} (h : w.heap[b]? = some (ndB l k v r pl pr)) : Cs w b k v pl pr (l.size + 1 + r.size) (1 + max l.ht r.ht) :=
  ⟨(cell_of_row w b 0 _ _ (0, 0) h).trans rfl, ⟨(cell_of_row w b 1 _ _ (0, 0) h).trans rfl, (cell_of_row w b 2 _ _ (0, 0) h).trans rfl⟩, (cell_of_row w b 3 _ _ (0, 0) h).trans rfl, (cell_of_row w b 4 _ _ (0, 0) h).trans rfl, (cell_of_row w b 5 _ _ (0, 0) h).trans rfl, (cell_of_row w b 6 _ _ (0, 0) h).trans rfl⟩

theorem count_any {t : T} {p : Option Addr} {w : World} (h : NdAt w p t) : Calls Try.prog 65 #[.pointer p] w fun e w' => e = .returned (.int .i64 (t.size : Int)) ∧ w = w' := by
  cases t with
  | nil =>
    obtain rfl : p = none := h
    go_enter Try.func65, Try.ntmps65
    go_wp2
    go_ret
    exact ⟨rfl, rfl⟩
  | node l k v r =>
    obtain ⟨b, pl, pr, rfl, hb, _, _⟩ := h
    have c4 := (cs_of hb).c4
    show Calls _ _ _ _ fun e w' => e = .returned (.int .i64 ((l.size + 1 + r.size : Nat) : Int)) ∧ _
    generalize l.size + 1 + r.size = n at *
    clear hb
    go_enter Try.func65, Try.ntmps65
    go_wp2
    go_ret
    exact ⟨rfl, rfl⟩
theorem tall_any {t : T} {p : Option Addr} {w : World} (h : NdAt w p t) : Calls Try.prog 91 #[.pointer p] w fun e w' => e = .returned (.int .i64 (t.ht : Int)) ∧ w = w' := by
  cases t with
  | nil =>
    obtain rfl : p = none := h
    go_enter Try.func91, Try.ntmps91
    go_wp2
    go_ret
    exact ⟨rfl, rfl⟩
  | node l k v r =>
    obtain ⟨b, pl, pr, rfl, hb, _, _⟩ := h
    have c5 := (cs_of hb).c5
    show Calls _ _ _ _ fun e w' => e = .returned (.int .i64 ((1 + max l.ht r.ht : Nat) : Int)) ∧ _
    generalize 1 + max l.ht r.ht = n at *
    clear hb
    go_enter Try.func91, Try.ntmps91
    go_wp2
    go_ret
    exact ⟨rfl, rfl⟩

/-- what is handed back is a tree -/
def RetT (t : T) (w : World) (e : Ending) (w' : World) : Prop := ∃ p, e = .returned (.pointer p) ∧ NdAt w' p t ∧ Below w.heap.size w w'

theorem nd_new {w : World} {l r : T} {k : Int} {v : Vt} {pl pr : Option Addr} (hl : NdAt w pl l) (hr : NdAt w pr r) : NdAt (w.alloc (ndB l k v r pl pr)) (some ⟨w.heap.size, 0, none⟩) (.node l k v r) :=
  ⟨w.heap.size, pl, pr, rfl, heap_alloc_new w _, hl.later (bal' _), hr.later (bal' _)⟩

theorem nd_new' {w : World} {l r : T} {k : Int} {v : Vt} {pl pr : Option Addr} (hl : NdAt w pl l) (hr : NdAt w pr r) (n h : Int) (hn : n = (l.size : Int) + 1 + (r.size : Int)) (hh : h = 1 + max (l.ht : Int) (r.ht : Int)) :
    NdAt (w.alloc (.cells #[.int .i64 k, .int .i64 v.1, .int .i64 v.2, .pointer pl, .pointer pr, .int .i64 n, .int .i64 h] 100)) (some ⟨w.heap.size, 0, none⟩) (.node l k v r) := by
  obtain rfl : n = ((l.size + 1 + r.size : Nat) : Int) := by omega
  obtain rfl : h = ((1 + max l.ht r.ht : Nat) : Int) := by omega
  exact nd_new hl hr
set_option maxHeartbeats 1000000 in
theorem join_any {l r : T} {pl pr : Option Addr} (k : Int) (v : Vt) {w : World} (hl : NdAt w pl l) (hr : NdAt w pr r) (hs : l.size + r.size ≤ 1000000) :
    Calls Try.prog 86 #[.pointer pl, .int .i64 k, .agg #[.int .i64 v.1, .int .i64 v.2], .pointer pr] w (RetT (.node l k v r) w) := by
  have a1 := l.ht_le
  have a2 := r.ht_le
  have bb := bal' (w := w) (.cells #[.int .i64 v.1, .int .i64 v.2] 24)
  have x1 := heap_alloc_new w (.cells #[.int .i64 v.1, .int .i64 v.2] 24)
  generalize hW : w.alloc (.cells #[.int .i64 v.1, .int .i64 v.2] 24) = W at *
  have HL := Lib.hid (hl.later bb.drew)
  have HR := Lib.hid (hr.later bb.drew)
  have HB := Lib.hid bb.drew
  have HE := Lib.hid (nd_new' (k := k) (v := v) (hl.later bb.drew) (hr.later bb.drew))
  have c0 := (cell_of_row W w.heap.size 0 _ _ (0, 0) x1).trans rfl
  have c1 := (cell_of_row W w.heap.size 1 _ _ (0, 0) x1).trans rfl
  have hz : W.drew.heap.size = w.heap.size + 1 := by show W.heap.size = _; rw [← hW]; simp
  rw [hz] at HE
  have w1 : IntKind.i64.wrap ((l.size : Int) + 1) = (l.size : Int) + 1 := IntWalk.i64_in _ (by omega)
  have w2 : IntKind.i64.wrap ((l.size : Int) + 1 + (r.size : Int)) = (l.size : Int) + 1 + (r.size : Int) := IntWalk.i64_in _ (by omega)
  have w3 : IntKind.i64.wrap (1 + (l.ht : Int)) = 1 + (l.ht : Int) := IntWalk.i64_in _ (by omega)
  have w4 : IntKind.i64.wrap (1 + (r.ht : Int)) = 1 + (r.ht : Int) := IntWalk.i64_in _ (by omega)
  clear hl hr bb x1 hz
  subst hW
  go_enter Try.func86, Try.ntmps86
  go_wp2_with fail
  go_region_held3 (fun w' => w'.cell? ⟨w.heap.size, 0, none⟩ = some (.int .i64 v.1) ∧ w'.cell? ⟨w.heap.size, 1, none⟩ = some (.int .i64 v.2)) (first | exact ⟨c0, c1⟩ | go_keep) (first
    | (go_at_call 65; first | ((with_reducible refine (count_any HL.out).mono ?_); rintro e w' ⟨rfl, rfl⟩) | ((with_reducible refine (count_any HR.out).mono ?_); rintro e w' ⟨rfl, rfl⟩))
    | (go_at_call 91; first | ((with_reducible refine (tall_any HL.out).mono ?_); rintro e w' ⟨rfl, rfl⟩) | ((with_reducible refine (tall_any HR.out).mono ?_); rintro e w' ⟨rfl, rfl⟩)))
  go_wp2
  all_goals
    go_ret
    exact ⟨_, rfl, HE.out _ _ (by omega) (by omega), HB.out.trans (bal' _ |>.mono HB.out.size)⟩
end Go.Proofs.Ytegbkeichkifnaa.bv
/-!   Package avl: above, raising, balance.
-/
namespace Go.Proofs.Ytegbkeichkifnaa.bv
open Go.RowKit aid mem
attribute [local go_sem ↓] Go.wp_at_zero Go.wp_at_succ
set_option linter.unusedVariables false

/-- a node with its parts lies at block b -/
structure NdB (w : World) (b : Nat) (l : T) (k : Int) (v : Vt) (r : T) (pl pr : Option Addr) : Prop where
  here : w.heap[b]? = some (ndB l k v r pl pr)
  left : NdAt w pl l
  right : NdAt w pr r
theorem NdB.later {w w' : World} {b : Nat} {l r : T} {k : Int} {v : Vt} {pl pr : Option Addr} (h : NdB w b l k v r pl pr) (hb : Below w.heap.size w w') : NdB w' b l k v r pl pr :=
  ⟨(hb.block b (lt_of_block h.here)).trans h.here, h.left.later hb, h.right.later hb⟩
theorem NdB.at_ {w : World} {b : Nat} {l r : T} {k : Int} {v : Vt} {pl pr : Option Addr} (h : NdB w b l k v r pl pr) : NdAt w (some ⟨b, 0, none⟩) (.node l k v r) := ⟨b, pl, pr, rfl, h.here, h.left, h.right⟩
theorem NdB.cs {w : World} {b : Nat} {l r : T} {k : Int} {v : Vt} {pl pr : Option Addr} (h : NdB w b l k v r pl pr) : Cs w b k v pl pr (l.size + 1 + r.size) (1 + max l.ht r.ht) := cs_of h.here
theorem NdAt.drew {w : World} {p : Option Addr} {t : T} (h : NdAt w p t) : NdAt w.drew p t := h.later (Below.refl _ _).drew
theorem NdAt.drewN {w : World} {p : Option Addr} {t : T} (h : NdAt w p t) (n : Nat) : NdAt (w.drewN n) p t := NdAt.keepT (w := w) (w' := w.drewN n) (fun _ _ _ => rfl) h
theorem below_drewN (w : World) (n : Nat) : Below w.heap.size w (w.drewN n) := ⟨rfl, rfl, rfl, Nat.le_refl _, fun _ _ => rfl⟩
theorem tall_q {w : World} {p : Option Addr} {t : T} (h : NdAt w p t) (n : Nat) : Calls Try.prog 91 #[.pointer p] (w.drewN n) fun e w'' => e = .returned (.int .i64 (t.ht : Int)) ∧ ∃ m, w'' = w.drewN m :=
  (tall_any (h.drewN n)).mono fun _ _ h => ⟨h.1, n, h.2.symm⟩

set_option maxRecDepth 100000 in
set_option maxHeartbeats 1000000 in
theorem above_any {l r : T} {pl pr : Option Addr} {b : Nat} {k : Int} {v : Vt} {w : World} (c0 : w.cell? ⟨b, 0, none⟩ = some (.int .i64 k)) (c1 : (w.cell? ⟨b, 1, none⟩ = some (.int .i64 v.1) ∧ w.cell? ⟨b, 2, none⟩ = some (.int .i64 v.2))) (hl : NdAt w pl l) (hr : NdAt w pr r) (hs : l.size + r.size ≤ 1000000) :
    Calls Try.prog 94 #[.pointer (some ⟨b, 0, none⟩), .pointer pl, .pointer pr] w (RetT (.node l k v r) w) := by
  have HL := Lib.hid hl.drew
  have HR := Lib.hid hr.drew
  have HB := Lib.hid (Below.refl w.heap.size w).drew
  clear hl hr
  go_enter Try.func94, Try.ntmps94
  go_wp2
  go_region_held3 (fun w' => w'.cell? ⟨b, 0, none⟩ = some (.int .i64 k) ∧ (w'.cell? ⟨b, 1, none⟩ = some (.int .i64 v.1) ∧ w'.cell? ⟨b, 2, none⟩ = some (.int .i64 v.2))) (first | exact ⟨c0, c1⟩ | go_keep) (
    (go_at_call 86; (with_reducible refine (join_any k v HL.out HR.out hs).mono ?_); rintro e w2 ⟨p, rfl, hn, hb⟩; have g0 := (hb.cell (World.block_lt_of_cell? w _ c0)).trans c0; have g1 := (hb.cell (World.block_lt_of_cell? w _ c1.1)).trans c1.1; have g2 := (hb.cell (World.block_lt_of_cell? w _ c1.2)).trans c1.2))
  all_goals
    go_wp2
    go_ret
    exact ⟨p, rfl, hn, HB.out.trans hb⟩

/-- what lies while two parts are joined: a node with another one below it, a third one's key and value, a tree -/
structure StD (w0 w : World) (x y b : Nat) (o : T) (xk : Int) (xv : Vt) (i j : T) (yk : Int) (yv : Vt) (k : Int) (v : Vt) (r : T) (po pi pj pr : Option Addr) : Prop where
  xc : w.cell? ⟨x, 0, none⟩ = some (.int .i64 xk) ∧ (w.cell? ⟨x, 1, none⟩ = some (.int .i64 xv.1) ∧ w.cell? ⟨x, 2, none⟩ = some (.int .i64 xv.2))
  yc : w.cell? ⟨y, 0, none⟩ = some (.int .i64 yk) ∧ (w.cell? ⟨y, 1, none⟩ = some (.int .i64 yv.1) ∧ w.cell? ⟨y, 2, none⟩ = some (.int .i64 yv.2))
  bc : w.cell? ⟨b, 0, none⟩ = some (.int .i64 k) ∧ (w.cell? ⟨b, 1, none⟩ = some (.int .i64 v.1) ∧ w.cell? ⟨b, 2, none⟩ = some (.int .i64 v.2))
  x2 : w.cell? ⟨x, 3, none⟩ = some (.pointer po) ∨ w.cell? ⟨x, 4, none⟩ = some (.pointer po)
  ys : w.cell? ⟨y, 3, none⟩ = some (.pointer pi) ∧ w.cell? ⟨y, 4, none⟩ = some (.pointer pj)
  no : NdAt w po o
  ni : NdAt w pi i
  nj : NdAt w pj j
  nr : NdAt w pr r
  below : Below w0.heap.size w0 w
theorem ck {w w' : World} {p : Addr} {v : Value} (hb : Below w.heap.size w w') (h : w.cell? p = some v) : w'.cell? p = some v := (hb.cell (World.block_lt_of_cell? w _ h)).trans h
theorem ck2 {w w' : World} {p q : Addr} {u v : Value} (hb : Below w.heap.size w w') (h : w.cell? p = some u ∧ w.cell? q = some v) : w'.cell? p = some u ∧ w'.cell? q = some v := ⟨ck hb h.1, ck hb h.2⟩
theorem StD.later {w0 w w' : World} {x y b : Nat} {o i j r : T} {xk yk k : Int} {xv yv v : Vt} {po pi pj pr : Option Addr} (h : StD w0 w x y b o xk xv i j yk yv k v r po pi pj pr) (hb : Below w.heap.size w w') : StD w0 w' x y b o xk xv i j yk yv k v r po pi pj pr :=
  ⟨⟨ck hb h.xc.1, ck2 hb h.xc.2⟩, ⟨ck hb h.yc.1, ck2 hb h.yc.2⟩, ⟨ck hb h.bc.1, ck2 hb h.bc.2⟩, h.x2.imp (ck hb) (ck hb), ⟨ck hb h.ys.1, ck hb h.ys.2⟩, h.no.later hb, h.ni.later hb, h.nj.later hb, h.nr.later hb, h.below.trans (hb.mono h.below.size)⟩

/-- at a node's block: its cells -/
theorem NdB.c (w : World) {b : Nat} {l r : T} {k : Int} {v : Vt} {pl pr : Option Addr} (h : NdB w b l k v r pl pr) : (w.cell? ⟨b, 0, none⟩ = some (.int .i64 k) ∧ (w.cell? ⟨b, 1, none⟩ = some (.int .i64 v.1) ∧ w.cell? ⟨b, 2, none⟩ = some (.int .i64 v.2))) ∧ w.cell? ⟨b, 3, none⟩ = some (.pointer pl) ∧ w.cell? ⟨b, 4, none⟩ = some (.pointer pr) :=
  ⟨⟨h.cs.c0, h.cs.c1⟩, h.cs.c2, h.cs.c3⟩

set_option maxRecDepth 100000 in
set_option maxHeartbeats 2000000 in
theorem raiseL_any {l r : T} {pl pr : Option Addr} {b : Nat} {k : Int} {v : Vt} {w : World} (c0 : w.cell? ⟨b, 0, none⟩ = some (.int .i64 k)) (c1 : (w.cell? ⟨b, 1, none⟩ = some (.int .i64 v.1) ∧ w.cell? ⟨b, 2, none⟩ = some (.int .i64 v.2))) (hl : NdAt w pl l) (hr : NdAt w pr r) (hn : l ≠ .nil) (hs : l.size + r.size ≤ 1000000) :
    Calls Try.prog 92 #[.pointer (some ⟨b, 0, none⟩), .pointer pl, .pointer pr] w (RetT (T.raiseL l k v r) w) := by
  cases l with
  | nil => exact absurd rfl hn
  | node ll lk lv lr =>
    obtain ⟨bl, pll, plr, rfl, hb, hll, hlr⟩ := hl
    have N : NdB w bl ll lk lv lr pll plr := ⟨hb, hll, hlr⟩
    obtain ⟨d01, d2, d3⟩ := N.c
    by_cases hc : lr.ht > ll.ht
    · cases lr with
      | nil => simp [T.ht] at hc
      | node a mk mv c =>
        obtain ⟨bm, pa, pc, rfl, hm, ha, hcc⟩ := hlr
        have M : NdB w bm a mk mv c pa pc := ⟨hm, ha, hcc⟩
        obtain ⟨e01, e2, e3⟩ := M.c
        have S0 : StD w w bl bm b ll lk lv a c mk mv k v r pll pa pc pr := ⟨d01, e01, ⟨c0, c1⟩, .inl d2, ⟨e2, e3⟩, hll, ha, hcc, hr, Below.refl _ _⟩
        have HS : Hid (∀ n, StD w (w.drewN n) bl bm b ll lk lv a c mk mv k v r pll pa pc pr ∧ (w.drewN n).cell? ⟨bl, 3, none⟩ = some (.pointer pll)) := Lib.hid (fun n => ⟨S0.later (below_drewN w n), d2⟩)
        have HM : Hid (NdAt w (some ⟨bm, 0, none⟩) (.node a mk mv c)) := Lib.hid M.at_
        have HLL := Lib.hid hll
        have hs1 : ll.size + a.size ≤ 1000000 := by simp only [T.size] at hs; omega
        have hs2 : c.size + r.size ≤ 1000000 := by simp only [T.size] at hs; omega
        have hs3 : (T.node ll lk lv a).size + (T.node c k v r).size ≤ 1000000 := by simp only [T.size] at hs ⊢; omega
        have HT : Hid (T.raiseL (.node ll lk lv (.node a mk mv c)) k v r = .node (.node ll lk lv a) mk mv (.node c k v r)) := Lib.hid (by simp only [T.raiseL, if_pos hc])
        generalize T.raiseL (.node ll lk lv (.node a mk mv c)) k v r = t at *
        clear hll ha hcc hr hn N M hb hm S0 hs e01 d01
        go_enter Try.func92, Try.ntmps92
        go_wp2
        go_quiet ((go_at_call 91; with_reducible (first | exact tall_q HM.out _ | exact tall_q HLL.out _)))
        go_wp2
        obtain ⟨S1, f2⟩ := HS.out nq
        have f3 := S1.ys.1
        have f4 := S1.ys.2
        generalize w.drewN nq = W at *
        clear HS HM HLL d2 d3 e2 e3 c0 c1
        have S2 := S1.later (Below.refl W.heap.size W).drew
        have G : W.drew.cell? ⟨bl, 3, none⟩ = some (.pointer pll) := f2
        clear S1
        go_region_held3 (fun w' => w'.cell? ⟨bl, 3, none⟩ = some (.pointer pll) ∧ w'.cell? ⟨bm, 3, none⟩ = some (.pointer pa) ∧ w'.cell? ⟨bm, 4, none⟩ = some (.pointer pc)) (with_reducible first | exact ⟨G, S2.ys⟩ | exact ⟨GA, SA.ys⟩ | exact ⟨GB, SB.ys⟩ | exact ⟨GC, SC.ys⟩ | go_keep) (first
          | (go_at_call 94; (with_reducible refine (above_any S2.xc.1 S2.xc.2 S2.no S2.ni hs1).mono ?_); rintro e w2 ⟨p1, rfl, hp1, hb⟩; have GA := ck hb G; have SA := S2.later hb; clear S2 G hb)
          | (go_at_call 94; (with_reducible refine (above_any S2.bc.1 S2.bc.2 S2.nj S2.nr hs2).mono ?_); rintro e w2 ⟨p2, rfl, hp2, hb⟩; have GB := ck hb G; have SB := S2.later hb; clear S2 G hb)
          | (go_at_call 94; (with_reducible refine (above_any SA.bc.1 SA.bc.2 SA.nj SA.nr hs2).mono ?_); rintro e w3 ⟨p2, rfl, hp2, hb⟩; have GC := ck hb GA; have SC := SA.later hb; replace hp1 := hp1.later hb; clear SA GA hb)
          | (go_at_call 94; (with_reducible refine (above_any SB.xc.1 SB.xc.2 SB.no SB.ni hs1).mono ?_); rintro e w3 ⟨p1, rfl, hp1, hb⟩; have GC := ck hb GB; have SC := SB.later hb; replace hp2 := hp2.later hb; clear SB GB hb)
          | (go_at_call 94; (with_reducible refine (above_any SC.yc.1 SC.yc.2 hp1 hp2 hs3).mono ?_); rintro e w4 ⟨p3, rfl, hp3, hb⟩; have GA := ck hb GC; have SA := SC.later hb; clear SC GC hb))
        all_goals
          go_wp2
          go_ret
          exact ⟨p3, rfl, by rw [HT.out]; exact hp3, SA.below⟩
    · have S0 : StD w w bl bl b ll lk lv ll lr lk lv k v r pll pll plr pr := ⟨d01, d01, ⟨c0, c1⟩, .inl d2, ⟨d2, d3⟩, hll, hll, hlr, hr, Below.refl _ _⟩
      have HS : Hid (∀ n, StD w (w.drewN n) bl bl b ll lk lv ll lr lk lv k v r pll pll plr pr) := Lib.hid (fun n => S0.later (below_drewN w n))
      have HM := Lib.hid hlr
      have HLL := Lib.hid hll
      have hs1 : lr.size + r.size ≤ 1000000 := by simp only [T.size] at hs; omega
      have hs2 : ll.size + (T.node lr k v r).size ≤ 1000000 := by simp only [T.size] at hs ⊢; omega
      have HT : Hid (T.raiseL (.node ll lk lv lr) k v r = .node ll lk lv (.node lr k v r)) := Lib.hid (by simp only [T.raiseL, if_neg hc])
      generalize T.raiseL (.node ll lk lv lr) k v r = t at *
      clear hll hlr hr hn N hb S0 hs d01
      go_enter Try.func92, Try.ntmps92
      go_wp2
      go_quiet ((go_at_call 91; with_reducible (first | exact tall_q HM.out _ | exact tall_q HLL.out _)))
      go_wp2
      have S1 := HS.out nq
      have f3 := S1.ys.1
      have f4 := S1.ys.2
      generalize w.drewN nq = W at *
      clear HS HM HLL d2 d3 c0 c1
      have S2 := S1.later (Below.refl W.heap.size W).drew
      clear S1
      go_region_held3 (fun w' => w'.cell? ⟨bl, 3, none⟩ = some (.pointer pll) ∧ w'.cell? ⟨bl, 4, none⟩ = some (.pointer plr)) (with_reducible first | exact S2.ys | exact SA.ys | exact SB.ys | go_keep) (first
        | (go_at_call 94; (with_reducible refine (above_any S2.bc.1 S2.bc.2 S2.nj S2.nr hs1).mono ?_); rintro e w2 ⟨p1, rfl, hp1, hb⟩; have SA := S2.later hb; clear S2 hb)
        | (go_at_call 94; (with_reducible refine (above_any SA.xc.1 SA.xc.2 SA.no hp1 hs2).mono ?_); rintro e w4 ⟨p3, rfl, hp3, hb⟩; have SB := SA.later hb; clear hp1 hb))
      all_goals
        go_wp2
        go_ret
        exact ⟨p3, rfl, by rw [HT.out]; exact hp3, SB.below⟩

set_option maxRecDepth 100000 in
set_option maxHeartbeats 2000000 in
theorem raiseR_any {l r : T} {pl pr : Option Addr} {b : Nat} {k : Int} {v : Vt} {w : World} (c0 : w.cell? ⟨b, 0, none⟩ = some (.int .i64 k)) (c1 : (w.cell? ⟨b, 1, none⟩ = some (.int .i64 v.1) ∧ w.cell? ⟨b, 2, none⟩ = some (.int .i64 v.2))) (hl : NdAt w pl l) (hr : NdAt w pr r) (hn : r ≠ .nil) (hs : l.size + r.size ≤ 1000000) :
    Calls Try.prog 93 #[.pointer (some ⟨b, 0, none⟩), .pointer pl, .pointer pr] w (RetT (T.raiseR l k v r) w) := by
  cases r with
  | nil => exact absurd rfl hn
  | node rl rk rv rr =>
    obtain ⟨br, prl, prr, rfl, hb, hrl, hrr⟩ := hr
    have N : NdB w br rl rk rv rr prl prr := ⟨hb, hrl, hrr⟩
    obtain ⟨d01, d2, d3⟩ := N.c
    by_cases hc : rl.ht > rr.ht
    · cases rl with
      | nil => simp [T.ht] at hc
      | node a mk mv c =>
        obtain ⟨bm, pa, pc, rfl, hm, ha, hcc⟩ := hrl
        have M : NdB w bm a mk mv c pa pc := ⟨hm, ha, hcc⟩
        obtain ⟨e01, e2, e3⟩ := M.c
        have S0 : StD w w br bm b rr rk rv a c mk mv k v l prr pa pc pl := ⟨d01, e01, ⟨c0, c1⟩, .inr d3, ⟨e2, e3⟩, hrr, ha, hcc, hl, Below.refl _ _⟩
        have HS : Hid (∀ n, StD w (w.drewN n) br bm b rr rk rv a c mk mv k v l prr pa pc pl ∧ (w.drewN n).cell? ⟨br, 4, none⟩ = some (.pointer prr)) := Lib.hid (fun n => ⟨S0.later (below_drewN w n), d3⟩)
        have HM : Hid (NdAt w (some ⟨bm, 0, none⟩) (.node a mk mv c)) := Lib.hid M.at_
        have HLL := Lib.hid hrr
        have hs1 : l.size + a.size ≤ 1000000 := by simp only [T.size] at hs; omega
        have hs2 : c.size + rr.size ≤ 1000000 := by simp only [T.size] at hs; omega
        have hs3 : (T.node l k v a).size + (T.node c rk rv rr).size ≤ 1000000 := by simp only [T.size] at hs ⊢; omega
        have HT : Hid (T.raiseR l k v (.node (.node a mk mv c) rk rv rr) = .node (.node l k v a) mk mv (.node c rk rv rr)) := Lib.hid (by simp only [T.raiseR, if_pos hc])
        generalize T.raiseR l k v (.node (.node a mk mv c) rk rv rr) = t at *
        clear hrr ha hcc hl hn N M hb hm S0 hs e01 d01
        go_enter Try.func93, Try.ntmps93
        go_wp2
        go_quiet ((go_at_call 91; with_reducible (first | exact tall_q HM.out _ | exact tall_q HLL.out _)))
        go_wp2
        obtain ⟨S1, f2⟩ := HS.out nq
        have f3 := S1.ys.1
        have f4 := S1.ys.2
        generalize w.drewN nq = W at *
        clear HS HM HLL d2 d3 e2 e3 c0 c1
        have S2 := S1.later (Below.refl W.heap.size W).drew
        have G : W.drew.cell? ⟨br, 4, none⟩ = some (.pointer prr) := f2
        clear S1
        go_region_held3 (fun w' => w'.cell? ⟨br, 4, none⟩ = some (.pointer prr) ∧ w'.cell? ⟨bm, 3, none⟩ = some (.pointer pa) ∧ w'.cell? ⟨bm, 4, none⟩ = some (.pointer pc)) (with_reducible first | exact ⟨G, S2.ys⟩ | exact ⟨GA, SA.ys⟩ | exact ⟨GB, SB.ys⟩ | exact ⟨GC, SC.ys⟩ | go_keep) (first
          | (go_at_call 94; (with_reducible refine (above_any S2.bc.1 S2.bc.2 S2.nr S2.ni hs1).mono ?_); rintro e w2 ⟨p1, rfl, hp1, hb⟩; have GA := ck hb G; have SA := S2.later hb; clear S2 G hb)
          | (go_at_call 94; (with_reducible refine (above_any S2.xc.1 S2.xc.2 S2.nj S2.no hs2).mono ?_); rintro e w2 ⟨p2, rfl, hp2, hb⟩; have GB := ck hb G; have SB := S2.later hb; clear S2 G hb)
          | (go_at_call 94; (with_reducible refine (above_any SA.xc.1 SA.xc.2 SA.nj SA.no hs2).mono ?_); rintro e w3 ⟨p2, rfl, hp2, hb⟩; have GC := ck hb GA; have SC := SA.later hb; replace hp1 := hp1.later hb; clear SA GA hb)
          | (go_at_call 94; (with_reducible refine (above_any SB.bc.1 SB.bc.2 SB.nr SB.ni hs1).mono ?_); rintro e w3 ⟨p1, rfl, hp1, hb⟩; have GC := ck hb GB; have SC := SB.later hb; replace hp2 := hp2.later hb; clear SB GB hb)
          | (go_at_call 94; (with_reducible refine (above_any SC.yc.1 SC.yc.2 hp1 hp2 hs3).mono ?_); rintro e w4 ⟨p3, rfl, hp3, hb⟩; have GA := ck hb GC; have SA := SC.later hb; clear SC GC hb))
        all_goals
          go_wp2
          go_ret
          exact ⟨p3, rfl, by rw [HT.out]; exact hp3, SA.below⟩
    · have S0 : StD w w br br b rr rk rv rl rr rk rv k v l prr prl prr pl := ⟨d01, d01, ⟨c0, c1⟩, .inr d3, ⟨d2, d3⟩, hrr, hrl, hrr, hl, Below.refl _ _⟩
      have HS : Hid (∀ n, StD w (w.drewN n) br br b rr rk rv rl rr rk rv k v l prr prl prr pl) := Lib.hid (fun n => S0.later (below_drewN w n))
      have HM := Lib.hid hrl
      have HLL := Lib.hid hrr
      have hs1 : l.size + rl.size ≤ 1000000 := by simp only [T.size] at hs; omega
      have hs2 : (T.node l k v rl).size + rr.size ≤ 1000000 := by simp only [T.size] at hs ⊢; omega
      have HT : Hid (T.raiseR l k v (.node rl rk rv rr) = .node (.node l k v rl) rk rv rr) := Lib.hid (by simp only [T.raiseR, if_neg hc])
      generalize T.raiseR l k v (.node rl rk rv rr) = t at *
      clear hrl hrr hl hn N hb S0 hs d01
      go_enter Try.func93, Try.ntmps93
      go_wp2
      go_quiet ((go_at_call 91; with_reducible (first | exact tall_q HM.out _ | exact tall_q HLL.out _)))
      go_wp2
      have S1 := HS.out nq
      have f3 := S1.ys.1
      have f4 := S1.ys.2
      generalize w.drewN nq = W at *
      clear HS HM HLL d2 d3 c0 c1
      have S2 := S1.later (Below.refl W.heap.size W).drew
      clear S1
      go_region_held3 (fun w' => w'.cell? ⟨br, 3, none⟩ = some (.pointer prl) ∧ w'.cell? ⟨br, 4, none⟩ = some (.pointer prr)) (with_reducible first | exact S2.ys | exact SA.ys | exact SB.ys | go_keep) (first
        | (go_at_call 94; (with_reducible refine (above_any S2.bc.1 S2.bc.2 S2.nr S2.ni hs1).mono ?_); rintro e w2 ⟨p1, rfl, hp1, hb⟩; have SA := S2.later hb; clear S2 hb)
        | (go_at_call 94; (with_reducible refine (above_any SA.xc.1 SA.xc.2 hp1 SA.no hs2).mono ?_); rintro e w4 ⟨p3, rfl, hp3, hb⟩; have SB := SA.later hb; clear hp1 hb))
      all_goals
        go_wp2
        go_ret
        exact ⟨p3, rfl, by rw [HT.out]; exact hp3, SB.below⟩

set_option maxRecDepth 100000 in
set_option maxHeartbeats 2000000 in
theorem balance_any {l r : T} {pl pr : Option Addr} {b : Nat} {k : Int} {v : Vt} {w : World} (c0 : w.cell? ⟨b, 0, none⟩ = some (.int .i64 k)) (c1 : (w.cell? ⟨b, 1, none⟩ = some (.int .i64 v.1) ∧ w.cell? ⟨b, 2, none⟩ = some (.int .i64 v.2))) (hl : NdAt w pl l) (hr : NdAt w pr r) (hs : l.size + r.size ≤ 1000000) :
    Calls Try.prog 85 #[.pointer (some ⟨b, 0, none⟩), .pointer pl, .pointer pr] w (RetT (T.bal l k v r) w) := by
  have HL := Lib.hid hl
  have HR := Lib.hid hr
  have a1 := l.ht_le
  have a2 := r.ht_le
  by_cases h1 : l.ht > r.ht + 1
  · have HC := Lib.hid (raiseL_any c0 c1 hl hr (fun e => by subst e; simp [T.ht] at h1) hs)
    have HT : Hid (T.bal l k v r = T.raiseL l k v r) := Lib.hid (by unfold T.bal; rw [if_pos h1])
    generalize T.bal l k v r = t at *
    clear hl hr c0 c1
    go_enter Try.func85, Try.ntmps85
    go_wp2_with (first
      | (go_at_call 91; first | ((with_reducible refine (tall_any HL.out).mono ?_); rintro e w' ⟨rfl, rfl⟩) | ((with_reducible refine (tall_any HR.out).mono ?_); rintro e w' ⟨rfl, rfl⟩))
      | (go_at_call 92; (with_reducible refine HC.out.mono ?_); rintro e w' ⟨p, rfl, hp, hb⟩))
    go_ret
    exact ⟨p, rfl, by rw [HT.out]; exact hp, hb⟩
  · by_cases h2 : r.ht > l.ht + 1
    · have HC := Lib.hid (raiseR_any c0 c1 hl hr (fun e => by subst e; simp [T.ht] at h2) hs)
      have HT : Hid (T.bal l k v r = T.raiseR l k v r) := Lib.hid (by unfold T.bal; rw [if_neg h1, if_pos h2])
      generalize T.bal l k v r = t at *
      clear hl hr c0 c1
      go_enter Try.func85, Try.ntmps85
      go_wp2_with (first
        | (go_at_call 91; first | ((with_reducible refine (tall_any HL.out).mono ?_); rintro e w' ⟨rfl, rfl⟩) | ((with_reducible refine (tall_any HR.out).mono ?_); rintro e w' ⟨rfl, rfl⟩))
        | (go_at_call 93; (with_reducible refine HC.out.mono ?_); rintro e w' ⟨p, rfl, hp, hb⟩))
      go_ret
      exact ⟨p, rfl, by rw [HT.out]; exact hp, hb⟩
    · have HC := Lib.hid (above_any c0 c1 hl hr hs)
      have HT : Hid (T.bal l k v r = T.node l k v r) := Lib.hid (by unfold T.bal; rw [if_neg h1, if_neg h2])
      generalize T.bal l k v r = t at *
      clear hl hr c0 c1
      go_enter Try.func85, Try.ntmps85
      go_wp2_with (first
        | (go_at_call 91; first | ((with_reducible refine (tall_any HL.out).mono ?_); rintro e w' ⟨rfl, rfl⟩) | ((with_reducible refine (tall_any HR.out).mono ?_); rintro e w' ⟨rfl, rfl⟩))
        | (go_at_call 94; (with_reducible refine HC.out.mono ?_); rintro e w' ⟨p, rfl, hp, hb⟩))
      go_ret
      exact ⟨p, rfl, by rw [HT.out]; exact hp, hb⟩
end Go.Proofs.Ytegbkeichkifnaa.bv
/-!   Package avl: putting, the node at a place, deleting.
-/
namespace Go.Proofs.Ytegbkeichkifnaa.bv
open Go.RowKit aid mem
attribute [local go_sem ↓] Go.wp_at_zero Go.wp_at_succ
set_option linter.unusedVariables false

/-- a node, and a span in its box -/
structure NdV (w : World) (b : Nat) (l : T) (k : Int) (v : Vt) (r : T) (pl pr : Option Addr) (x : Nat) (u : Vt) : Prop where
  nd : NdB w b l k v r pl pr
  x0 : w.cell? ⟨x, 0, none⟩ = some (.int .i64 u.1)
  x1 : w.cell? ⟨x, 1, none⟩ = some (.int .i64 u.2)
section
variable {w w' : World} {b x : Nat} {l r : T} {k : Int} {v u : Vt} {pl pr : Option Addr}
theorem NdV.later (h : NdV w b l k v r pl pr x u) (hb : Below w.heap.size w w') : NdV w' b l k v r pl pr x u := ⟨h.nd.later hb, ck hb h.x0, ck hb h.x1⟩
theorem NdV.cs (h : NdV w b l k v r pl pr x u) : Cs w b k v pl pr (l.size + 1 + r.size) (1 + max l.ht r.ht) := h.nd.cs
theorem NdV.left (h : NdV w b l k v r pl pr x u) : NdAt w pl l := h.nd.left
theorem NdV.right (h : NdV w b l k v r pl pr x u) : NdAt w pr r := h.nd.right
theorem box_sp (w : World) (v : Vt) : (w.alloc (.cells #[.int .i64 v.1, .int .i64 v.2] 24)).cell? ⟨w.heap.size, 0, none⟩ = some (.int .i64 v.1) ∧ (w.alloc (.cells #[.int .i64 v.1, .int .i64 v.2] 24)).cell? ⟨w.heap.size, 1, none⟩ = some (.int .i64 v.2) := by
  have x1 := heap_alloc_new w (.cells #[.int .i64 v.1, .int .i64 v.2] 24)
  exact ⟨(cell_of_row _ w.heap.size 0 _ _ (0, 0) x1).trans rfl, (cell_of_row _ w.heap.size 1 _ _ (0, 0) x1).trans rfl⟩
end
set_option maxRecDepth 100000 in
set_option maxHeartbeats 4000000 in
theorem with_any (k : Int) (v : Vt) : ∀ (t : T) {p : Option Addr} {w : World}, NdAt w p t → t.size ≤ 900000 →
    Calls Try.prog 79 #[.pointer p, .int .i64 k, .agg #[.int .i64 v.1, .int .i64 v.2]] w (RetT (T.ins k v t) w) := by
  intro t
  induction t with
  | nil =>
    intro p w h hs
    obtain rfl : p = none := h
    have bb := bal' (w := w) (.cells #[.int .i64 v.1, .int .i64 v.2] 24)
    have bx := box_sp w v
    have x0 := bx.1; have x1 := bx.2
    have HB := Lib.hid bb
    clear bb bx
    have HJ := Lib.hid (join_any (l := .nil) (r := .nil) (pl := none) (pr := none) k v (w := w.alloc (.cells #[.int .i64 v.1, .int .i64 v.2] 24)) rfl rfl (by simp [T.size]))
    go_enter Try.func79, Try.ntmps79
    go_wp2_with (go_at_call 86; (with_reducible refine HJ.out.mono ?_); rintro e w' ⟨p, rfl, hp, hb⟩)
    go_ret
    exact ⟨p, rfl, hp, HB.out.trans (hb.mono HB.out.size)⟩
  | node l k' v' r ihl ihr =>
    intro p w h hs
    obtain ⟨b, pl, pr, rfl, hb, hl, hr⟩ := h
    have bb := bal' (w := w) (.cells #[.int .i64 v.1, .int .i64 v.2] 24)
    have bx := box_sp w v
    generalize hWd : w.alloc (.cells #[.int .i64 v.1, .int .i64 v.2] 24) = w0 at *
    have N : NdV w0 b l k' v' r pl pr w.heap.size v := ⟨(NdB.later ⟨hb, hl, hr⟩ bb), bx.1, bx.2⟩
    obtain ⟨d01, d2, d3⟩ := N.nd.c
    have x0 := bx.1; have x1 := bx.2
    have d0 := d01.1
    have ND := N.later (Below.refl w0.heap.size w0).drew
    have HB := Lib.hid bb.drew
    simp only [T.size] at hs
    have z1 := T.ins_size k v l
    have z2 := T.ins_size k v r
    clear hb N bb bx
    by_cases h1 : k < k'
    · have HT : Hid (T.ins k v (.node l k' v' r) = T.bal (T.ins k v l) k' v' r) := Lib.hid (by simp only [T.ins, if_pos h1])
      have hs1 : l.size ≤ 900000 := by omega
      have hs2 : (T.ins k v l).size + r.size ≤ 1000000 := by omega
      have HI := Lib.hid (fun (w' : World) (h : NdAt w' pl l) => ihl h hs1)
      generalize T.ins k v (.node l k' v' r) = t at *
      generalize T.ins k v l = q at *
      clear ihl ihr z1 z2 hl hr d01
      subst hWd
      go_enter Try.func79, Try.ntmps79
      go_wp2
      go_region_held3 (fun w' => w'.cell? ⟨b, 3, none⟩ = some (.pointer pl) ∧ w'.cell? ⟨b, 4, none⟩ = some (.pointer pr) ∧ w'.cell? ⟨w.heap.size, 0, none⟩ = some (.int .i64 v.1) ∧ w'.cell? ⟨w.heap.size, 1, none⟩ = some (.int .i64 v.2)) (with_reducible first | exact ⟨ND.cs.c2, ND.cs.c3, ND.x0, ND.x1⟩ | exact ⟨NA.cs.c2, NA.cs.c3, NA.x0, NA.x1⟩ | exact ⟨NC.cs.c2, NC.cs.c3, NC.x0, NC.x1⟩ | go_keep) (first
        | (go_at_call 79; (with_reducible refine (HI.out _ ND.left).mono ?_); rintro e w2 ⟨p1, rfl, hp1, hb⟩; have NA := ND.later hb; have BA := HB.out.trans (hb.mono HB.out.size); clear ND hb)
        | (go_at_call 85; (with_reducible refine (balance_any NA.cs.c0 NA.cs.c1 hp1 NA.right hs2).mono ?_); rintro e w2 ⟨p2, rfl, hp2, hb⟩; have NC := NA.later hb; have BC := BA.trans (hb.mono BA.size); clear NA hb))
      all_goals
        go_wp2
        go_ret
        exact ⟨p2, rfl, by rw [HT.out]; exact hp2, BC⟩
    · by_cases h2 : k' < k
      · have HT : Hid (T.ins k v (.node l k' v' r) = T.bal l k' v' (T.ins k v r)) := Lib.hid (by simp only [T.ins, if_neg h1, if_pos h2])
        have hs1 : r.size ≤ 900000 := by omega
        have hs2 : l.size + (T.ins k v r).size ≤ 1000000 := by omega
        have HI := Lib.hid (fun (w' : World) (h : NdAt w' pr r) => ihr h hs1)
        generalize T.ins k v (.node l k' v' r) = t at *
        generalize T.ins k v r = q at *
        clear ihl ihr z1 z2 hl hr d01
        subst hWd
        go_enter Try.func79, Try.ntmps79
        go_wp2
        go_region_held3 (fun w' => w'.cell? ⟨b, 3, none⟩ = some (.pointer pl) ∧ w'.cell? ⟨b, 4, none⟩ = some (.pointer pr) ∧ w'.cell? ⟨w.heap.size, 0, none⟩ = some (.int .i64 v.1) ∧ w'.cell? ⟨w.heap.size, 1, none⟩ = some (.int .i64 v.2)) (with_reducible first | exact ⟨ND.cs.c2, ND.cs.c3, ND.x0, ND.x1⟩ | exact ⟨NA.cs.c2, NA.cs.c3, NA.x0, NA.x1⟩ | exact ⟨NC.cs.c2, NC.cs.c3, NC.x0, NC.x1⟩ | go_keep) (first
          | (go_at_call 79; (with_reducible refine (HI.out _ ND.right).mono ?_); rintro e w2 ⟨p1, rfl, hp1, hb⟩; have NA := ND.later hb; have BA := HB.out.trans (hb.mono HB.out.size); clear ND hb)
          | (go_at_call 85; (with_reducible refine (balance_any NA.cs.c0 NA.cs.c1 NA.left hp1 hs2).mono ?_); rintro e w2 ⟨p2, rfl, hp2, hb⟩; have NC := NA.later hb; have BC := BA.trans (hb.mono BA.size); clear NA hb))
        all_goals
          go_wp2
          go_ret
          exact ⟨p2, rfl, by rw [HT.out]; exact hp2, BC⟩
      · have HT : Hid (T.ins k v (.node l k' v' r) = .node l k v r) := Lib.hid (by simp only [T.ins, if_neg h1, if_neg h2])
        have hs2 : l.size + r.size ≤ 1000000 := by omega
        generalize T.ins k v (.node l k' v' r) = t at *
        clear ihl ihr z1 z2 hl hr d01
        subst hWd
        go_enter Try.func79, Try.ntmps79
        go_wp2
        go_region_held3 (fun w' => w'.cell? ⟨b, 3, none⟩ = some (.pointer pl) ∧ w'.cell? ⟨b, 4, none⟩ = some (.pointer pr) ∧ w'.cell? ⟨w.heap.size, 0, none⟩ = some (.int .i64 v.1) ∧ w'.cell? ⟨w.heap.size, 1, none⟩ = some (.int .i64 v.2)) (with_reducible first | exact ⟨ND.cs.c2, ND.cs.c3, ND.x0, ND.x1⟩ | exact ⟨NC.cs.c2, NC.cs.c3, NC.x0, NC.x1⟩ | go_keep) (first
          | (go_at_call 86; (with_reducible refine (join_any k v ND.left ND.right hs2).mono ?_); rintro e w2 ⟨p2, rfl, hp2, hb⟩; have NC := ND.later hb; have BC := HB.out.trans (hb.mono HB.out.size); clear hb))
        all_goals
          go_wp2
          go_ret
          exact ⟨p2, rfl, by rw [HT.out]; exact hp2, BC⟩

/-- a pointer leads to a node with a pair; or it is none -/
def NodeOf (w : World) (q : Option Addr) : Option (Int × Vt) → Prop
  | none => q = none
  | some x => ∃ b, q = some ⟨b, 0, none⟩ ∧ w.cell? ⟨b, 0, none⟩ = some (.int .i64 x.1) ∧ w.cell? ⟨b, 1, none⟩ = some (.int .i64 x.2.1) ∧ w.cell? ⟨b, 2, none⟩ = some (.int .i64 x.2.2)
theorem NodeOf.later {w w' : World} {q : Option Addr} {o : Option (Int × Vt)} (h : NodeOf w q o) (hb : Below w.heap.size w w') : NodeOf w' q o := by
  cases o with
  | none => exact h
  | some x => obtain ⟨b, rfl, h0, h1⟩ := h; exact ⟨b, rfl, ck hb h0, ck2 hb h1⟩
/-- what is handed back is a node -/
def RetN (o : Option (Int × Vt)) (w : World) (e : Ending) (w' : World) : Prop := ∃ q, e = .returned (.pointer q) ∧ NodeOf w q o ∧ w = w'

set_option maxRecDepth 100000 in
set_option maxHeartbeats 4000000 in
theorem at_any {t : T} {p : Option Addr} {w : World} (h : NdAt w p t) (i : Int) (hi : -9223372036854775808 ≤ i ∧ i ≤ 9223372036854775807) (hs : t.size ≤ 1000000) :
    Calls Try.prog 63 #[.pointer p, .int .i64 i] w (RetN (atL t.toL i) w) := by
  have HN := Lib.hid h
  obtain ⟨o, ho⟩ : ∃ o, o = atL t.toL i := ⟨_, rfl⟩
  rw [← ho]
  have HO := Lib.hid ho
  clear ho h
  go_enter Try.func63, Try.ntmps63
  go_wp2
  go_loopg [0, 1] t.size (fun n s0 s1 wr => ∃ (t' : T) (p' : Option Addr) (i' : Int), s0 = .pointer p' ∧ s1 = .int .i64 i' ∧ t'.size = n ∧ NdAt w p' t' ∧ Hid (o = atL t'.toL i') ∧ t'.size ≤ 1000000 ∧ -9223372036854775808 ≤ i' ∧ i' ≤ 9223372036854775807 ∧ wr = w)
  case atStart => exact ⟨t, p, i, rfl, rfl, rfl, HN.out, HO, hs, hi.1, hi.2, rfl⟩
  case round =>
    clear HN HO hi hs
    obtain ⟨t', p', i', rfl, rfl, rfl, hn, HO, hs, h1, h2, rfl⟩ := hrel
    cases t' with
    | nil =>
      obtain rfl : p' = none := hn
      go_wp2
      go_ret
      exact ⟨none, rfl, by rw [HO.out, show T.nil.toL = [] from rfl, atL_nil]; rfl, rfl⟩
    | node l k v r =>
      obtain ⟨b, pl, pr, rfl, hb, hl, hr⟩ := hn
      obtain ⟨c0, c1, c2, c3, _, _⟩ := cs_of hb
      have HL := Lib.hid hl
      have HR := Lib.hid hr
      have hz := T.size_toL l
      simp only [T.size] at hs
      have HA := Lib.hid (show ∀ i : Int, i < (l.size : Int) → atL (T.node l k v r).toL i = atL l.toL i from fun i hi => atL_lo (by rw [hz]; exact hi))
      have HB := Lib.hid (show ∀ i : Int, i = (l.size : Int) → atL (T.node l k v r).toL i = some (k, v) from fun i hi => atL_eq (by rw [hz]; exact hi))
      have HC := Lib.hid (show ∀ i : Int, (l.size : Int) < i → atL (T.node l k v r).toL i = atL r.toL (i - ((l.size : Int) + 1)) from fun i hi => by rw [← hz] at hi ⊢; exact atL_hi hi)
      have HZ : Hid ((T.node l k v r).size = l.size + 1 + r.size) := Lib.hid rfl
      clear hb hl hr hz
      go_wp2_with (go_at_call 65; (with_reducible refine (count_any HL.out).mono ?_); rintro e w' ⟨rfl, rfl⟩)
      · have hlt : i' < (l.size : Int) := by omega
        go_roundg l.size
        case measure => rw [HZ.out]; omega
        case rel => exact ⟨l, pl, i', rfl, rfl, rfl, HL.out, Lib.hid (by rw [HO.out, HA.out i' hlt]), by omega, h1, h2, rfl⟩
      · have heq : i' = (l.size : Int) := by
          have h : (i' == (l.size : Int)) = true := by assumption
          simpa using h
        go_ret
        exact ⟨_, rfl, by rw [HO.out, HB.out _ heq]; exact ⟨b, rfl, c0, c1⟩, rfl⟩
      · have hgt : (l.size : Int) < i' := by
          have h : (i' == (l.size : Int)) = false := by assumption
          have h' : ¬ i' = (l.size : Int) := by simpa using h
          omega
        go_roundg r.size
        case measure => rw [HZ.out]; omega
        case rel => exact ⟨r, pr, i' - ((l.size : Int) + 1), rfl, rfl, rfl, HR.out, Lib.hid (by rw [HO.out, HC.out i' hgt]), by omega, by omega, by omega, rfl⟩

set_option maxRecDepth 100000 in
set_option maxHeartbeats 4000000 in
theorem without_any : ∀ (t : T) (k : Int) {p : Option Addr} {w : World}, NdAt w p t → t.size ≤ 900000 →
    Calls Try.prog 78 #[.pointer p, .int .i64 k] w (RetT (T.del k t) w) := by
  intro t
  induction t with
  | nil =>
    intro k p w h hs
    obtain rfl : p = none := h
    go_enter Try.func78, Try.ntmps78
    go_wp2_with fail
    go_ret
    exact ⟨none, rfl, rfl, Below.refl _ _⟩
  | node l k' v' r ihl ihr =>
    intro k p w h hs
    obtain ⟨b, pl, pr, rfl, hb, hl, hr⟩ := h
    have N : NdB w b l k' v' r pl pr := ⟨hb, hl, hr⟩
    obtain ⟨d01, d2, d3⟩ := N.c
    have d0 := d01.1
    have ND := N.later (Below.refl w.heap.size w).drew
    have HB := Lib.hid (Below.refl w.heap.size w).drew
    simp only [T.size] at hs
    have z1 := T.del_size k l
    have z2 := T.del_size k r
    clear hb N
    by_cases h1 : k < k'
    · have HT : Hid (T.del k (.node l k' v' r) = T.bal (T.del k l) k' v' r) := Lib.hid (by simp only [T.del, if_pos h1])
      have hs1 : l.size ≤ 900000 := by omega
      have hs2 : (T.del k l).size + r.size ≤ 1000000 := by omega
      have HI := Lib.hid (fun (w' : World) (h : NdAt w' pl l) => ihl k h hs1)
      generalize T.del k (.node l k' v' r) = t at *
      generalize T.del k l = q at *
      clear ihl ihr z1 z2 hl hr d01
      go_enter Try.func78, Try.ntmps78
      go_wp2
      go_region_held3 (fun w' => w'.cell? ⟨b, 3, none⟩ = some (.pointer pl) ∧ w'.cell? ⟨b, 4, none⟩ = some (.pointer pr)) (with_reducible first | exact ⟨ND.cs.c2, ND.cs.c3⟩ | exact ⟨NA.cs.c2, NA.cs.c3⟩ | exact ⟨NC.cs.c2, NC.cs.c3⟩ | go_keep) (first
        | (go_at_call 78; (with_reducible refine (HI.out _ ND.left).mono ?_); rintro e w2 ⟨p1, rfl, hp1, hb⟩; have NA := ND.later hb; have BA := HB.out.trans hb; clear ND hb)
        | (go_at_call 85; (with_reducible refine (balance_any NA.cs.c0 NA.cs.c1 hp1 NA.right hs2).mono ?_); rintro e w2 ⟨p2, rfl, hp2, hb⟩; have NC := NA.later hb; have BC := BA.trans (hb.mono BA.size); clear NA hb))
      all_goals
        go_wp2
        go_ret
        exact ⟨p2, rfl, by rw [HT.out]; exact hp2, BC⟩
    · by_cases h2 : k' < k
      · have HT : Hid (T.del k (.node l k' v' r) = T.bal l k' v' (T.del k r)) := Lib.hid (by simp only [T.del, if_neg h1, if_pos h2])
        have hs1 : r.size ≤ 900000 := by omega
        have hs2 : l.size + (T.del k r).size ≤ 1000000 := by omega
        have HI := Lib.hid (fun (w' : World) (h : NdAt w' pr r) => ihr k h hs1)
        generalize T.del k (.node l k' v' r) = t at *
        generalize T.del k r = q at *
        clear ihl ihr z1 z2 hl hr d01
        go_enter Try.func78, Try.ntmps78
        go_wp2
        go_region_held3 (fun w' => w'.cell? ⟨b, 3, none⟩ = some (.pointer pl) ∧ w'.cell? ⟨b, 4, none⟩ = some (.pointer pr)) (with_reducible first | exact ⟨ND.cs.c2, ND.cs.c3⟩ | exact ⟨NA.cs.c2, NA.cs.c3⟩ | exact ⟨NC.cs.c2, NC.cs.c3⟩ | go_keep) (first
          | (go_at_call 78; (with_reducible refine (HI.out _ ND.right).mono ?_); rintro e w2 ⟨p1, rfl, hp1, hb⟩; have NA := ND.later hb; have BA := HB.out.trans hb; clear ND hb)
          | (go_at_call 85; (with_reducible refine (balance_any NA.cs.c0 NA.cs.c1 NA.left hp1 hs2).mono ?_); rintro e w2 ⟨p2, rfl, hp2, hb⟩; have NC := NA.later hb; have BC := BA.trans (hb.mono BA.size); clear NA hb))
        all_goals
          go_wp2
          go_ret
          exact ⟨p2, rfl, by rw [HT.out]; exact hp2, BC⟩
      · cases r with
        | nil =>
          obtain rfl : pr = none := hr
          have HT : Hid (T.del k (.node l k' v' .nil) = l) := Lib.hid (by simp only [T.del, if_neg h1, if_neg h2, if_pos])
          generalize T.del k (.node l k' v' .nil) = t at *
          have HL := Lib.hid hl
          clear ihl ihr z1 z2 hl d01 ND
          go_enter Try.func78, Try.ntmps78
          go_wp2_with fail
          go_ret
          exact ⟨_, rfl, by rw [HT.out]; exact HL.out, Below.refl _ _⟩
        | node rl rk rv rr =>
          obtain ⟨br, x1, x2, rfl, hbr, hx1, hx2⟩ := hr
          have hr : NdAt w (some ⟨br, 0, none⟩) (.node rl rk rv rr) := ⟨br, x1, x2, rfl, hbr, hx1, hx2⟩
          generalize hR : T.node rl rk rv rr = R at *
          have hRn : R ≠ .nil := by subst hR; simp
          obtain ⟨⟨fk, fv⟩, hf'⟩ : ∃ x, x = R.first := ⟨_, rfl⟩
          have hf := hf'.symm
          clear hf'
          have z3 := T.del_size fk R
          have HT : Hid (T.del k (.node l k' v' R) = T.bal l fk fv (T.del fk R)) := Lib.hid (by simp only [T.del, if_neg h1, if_neg h2, if_neg hRn, hf])
          have hs1 : R.size ≤ 900000 := by omega
          have hs2 : l.size + (T.del fk R).size ≤ 1000000 := by omega
          have hs3 : R.size ≤ 1000000 := by omega
          have HI := Lib.hid (fun (w' : World) (h : NdAt w' (some ⟨br, 0, none⟩) R) => ihr fk h hs1)
          have HAT : Hid (Calls Try.prog 63 #[.pointer (some ⟨br, 0, none⟩), .int .i64 0] w (RetN (some (fk, fv)) w)) := Lib.hid (by
            have := at_any hr 0 (by omega) hs3
            rwa [atL_zero, T.first_toL R hRn, hf] at this)
          generalize T.del k (.node l k' v' R) = t at *
          generalize T.del fk R = q at *
          clear ihl ihr z1 z2 z3 hl hr d01 hbr hx1 hx2 hR hf hRn
          go_enter Try.func78, Try.ntmps78
          go_wp2_with (go_at_call 63; (with_reducible refine HAT.out.mono ?_); rintro e w' ⟨q0, rfl, ⟨bn, rfl, g0, g1⟩, rfl⟩)
          have G0 : w.drew.cell? ⟨bn, 0, none⟩ = some (.int .i64 fk) := g0
          have G1 : (w.drew.cell? ⟨bn, 1, none⟩ = some (.int .i64 fv.1) ∧ w.drew.cell? ⟨bn, 2, none⟩ = some (.int .i64 fv.2)) := g1
          go_region_held3 (fun w' => w'.cell? ⟨b, 3, none⟩ = some (.pointer pl) ∧ w'.cell? ⟨b, 4, none⟩ = some (.pointer (some ⟨br, 0, none⟩)) ∧ w'.cell? ⟨bn, 0, none⟩ = some (.int .i64 fk)) (with_reducible first | exact ⟨ND.cs.c2, ND.cs.c3, G0⟩ | exact ⟨NA.cs.c2, NA.cs.c3, GA0⟩ | exact ⟨NC.cs.c2, NC.cs.c3, GC0⟩ | go_keep) (first
            | (go_at_call 78; (with_reducible refine (HI.out _ ND.right).mono ?_); rintro e w2 ⟨p1, rfl, hp1, hb⟩; have NA := ND.later hb; have BA := HB.out.trans hb; have GA0 := ck hb G0; have GA1 := ck2 hb G1; clear ND hb G0 G1)
            | (go_at_call 85; (with_reducible refine (balance_any GA0 GA1 NA.left hp1 hs2).mono ?_); rintro e w2 ⟨p2, rfl, hp2, hb⟩; have NC := NA.later hb; have BC := BA.trans (hb.mono BA.size); have GC0 := ck hb GA0; clear NA hb))
          all_goals
            go_wp2
            go_ret
            exact ⟨p2, rfl, by rw [HT.out]; exact hp2, BC⟩
end Go.Proofs.Ytegbkeichkifnaa.bv
/-!   Package avl: what a tree does.
-/
namespace Go.Proofs.Ytegbkeichkifnaa.bv
open Go.RowKit aid mem
attribute [local go_sem ↓] Go.wp_at_zero Go.wp_at_succ
set_option linter.unusedVariables false

/-- block b is a tree's, with what lies below it -/
def TrAt (w : World) (b : Nat) (t : T) : Prop := ∃ q, w.heap[b]? = some (.cells #[.pointer q] 94 (0, 0)) ∧ NdAt w q t
theorem TrAt.later {w w' : World} {b : Nat} {t : T} (h : TrAt w b t) (hb : Below w.heap.size w w') : TrAt w' b t := by
  obtain ⟨q, h1, h2⟩ := h
  exact ⟨q, (hb.block b (lt_of_block h1)).trans h1, h2.later hb⟩
theorem TrAt.lt {w : World} {b : Nat} {t : T} (h : TrAt w b t) : b < w.heap.size := by obtain ⟨q, h1, _⟩ := h; exact lt_of_block h1
/-- a tree that is not the one that was written stays as it was -/
theorem TrAt.keep {w w' : World} {b c : Nat} {t u : T} (h : TrAt w b t) (hc : TrAt w c u) (hk : Kept [c] w w') (hn : b ≠ c) : TrAt w' b t := by
  obtain ⟨q, h1, h2⟩ := h
  obtain ⟨q', h3, _⟩ := hc
  refine ⟨q, hk.heap (by simpa using hn) h1, h2.keepT (fun x cs hx => ?_)⟩
  refine hk.block x (lt_of_block hx) ?_
  simp only [List.mem_singleton]
  rintro rfl
  rw [h3] at hx
  simp at hx
/-- where a pointer leads: to a tree; or it is none -/
def TrO (w : World) (p : Option Addr) (t : T) : Prop := (p = none ∧ t = .nil) ∨ ∃ b, p = some ⟨b, 0, none⟩ ∧ TrAt w b t
theorem TrAt.o {w : World} {b : Nat} {t : T} (h : TrAt w b t) : TrO w (some ⟨b, 0, none⟩) t := .inr ⟨b, rfl, h⟩
theorem trO_none (w : World) : TrO w none .nil := .inl ⟨rfl, rfl⟩

theorem top_any {w : World} {p : Option Addr} {t : T} (h : TrO w p t) : Calls Try.prog 62 #[.pointer p] w fun e w' => ∃ q, e = .returned (.pointer q) ∧ NdAt w q t ∧ w = w' := by
  rcases h with ⟨rfl, rfl⟩ | ⟨b, rfl, q, h1, h2⟩
  · go_enter Try.func62, Try.ntmps62
    go_wp2
    go_ret
    exact ⟨none, rfl, rfl, rfl⟩
  · have c0 : w.cell? ⟨b, 0, none⟩ = some (.pointer q) := (cell_of_row w b 0 _ _ (0, 0) h1).trans rfl
    have HN := Lib.hid h2
    clear h2
    go_enter Try.func62, Try.ntmps62
    go_wp2
    go_ret
    exact ⟨q, rfl, HN.out, rfl⟩

theorem new_any (w : World) : Calls Try.prog 51 #[] w fun e w' => e = .returned (.pointer (some ⟨w.heap.size, 0, none⟩)) ∧ TrAt w' w.heap.size .nil ∧ Below w.heap.size w w' := by
  have h1 : TrAt (w.alloc (.cells #[.pointer none] 94)) w.heap.size .nil := ⟨none, heap_alloc_new w _, rfl⟩
  have H1 := Lib.hid h1
  clear h1
  go_enter Try.func51, Try.ntmps51
  go_wp2
  go_ret
  exact ⟨rfl, H1.out, bal' _⟩

theorem tlen_any {w : World} {p : Option Addr} {t : T} (h : TrO w p t) : Calls Try.prog 44 #[.pointer p] w fun e w' => e = .returned (.int .i64 (t.size : Int)) ∧ w = w' := by
  have H := Lib.hid h
  clear h
  go_enter Try.func44, Try.ntmps44
  go_wp2_with (first
    | (go_at_call 62; (with_reducible refine (top_any H.out).mono ?_); rintro e w' ⟨q, rfl, hq, rfl⟩)
    | (go_at_call 65; (with_reducible refine (count_any hq).mono ?_); rintro e w' ⟨rfl, rfl⟩))
  go_ret
  exact ⟨rfl, rfl⟩
/-- a tree's root is set -/
theorem set_root {w : World} {b : Nat} {q q' : Option Addr} {t' : T} (h : w.heap[b]? = some (.cells #[.pointer q] 94 (0, 0))) (hq : NdAt w q' t') : TrAt (w.setCell ⟨b, 0, none⟩ (.pointer q')) b t' := by
  refine ⟨q', (heap_setCell_same _ b 0 _ _ _ h).trans rfl, hq.keepT (fun x cs hx => ?_)⟩
  refine Below.heap_setCell w ⟨b, 0, none⟩ _ x ?_
  rintro rfl
  rw [h] at hx
  simp at hx

theorem kset1 (w : World) (b : Nat) (u : Value) : Kept [b] w (w.setCell ⟨b, 0, none⟩ u) := (Kept.refl [b] w).setCell (.inl (by simp)) u
set_option maxRecDepth 100000 in
set_option maxHeartbeats 4000000 in
theorem put_any {w : World} {b : Nat} {t : T} (k : Int) (v : Vt) (h : TrAt w b t) (hs : t.size ≤ 900000) :
    Calls Try.prog 59 #[.pointer (some ⟨b, 0, none⟩), .int .i64 k, .agg #[.int .i64 v.1, .int .i64 v.2]] w fun e w' => e = .returned (.bool (decide (t.size < (T.ins k v t).size))) ∧ TrAt w' b (T.ins k v t) ∧ Kept [b] w w' := by
  obtain ⟨q, h1, h2⟩ := h
  have bb := bal' (w := w) (.cells #[.int .i64 v.1, .int .i64 v.2] 24)
  have bx := box_sp w v
  have hbl := lt_of_block h1
  have hbn : w.heap.size ∉ [b] := by simp; omega
  have h1' := (bb.block _ hbl).trans h1
  have h2' := h2.later bb
  generalize hWd : w.alloc (.cells #[.int .i64 v.1, .int .i64 v.2] 24) = w0 at *
  have x0 : w0.drew.cell? ⟨w.heap.size, 0, none⟩ = _ := bx.1
  have x1 : w0.drew.cell? ⟨w.heap.size, 1, none⟩ = _ := bx.2
  have c0 : w0.drew.cell? ⟨b, 0, none⟩ = some (.pointer q) := (cell_of_row w0 b 0 _ _ (0, 0) h1').trans rfl
  have HT : Hid (TrO w0 (some ⟨b, 0, none⟩) t) := Lib.hid (TrAt.o ⟨q, h1', h2'⟩)
  have HW := Lib.hid (with_any k v t h2'.drew hs)
  have H1 := Lib.hid (show w0.drew.heap[b]? = _ from h1')
  have HB := Lib.hid bb.drew
  generalize T.ins k v t = t' at *
  clear h1 h2 h1' h2' bb bx
  subst hWd
  go_enter Try.func59, Try.ntmps59
  go_wp2_with fail
  refine (tlen_any HT.out).mono ?_
  rintro e w' ⟨rfl, rfl⟩
  go_wp2_with fail
  refine wp_region_noPanic ?_
  refine wp_region_held_drew (S := (fun w' => w'.cell? ⟨w.heap.size, 0, none⟩ = some (.int .i64 v.1) ∧ w'.cell? ⟨w.heap.size, 1, none⟩ = some (.int .i64 v.2))) (by kernel_rfl) ?_ (fun hHeld => ?_)
  · ((try dsimp only); exact ⟨x0, x1⟩)
  refine wpAnyH_take (i := 0) (oi := _) (v := ?_) rfl (by kernel_rfl) (by kernel_rfl) (by kernel_rfl) (fun _ _ _ h => h) (Or.inl ⟨by rfl, ?_⟩) (by assumption) ?_
  rotate_left
  · (first | (intro v hSw; (try dsimp only at hSw); go_simp; done) | (intro v hSw; (try dsimp only at hSw); go_simp; with_reducible rfl))
  refine wpAnyH_take (i := 1) (oi := _) (v := ?_) rfl (by kernel_rfl) (by kernel_rfl) (by kernel_rfl) (fun _ _ _ h => h) (Or.inl ⟨by rfl, ?_⟩) (by assumption) ?_
  rotate_left
  · (first | (intro v hSw; (try dsimp only at hSw); go_simp; done) | (intro v hSw; (try dsimp only at hSw); go_simp; with_reducible rfl))
  refine wpAnyH_take (i := 2) (oi := _) (v := ?_) rfl (by kernel_rfl) (by kernel_rfl) (by kernel_rfl) (fun _ _ _ h => h) (Or.inl ⟨by rfl, ?_⟩) (by assumption) ?_
  rotate_left
  · (first | (intro v hSw; (try dsimp only at hSw); go_simp; done) | (intro v hSw; (try dsimp only at hSw); go_simp; with_reducible rfl))
  refine wpAnyH_take (i := 3) (oi := _) (v := ?_) rfl (by kernel_rfl) (by kernel_rfl) (by kernel_rfl) (fun _ _ _ h => h) (Or.inl ⟨by rfl, ?_⟩) (by assumption) ?_
  rotate_left
  · (first | (intro v hSw; (try dsimp only at hSw); go_simp; done) | (intro v hSw; (try dsimp only at hSw); go_simp; with_reducible rfl))
  refine wpAnyH_take (i := 5) (oi := _) (v := ?_) rfl (by kernel_rfl) (by kernel_rfl) (by kernel_rfl) (fun _ _ _ h => h) (Or.inl ⟨by rfl, ?_⟩) (by assumption) ?_
  rotate_left
  · (first | (intro v hSw; (try dsimp only at hSw); go_simp; done) | (intro v hSw; (try dsimp only at hSw); go_simp; with_reducible rfl))
  refine wpAnyH_take (i := 6) (oi := _) (v := ?_) rfl (by kernel_rfl) (by kernel_rfl) (by kernel_rfl) (fun _ _ _ h => h) (Or.inl ⟨by rfl, ?_⟩) (by assumption) ?_
  rotate_left
  · (first | (intro v hSw; (try dsimp only at hSw); go_simp; done) | (intro v hSw; (try dsimp only at hSw); go_simp; with_reducible rfl))
  refine wpAnyH_ready (rs := [4]) (by kernel_rfl) (by simp) ?_
  refine AllReadyH.cons (o := _) rfl (fun K hK => ?_) ?_
  · go_simp
    refine hK.out _ _ ?_ (fun hHeld => ?_)
    · ((try dsimp only); exact ⟨x0, x1⟩)
    clear hK K
    refine wpAnyH_ready (rs := [7]) (by kernel_rfl) (by simp) ?_
    refine AllReadyH.cons (o := _) rfl (fun K hK => ?_) ?_
    · go_simp
      (refine HW.out.mono ?_)
      rintro e w1 ⟨q', rfl, hq', hb⟩
      have d1 := ck hb c0
      have y0 := ck hb x0
      have y1 := ck hb x1
      have H2 := Lib.hid ((hb.block b (lt_of_block H1.out)).trans H1.out)
      have g1 : w1.frozen? ⟨b, 0, none⟩ = false := (by simp [World.frozen?, H2.out])
      have HN := Lib.hid (set_root H2.out hq')
      clear hq'
      refine hK.out _ _ ?_ (fun hHeld => ?_)
      · ((try dsimp only); exact ⟨y0, y1⟩)
      clear hK K
      refine wpAnyH_take (i := 8) (oi := _) (v := ?_) rfl (by kernel_rfl) (by kernel_rfl) (by kernel_rfl) (fun _ _ _ h => h) (Or.inl ⟨by rfl, ?_⟩) (by assumption) ?_
      rotate_left
      · (first | (intro v hSw; (try dsimp only at hSw); go_simp; done) | (intro v hSw; (try dsimp only at hSw); go_simp; with_reducible rfl))
      refine wpAnyH_take (i := 9) (oi := _) (v := ?_) rfl (by kernel_rfl) (by kernel_rfl) (by kernel_rfl) (fun _ _ _ h => h) (Or.inl ⟨by rfl, ?_⟩) (by assumption) ?_
      rotate_left
      · (first | (intro v hSw; (try dsimp only at hSw); go_simp; done) | (intro v hSw; (try dsimp only at hSw); go_simp; with_reducible rfl))
      refine wpAnyH_ready (rs := [10]) (by kernel_rfl) (by simp) ?_
      refine AllReadyH.cons (o := _) rfl (fun K hK => ?_) ?_
      · go_simp
        refine hK.out _ _ ?_ (fun hHeld => ?_)
        · ((try dsimp only); exact ⟨(kset1 w1 b _).cell hbn y0, (kset1 w1 b _).cell hbn y1⟩)
        clear hK K
        refine wpAnyH_done (by kernel_rfl) ?_ _
        refine NoPanic.normal ?_
        go_wp2_with (go_at_call 44; (with_reducible refine (tlen_any HN.out.o).mono ?_); rintro e w' ⟨rfl, rfl⟩)
        go_ret
        exact ⟨ret_b (by simp), HN.out, ((Kept.of_below (HB.out.trans (hb.mono HB.out.size)) (Nat.le_refl _) [b]).trans (kset1 w1 b _) (by simp))⟩
      exact AllReadyH.nil
    exact AllReadyH.nil
  exact AllReadyH.nil

set_option maxHeartbeats 1000000 in
theorem delete_any {w : World} {b : Nat} {t : T} (k : Int) (h : TrAt w b t) (hs : t.size ≤ 900000) :
    Calls Try.prog 58 #[.pointer (some ⟨b, 0, none⟩), .int .i64 k] w fun e w' => e = .returned (.bool (decide ((T.del k t).size < t.size))) ∧ TrAt w' b (T.del k t) ∧ Kept [b] w w' := by
  obtain ⟨q, h1, h2⟩ := h
  have c0 : w.cell? ⟨b, 0, none⟩ = some (.pointer q) := (cell_of_row w b 0 _ _ (0, 0) h1).trans rfl
  have HT : Hid (TrO w (some ⟨b, 0, none⟩) t) := Lib.hid (TrAt.o ⟨q, h1, h2⟩)
  have HW := Lib.hid (without_any t k h2 hs)
  have H1 := Lib.hid h1
  generalize T.del k t = t' at *
  clear h1 h2
  go_enter Try.func58, Try.ntmps58
  go_wp2_with (first
    | (go_at_call 44; (with_reducible refine (tlen_any HT.out).mono ?_); rintro e w' ⟨rfl, rfl⟩)
    | (go_at_call 78; (with_reducible refine HW.out.mono ?_); rintro e w1 ⟨q', rfl, hq', hb⟩; have d1 := ck hb c0; have H2 := Lib.hid ((hb.block b (lt_of_block H1.out)).trans H1.out); have g1 : w1.frozen? ⟨b, 0, none⟩ = false := (by simp [World.frozen?, H2.out]); have HN := Lib.hid (set_root H2.out hq'); clear hq' c0)
    | (go_at_call 44; (with_reducible refine (tlen_any HN.out.o).mono ?_); rintro e w' ⟨rfl, rfl⟩))
  go_ret
  exact ⟨ret_b (by simp), HN.out, ((Kept.of_below hb (Nat.le_refl _) [b]).trans ((Kept.refl [b] w1).setCell (.inl (by simp)) _) (by simp))⟩

theorem put_none (w : World) (k : Int) (v : Vt) : Calls Try.prog 59 #[.pointer none, .int .i64 k, .agg #[.int .i64 v.1, .int .i64 v.2]] w fun e w' => e = .returned (.bool false) ∧ Below w.heap.size w w' := by
  go_enter Try.func59, Try.ntmps59
  go_wp2_with fail
  go_ret
  exact ⟨rfl, bal' _⟩
theorem delete_none (w : World) (k : Int) : Calls Try.prog 58 #[.pointer none, .int .i64 k] w fun e w' => e = .returned (.bool false) ∧ w = w' := by
  go_enter Try.func58, Try.ntmps58
  go_wp2_with fail
  go_ret
  exact ⟨rfl, rfl⟩
theorem clone_none (w : World) : Calls Try.prog 68 #[.pointer none] w fun e w' => e = .returned (.pointer none) ∧ w = w' := by
  go_enter Try.func68, Try.ntmps68
  go_wp2_with fail
  go_ret
  exact ⟨rfl, rfl⟩
theorem clone_any {w : World} {b : Nat} {t : T} (h : TrAt w b t) : Calls Try.prog 68 #[.pointer (some ⟨b, 0, none⟩)] w fun e w' => e = .returned (.pointer (some ⟨w.heap.size, 0, none⟩)) ∧ TrAt w' w.heap.size t ∧ Below w.heap.size w w' := by
  obtain ⟨q, h1, h2⟩ := h
  have c0 : w.cell? ⟨b, 0, none⟩ = some (.pointer q) := (cell_of_row w b 0 _ _ (0, 0) h1).trans rfl
  have HN : Hid (TrAt (w.alloc (.cells #[.pointer q] 94)) w.heap.size t) := Lib.hid ⟨q, heap_alloc_new w _, h2.later (bal' _)⟩
  clear h1 h2
  go_enter Try.func68, Try.ntmps68
  go_wp2_with fail
  go_ret
  exact ⟨rfl, HN.out, bal' _⟩

/-- a node of the bigger or none: a node (floor, ceil) -/
def RetNB (o : Option (Int × Vt)) (w : World) (e : Ending) (w' : World) : Prop := ∃ q, e = .returned (.pointer q) ∧ NodeOf w' q o ∧ Below w.heap.size w w'

set_option maxRecDepth 100000 in
set_option maxHeartbeats 4000000 in
theorem floor_any {t : T} {p : Option Addr} {w : World} (h : NdAt w p t) (key : Int) (hu : T.Up t.toL) :
    Calls Try.prog 87 #[.pointer p, .int .i64 key] w (RetNB (flL t.toL key) w) := by
  have HN := Lib.hid h
  have HU := Lib.hid hu
  obtain ⟨o, ho⟩ : ∃ o, o = flL t.toL key := ⟨_, rfl⟩
  rw [← ho]
  have HO : Hid (o = (flL t.toL key).or none) := Lib.hid (by rw [ho]; simp)
  clear ho h hu
  go_enter Try.func87, Try.ntmps87
  go_wp2
  go_loopg [0, 5] t.size (fun n s0 s5 wr => ∃ (t' : T) (p' q' : Option Addr) (o' : Option (Int × Vt)), s0 = .pointer p' ∧ s5 = .pointer q' ∧ t'.size = n ∧ NdAt wr p' t' ∧ NodeOf wr q' o' ∧ Hid (T.Up t'.toL) ∧ Hid (o = (flL t'.toL key).or o') ∧ Below w.heap.size w wr)
  case atStart => exact ⟨t, p, none, none, rfl, rfl, rfl, HN.out, rfl, HU, HO, Below.refl _ _⟩
  case round =>
    clear HN HO HU
    obtain ⟨t', p', q', o', rfl, rfl, rfl, hn, hq, HU, HO, hB⟩ := hrel
    cases t' with
    | nil =>
      obtain rfl : p' = none := hn
      have HQ := Lib.hid hq
      clear hq
      go_wp2
      go_ret
      exact ⟨q', rfl, by rw [HO.out]; exact HQ.out, hB⟩
    | node l k v r =>
      obtain ⟨b, pl, pr, rfl, hb, hl, hr⟩ := hn
      obtain ⟨c0, c1, c2, c3, _, _⟩ := cs_of hb
      have HL := Lib.hid hl
      have HR := Lib.hid hr
      have HQ := Lib.hid hq
      have hup := T.up_node.1 HU.out
      have HUL := Lib.hid hup.1
      have HUR := Lib.hid hup.2.1
      clear hup
      have HA := Lib.hid (show key < k → flL (T.node l k v r).toL key = flL l.toL key from fun hk => fl_hi HU.out hk)
      have HB := Lib.hid (show k ≤ key → flL (T.node l k v r).toL key = (flL r.toL key).or (some (k, v)) from fun hk => fl_lo hk)
      have HZ : Hid ((T.node l k v r).size = l.size + 1 + r.size) := Lib.hid rfl
      clear hb hl hr hq
      by_cases hk : key < k
      · have HE := Lib.hid (HA.out hk)
        go_wp2
        go_roundg l.size
        case measure => rw [HZ.out]; omega
        case rel => exact ⟨l, pl, q', o', rfl, rfl, rfl, HL.out, HQ.out, HUL, Lib.hid (by rw [HO.out, HE.out]), hB⟩
      · have HE := Lib.hid (HB.out (by omega))
        go_wp2
        go_quiet (fail)
        go_wp2
        have hb2 := below_drewN wr nq
        go_roundg r.size
        case measure => rw [HZ.out]; omega
        case rel => exact ⟨r, pr, some ⟨b, 0, none⟩, some (k, v), rfl, rfl, rfl, HR.out.later hb2, ⟨b, rfl, ck hb2 c0, ck2 hb2 c1⟩, HUR, Lib.hid (by rw [HO.out, HE.out]; cases flL r.toL key <;> rfl), hB.trans (hb2.mono hB.size)⟩

end Go.Proofs.Ytegbkeichkifnaa.bv
/-!   Board's tree: what is asked of it.
-/
namespace Go.Proofs.Ytegbkeichkifnaa.bv
open Go.RowKit aid mem
attribute [local go_sem ↓] Go.wp_at_zero Go.wp_at_succ
set_option linter.unusedVariables false
set_option linter.unusedSimpArgs false

/-- three results -/
def tupO : Option (Int × Vt) → Value
  | none => .tuple #[.int .i64 0, .agg #[.int .i64 0, .int .i64 0], .bool false]
  | some x => .tuple #[.int .i64 x.1, .agg #[.int .i64 x.2.1, .int .i64 x.2.2], .bool true]
abbrev zS : Obj := .cells #[.int .i64 0, .int .i64 0] 24
abbrev vS (v : Vt) : Obj := .cells #[.int .i64 v.1, .int .i64 v.2] 24
theorem bx_c {W : World} {p : Nat} {v : Vt} (h : W.heap[p]? = some (vS v)) : W.cell? ⟨p, 0, none⟩ = some (.int .i64 v.1) ∧ W.cell? ⟨p, 1, none⟩ = some (.int .i64 v.2) ∧ W.frozen? ⟨p, 0, none⟩ = false ∧ W.frozen? ⟨p, 1, none⟩ = false :=
  ⟨(cell_of_row _ p 0 _ _ (0, 0) h).trans rfl, (cell_of_row _ p 1 _ _ (0, 0) h).trans rfl, by simp [World.frozen?, h], by simp [World.frozen?, h]⟩
theorem bx_put {w W : World} {v u : Vt} {p : Nat} (hp : W.heap[p]? = some (vS v)) (hge : w.heap.size ≤ p) (hb : Below w.heap.size w W) :
    ((W.setCell ⟨p, 0, none⟩ (.int .i64 u.1)).setCell ⟨p, 1, none⟩ (.int .i64 u.2)).heap[p]? = some (vS u) ∧ Below w.heap.size w ((W.setCell ⟨p, 0, none⟩ (.int .i64 u.1)).setCell ⟨p, 1, none⟩ (.int .i64 u.2)) := by
  have k : Kept [p] W ((W.setCell ⟨p, 0, none⟩ (.int .i64 u.1)).setCell ⟨p, 1, none⟩ (.int .i64 u.2)) := ((Kept.refl [p] W).setCell (.inl (by simp)) _).setCell (.inl (by simp)) _
  exact ⟨(heap_setCell_same _ _ _ _ _ _ ((heap_setCell_same W _ 0 _ _ _ hp).trans rfl)).trans rfl, hb.trans (k.below (B := w.heap.size) (fun k hk => by simp at hk; omega) hb.size)⟩
set_option maxHeartbeats 2000000 in
theorem told_none (w : World) : Calls Try.prog 64 #[.pointer none] w fun e w' => e = .returned (tupO none) ∧ Below w.heap.size w w' := by
  have x1 := heap_alloc_new w zS
  have HB := Lib.hid (bal' (w := w) zS).drew
  obtain ⟨c0, c1, f0, f1⟩ := bx_c (v := (0, 0)) x1
  clear x1
  go_enter Try.func64, Try.ntmps64
  go_wp2_with fail
  go_region
  have e0 : (w.alloc zS).drew.cell? ⟨w.heap.size, 0, none⟩ = some (.int .i64 0) := c0
  have e1 : (w.alloc zS).drew.cell? ⟨w.heap.size, 1, none⟩ = some (.int .i64 0) := c1
  go_wp2
  exact bodyPost_ret (v := .tuple #[.int .i64 0, .agg #[.int .i64 0, .int .i64 0], .bool false]) (by simp [results, Try.results64, go_sem, c0, c1, e0, e1]) rfl ⟨rfl, HB.out⟩
set_option maxHeartbeats 2000000 in
theorem told_some {w : World} {b : Nat} {x : Int × Vt} (c0 : w.cell? ⟨b, 0, none⟩ = some (.int .i64 x.1)) (c1 : w.cell? ⟨b, 1, none⟩ = some (.int .i64 x.2.1)) (c2 : w.cell? ⟨b, 2, none⟩ = some (.int .i64 x.2.2)) :
    Calls Try.prog 64 #[.pointer (some ⟨b, 0, none⟩)] w fun e w' => e = .returned (tupO (some x)) ∧ Below w.heap.size w w' := by
  have bb := bal' (w := w) zS
  have d0 := ck bb c0; have d1 := ck bb c1; have d2 := ck bb c2
  obtain ⟨z0, z1, f0, f1⟩ := bx_c (v := (0, 0)) (heap_alloc_new w zS)
  obtain ⟨y0, y1, g0, g1⟩ := bx_c (v := x.2) (W := (w.alloc (vS x.2)).drew) (heap_alloc_new w (vS x.2))
  have HB := Lib.hid (bal' (w := w) (vS x.2)).drew.drew
  clear bb
  go_enter Try.func64, Try.ntmps64
  go_wp2_with fail
  go_region
  go_wp2_with fail
  clear d0 d1 d2 z0 z1 f0 f1 c0 c1 c2
  go_region
  have e0 : (w.alloc (vS x.2)).drew.drew.cell? ⟨w.heap.size, 0, none⟩ = some (.int .i64 x.2.1) := y0
  have e1 : (w.alloc (vS x.2)).drew.drew.cell? ⟨w.heap.size, 1, none⟩ = some (.int .i64 x.2.2) := y1
  go_wp2
  exact bodyPost_ret (v := .tuple #[.int .i64 x.1, .agg #[.int .i64 x.2.1, .int .i64 x.2.2], .bool true]) (by simp [results, Try.results64, go_sem, y0, y1, e0, e1]) rfl ⟨rfl, HB.out⟩
theorem told_node {w : World} {q : Option Addr} {o : Option (Int × Vt)} (h : NodeOf w q o) : Calls Try.prog 64 #[.pointer q] w fun e w' => e = .returned (tupO o) ∧ Below w.heap.size w w' := by
  cases o with
  | none =>
    obtain rfl : q = none := h
    exact told_none w
  | some x =>
    obtain ⟨b, rfl, c0, c1, c2⟩ := h
    exact told_some c0 c1 c2
def oK (o : Option (Int × Vt)) : Int × Vt × Bool := match o with | none => (0, (0, 0), false) | some x => (x.1, x.2, true)
theorem tupO_eq (o : Option (Int × Vt)) : tupO o = .tuple #[.int .i64 (oK o).1, .agg #[.int .i64 (oK o).2.1.1, .int .i64 (oK o).2.1.2], .bool (oK o).2.2] := by cases o <;> rfl
set_option maxHeartbeats 2000000 in
theorem tat_any {w : World} {p : Option Addr} {t : T} (h : TrO w p t) (i : Int) (hi : -9223372036854775808 ≤ i ∧ i ≤ 9223372036854775807) (hs : t.size ≤ 1000000) : Calls Try.prog 43 #[.pointer p, .int .i64 i] w fun e w' => e = .returned (tupO (atL t.toL i)) ∧ Below w.heap.size w w' := by
  have bb := bal' (w := w) zS
  have HT : Hid (TrO (w.alloc zS) p t) := Lib.hid (by
    rcases h with ⟨e1, e2⟩ | ⟨b, e, hb⟩
    · exact .inl ⟨e1, e2⟩
    · exact .inr ⟨b, e, hb.later bb⟩)
  have HX := Lib.hid (heap_alloc_new w zS)
  have HB := Lib.hid bb
  clear bb h
  rw [tupO_eq]
  go_enter Try.func43, Try.ntmps43
  go_wp2_with fail
  refine (top_any HT.out).mono ?_
  rintro e w1 ⟨q, rfl, hq, rfl⟩
  have HQ := Lib.hid (at_any hq i hi hs)
  clear hq
  go_wp2_with fail
  refine HQ.out.mono ?_
  rintro e w2 ⟨q2, rfl, hq2, rfl⟩
  have HN := Lib.hid (told_node hq2)
  clear hq2 HQ
  go_wp2_with fail
  refine HN.out.mono ?_
  rintro e w3 ⟨rfl, hb3⟩
  rw [tupO_eq]
  have h3 := (hb3.block w.heap.size (by simp)).trans HX.out
  obtain ⟨z0, z1, f0, f1⟩ := bx_c (v := (0, 0)) h3
  obtain ⟨r1, r2⟩ := bx_put (v := (0, 0)) (u := (oK (atL t.toL i)).2.1) h3 (Nat.le_refl _) (HB.out.trans (hb3.mono HB.out.size))
  obtain ⟨y0, y1, _, _⟩ := bx_c r1
  have HR := Lib.hid r2
  clear r1 r2 h3 hb3 HN HT HX HB
  generalize ho : oK (atL t.toL i) = o at *
  have HO := Lib.hid ho
  clear ho
  obtain ⟨o1, o2, o3⟩ := o
  dsimp only at *
  go_wp2_with fail
  exact bodyPost_ret (v := .tuple #[.int .i64 o1, .agg #[.int .i64 o2.1, .int .i64 o2.2], .bool o3]) (by simp [results, Try.results43, go_sem, y0, y1]) rfl ⟨by rw [HO.out], HR.out⟩
set_option maxHeartbeats 2000000 in
theorem tfloor_any {w : World} {p : Option Addr} {t : T} (h : TrO w p t) (key : Int) (hu : T.Up t.toL) : Calls Try.prog 83 #[.pointer p, .int .i64 key] w fun e w' => e = .returned (tupO (flL t.toL key)) ∧ Below w.heap.size w w' := by
  have bb := bal' (w := w) zS
  have HT : Hid (TrO (w.alloc zS) p t) := Lib.hid (by
    rcases h with ⟨e1, e2⟩ | ⟨b, e, hb⟩
    · exact .inl ⟨e1, e2⟩
    · exact .inr ⟨b, e, hb.later bb⟩)
  have HX := Lib.hid (heap_alloc_new w zS)
  have HB := Lib.hid bb
  clear bb h
  rw [tupO_eq]
  have HU := Lib.hid hu
  clear hu
  go_enter Try.func83, Try.ntmps83
  go_wp2_with fail
  refine (top_any HT.out).mono ?_
  rintro e w1 ⟨q, rfl, hq, rfl⟩
  have HQ := Lib.hid (floor_any hq key HU.out)
  clear hq
  go_wp2_with fail
  refine HQ.out.mono ?_
  rintro e w2 ⟨q2, rfl, hq2, hb2⟩
  have HN := Lib.hid (told_node hq2)
  have HB2 := Lib.hid hb2
  clear hq2 HQ hb2
  go_wp2_with fail
  refine HN.out.mono ?_
  rintro e w3 ⟨rfl, hb3'⟩
  rw [tupO_eq]
  have hb3 := HB2.out.trans (hb3'.mono HB2.out.size)
  have h3 := (hb3.block w.heap.size (by simp)).trans HX.out
  obtain ⟨z0, z1, f0, f1⟩ := bx_c (v := (0, 0)) h3
  obtain ⟨r1, r2⟩ := bx_put (v := (0, 0)) (u := (oK (flL t.toL key)).2.1) h3 (Nat.le_refl _) (HB.out.trans (hb3.mono HB.out.size))
  obtain ⟨y0, y1, _, _⟩ := bx_c r1
  have HR := Lib.hid r2
  clear r1 r2 h3 hb3 hb3' HB2 HN HT HX HB
  generalize ho : oK (flL t.toL key) = o at *
  have HO := Lib.hid ho
  clear ho
  obtain ⟨o1, o2, o3⟩ := o
  dsimp only at *
  go_wp2_with fail
  exact bodyPost_ret (v := .tuple #[.int .i64 o1, .agg #[.int .i64 o2.1, .int .i64 o2.2], .bool o3]) (by simp [results, Try.results83, go_sem, y0, y1]) rfl ⟨by rw [HO.out], HR.out⟩
end Go.Proofs.Ytegbkeichkifnaa.bv
