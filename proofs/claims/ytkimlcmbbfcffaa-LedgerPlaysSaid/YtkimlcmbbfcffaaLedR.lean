/-
  The reference of layer 19.
-/
import Derived.Test.YtkimlcmbbfcffaaLedC
namespace Go.Proofs.Ytkimlcmbbfcffaa.lg
open Go.RowKit Go.Shelf aid mem sp rn
attribute [local go_sem ↓] Go.wp_at_zero Go.wp_at_succ
set_option linter.unusedVariables false
set_option linter.unusedSimpArgs false

section
variable {P : Program} (w : World)
theorem wpList_append_slr0 {ops : Array Oper} {rest : List Oper} {o : Oper} {a : Act} {Q : Exit → Act → World → Prop} (hgd : o.guard = none) (s x : Operand) (t tx : TypeId)
    (ho : o.op = .call { callee := .builtin .append, args := #[s, x], argTypes := #[t, tx] })
    (e : TypeId) (i : TypeInfo) (z : Value) (sz bytes : Nat) (ht : P.underlying t = some (.slice e)) (hi : P.info? e = some i) (hz : i.zero = some z)
    (hsize : i.size = sz) (hsz : 0 < sz) (hby : i.bytes = bytes) (hzs : z.cells.size = sz)
    (g off : Nat) (n cap : Nat) (xs : List Value) (hsv : a.eval s = .slice (some ⟨g, off, none⟩) n cap) (hown : SlR w e sz (some ⟨g, off, none⟩) n cap xs) (xv : Value) (hx : a.eval x = xv) (m : Nat) (news : List Value) (hs : Src P sz tx xv m news w)
    (h63 : n + m ≤ maxLen) (hbytes : (n + m) * bytes ≤ 140737488355328)
    (h : ∀ a' cap' w', SlR w' e sz a' (n + m) cap' (xs ++ news) → Kept (blk (some ⟨g, off, none⟩) cap) w w' → (∀ b ∈ blk a' cap', b ∈ blk (some ⟨g, off, none⟩) cap ∨ w.heap.size ≤ b) → wpList P ops Q rest (a.put o.dst (.slice a' (n + m) cap')) w') : wpList P ops Q (o :: rest) a w :=
  wpList_plain hgd fun _ hK => by
    obtain ⟨a', cap', w', hr, h2, h3, h4⟩ := run_append_slr0 (P := P) w t tx o.type e i z sz bytes ht hi hz hsize hsz hby hzs g off n cap xs hown xv m news hs h63 hbytes
    unfold Oper.wp execOp
    simp only [ho, resolve, invoke, builtin, Sem.run_bind, Sem.run_pure, Result.andThen_ok, List.map_toArray, List.map_cons, List.map_nil, hsv, hx, hr]
    exact hK _ _ (h a' cap' w' h2 h3 h4)
end
abbrev cellsR (x : Ld) (a : Option Addr) (n cap : Nat) : Array Value := #[.bool x.op, .int .i64 x.cw, .int .i64 x.th, .slice a n cap, .bool x.sp]
abbrev rV (x : Ld) (a : Option Addr) (n cap : Nat) : Value := .agg (cellsR x a n cap)
abbrev rO (x : Ld) (a : Option Addr) (n cap : Nat) : Obj := .cells (cellsR x a n cap) 28
abbrev zL : Ld := ⟨false, 0, 0, [], false⟩
theorem bal2 {w : World} (a b : Obj) : Below w.heap.size w ((w.alloc a).alloc b) := ((Below.refl _ _).alloc (Nat.le_refl _) _).alloc (by simp) _
theorem bal3 {w : World} (a b c : Obj) : Below w.heap.size w (((w.alloc a).alloc b).alloc c) := (bal2 a b).alloc (by simp <;> omega) _
theorem rcut_any (x : Ld) (a : Option Addr) (n cap : Nat) (c t : Int) (w : World) : Calls Try.prog 21 #[rV x a n cap, .int .i64 c, .int .i64 t] w
    fun e w' => e = .returned (.tuple #[rV (cutX x c t) a n cap, .bool (!x.op)]) ∧ Below w.heap.size w w' := by
  obtain ⟨op, cw, th, l, sp⟩ := x
  cases op with
  | true =>
    go_enter Try.func21, Try.ntmps21
    go_wp2_with fail
    exact bodyPost_ret (v := .tuple #[rV ⟨true, cw, th, l, sp⟩ a n cap, .bool false]) (by simp [results, Try.results21, go_sem]) rfl ⟨rfl, bal2 _ _⟩
  | false =>
    go_enter Try.func21, Try.ntmps21
    go_wp2_with fail
    exact bodyPost_ret (v := .tuple #[rV ⟨true, c, t, l, sp⟩ a n cap, .bool true]) (by simp [results, Try.results21, go_sem]) rfl ⟨rfl, bal2 _ _⟩
/-- whether it is given back -/
def runB (x : Ld) (f : Bool) : Bool := x.op && (f || undoB x)
def runX (x : Ld) (f : Bool) : Ld := if runB x f = true then forceX x else x
set_option maxHeartbeats 1000000 in
theorem rundo_any {x : Ld} (a : Option Addr) {n : Nat} (cap : Nat) (hn : x.l.length = n) (f : Bool) (w : World) : Calls Try.prog 24 #[rV x a n cap, .bool f] w
    fun e w' => e = .returned (.tuple #[rV (runX x f) a n cap, .bool (runB x f)]) ∧ Below w.heap.size w w' := by
  obtain ⟨op, cw, th, l, sp⟩ := x
  dsimp only at hn
  have hB : runB ⟨op, cw, th, l, sp⟩ f = (op && (f || (decide (n = 0) && !sp))) := by
    unfold runB undoB
    rw [hn]
    cases op <;> simp
  unfold runX
  rw [hB]
  clear hB hn
  cases op with
  | false =>
    go_enter Try.func24, Try.ntmps24
    go_wp2_with fail
    exact bodyPost_ret (v := .tuple #[rV ⟨false, cw, th, l, sp⟩ a n cap, .bool false]) (by simp [results, Try.results24, go_sem]) rfl ⟨rfl, bal2 _ _⟩
  | true =>
    cases f with
    | true =>
      go_enter Try.func24, Try.ntmps24
      go_wp2_with fail
      exact bodyPost_ret (v := .tuple #[rV ⟨false, cw, th, l, sp⟩ a n cap, .bool true]) (by simp [results, Try.results24, go_sem]) rfl ⟨rfl, bal2 _ _⟩
    | false =>
      by_cases h0 : n = 0
      · subst h0
        cases sp with
        | true =>
          go_enter Try.func24, Try.ntmps24
          go_wp2_with fail
          exact bodyPost_ret (v := .tuple #[rV ⟨true, cw, th, l, true⟩ a 0 cap, .bool false]) (by simp [results, Try.results24, go_sem]) rfl ⟨rfl, bal2 _ _⟩
        | false =>
          go_enter Try.func24, Try.ntmps24
          go_wp2_with fail
          exact bodyPost_ret (v := .tuple #[rV ⟨false, cw, th, l, false⟩ a 0 cap, .bool true]) (by simp [results, Try.results24, go_sem]) rfl ⟨rfl, bal2 _ _⟩
      · rw [decide_eq_false h0]
        have h1 : 0 < n := by omega
        go_enter Try.func24, Try.ntmps24
        go_wp2_with fail
        exact bodyPost_ret (v := .tuple #[rV ⟨true, cw, th, l, sp⟩ a n cap, .bool false]) (by simp [results, Try.results24, go_sem]) rfl ⟨rfl, bal2 _ _⟩
/-- the boxes of a call with a span, and the row -/
structure R3 (w : World) (x : Ld) (a : Option Addr) (n cap : Nat) (s : Sp) (W : World) : Prop where
  b0 : W.heap[w.heap.size]? = some (rO x a n cap)
  bs : SpAt W (w.heap.size + 1) s
  rs : W.heap[w.heap.size + 1 + 1]? = some (rO zL none 0 0)
  row : SlR W 32 2 a n cap (spCells x.l)
  below : Below w.heap.size w W
theorem R3.later {w W W' : World} {x : Ld} {a : Option Addr} {n cap : Nat} {s : Sp} (h : R3 w x a n cap s W) (hb : Below W.heap.size W W') : R3 w x a n cap s W' :=
  ⟨(hb.block _ (lt_of_block h.b0)).trans h.b0, h.bs.later hb, (hb.block _ (lt_of_block h.rs)).trans h.rs, h.row.later hb, h.below.trans (hb.mono h.below.size)⟩
theorem r3_new {w : World} {x : Ld} {a : Option Addr} {n cap : Nat} (h : SlR w 32 2 a n cap (spCells x.l)) (s : Sp) : R3 w x a n cap s (((w.alloc (rO x a n cap)).alloc (.cells #[.int .i64 s.1, .int .i64 s.2] 32)).alloc (rO zL none 0 0)) := by
  have b1 := bal (w := w) (rO x a n cap)
  have y1 := heap_alloc_new w (rO x a n cap)
  have z1 : (w.alloc (rO x a n cap)).heap.size = w.heap.size + 1 := by simp
  have h1 := h.later b1
  generalize w.alloc (rO x a n cap) = w1 at *
  have b2 := bal (w := w1) (.cells #[.int .i64 s.1, .int .i64 s.2] 32)
  have y2 := sp_new w1 s
  have z2 : (w1.alloc (.cells #[.int .i64 s.1, .int .i64 s.2] 32)).heap.size = w.heap.size + 1 + 1 := by simp [z1]
  rw [z1] at y2
  have h2 := h1.later b2
  have y3 := (b2.block _ (lt_of_block y1)).trans y1
  have bb := b1.trans (b2.mono b1.size)
  generalize w1.alloc (.cells #[.int .i64 s.1, .int .i64 s.2] 32) = w2 at *
  have b3 := bal (w := w2) (rO zL none 0 0)
  have y4 := heap_alloc_new w2 (rO zL none 0 0)
  rw [z2] at y4
  exact ⟨(b3.block _ (lt_of_block y3)).trans y3, y2.later b3, y4, h2.later b3, bb.trans (b3.mono bb.size)⟩
abbrev St (b : Nat) (x : Ld) (a : Option Addr) (n cap : Nat) (w : World) : Prop := w.cell? ⟨b, 0, none⟩ = some (.bool x.op) ∧ w.cell? ⟨b, 1, none⟩ = some (.int .i64 x.cw) ∧ w.cell? ⟨b, 2, none⟩ = some (.int .i64 x.th) ∧ w.cell? ⟨b, 3, none⟩ = some (.slice a n cap) ∧ w.cell? ⟨b, 4, none⟩ = some (.bool x.sp)
theorem st_of {w : World} {b : Nat} {x : Ld} {a : Option Addr} {n cap : Nat} (h : w.heap[b]? = some (rO x a n cap)) : St b x a n cap w := ⟨cofr h 0 _ rfl, cofr h 1 _ rfl, cofr h 2 _ rfl, cofr h 3 _ rfl, cofr h 4 _ rfl⟩
abbrev Fz (b : Nat) (w : World) : Prop := w.frozen? ⟨b, 0, none⟩ = false ∧ w.frozen? ⟨b, 1, none⟩ = false ∧ w.frozen? ⟨b, 2, none⟩ = false ∧ w.frozen? ⟨b, 3, none⟩ = false ∧ w.frozen? ⟨b, 4, none⟩ = false
theorem fz_of {w : World} {b : Nat} {x : Ld} {a : Option Addr} {n cap : Nat} (h : w.heap[b]? = some (rO x a n cap)) : Fz b w := ⟨fofr h 0, fofr h 1, fofr h 2, fofr h 3, fofr h 4⟩
abbrev put5 (b : Nat) (x : Ld) (a : Option Addr) (n cap : Nat) (W : World) : World := ((((W.setCell ⟨b, 0, none⟩ (.bool x.op)).setCell ⟨b, 1, none⟩ (.int .i64 x.cw)).setCell ⟨b, 2, none⟩ (.int .i64 x.th)).setCell ⟨b, 3, none⟩ (.slice a n cap)).setCell ⟨b, 4, none⟩ (.bool x.sp)
theorem setr {w : World} {b i : Nat} {x x' : Ld} {a a' : Option Addr} {n cap n' cap' : Nat} (h : w.heap[b]? = some (rO x a n cap)) (u : Value) (hz : (cellsR x a n cap).setIfInBounds i u = cellsR x' a' n' cap') : (w.setCell ⟨b, i, none⟩ u).heap[b]? = some (rO x' a' n' cap') := by
  have this : (w.setCell ⟨b, i, none⟩ u).heap[b]? = _ := heap_setCell_same _ _ i _ _ u h
  rw [hz] at this
  exact this
theorem put5_at {b : Nat} {z : Ld} {a0 : Option Addr} {n0 c0 : Nat} {W : World} (h : W.heap[b]? = some (rO z a0 n0 c0)) (x : Ld) (a : Option Addr) (n cap : Nat) : (put5 b x a n cap W).heap[b]? = some (rO x a n cap) := by
  unfold put5
  have g0 : (W.setCell ⟨b, 0, none⟩ (.bool x.op)).heap[b]? = some (rO ⟨x.op, z.cw, z.th, z.l, z.sp⟩ a0 n0 c0) := setr h _ rfl
  generalize W.setCell ⟨b, 0, none⟩ (.bool x.op) = W0 at *
  have g1 : (W0.setCell ⟨b, 1, none⟩ (.int .i64 x.cw)).heap[b]? = some (rO ⟨x.op, x.cw, z.th, z.l, z.sp⟩ a0 n0 c0) := setr g0 _ rfl
  generalize W0.setCell ⟨b, 1, none⟩ (.int .i64 x.cw) = W1 at *
  have g2 : (W1.setCell ⟨b, 2, none⟩ (.int .i64 x.th)).heap[b]? = some (rO ⟨x.op, x.cw, x.th, z.l, z.sp⟩ a0 n0 c0) := setr g1 _ rfl
  generalize W1.setCell ⟨b, 2, none⟩ (.int .i64 x.th) = W2 at *
  have g3 : (W2.setCell ⟨b, 3, none⟩ (.slice a n cap)).heap[b]? = some (rO ⟨x.op, x.cw, x.th, z.l, z.sp⟩ a n cap) := setr g2 _ rfl
  generalize W2.setCell ⟨b, 3, none⟩ (.slice a n cap) = W3 at *
  exact setr g3 _ rfl
theorem put5_kept (b : Nat) (x : Ld) (a : Option Addr) (n cap : Nat) (W : World) : Kept [b] W (put5 b x a n cap W) :=
  (((((Kept.refl [b] W).setCell (.inl (by simp)) _).setCell (.inl (by simp)) _).setCell (.inl (by simp)) _).setCell (.inl (by simp)) _).setCell (.inl (by simp)) _
/-- what comes back of a call with a row -/
def RetA (x' : Ld) (v : Value) (S : List Nat) (w : World) (e : Ending) (w' : World) : Prop :=
  ∃ a' n' cap', e = .returned (.tuple #[rV x' a' n' cap', v]) ∧ SlR w' 32 2 a' n' cap' (spCells x'.l) ∧ Below w.heap.size w w' ∧ ∀ b ∈ blk a' cap', b ∈ S ∨ w.heap.size ≤ b
/-- the end: the answer's box is written -/
def FinR (w : World) (x : Ld) (a : Option Addr) (n cap : Nat) (S : List Nat) (W : World) : Prop := W.heap[w.heap.size + 1 + 1]? = some (rO x a n cap) ∧ SlR W 32 2 a n cap (spCells x.l) ∧ Below w.heap.size w W ∧ ∀ b ∈ blk a cap, b ∈ S ∨ w.heap.size ≤ b
theorem R3.fin {w W : World} {x : Ld} {a : Option Addr} {n cap : Nat} {s : Sp} {S : List Nat} (h : R3 w x a n cap s W) (hS : ∀ b ∈ blk a cap, b ∈ S ∨ w.heap.size ≤ b) : FinR w x a n cap S (put5 (w.heap.size + 1 + 1) x a n cap W) := by
  have hk := put5_kept (w.heap.size + 1 + 1) x a n cap W
  refine ⟨put5_at h.rs x a n cap, h.row.keep hk (fun b hb e => ?_), h.below.trans (hk.below (by simp <;> omega) h.below.size), hS⟩
  simp at e
  subst e
  obtain ⟨_, cur, hc⟩ := h.row.lt _ hb
  rw [h.rs] at hc
  simp at hc
/-- a field of the first box is written -/
theorem R3.put {w W : World} {x x' : Ld} {a a' : Option Addr} {n cap n' cap' : Nat} {s : Sp} (h : R3 w x a n cap s W) (i : Nat) (u : Value) (hz : (cellsR x a n cap).setIfInBounds i u = cellsR x' a' n' cap') (hr : SlR W 32 2 a' n' cap' (spCells x'.l)) : R3 w x' a' n' cap' s (W.setCell ⟨w.heap.size, i, none⟩ u) := by
  have hk := kset W w.heap.size i u
  refine ⟨setr h.b0 u hz, h.bs.keep hk (by simp), hk.heap (by simp <;> omega) h.rs, hr.keep hk (fun b hb e => ?_), h.below.trans (hk.below (by simp) h.below.size)⟩
  simp at e
  subst e
  obtain ⟨_, cur, hc⟩ := hr.lt _ hb
  rw [h.b0] at hc
  simp at hc
theorem R3.kept {w W W' : World} {x : Ld} {a : Option Addr} {n cap : Nat} {s : Sp} {S : List Nat} (h : R3 w x a n cap s W) (hk : Kept S W W') (hS : ∀ b ∈ S, w.heap.size + 1 + 1 < b) (hr : ∀ b ∈ blk a cap, b ∉ S) : R3 w x a n cap s W' :=
  ⟨hk.heap (fun e => by have := hS _ e; omega) h.b0, h.bs.keep hk (fun e => by have := hS _ e; omega), hk.heap (fun e => by have := hS _ e; omega) h.rs, h.row.keep hk hr, h.below.trans (hk.below (fun b hb => by have := hS b hb; omega) h.below.size)⟩
end Go.Proofs.Ytkimlcmbbfcffaa.lg
