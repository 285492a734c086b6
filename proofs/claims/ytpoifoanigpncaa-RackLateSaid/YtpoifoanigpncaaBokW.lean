/-
  Package book: nodes and lines in memory.
-/
import Derived.Test.YtpoifoanigpncaaBokX
import Derived.Test.YtpoifoanigpncaaCavU
import Derived.Test.YtpoifoanigpncaaSpnR
import Derived.Test.YtpoifoanigpncaaOwn
namespace Go.Proofs.Ytpoifoanigpncaa.bk
open Go.RowKit aid mem
attribute [local go_sem ↓] Go.wp_at_zero Go.wp_at_succ
set_option linter.unusedVariables false

theorem cofr {w : World} {B : Nat} {cs : Array Value} {t : TypeId} (h : w.heap[B]? = some (.cells cs t (0, 0))) (i : Nat) (v : Value) (hv : cs[i]? = some v) : w.cell? ⟨B, i, none⟩ = some v := (cell_of_row w B i _ _ (0, 0) h).trans hv
theorem fofr {w : World} {B : Nat} {cs : Array Value} {t : TypeId} (h : w.heap[B]? = some (.cells cs t (0, 0))) (i : Nat) : w.frozen? ⟨B, i, none⟩ = false := by simp [World.frozen?, h]
theorem al (w : World) (o : Obj) : Below w.heap.size w (w.alloc o) := (Below.refl _ _).alloc (Nat.le_refl _) _
theorem belN (w : World) (n : Nat) : Below w.heap.size w (w.drewN n) := ⟨rfl, rfl, rfl, Nat.le_refl _, fun _ _ => rfl⟩
abbrev pA (a : Option Nat) : Value := .pointer (a.map fun b => ⟨b, 0, none⟩)
abbrev rcC (r : Rc) : Array Value := #[.int .i64 r.f, .int .i64 r.t, .int .i64 r.sent, .int .i64 r.order, .int .i64 r.times, .int .i64 r.out, .bool r.lost]
abbrev rcV (r : Rc) : Value := .agg #[.int .i64 r.f, .int .i64 r.t, .int .i64 r.sent, .int .i64 r.order, .int .i64 r.times, .int .i64 r.out, .bool r.lost]
abbrev ndO (r : Rc) (a z : Option Nat) : Obj := .cells #[.int .i64 r.f, .int .i64 r.t, .int .i64 r.sent, .int .i64 r.order, .int .i64 r.times, .int .i64 r.out, .bool r.lost, pA a, pA z] 107 (0, 0)
/-- block b holds a node -/
def NdAt (w : World) (b : Nat) (r : Rc) (a z : Option Nat) : Prop := w.heap[b]? = some (ndO r a z)
section
variable {w w' : World} {b : Nat} {r : Rc} {a z : Option Nat} (h : NdAt w b r a z)
include h
theorem NdAt.cs : w.cell? ⟨b, 0, none⟩ = some (.int .i64 r.f) ∧ w.cell? ⟨b, 1, none⟩ = some (.int .i64 r.t) ∧ w.cell? ⟨b, 2, none⟩ = some (.int .i64 r.sent) ∧ w.cell? ⟨b, 3, none⟩ = some (.int .i64 r.order) ∧ w.cell? ⟨b, 4, none⟩ = some (.int .i64 r.times) ∧ w.cell? ⟨b, 5, none⟩ = some (.int .i64 r.out) ∧ w.cell? ⟨b, 6, none⟩ = some (.bool r.lost) ∧ w.cell? ⟨b, 7, none⟩ = some (pA a) ∧ w.cell? ⟨b, 8, none⟩ = some (pA z) :=
  ⟨cofr h 0 _ rfl, cofr h 1 _ rfl, cofr h 2 _ rfl, cofr h 3 _ rfl, cofr h 4 _ rfl, cofr h 5 _ rfl, cofr h 6 _ rfl, cofr h 7 _ rfl, cofr h 8 _ rfl⟩
theorem NdAt.f (i : Nat) : w.frozen? ⟨b, i, none⟩ = false := fofr h i
theorem NdAt.lt : b < w.heap.size := lt_of_block h
theorem NdAt.keep {S : List Nat} (hk : Kept S w w') (hb : b ∉ S) : NdAt w' b r a z := hk.heap hb h
theorem NdAt.later (hk : Below w.heap.size w w') : NdAt w' b r a z := (hk.block b (lt_of_block h)).trans h
theorem NdAt.setA (a' : Option Nat) : NdAt (w.setCell ⟨b, 7, none⟩ (pA a')) b r a' z := (heap_setCell_same _ b 7 _ _ _ h).trans rfl
theorem NdAt.setZ (z' : Option Nat) : NdAt (w.setCell ⟨b, 8, none⟩ (pA z')) b r a z' := (heap_setCell_same _ b 8 _ _ _ h).trans rfl
end
/-- a piece of a line: behind a, ahead of z -/
def seg (w : World) (a : Option Nat) : List Nd → Option Nat → Prop
  | [], _ => True
  | x :: l, z => NdAt w x.1 x.2 a (hd z l) ∧ seg w (some x.1) l z
theorem seg_append {w : World} {a z : Option Nat} {l r : List Nd} : seg w a (l ++ r) z ↔ seg w a l (hd z r) ∧ seg w (la a l) r z := by
  induction l generalizing a with
  | nil => simp [seg, la]
  | cons x l ih =>
    simp only [List.cons_append, seg, la]
    rw [ih, hd_append, and_assoc]
theorem seg_keep {w w' : World} {l : List Nd} (hk : ∀ x ∈ l, ∀ o, w.heap[x.1]? = some o → w'.heap[x.1]? = some o) : ∀ {a z : Option Nat}, seg w a l z → seg w' a l z := by
  induction l with
  | nil => exact fun _ => trivial
  | cons x l ih =>
    rintro a z ⟨h1, h2⟩
    exact ⟨hk x (by simp) _ h1, ih (fun y hy => hk y (List.mem_cons_of_mem _ hy)) h2⟩
theorem seg_later {w w' : World} {l : List Nd} (hb : Below w.heap.size w w') {a z : Option Nat} (h : seg w a l z) : seg w' a l z :=
  seg_keep (fun x _ o ho => (hb.block _ (lt_of_block ho)).trans ho) h
theorem seg_kept {w w' : World} {l : List Nd} {S : List Nat} (hb : Kept S w w') (hS : ∀ x ∈ l, x.1 ∉ S) {a z : Option Nat} (h : seg w a l z) : seg w' a l z :=
  seg_keep (fun x hx o ho => hb.heap (hS x hx) ho) h
theorem seg_mem {w : World} {a z : Option Nat} {l : List Nd} (h : seg w a l z) {x : Nd} (hx : x ∈ l) : ∃ p q, NdAt w x.1 x.2 p q := by
  induction l generalizing a with
  | nil => simp at hx
  | cons y l ih =>
    rcases List.mem_cons.1 hx with rfl | hx
    · exact ⟨_, _, h.1⟩
    · exact ih h.2 hx
theorem seg_lt {w : World} {a z : Option Nat} {l : List Nd} (h : seg w a l z) {x : Nd} (hx : x ∈ l) : x.1 < w.heap.size := by
  obtain ⟨p, q, hn⟩ := seg_mem h hx
  exact hn.lt
/-- the last one's 'behind' is another one -/
theorem seg_last {w w' : World} {a z z' : Option Nat} {l : List Nd} {b : Nat} {r : Rc} (h : seg w a (l ++ [(b, r)]) z) (hn : ∀ x ∈ l, x.1 ≠ b) (hk : Kept [b] w w') (hb : NdAt w b r (la a l) z → NdAt w' b r (la a l) z') : seg w' a (l ++ [(b, r)]) z' := by
  obtain ⟨h1, h2, _⟩ := seg_append.1 h
  exact seg_append.2 ⟨seg_kept hk (fun x hx => by simpa using hn x hx) h1, hb h2, trivial⟩

/-! records' own calls -/
theorem setp {w : World} {b i : Nat} {cs : Array Value} {t : TypeId} (h : w.heap[b]? = some (.cells cs t (0, 0))) (u : Value) : (w.setCell ⟨b, i, none⟩ u).heap[b]? = some (.cells (cs.setIfInBounds i u) t (0, 0)) := heap_setCell_same _ b i _ _ _ h
theorem kset (w : World) (b i : Nat) (u : Value) : Kept [b] w (w.setCell ⟨b, i, none⟩ u) := (Kept.refl [b] w).setCell (.inl (by simp)) u
theorem lose_any {w : World} {b : Nat} {r : Rc} {a z : Option Nat} (h : NdAt w b r a z) : Calls Try.prog 57 #[.pointer (some ⟨b, 0, none⟩)] w fun e w' => e = .returned (.bool (!r.lost)) ∧ NdAt w' b r.lose a z ∧ Kept [b] w w' := by
  have HB := Lib.hid h
  obtain ⟨c0, c1, c2, c3, c4, c5, c6, c7, c8⟩ := h.cs
  have f5 := h.f 5; have f6 := h.f 6
  clear h
  go_enter Try.func57, Try.ntmps57
  go_wp2_with fail
  go_ret
  exact ⟨rfl, (setp (setp HB.out _) _).trans rfl, ((Kept.refl [b] w).setCell (.inl (by simp)) _).setCell (.inl (by simp)) _⟩
theorem goes_any {w : World} {b : Nat} {r : Rc} {a z : Option Nat} (h : NdAt w b r a z) (now order : Int) (h1 : -4611686018427387904 ≤ r.times ∧ r.times ≤ 4611686018427387904) (h2 : -4611686018427387904 ≤ r.out ∧ r.out ≤ 4611686018427387904) : Calls Try.prog 63 #[.pointer (some ⟨b, 0, none⟩), .int .i64 now, .int .i64 order] w fun e w' => (∃ v, e = .returned v) ∧ NdAt w' b (r.goes now order) a z ∧ Kept [b] w w' := by
  have HB := Lib.hid h
  obtain ⟨c0, c1, c2, c3, c4, c5, c6, c7, c8⟩ := h.cs
  have f2 := h.f 2; have f3 := h.f 3; have f4 := h.f 4; have f5 := h.f 5; have f6 := h.f 6
  obtain ⟨t1, t2⟩ := h1
  obtain ⟨o1, o2⟩ := h2
  clear h
  go_enter Try.func63, Try.ntmps63
  go_wp2_with fail
  go_end0
  exact ⟨⟨_, rfl⟩, (setp (setp (setp (setp (setp HB.out _) _) _) _) _).trans rfl, (((((Kept.refl [b] w).setCell (.inl (by simp)) _).setCell (.inl (by simp)) _).setCell (.inl (by simp)) _).setCell (.inl (by simp)) _).setCell (.inl (by simp)) _⟩
end Go.Proofs.Ytpoifoanigpncaa.bk
