/-
  Several texts in one (written by merge.py): XRbkA XRbkB XRbkC XRbkD XRbkE XFlyA XFlyB XFlyC
-/
import Derived.Test.YtpoifoanigpncaaBokW
import Derived.Test.YtpoifoanigpncaaApp
import Derived.Test.YtpoifoanigpncaaOwn
import Derived.Test.YtpoifoanigpncaaMem
import Derived.Test.YtpoifoanigpncaaSpnR
import Derived.Test.YtpoifoanigpncaaBokS
import Derived.Deep.RegionHeld3
import Derived.Test.YtpoifoanigpncaaBokA
import Derived.Test.YtpoifoanigpncaaBokR
import Derived.IntWalk
import Derived.Deep.CutBlock
/-!   Layer 14's reference: lists of records in memory.
-/
namespace Go.Proofs.Ytpoifoanigpncaa.bk
open Go.RowKit aid mem
attribute [local go_sem ↓] Go.wp_at_zero Go.wp_at_succ
set_option linter.unusedVariables false

def rcL (r : Rc) : List Value := [.int .i64 r.f, .int .i64 r.t, .int .i64 r.sent, .int .i64 r.order, .int .i64 r.times, .int .i64 r.out, .bool r.lost]
def rcCells (l : List Rc) : List Value := l.flatMap rcL
theorem rcCells_len (l : List Rc) : (rcCells l).length = l.length * 7 := by
  induction l with
  | nil => rfl
  | cons x l ih => show (rcL x ++ rcCells l).length = _; rw [List.length_append, ih]; simp [rcL]; omega
theorem rcCells_append (l r : List Rc) : rcCells (l ++ r) = rcCells l ++ rcCells r := by simp [rcCells]
theorem rcCells_get : ∀ (l : List Rc) (i j : Nat), i < l.length → j < 7 → (rcCells l)[i * 7 + j]? = (rcL (l.getD i Rc.zero))[j]? := by
  intro l
  induction l with
  | nil => intro i j hi; simp at hi
  | cons x l ih =>
    intro i j hi hj
    have e : rcCells (x :: l) = rcL x ++ rcCells l := rfl
    have hl : (rcL x).length = 7 := rfl
    rw [e]
    cases i with
    | zero =>
      rw [List.getElem?_append_left (by omega)]
      simp
    | succ i =>
      have := ih i j (by simpa using hi) hj
      rw [List.getElem?_append_right (by omega), show (i + 1) * 7 + j - (rcL x).length = i * 7 + j from by omega, this]
      simp
/-- a record lies there -/
abbrev RcCs (w : World) (b o : Nat) (r : Rc) : Prop := w.cell? ⟨b, o, none⟩ = some (.int .i64 r.f) ∧ w.cell? ⟨b, o + 1, none⟩ = some (.int .i64 r.t) ∧ w.cell? ⟨b, o + 2, none⟩ = some (.int .i64 r.sent) ∧ w.cell? ⟨b, o + 3, none⟩ = some (.int .i64 r.order) ∧ w.cell? ⟨b, o + 4, none⟩ = some (.int .i64 r.times) ∧ w.cell? ⟨b, o + 5, none⟩ = some (.int .i64 r.out) ∧ w.cell? ⟨b, o + 6, none⟩ = some (.bool r.lost)
/-- a list of records that is read -/
structure RcA (w : World) (a : Option Addr) (n cap : Nat) (l : List Rc) : Prop where
  len : l.length = n
  le : n ≤ cap
  most : cap ≤ maxLen
  cells : (a = none ∧ cap = 0) ∨ ∃ b off, a = some ⟨b, off, none⟩ ∧ ∀ i, i < n → RcCs w b (off + i * 7) (l.getD i Rc.zero)
theorem ckl {w w' : World} {p : Addr} {v : Value} (hb : Below w.heap.size w w') (h : w.cell? p = some v) : w'.cell? p = some v := (hb.cell (World.block_lt_of_cell? w p h)).trans h
theorem RcCs.later {w w' : World} {b o : Nat} {r : Rc} (h : RcCs w b o r) (hb : Below w.heap.size w w') : RcCs w' b o r :=
  ⟨ckl hb h.1, ckl hb h.2.1, ckl hb h.2.2.1, ckl hb h.2.2.2.1, ckl hb h.2.2.2.2.1, ckl hb h.2.2.2.2.2.1, ckl hb h.2.2.2.2.2.2⟩
theorem RcA.later {w w' : World} {a : Option Addr} {n cap : Nat} {l : List Rc} (h : RcA w a n cap l) (hb : Below w.heap.size w w') : RcA w' a n cap l :=
  ⟨h.len, h.le, h.most, h.cells.imp id (fun ⟨b, off, ha, hc⟩ => ⟨b, off, ha, fun i hi => RcCs.later (hc i hi) hb⟩)⟩
theorem RcA.nil (w : World) : RcA w none 0 0 [] := ⟨rfl, Nat.le_refl _, by unfold maxLen; omega, .inl ⟨rfl, rfl⟩⟩
theorem own_rc {w : World} {base : Nat} {v : Value} {n : Nat} {l : List Rc} (h : w.ownsRow base 58 7 v n (rcCells l)) : ∃ a cap, v = .slice a n cap ∧ RcA w a n cap l := by
  have hl : l.length = n := by have := h.1; rw [rcCells_len] at this; omega
  rcases h.2 with ⟨rfl, rfl⟩ | ⟨g, cap, cur, rfl, hb, hg, hn, hm, hc, ht⟩
  · exact ⟨none, 0, rfl, hl, Nat.le_refl _, by unfold maxLen; omega, .inl ⟨rfl, rfl⟩⟩
  · refine ⟨_, cap, rfl, hl, hn, hm, .inr ⟨g, 0, rfl, fun i hi => ?_⟩⟩
    have key : ∀ j, j < 7 → w.cell? ⟨g, 0 + i * 7 + j, none⟩ = (rcL (l.getD i Rc.zero))[j]? := by
      intro j hj
      have e := rcCells_get l i j (by omega) hj
      rw [← ht, List.getElem?_take, if_pos (by omega)] at e
      rw [Nat.zero_add, cell_of_row w g _ cur _ (0, 0) hg, ← e]
      simp
    exact ⟨(key 0 (by omega)).trans rfl, (key 1 (by omega)).trans rfl, (key 2 (by omega)).trans rfl, (key 3 (by omega)).trans rfl, (key 4 (by omega)).trans rfl, (key 5 (by omega)).trans rfl, (key 6 (by omega)).trans rfl⟩
theorem RcA.src {w : World} {a : Option Addr} {n cap : Nat} {l : List Rc} (h : RcA w a n cap l) : Src Try.prog 7 52 (.slice a n cap) n (rcCells l) w := by
  have hl : (rcCells l).length = n * 7 := by rw [rcCells_len, h.len]
  have h1 : ∀ u ∈ rcCells l, u.oneCell' = true := by
    intro u hu
    unfold rcCells at hu
    obtain ⟨x, _, hx⟩ := List.mem_flatMap.1 hu
    simp [rcL] at hx
    rcases hx with rfl | rfl | rfl | rfl | rfl | rfl | rfl <;> rfl
  rcases h.cells with ⟨rfl, h0⟩ | ⟨b, off, rfl, hc⟩
  · have hn : n = 0 := by have := h.le; omega
    subst hn
    obtain rfl : l = [] := List.eq_nil_of_length_eq_zero h.len
    exact Src.ofNil w Try.underlying52 cap
  · refine Src.ofSlice w Try.underlying52 ⟨b, off, none⟩ n cap _ hl ?_ h1
    intro j u hu
    have hj : j < n * 7 := by rw [← hl]; exact (List.getElem?_eq_some_iff.1 hu).1
    have hadd : (⟨b, off, none⟩ : Addr).add j = ⟨b, off + j, none⟩ := by unfold Addr.add; split <;> simp_all
    rw [hadd]
    obtain ⟨c0, c1, c2, c3, c4, c5, c6⟩ := hc (j / 7) (by omega)
    have e := rcCells_get l (j / 7) (j % 7) (by rw [h.len]; omega) (by omega)
    rw [show j / 7 * 7 + j % 7 = j from by omega] at e
    rw [e] at hu
    have hm : j % 7 = 0 ∨ j % 7 = 1 ∨ j % 7 = 2 ∨ j % 7 = 3 ∨ j % 7 = 4 ∨ j % 7 = 5 ∨ j % 7 = 6 := by omega
    rw [show off + j = off + j / 7 * 7 + j % 7 from by omega]
    rcases hm with h | h | h | h | h | h | h <;> rw [h] at hu ⊢ <;> (simp [rcL] at hu; subst hu; assumption)
theorem rc_empty (w : World) : (w.alloc (.cells #[] 58)).ownsRow w.heap.size 58 7 (.slice (some ⟨w.heap.size, 0, none⟩) 0 0) 0 (rcCells []) :=
  ⟨rfl, .inr ⟨w.heap.size, 0, #[], rfl, Nat.le_refl _, heap_alloc_new w _, Nat.le_refl _, by unfold maxLen; omega, rfl, rfl⟩⟩
theorem rc_one (X : World) (r : Rc) : Src Try.prog 7 52 (.slice (some ⟨X.heap.size, 0, none⟩) 1 1) 1 (rcCells [r]) (X.alloc (.cells #[.int .i64 r.f, .int .i64 r.t, .int .i64 r.sent, .int .i64 r.order, .int .i64 r.times, .int .i64 r.out, .bool r.lost] 58)) := by
  refine Src.ofSlice _ Try.underlying52 ⟨X.heap.size, 0, none⟩ 1 1 _ rfl ?_ (by simp [rcCells, rcL, Value.oneCell'])
  intro j u hu
  have := cell_of_row (X.alloc (.cells #[.int .i64 r.f, .int .i64 r.t, .int .i64 r.sent, .int .i64 r.order, .int .i64 r.times, .int .i64 r.out, .bool r.lost] 58)) X.heap.size j _ _ (0, 0) (heap_alloc_new X _)
  have hadd : (⟨X.heap.size, 0, none⟩ : Addr).add j = ⟨X.heap.size, 0 + j, none⟩ := by unfold Addr.add; split <;> simp_all
  rw [hadd, Nat.zero_add, this, ← hu]
  simp [rcCells, rcL]
theorem info_rec : (Try.prog.info? 58).map (fun i => (i.zero, i.size, i.bytes)) = some (some (.agg #[.int .i64 0, .int .i64 0, .int .i64 0, .int .i64 0, .int .i64 0, .int .i64 0, .bool false]), 7, 56) := by kernel_rfl
/-- the document's book -/
structure Rb where
  l : List Rc
  nxt : Int
  last : Int
  order : Int
abbrev rbV (a : Option Addr) (n cap : Nat) (b : Rb) : Value := .agg #[.slice a n cap, .int .i64 b.nxt, .int .i64 b.last, .int .i64 b.order]
end Go.Proofs.Ytpoifoanigpncaa.bk
/-!   Layer 14's reference: Send, Find.
-/
namespace Go.Proofs.Ytpoifoanigpncaa.bk
open Go.RowKit aid mem sp
attribute [local go_sem ↓] Go.wp_at_zero Go.wp_at_succ
set_option linter.unusedVariables false
set_option linter.unusedSimpArgs false

abbrev rbO (a : Option Addr) (n cap : Nat) (b : Rb) : Obj := .cells #[.slice a n cap, .int .i64 b.nxt, .int .i64 b.last, .int .i64 b.order] 54
/-- the boxes of a call: the book, a span, what is handed back -/
structure SB (w : World) (a : Option Addr) (n cap : Nat) (b : Rb) (s : Int × Int) (W : World) : Prop where
  b0 : W.heap[w.heap.size]? = some (rbO a n cap b)
  b1 : W.heap[w.heap.size + 1]? = some (.cells #[.int .i64 s.1, .int .i64 s.2] 24 (0, 0))
  rs : W.heap[w.heap.size + 1 + 1]? = some (rbO none 0 0 ⟨[], 0, 0, 0⟩)
  below : Below w.heap.size w W
theorem SB.later {w W W' : World} {a : Option Addr} {n cap : Nat} {b : Rb} {s : Int × Int} (h : SB w a n cap b s W) (hb : Below W.heap.size W W') : SB w a n cap b s W' :=
  ⟨(hb.block _ (lt_of_block h.b0)).trans h.b0, (hb.block _ (lt_of_block h.b1)).trans h.b1, (hb.block _ (lt_of_block h.rs)).trans h.rs, h.below.trans (hb.mono h.below.size)⟩
theorem SB.put {w W : World} {a a' : Option Addr} {n cap n' cap' : Nat} {b b' : Rb} {s : Int × Int} (h : SB w a n cap b s W) (i : Nat) (u : Value) (hy : (#[.slice a n cap, .int .i64 b.nxt, .int .i64 b.last, .int .i64 b.order] : Array Value).setIfInBounds i u = #[.slice a' n' cap', .int .i64 b'.nxt, .int .i64 b'.last, .int .i64 b'.order]) : SB w a' n' cap' b' s (W.setCell ⟨w.heap.size, i, none⟩ u) := by
  have hk := kset W w.heap.size i u
  have hh := setp h.b0 (i := i) u
  rw [hy] at hh
  exact ⟨hh, hk.heap (by simp) h.b1, hk.heap (by simp <;> omega) h.rs, h.below.trans (hk.below (by simp) h.below.size)⟩
theorem SB.c0 {w W : World} {a : Option Addr} {n cap : Nat} {b : Rb} {s : Int × Int} (h : SB w a n cap b s W) : W.cell? ⟨w.heap.size, 0, none⟩ = some (.slice a n cap) ∧ W.cell? ⟨w.heap.size, 1, none⟩ = some (.int .i64 b.nxt) ∧ W.cell? ⟨w.heap.size, 2, none⟩ = some (.int .i64 b.last) ∧ W.cell? ⟨w.heap.size, 3, none⟩ = some (.int .i64 b.order) := ⟨cofr h.b0 0 _ rfl, cofr h.b0 1 _ rfl, cofr h.b0 2 _ rfl, cofr h.b0 3 _ rfl⟩
theorem SB.c1 {w W : World} {a : Option Addr} {n cap : Nat} {b : Rb} {s : Int × Int} (h : SB w a n cap b s W) : W.cell? ⟨w.heap.size + 1, 0, none⟩ = some (.int .i64 s.1) ∧ W.cell? ⟨w.heap.size + 1, 1, none⟩ = some (.int .i64 s.2) := ⟨cofr h.b1 0 _ rfl, cofr h.b1 1 _ rfl⟩
theorem SB.cr {w W : World} {a : Option Addr} {n cap : Nat} {b : Rb} {s : Int × Int} (h : SB w a n cap b s W) : W.cell? ⟨w.heap.size + 1 + 1, 0, none⟩ = some (.slice none 0 0) ∧ W.cell? ⟨w.heap.size + 1 + 1, 1, none⟩ = some (.int .i64 0) ∧ W.cell? ⟨w.heap.size + 1 + 1, 2, none⟩ = some (.int .i64 0) ∧ W.cell? ⟨w.heap.size + 1 + 1, 3, none⟩ = some (.int .i64 0) := ⟨cofr h.rs 0 _ rfl, cofr h.rs 1 _ rfl, cofr h.rs 2 _ rfl, cofr h.rs 3 _ rfl⟩
theorem sb3_new (w : World) (a : Option Addr) (n cap : Nat) (b : Rb) (s : Int × Int) : SB w a n cap b s (((w.alloc (rbO a n cap b)).alloc (.cells #[.int .i64 s.1, .int .i64 s.2] 24)).alloc (rbO none 0 0 ⟨[], 0, 0, 0⟩)) := by
  have b1 := al w (rbO a n cap b)
  have y1 := heap_alloc_new w (rbO a n cap b)
  have z1 : (w.alloc (rbO a n cap b)).heap.size = w.heap.size + 1 := by simp
  generalize w.alloc (rbO a n cap b) = w1 at *
  have b2 := al w1 (.cells #[.int .i64 s.1, .int .i64 s.2] 24)
  have y2 := heap_alloc_new w1 (.cells #[.int .i64 s.1, .int .i64 s.2] 24)
  have z2 : (w1.alloc (.cells #[.int .i64 s.1, .int .i64 s.2] 24)).heap.size = w.heap.size + 1 + 1 := by simp [z1]
  rw [z1] at y2
  have y3 := (b2.block _ (lt_of_block y1)).trans y1
  have bb := b1.trans (b2.mono b1.size)
  generalize w1.alloc (.cells #[.int .i64 s.1, .int .i64 s.2] 24) = w2 at *
  have b3 := al w2 (rbO none 0 0 ⟨[], 0, 0, 0⟩)
  have y4 := heap_alloc_new w2 (rbO none 0 0 ⟨[], 0, 0, 0⟩)
  rw [z2] at y4
  exact ⟨(b3.block _ (lt_of_block y3)).trans y3, (b3.block _ (lt_of_block y2)).trans y2, y4, bb.trans (b3.mono bb.size)⟩
abbrev putB (X : Nat) (a : Option Addr) (n cap : Nat) (b : Rb) (W : World) : World := (((W.setCell ⟨X, 0, none⟩ (.slice a n cap)).setCell ⟨X, 1, none⟩ (.int .i64 b.nxt)).setCell ⟨X, 2, none⟩ (.int .i64 b.last)).setCell ⟨X, 3, none⟩ (.int .i64 b.order)
theorem putB_at {X n cap n0 cap0 : Nat} {a a0 : Option Addr} {b b0 : Rb} {W : World} (h : W.heap[X]? = some (rbO a0 n0 cap0 b0)) : (putB X a n cap b W).heap[X]? = some (rbO a n cap b) := by
  unfold putB
  exact (setp (setp (setp (setp h _) _) _) _).trans rfl
theorem putB_kept (X n cap : Nat) (a : Option Addr) (b : Rb) (W : World) : Kept [X] W (putB X a n cap b W) :=
  ((((Kept.refl [X] W).setCell (.inl (by simp)) _).setCell (.inl (by simp)) _).setCell (.inl (by simp)) _).setCell (.inl (by simp)) _
abbrev Sb4 (X : Nat) (a : Option Addr) (n cap : Nat) (b : Rb) (W : World) : Prop := W.cell? ⟨X, 0, none⟩ = some (.slice a n cap) ∧ W.cell? ⟨X, 1, none⟩ = some (.int .i64 b.nxt) ∧ W.cell? ⟨X, 2, none⟩ = some (.int .i64 b.last) ∧ W.cell? ⟨X, 3, none⟩ = some (.int .i64 b.order)
theorem sb4_of {W : World} {X n cap : Nat} {a : Option Addr} {b : Rb} (h : W.heap[X]? = some (rbO a n cap b)) : Sb4 X a n cap b W := ⟨cofr h 0 _ rfl, cofr h 1 _ rfl, cofr h 2 _ rfl, cofr h 3 _ rfl⟩
theorem own_base {w : World} {base base' : Nat} {e : TypeId} {sz : Nat} {v : Value} {n : Nat} {xs : List Value} (h : w.ownsRow base e sz v n xs) (hb : base' ≤ base) : w.ownsRow base' e sz v n xs := by
  refine ⟨h.1, h.2.imp id (fun ⟨g, cap, cur, hv, h1, h2⟩ => ⟨g, cap, cur, hv, by omega, h2⟩)⟩
/-- the row is stored into the book's box, the book into the answer's -/
theorem SB.fin {w W W0 : World} {a a2 : Option Addr} {n cap m k2 : Nat} {b : Rb} {s : Int × Int} {l : List Rc} (h : SB w a n cap b s W) (ho : W.ownsRow W0.heap.size 58 7 (.slice a2 m k2) m (rcCells l)) (hW : w.heap.size + 1 + 1 < W0.heap.size) :
    Hid ((putB (w.heap.size + 1 + 1) a2 m k2 ⟨l, b.nxt, b.last, b.order⟩ (W.setCell ⟨w.heap.size, 0, none⟩ (.slice a2 m k2))).heap[w.heap.size + 1 + 1]? = some (rbO a2 m k2 ⟨l, b.nxt, b.last, b.order⟩) ∧ (putB (w.heap.size + 1 + 1) a2 m k2 ⟨l, b.nxt, b.last, b.order⟩ (W.setCell ⟨w.heap.size, 0, none⟩ (.slice a2 m k2))).ownsRow w.heap.size 58 7 (.slice a2 m k2) m (rcCells l) ∧ Below w.heap.size w (putB (w.heap.size + 1 + 1) a2 m k2 ⟨l, b.nxt, b.last, b.order⟩ (W.setCell ⟨w.heap.size, 0, none⟩ (.slice a2 m k2)))) := by
  have k1 := kset W w.heap.size 0 (.slice a2 m k2)
  have kk := putB_kept (w.heap.size + 1 + 1) m k2 a2 ⟨l, b.nxt, b.last, b.order⟩ (W.setCell ⟨w.heap.size, 0, none⟩ (.slice a2 m k2))
  have hr := k1.heap (by simp <;> omega) h.rs
  have b1 := h.below.trans (k1.below (by simp) h.below.size)
  have hown : (putB (w.heap.size + 1 + 1) a2 m k2 ⟨l, b.nxt, b.last, b.order⟩ (W.setCell ⟨w.heap.size, 0, none⟩ (.slice a2 m k2))).ownsRow W0.heap.size 58 7 (.slice a2 m k2) m (rcCells l) :=
    own_step ho (fun k o hk hko => by
      have := (own_in ho hk).2
      exact kk.heap (by simp; omega) (k1.heap (by simp; omega) hko))
  exact Lib.hid ⟨putB_at hr, own_base hown (by omega), b1.trans (kk.below (by simp; omega) b1.size)⟩
/-- a document's book is handed back, with something beside it -/
def RetB (b : Rb) (vs : List Value) (w : World) (e : Ending) (w' : World) : Prop := ∃ a n cap, e = .returned (.tuple (rbV a n cap b :: vs).toArray) ∧ w'.ownsRow w.heap.size 58 7 (.slice a n cap) n (rcCells b.l) ∧ Below w.heap.size w w'
def Rb.send (b : Rb) (s : Int × Int) (now : Int) : Rb := ⟨b.l ++ [⟨s.1, s.2, now, b.order + 1, 1, 1, false⟩], s.2, now, b.order + 1⟩
set_option maxRecDepth 100000 in
set_option maxHeartbeats 4000000 in
theorem rsend_ok {w : World} {a : Option Addr} {n cap : Nat} {b : Rb} (h : RcA w a n cap b.l) (hn : n ≤ 900000) (s : Int × Int) (now : Int) (hs : lenI s ≠ 0) (h1 : s.1 = b.nxt) (h2 : b.last ≤ now) (h3 : now ≤ 4611686018427387904) (ho : 0 ≤ b.order ∧ b.order ≤ 4611686018427387904) :
    Calls Try.prog 36 #[rbV a n cap b, spV s, .int .i64 now] w (RetB (b.send s now) [.int .i64 0] w) := by
  obtain ⟨i0, hi, hz0, hz1, hz2⟩ := info_split info_rec
  have HL := Lib.hid (fun W => rlen_any s (w := W))
  have hne : (lenI s == 0) = false := by simpa using hs
  have hle := h.le
  have hmost := h.most
  unfold maxLen at hmost
  obtain ⟨ho0, ho1⟩ := ho
  have HA := Lib.hid h
  clear h hs
  generalize hln : lenI s = ln at *
  clear hln
  obtain ⟨l, nxt, last, order⟩ := b
  obtain ⟨sf, st⟩ := s
  dsimp only at *
  subst h1
  go_enter Try.func36, Try.ntmps36
  have HB0 := Lib.hid (sb3_new w a n cap ⟨l, sf, last, order⟩ (sf, st))
  obtain ⟨c0, c1, c2, c3⟩ := HB0.out.c0
  obtain ⟨s0, s1⟩ := HB0.out.c1
  dsimp only at c0 c1 c2 c3 s0 s1
  go_upto_region 3 with (go_at_call 54; (with_reducible refine (HL.out _).mono ?_); unfold RetI; rintro e w1 ⟨rfl, hb1⟩; have HB1 := Lib.hid (HB0.out.later hb1); clear HB0 hb1 c0 c1 c2 c3 s0 s1; obtain ⟨c0, c1, c2, c3⟩ := HB1.out.c0; obtain ⟨s0, s1⟩ := HB1.out.c1; dsimp only at c0 c1 c2 c3 s0 s1)
  have f1 := fofr HB1.out.b0 1; have f2 := fofr HB1.out.b0 2; have f3 := fofr HB1.out.b0 3
  have HB4 := Lib.hid (((HB1.out.put (a' := a) (n' := n) (cap' := cap) (b' := ⟨l, sf, last, order + 1⟩) 3 (.int .i64 (order + 1)) rfl).put (a' := a) (n' := n) (cap' := cap) (b' := ⟨l, sf, now, order + 1⟩) 2 (.int .i64 now) rfl).put (a' := a) (n' := n) (cap' := cap) (b' := ⟨l, st, now, order + 1⟩) 1 (.int .i64 st) rfl)
  go_upto_region 6 with fail
  clear c0 c1 c2 c3 s0 s1 f1 f2 f3 HB1
  generalize hW : ((w1.setCell ⟨w.heap.size, 3, none⟩ (.int .i64 (order + 1))).setCell ⟨w.heap.size, 2, none⟩ (.int .i64 now)).setCell ⟨w.heap.size, 1, none⟩ (.int .i64 st) = W at *
  clear hW
  have HAW := Lib.hid (HA.out.later HB4.out.below)
  clear HA
  obtain ⟨c0, c1, c2, c3⟩ := HB4.out.c0
  obtain ⟨s0, s1⟩ := HB4.out.c1
  dsimp only at c0 c1 c2 c3 s0 s1
  have f0 := fofr HB4.out.b0 0
  have l0 := lt_of_block HB4.out.b0
  have l1 := lt_of_block HB4.out.b1
  have l2 := lt_of_block HB4.out.rs
  have HE := Lib.hid (rc_empty W)
  have HB5 := Lib.hid (al W (.cells #[] 58))
  have HS1 := Lib.hid (HAW.out.later HB5.out).src
  go_wp2_with (first
    | (at_builtin; refine wpList_append_sz _ rfl (.tmp 39) (.tmp 41) 52 52 rfl W.heap.size 58 i0 (.agg #[.int .i64 0, .int .i64 0, .int .i64 0, .int .i64 0, .int .i64 0, .int .i64 0, .bool false]) 7 56 Try.underlying52 hi hz0 hz1 (by decide) hz2 rfl (.slice (some ⟨W.heap.size, 0, none⟩) 0 0) 0 (rcCells []) rfl HE.out (.slice a n cap) rfl n (rcCells l) HS1.out (by unfold maxLen; omega) (by omega) (by first | omega | (simp only [World.size_alloc]; omega)) ?_; intro a1 k1 w2 ho1 hg1 hw1; simp only [Nat.zero_add] at ho1 ⊢; have HO1 := Lib.hid (show w2.ownsRow W.heap.size 58 7 (.slice a1 n k1) n (rcCells l) from ho1); have HB6 := Lib.hid (HB5.out.trans (below_grown hg1 HB5.out.size (fun k hk => by cases hk; exact Nat.le_refl _))); have m0 := HB6.out.size; clear ho1 hg1 hw1 c0 c1 c2 c3 s0 s1 f0; have HC := Lib.hid (HB4.out.later HB6.out); obtain ⟨c0, c1, c2, c3⟩ := HC.out.c0; obtain ⟨s0, s1⟩ := HC.out.c1; dsimp only at c0 c1 c2 c3 s0 s1)
    | (at_builtin; refine wpList_append_sz _ rfl (.tmp 43) (.tmp 49) 52 52 rfl W.heap.size 58 i0 (.agg #[.int .i64 0, .int .i64 0, .int .i64 0, .int .i64 0, .int .i64 0, .int .i64 0, .bool false]) 7 56 Try.underlying52 hi hz0 hz1 (by decide) hz2 rfl (.slice a1 n k1) n (rcCells l) rfl (own_later HO1.out (al _ _)) (.slice (some ⟨w2.heap.size, 0, none⟩) 1 1) rfl 1 (rcCells [⟨sf, st, now, order + 1, 1, 1, false⟩]) (rc_one w2 ⟨sf, st, now, order + 1, 1, 1, false⟩) (by unfold maxLen; omega) (by omega) (by have := HB6.out.size; simp only [World.size_alloc]; omega) ?_; intro a2 k2 w3 ho2 hg2 hw2; have HO2 := Lib.hid ho2; have HB7 := Lib.hid ((HB6.out.trans ((al w2 (.cells #[.int .i64 sf, .int .i64 st, .int .i64 now, .int .i64 (order + 1), .int .i64 1, .int .i64 1, .bool false] 58)).mono HB6.out.size)).trans (below_grown hg2 (by have := HB6.out.size; simp only [World.size_alloc]; omega) (fun k hk => (own_in HO1.out hk).2))); clear ho2 hg2 hw2 c0 c1 c2 c3 s0 s1; have HD := Lib.hid (HB4.out.later HB7.out); obtain ⟨c0, c1, c2, c3⟩ := HD.out.c0; obtain ⟨s0, s1⟩ := HD.out.c1; obtain ⟨e0, e1, e2, e3⟩ := HD.out.cr; have f0 := fofr HD.out.b0 0; have g0 := fofr HD.out.rs 0; have g1 := fofr HD.out.rs 1; have g2 := fofr HD.out.rs 2; have g3 := fofr HD.out.rs 3; dsimp only at c0 c1 c2 c3 s0 s1))
  have HFN := HD.out.fin (W0 := W) (l := l ++ [⟨sf, st, now, order + 1, 1, 1, false⟩]) (by rw [rcCells_append]; exact HO2.out) l2
  obtain ⟨y0, y1, y2, y3⟩ := sb4_of HFN.out.1
  exact bodyPost_ret (v := .tuple #[rbV a2 (n + 1) k2 ⟨l ++ [⟨sf, st, now, order + 1, 1, 1, false⟩], st, now, order + 1⟩, .int .i64 0]) (by simp [results, Try.results36, go_sem, y0, y1, y2, y3]) rfl ⟨a2, n + 1, k2, rfl, HFN.out.2.1, HFN.out.2.2⟩
end Go.Proofs.Ytpoifoanigpncaa.bk
/-!   Layer 14's reference: Find, Lose, Again.
-/
namespace Go.Proofs.Ytpoifoanigpncaa.bk
open Go.RowKit aid mem sp
attribute [local go_sem ↓] Go.wp_at_zero Go.wp_at_succ
set_option linter.unusedVariables false
set_option linter.unusedSimpArgs false

set_option maxHeartbeats 1000000 in
theorem rfind_at {w : World} {a : Option Addr} {n cap : Nat} {b : Rb} (h : RcA w a n cap b.l) (hn : n ≤ 900000) (k : Int) (m : Nat) (hm : m ≤ n) (hno : ∀ i, i < m → ((b.l.getD i Rc.zero).f == k) = false) (hyes : m < n → ((b.l.getD m Rc.zero).f == k) = true) :
    Calls Try.prog 23 #[rbV a n cap b, .int .i64 k] w fun e w' => e = .returned (.int .i64 (if m < n then (m : Int) else -1)) ∧ w' = w.alloc (rbO a n cap b) := by
  have hb := al w (rbO a n cap b)
  have h' := h.later hb
  have y := heap_alloc_new w (rbO a n cap b)
  have c0 := cofr y 0 (.slice a n cap) rfl
  have HC := Lib.hid h'.cells
  have hle := h.le
  have hmost := h.most
  unfold maxLen at hmost
  have HNO := Lib.hid hno
  have HYES := Lib.hid hyes
  clear h h' hb hno hyes y
  generalize hV : (if m < n then (m : Int) else -1) = v
  have HV := Lib.hid hV
  clear hV
  obtain ⟨l, nxt, last, order⟩ := b
  dsimp only at *
  go_enter Try.func23, Try.ntmps23
  go_wp2
  go_loop [5] (fun i => ∃ j : Nat, j ≤ m ∧ i = .int .i64 j) (fun i => n - (intOf i).toNat)
  case atStart => exact ⟨0, Nat.zero_le _, rfl⟩
  case round =>
    obtain ⟨j, hj, rfl⟩ := hrel
    by_cases hlt : j < n
    · rcases HC.out with ⟨_, h0⟩ | ⟨B, off, rfl, hc⟩
      · omega
      · obtain ⟨e0, e1, e2, e3, e4, e5, e6⟩ := hc j hlt
        clear hc
        by_cases hjm : j < m
        · have hx := HNO.out j hjm
          generalize l.getD j Rc.zero = r at *
          go_wp2
          go_round
          case rel => exact ⟨j + 1, by omega, by go_num⟩
          case measure => simp [intOf]; omega
        · obtain rfl : j = m := by omega
          have hx := HYES.out hlt
          have HE : Hid (v = (j : Int)) := Lib.hid (by rw [← HV.out, if_pos hlt])
          generalize l.getD j Rc.zero = r at *
          go_wp2
          go_ret
          exact ⟨ret_i HE.out.symm, rfl⟩
    · have HE : Hid (v = -1) := Lib.hid (by rw [← HV.out, if_neg (by omega)])
      go_wp2
      go_ret
      exact ⟨ret_i HE.out.symm, rfl⟩
/-! ### Rows that are written -/
theorem rc_set : ∀ (l : List Rc) (i j : Nat) (u : Value) (r' : Rc), i < l.length → j < 7 → (rcL (l.getD i Rc.zero)).set j u = rcL r' → (rcCells l).set (i * 7 + j) u = rcCells (l.set i r') := by
  intro l
  induction l with
  | nil => intro i j u r' hi; simp at hi
  | cons x l ih =>
    intro i j u r' hi hj he
    have e : rcCells (x :: l) = rcL x ++ rcCells l := rfl
    have hl : (rcL x).length = 7 := rfl
    rw [e]
    cases i with
    | zero =>
      rw [List.set_append_left _ _ (by omega)]
      simp only [Nat.zero_mul, Nat.zero_add, List.set_cons_zero]
      show (rcL x).set j u ++ rcCells l = rcL r' ++ rcCells l
      rw [← he]
      rfl
    | succ i =>
      rw [List.set_append_right _ _ (by omega), show (i + 1) * 7 + j - (rcL x).length = i * 7 + j from by omega, ih i j u r' (by simpa using hi) hj (by simpa using he)]
      rfl
/-- a row of records of one's own, at g -/
def RO (w : World) (base g n cap : Nat) (l : List Rc) : Prop := w.ownsRow base 58 7 (.slice (some ⟨g, 0, none⟩) n cap) n (rcCells l)
theorem ro_of {w : World} {base n : Nat} {a : Option Addr} {cap : Nat} {l : List Rc} (h : w.ownsRow base 58 7 (.slice a n cap) n (rcCells l)) (hn : 0 < n) : ∃ g, a = some ⟨g, 0, none⟩ ∧ base ≤ g ∧ g < w.heap.size ∧ RO w base g n cap l := by
  have h0 := h
  rcases h.2 with ⟨hv, h1⟩ | ⟨g, cap', cur, hv, hb, hg, hn', hm, hc, ht⟩
  · have := h.1; rw [h1] at this; simp at this; omega
  · simp only [Value.slice.injEq] at hv
    obtain ⟨rfl, _, rfl⟩ := hv
    exact ⟨g, rfl, hb, lt_of_block hg, h0⟩
section
variable {w : World} {base g n cap : Nat} {l : List Rc}
theorem RO.parts (h : RO w base g n cap l) : ∃ cur, w.heap[g]? = some (.cells cur 58 (0, 0)) ∧ base ≤ g ∧ n ≤ cap ∧ cap ≤ maxLen ∧ cur.size = cap * 7 ∧ cur.toList.take (n * 7) = rcCells l ∧ l.length = n := by
  have hl : l.length = n := by have := h.1; rw [rcCells_len] at this; omega
  rcases h.2 with ⟨hv, _⟩ | ⟨g', cap', cur, hv, hb, hg, hn', hm, hc, ht⟩
  · cases hv
  · simp only [Value.slice.injEq, Option.some.injEq, Addr.mk.injEq] at hv
    obtain ⟨⟨rfl, _⟩, _, rfl⟩ := hv
    exact ⟨cur, hg, hb, hn', hm, hc, ht, hl⟩
theorem RO.f (h : RO w base g n cap l) (i : Nat) : w.frozen? ⟨g, i, none⟩ = false := by
  obtain ⟨cur, hg, _⟩ := h.parts
  exact fofr hg i
theorem RO.cs (h : RO w base g n cap l) {i : Nat} (hi : i < n) : RcCs w g (i * 7) (l.getD i Rc.zero) := by
  obtain ⟨cur, hg, _, hn, _, hc, ht, hl⟩ := h.parts
  have key : ∀ j, j < 7 → w.cell? ⟨g, i * 7 + j, none⟩ = (rcL (l.getD i Rc.zero))[j]? := by
    intro j hj
    have e := rcCells_get l i j (by omega) hj
    rw [← ht, List.getElem?_take, if_pos (by omega)] at e
    rw [cell_of_row w g _ cur _ (0, 0) hg, ← e]
    simp
  exact ⟨(key 0 (by omega)).trans rfl, (key 1 (by omega)).trans rfl, (key 2 (by omega)).trans rfl, (key 3 (by omega)).trans rfl, (key 4 (by omega)).trans rfl, (key 5 (by omega)).trans rfl, (key 6 (by omega)).trans rfl⟩
theorem RO.set (h : RO w base g n cap l) {i : Nat} (hi : i < n) (j : Nat) (hj : j < 7) (u : Value) (r' : Rc) (he : (rcL (l.getD i Rc.zero)).set j u = rcL r') : RO (w.setCell ⟨g, i * 7 + j, none⟩ u) base g n cap (l.set i r') := by
  obtain ⟨cur, hg, hb, hn, hm, hc, ht, hl⟩ := h.parts
  have hs := setp hg (i := i * 7 + j) u
  refine ⟨by rw [rcCells_len]; simp [hl], .inr ⟨g, cap, _, rfl, hb, hs, hn, hm, by simp [hc], ?_⟩⟩
  rw [← rc_set l i j u r' (by omega) hj he, ← ht]
  simp [List.take_set]
theorem RO.keep {w' : World} (h : RO w base g n cap l) {S : List Nat} (hk : Kept S w w') (hg : g ∉ S) : RO w' base g n cap l :=
  own_step h (fun k o hk' hko => by cases hk'; exact hk.heap hg hko)
theorem RO.rca (h : RO w base g n cap l) : RcA w (some ⟨g, 0, none⟩) n cap l := by
  obtain ⟨a, c, he, hr⟩ := own_rc h
  cases he
  exact hr
end
theorem RcA.lt {w : World} {a : Option Addr} {n cap : Nat} {l : List Rc} (h : RcA w a n cap l) (h0 : 0 < n) (g off : Nat) (ha : a = some ⟨g, off, none⟩) : g < w.heap.size := by
  rcases h.cells with ⟨h1, _⟩ | ⟨b, o, h1, hc⟩
  · rw [ha] at h1; cases h1
  · rw [ha] at h1
    cases h1
    exact World.block_lt_of_cell? w _ (hc 0 h0).1
/-- the boxes of a call: the book, and what is handed back at R -/
structure TB (w : World) (R : Nat) (a : Option Addr) (n cap : Nat) (b : Rb) (W : World) : Prop where
  b0 : W.heap[w.heap.size]? = some (rbO a n cap b)
  rs : W.heap[R]? = some (rbO none 0 0 ⟨[], 0, 0, 0⟩)
  lt : w.heap.size < R
  below : Below w.heap.size w W
section
variable {w W W' : World} {R n cap : Nat} {a : Option Addr} {b : Rb}
theorem TB.later (h : TB w R a n cap b W) (hb : Below W.heap.size W W') : TB w R a n cap b W' :=
  ⟨(hb.block _ (lt_of_block h.b0)).trans h.b0, (hb.block _ (lt_of_block h.rs)).trans h.rs, h.lt, h.below.trans (hb.mono h.below.size)⟩
theorem TB.put {a' : Option Addr} {n' cap' : Nat} {b' : Rb} (h : TB w R a n cap b W) (i : Nat) (u : Value) (hy : (#[.slice a n cap, .int .i64 b.nxt, .int .i64 b.last, .int .i64 b.order] : Array Value).setIfInBounds i u = #[.slice a' n' cap', .int .i64 b'.nxt, .int .i64 b'.last, .int .i64 b'.order]) : TB w R a' n' cap' b' (W.setCell ⟨w.heap.size, i, none⟩ u) := by
  have hk := kset W w.heap.size i u
  have hh := setp h.b0 (i := i) u
  rw [hy] at hh
  have := h.lt
  exact ⟨hh, hk.heap (by simp; omega) h.rs, h.lt, h.below.trans (hk.below (by simp) h.below.size)⟩
theorem TB.other {g : Nat} (h : TB w R a n cap b W) (hk : Kept [g] W W') (h0 : w.heap.size < g) (h1 : g ≠ R) : TB w R a n cap b W' :=
  ⟨hk.heap (by simp; omega) h.b0, hk.heap (by simp; omega) h.rs, h.lt, h.below.trans (hk.below (by simp; omega) h.below.size)⟩
theorem TB.c0 (h : TB w R a n cap b W) : Sb4 w.heap.size a n cap b W := sb4_of h.b0
theorem TB.cr (h : TB w R a n cap b W) : Sb4 R none 0 0 ⟨[], 0, 0, 0⟩ W := sb4_of h.rs
/-- the book goes into the answer -/
theorem TB.fin {l : List Rc} (h : TB w R a n cap b W) (hr : RcA W a n cap l) (hg : 0 < n → ∀ g off, a = some ⟨g, off, none⟩ → g ≠ R) : (putB R a n cap b W).heap[R]? = some (rbO a n cap b) ∧ RcA (putB R a n cap b W) a n cap l ∧ Below w.heap.size w (putB R a n cap b W) := by
  have kk := putB_kept R n cap a b W
  have := h.lt
  refine ⟨putB_at h.rs, ⟨hr.len, hr.le, hr.most, hr.cells.imp id (fun ⟨g, off, ha, hc⟩ => ⟨g, off, ha, fun i hi => ?_⟩)⟩, h.below.trans (kk.below (by simp; omega) h.below.size)⟩
  have hne := hg (by omega) g off ha
  obtain ⟨c0, c1, c2, c3, c4, c5, c6⟩ := hc i hi
  exact ⟨kk.cell (by simpa using hne) c0, kk.cell (by simpa using hne) c1, kk.cell (by simpa using hne) c2, kk.cell (by simpa using hne) c3, kk.cell (by simpa using hne) c4, kk.cell (by simpa using hne) c5, kk.cell (by simpa using hne) c6⟩
end
/-- the same, where the row is one's own -/
theorem TB.finO {w W : World} {R n cap base : Nat} {a : Option Addr} {b : Rb} {l : List Rc} (h : TB w R a n cap b W) (hr : W.ownsRow base 58 7 (.slice a n cap) n (rcCells l)) (hR : R < base) : Hid ((putB R a n cap b W).heap[R]? = some (rbO a n cap b) ∧ (putB R a n cap b W).ownsRow w.heap.size 58 7 (.slice a n cap) n (rcCells l) ∧ Below w.heap.size w (putB R a n cap b W)) := by
  have kk := putB_kept R n cap a b W
  have hlt := h.lt
  exact Lib.hid ⟨putB_at h.rs, own_base (own_step hr (fun k o hk hko => by
    have := (own_in hr hk).2
    exact kk.heap (by simp; omega) hko)) (by omega), h.below.trans (kk.below (by simp; omega) h.below.size)⟩
theorem tb_new (w : World) (a : Option Addr) (n cap : Nat) (b : Rb) : TB w (w.heap.size + 1) a n cap b ((w.alloc (rbO a n cap b)).alloc (rbO none 0 0 ⟨[], 0, 0, 0⟩)) := by
  have b1 := al w (rbO a n cap b)
  have y1 := heap_alloc_new w (rbO a n cap b)
  have z1 : (w.alloc (rbO a n cap b)).heap.size = w.heap.size + 1 := by simp
  generalize w.alloc (rbO a n cap b) = w1 at *
  have b2 := al w1 (rbO none 0 0 ⟨[], 0, 0, 0⟩)
  have y2 := heap_alloc_new w1 (rbO none 0 0 ⟨[], 0, 0, 0⟩)
  rw [z1] at y2
  exact ⟨(b2.block _ (lt_of_block y1)).trans y1, y2, by omega, b1.trans (b2.mono b1.size)⟩
end Go.Proofs.Ytpoifoanigpncaa.bk
/-!   Layer 14's reference: Lose.
-/
namespace Go.Proofs.Ytpoifoanigpncaa.bk
open Go.RowKit aid mem sp
attribute [local go_sem ↓] Go.wp_at_zero Go.wp_at_succ
set_option linter.unusedVariables false
set_option linter.unusedSimpArgs false

/-- the record at m is the first one that begins at k -/
structure Fst (l : List Rc) (k : Int) (m : Nat) : Prop where
  lt : m < l.length
  no : ∀ i, i < m → ((l.getD i Rc.zero).f == k) = false
  yes : ((l.getD m Rc.zero).f == k) = true
theorem rfind_yes {w : World} {a : Option Addr} {n cap : Nat} {b : Rb} (h : RcA w a n cap b.l) (hn : n ≤ 900000) {k : Int} {m : Nat} (hf : Fst b.l k m) :
    Calls Try.prog 23 #[rbV a n cap b, .int .i64 k] w fun e w' => e = .returned (.int .i64 (m : Int)) ∧ Below w.heap.size w w' := by
  have hl := h.len
  have hm := hf.lt
  have := rfind_at h hn k m (by omega) hf.no (fun _ => hf.yes)
  rw [if_pos (by omega)] at this
  exact this.mono fun e w' ⟨h1, h2⟩ => ⟨h1, h2 ▸ al _ _⟩
def Rb.setAt (b : Rb) (m : Nat) (r : Rc) : Rb := ⟨b.l.set m r, b.nxt, b.last, b.order⟩
set_option maxRecDepth 100000 in
set_option maxHeartbeats 4000000 in
theorem rlose_no {w : World} {a : Option Addr} {n cap : Nat} {b : Rb} (h : RcA w a n cap b.l) (hn : n ≤ 900000) {k : Int} {m : Nat} (hf : Fst b.l k m) (hlost : (b.l.getD m Rc.zero).lost = true) :
    Calls Try.prog 40 #[rbV a n cap b, .int .i64 k] w fun e w' => e = .returned (.tuple #[rbV a n cap b, .int .i64 13]) ∧ Below w.heap.size w w' := by
  have HFI := Lib.hid (fun W (hb : Below w.heap.size w W) => rfind_yes (h.later hb) hn hf)
  have hl := h.len
  have hm := hf.lt
  have hle := h.le
  have hmost := h.most
  unfold maxLen at hmost
  have HLT := Lib.hid (fun h0 => h.lt h0)
  have HA := Lib.hid h
  have HT := Lib.hid (tb_new w a n cap b)
  have hmn : m < n := by omega
  have HL := Lib.hid hlost
  clear h hf hl hm hlost
  obtain ⟨l, nxt, last, order⟩ := b
  dsimp only at *
  obtain ⟨c0, c1, c2, c3⟩ := HT.out.c0
  dsimp only at c0 c1 c2 c3
  go_enter Try.func40, Try.ntmps40
  go_upto_region 4 with (go_at_call 23; (with_reducible refine (HFI.out _ HT.out.below).mono ?_); rintro e w1 ⟨rfl, hb1⟩; have HT1 := Lib.hid (HT.out.later hb1); clear HT hb1 c0 c1 c2 c3; obtain ⟨c0, c1, c2, c3⟩ := HT1.out.c0; dsimp only at c0 c1 c2 c3)
  have HA1 := Lib.hid (HA.out.later HT1.out.below)
  clear HA HFI
  rcases HA1.out.cells with ⟨_, h0⟩ | ⟨B, off, rfl, hc⟩
  · omega
  obtain ⟨e0, e1, e2, e3, e4, e5, e6⟩ := hc m hmn
  clear hc
  rw [HL.out] at e6
  have HF := Lib.hid (HT1.out.fin HA1.out (fun h0 g o hg => by have := HLT.out h0 g o hg; omega))
  obtain ⟨r0, r1, r2, r3⟩ := HT1.out.cr
  have g0 := fofr HT1.out.rs 0; have g1 := fofr HT1.out.rs 1; have g2 := fofr HT1.out.rs 2; have g3 := fofr HT1.out.rs 3
  dsimp only at r0 r1 r2 r3
  go_wp2_with fail
  obtain ⟨y0, y1, y2, y3⟩ := sb4_of HF.out.1
  exact bodyPost_ret (v := .tuple #[rbV (some ⟨B, off, none⟩) n cap ⟨l, nxt, last, order⟩, .int .i64 13]) (by simp [results, Try.results40, go_sem, y0, y1, y2, y3]) rfl ⟨rfl, HF.out.2.2⟩
set_option maxRecDepth 100000 in
set_option maxHeartbeats 4000000 in
theorem rlose_yes {w : World} {a : Option Addr} {n cap : Nat} {b : Rb} (h : RcA w a n cap b.l) (hn : n ≤ 900000) {k : Int} {m : Nat} (hf : Fst b.l k m) (hlost : (b.l.getD m Rc.zero).lost = false) :
    Calls Try.prog 40 #[rbV a n cap b, .int .i64 k] w (RetB (b.setAt m (b.l.getD m Rc.zero).lose) [.int .i64 0] w) := by
  obtain ⟨i0, hi, hz0, hz1, hz2⟩ := info_split info_rec
  have HFI := Lib.hid (fun W (hb : Below w.heap.size w W) => rfind_yes (h.later hb) hn hf)
  have hl := h.len
  have hm := hf.lt
  have hle := h.le
  have hmost := h.most
  unfold maxLen at hmost
  have HA := Lib.hid h
  have HT := Lib.hid (tb_new w a n cap b)
  have hmn : m < n := by omega
  have HL := Lib.hid hlost
  have HLN := Lib.hid hl
  clear h hf hl hm hlost
  obtain ⟨l, nxt, last, order⟩ := b
  dsimp only at *
  obtain ⟨c0, c1, c2, c3⟩ := HT.out.c0
  dsimp only at c0 c1 c2 c3
  go_enter Try.func40, Try.ntmps40
  go_upto_region 4 with (go_at_call 23; (with_reducible refine (HFI.out _ HT.out.below).mono ?_); rintro e w1 ⟨rfl, hb1⟩; have HT1 := Lib.hid (HT.out.later hb1); clear HT hb1 c0 c1 c2 c3; obtain ⟨c0, c1, c2, c3⟩ := HT1.out.c0; dsimp only at c0 c1 c2 c3)
  have HA1 := Lib.hid (HA.out.later HT1.out.below)
  clear HA HFI
  have HS0 := Lib.hid ((HA1.out.later (al w1 (.cells #[] 58))).src)
  rcases HA1.out.cells with ⟨_, h0⟩ | ⟨B, off, rfl, hc⟩
  · omega
  obtain ⟨e0, e1, e2, e3, e4, e5, e6⟩ := hc m hmn
  clear hc HA1
  rw [HL.out] at e6
  have HE := Lib.hid (rc_empty w1)
  have HB5 := Lib.hid (al w1 (.cells #[] 58))
  have l0 := lt_of_block HT1.out.b0
  have l2 := lt_of_block HT1.out.rs
  go_upto_region 7 with (at_builtin; refine wpList_append_sz _ rfl (.tmp 21) (.tmp 23) 52 52 rfl w1.heap.size 58 i0 (.agg #[.int .i64 0, .int .i64 0, .int .i64 0, .int .i64 0, .int .i64 0, .int .i64 0, .bool false]) 7 56 Try.underlying52 hi hz0 hz1 (by decide) hz2 rfl (.slice (some ⟨w1.heap.size, 0, none⟩) 0 0) 0 (rcCells []) rfl HE.out (.slice (some ⟨B, off, none⟩) n cap) rfl n (rcCells l) HS0.out (by unfold maxLen; omega) (by omega) (by first | omega | (simp only [World.size_alloc]; omega)) ?_; intro a1 k1 w2 ho1 hg1 hw1; simp only [Nat.zero_add] at ho1 ⊢; have HO1 := Lib.hid (show w2.ownsRow w1.heap.size 58 7 (.slice a1 n k1) n (rcCells l) from ho1); have HB6 := Lib.hid (HB5.out.trans (below_grown hg1 HB5.out.size (fun k hk => by cases hk; exact Nat.le_refl _))); clear ho1 hg1 hw1 c0 c1 c2 c3)
  clear e0 e1 e2 e3 e4 e5 e6 HS0 HE HB5
  have HT2 := Lib.hid (HT1.out.later HB6.out)
  obtain ⟨g, rfl, hg1, hg2, hR⟩ := ro_of HO1.out (by omega)
  have HR := Lib.hid hR
  clear hR HO1 HT1 HB6
  obtain ⟨d0, d1, d2, d3, d4, d5, d6⟩ := HR.out.cs hmn
  have q5 := HR.out.f (m * 7 + 5); have q6 := HR.out.f (m * 7 + 6)
  have hk1 : n ≤ k1 := by obtain ⟨_, _, _, h, _⟩ := HR.out.parts; exact h
  have HT3 := Lib.hid (HT2.out.other (kset w2 g (m * 7 + 6) (.bool true)) (by omega) (by omega))
  have HT4 := Lib.hid (HT3.out.other (kset _ g (m * 7 + 5) (.int .i64 0)) (by omega) (by omega))
  have hgd : ∀ r : Rc, (l.set m r).getD m Rc.zero = r := fun r => by simp [List.getD, show m < l.length from by rw [HLN.out]; exact hmn]
  have HR4 : Hid (RO ((w2.setCell ⟨g, m * 7 + 6, none⟩ (.bool true)).setCell ⟨g, m * 7 + 5, none⟩ (.int .i64 0)) w1.heap.size g n k1 (l.set m (l.getD m Rc.zero).lose)) := Lib.hid (by
    have h3 := HR.out.set hmn 6 (by omega) (.bool true) ⟨(l.getD m Rc.zero).f, (l.getD m Rc.zero).t, (l.getD m Rc.zero).sent, (l.getD m Rc.zero).order, (l.getD m Rc.zero).times, (l.getD m Rc.zero).out, true⟩ rfl
    have h4 := h3.set hmn 5 (by omega) (.int .i64 0) (l.getD m Rc.zero).lose (by rw [hgd]; rfl)
    rw [List.set_set] at h4
    exact h4)
  have n0 : ¬ w.heap.size = g := by omega
  have n1 : ¬ w.heap.size + 1 = g := by omega
  obtain ⟨c0, c1, c2, c3⟩ := HT2.out.c0
  dsimp only at c0 c1 c2 c3
  clear hgd HT3
  go_upto_region 9 with fail
  clear d0 d1 d2 d3 d4 d5 d6 q5 q6 c0 c1 c2 c3 HT2 HR
  generalize (w2.setCell ⟨g, m * 7 + 6, none⟩ (.bool true)).setCell ⟨g, m * 7 + 5, none⟩ (.int .i64 0) = W at *
  obtain ⟨c0, c1, c2, c3⟩ := HT4.out.c0
  obtain ⟨r0, r1, r2, r3⟩ := HT4.out.cr
  have f0 := fofr HT4.out.b0 0
  have g0 := fofr HT4.out.rs 0; have g1 := fofr HT4.out.rs 1; have g2 := fofr HT4.out.rs 2; have g3 := fofr HT4.out.rs 3
  dsimp only at c0 c1 c2 c3 r0 r1 r2 r3
  have HT5 := Lib.hid (HT4.out.put (a' := some ⟨g, 0, none⟩) (n' := n) (cap' := k1) (b' := ⟨l.set m (l.getD m Rc.zero).lose, nxt, last, order⟩) 0 (.slice (some ⟨g, 0, none⟩) n k1) rfl)
  have HR5 := Lib.hid (HR4.out.keep (kset W w.heap.size 0 (.slice (some ⟨g, 0, none⟩) n k1)) (by simp; omega))
  have HF := HT5.out.finO (l := l.set m (l.getD m Rc.zero).lose) HR5.out (by omega)
  go_wp2_with fail
  obtain ⟨y0, y1, y2, y3⟩ := sb4_of HF.out.1
  exact bodyPost_ret (v := .tuple #[rbV (some ⟨g, 0, none⟩) n k1 ⟨l.set m (l.getD m Rc.zero).lose, nxt, last, order⟩, .int .i64 0]) (by simp [results, Try.results40, go_sem, y0, y1, y2, y3]) rfl ⟨_, n, k1, rfl, HF.out.2.1, HF.out.2.2⟩
end Go.Proofs.Ytpoifoanigpncaa.bk
/-!   Layer 14's reference: Again.
-/
namespace Go.Proofs.Ytpoifoanigpncaa.bk
open Go.RowKit aid mem sp
attribute [local go_sem ↓] Go.wp_at_zero Go.wp_at_succ
set_option linter.unusedVariables false
set_option linter.unusedSimpArgs false

abbrev rz : Rc := ⟨0, 0, 0, 0, 0, 0, false⟩
abbrev rcO (r : Rc) : Obj := .cells (rcC r) 58
abbrev putR (X : Nat) (r : Rc) (W : World) : World := ((((((W.setCell ⟨X, 0, none⟩ (.int .i64 r.f)).setCell ⟨X, 1, none⟩ (.int .i64 r.t)).setCell ⟨X, 2, none⟩ (.int .i64 r.sent)).setCell ⟨X, 3, none⟩ (.int .i64 r.order)).setCell ⟨X, 4, none⟩ (.int .i64 r.times)).setCell ⟨X, 5, none⟩ (.int .i64 r.out)).setCell ⟨X, 6, none⟩ (.bool r.lost)
theorem setr {w : World} {b i : Nat} {z z' : Rc} (h : w.heap[b]? = some (rcO z)) (u : Value) (hz : (rcC z).setIfInBounds i u = rcC z') : (w.setCell ⟨b, i, none⟩ u).heap[b]? = some (rcO z') := by
  have this : (w.setCell ⟨b, i, none⟩ u).heap[b]? = _ := setp h u
  rw [hz] at this
  exact this
theorem putR_at {X : Nat} {r z : Rc} {W : World} (h : W.heap[X]? = some (rcO z)) : (putR X r W).heap[X]? = some (rcO r) := by
  unfold putR
  have g0 : (W.setCell ⟨X, 0, none⟩ (.int .i64 r.f)).heap[X]? = some (rcO ⟨r.f, z.t, z.sent, z.order, z.times, z.out, z.lost⟩) := setr h _ rfl
  generalize W.setCell ⟨X, 0, none⟩ (.int .i64 r.f) = W0 at *
  have g1 : (W0.setCell ⟨X, 1, none⟩ (.int .i64 r.t)).heap[X]? = some (rcO ⟨r.f, r.t, z.sent, z.order, z.times, z.out, z.lost⟩) := setr g0 _ rfl
  generalize W0.setCell ⟨X, 1, none⟩ (.int .i64 r.t) = W1 at *
  have g2 : (W1.setCell ⟨X, 2, none⟩ (.int .i64 r.sent)).heap[X]? = some (rcO ⟨r.f, r.t, r.sent, z.order, z.times, z.out, z.lost⟩) := setr g1 _ rfl
  generalize W1.setCell ⟨X, 2, none⟩ (.int .i64 r.sent) = W2 at *
  have g3 : (W2.setCell ⟨X, 3, none⟩ (.int .i64 r.order)).heap[X]? = some (rcO ⟨r.f, r.t, r.sent, r.order, z.times, z.out, z.lost⟩) := setr g2 _ rfl
  generalize W2.setCell ⟨X, 3, none⟩ (.int .i64 r.order) = W3 at *
  have g4 : (W3.setCell ⟨X, 4, none⟩ (.int .i64 r.times)).heap[X]? = some (rcO ⟨r.f, r.t, r.sent, r.order, r.times, z.out, z.lost⟩) := setr g3 _ rfl
  generalize W3.setCell ⟨X, 4, none⟩ (.int .i64 r.times) = W4 at *
  have g5 : (W4.setCell ⟨X, 5, none⟩ (.int .i64 r.out)).heap[X]? = some (rcO ⟨r.f, r.t, r.sent, r.order, r.times, r.out, z.lost⟩) := setr g4 _ rfl
  generalize W4.setCell ⟨X, 5, none⟩ (.int .i64 r.out) = W5 at *
  exact setr g5 _ rfl
theorem putR_kept (X : Nat) (r : Rc) (W : World) : Kept [X] W (putR X r W) :=
  (((((((Kept.refl [X] W).setCell (.inl (by simp)) _).setCell (.inl (by simp)) _).setCell (.inl (by simp)) _).setCell (.inl (by simp)) _).setCell (.inl (by simp)) _).setCell (.inl (by simp)) _).setCell (.inl (by simp)) _
abbrev Sr7 (X : Nat) (r : Rc) (W : World) : Prop := RcCs W X 0 r
theorem sr7_of {W : World} {X : Nat} {r : Rc} (h : W.heap[X]? = some (rcO r)) : W.cell? ⟨X, 0, none⟩ = some (.int .i64 r.f) ∧ W.cell? ⟨X, 1, none⟩ = some (.int .i64 r.t) ∧ W.cell? ⟨X, 2, none⟩ = some (.int .i64 r.sent) ∧ W.cell? ⟨X, 3, none⟩ = some (.int .i64 r.order) ∧ W.cell? ⟨X, 4, none⟩ = some (.int .i64 r.times) ∧ W.cell? ⟨X, 5, none⟩ = some (.int .i64 r.out) ∧ W.cell? ⟨X, 6, none⟩ = some (.bool r.lost) :=
  ⟨cofr h 0 _ rfl, cofr h 1 _ rfl, cofr h 2 _ rfl, cofr h 3 _ rfl, cofr h 4 _ rfl, cofr h 5 _ rfl, cofr h 6 _ rfl⟩
theorem tb_new2 (w : World) (a : Option Addr) (n cap : Nat) (b : Rb) : TB w (w.heap.size + 1) a n cap b (((w.alloc (rbO a n cap b)).alloc (rbO none 0 0 ⟨[], 0, 0, 0⟩)).alloc (rcO rz)) ∧ (((w.alloc (rbO a n cap b)).alloc (rbO none 0 0 ⟨[], 0, 0, 0⟩)).alloc (rcO rz)).heap[w.heap.size + 1 + 1]? = some (rcO rz) := by
  have h := tb_new w a n cap b
  have e : ((w.alloc (rbO a n cap b)).alloc (rbO none 0 0 ⟨[], 0, 0, 0⟩)).heap.size = w.heap.size + 1 + 1 := by simp
  generalize (w.alloc (rbO a n cap b)).alloc (rbO none 0 0 ⟨[], 0, 0, 0⟩) = V at *
  have y := heap_alloc_new V (rcO rz)
  rw [e] at y
  exact ⟨h.later (al V _), y⟩
def Rb.again (b : Rb) (m : Nat) (now : Int) : Rb := ⟨b.l.set m ((b.l.getD m Rc.zero).goes now (b.order + 1)), b.nxt, now, b.order + 1⟩
set_option maxRecDepth 100000 in
set_option maxHeartbeats 8000000 in
theorem ragain_yes {w : World} {a : Option Addr} {n cap : Nat} {b : Rb} (h : RcA w a n cap b.l) (hn : n ≤ 900000) {k now : Int} {m : Nat} (hf : Fst b.l k m) (h1 : b.last ≤ now) (h2 : now ≤ 4611686018427387904) (ho : 0 ≤ b.order ∧ b.order ≤ 4611686018427387904)
    (ht : 0 ≤ (b.l.getD m Rc.zero).times ∧ (b.l.getD m Rc.zero).times ≤ 4611686018427387904) (hu : 0 ≤ (b.l.getD m Rc.zero).out ∧ (b.l.getD m Rc.zero).out ≤ 4611686018427387904) :
    Calls Try.prog 38 #[rbV a n cap b, .int .i64 k, .int .i64 now] w (RetB (b.again m now) [rcV ((b.l.getD m Rc.zero).goes now (b.order + 1)), .int .i64 0] w) := by
  obtain ⟨i0, hi, hz0, hz1, hz2⟩ := info_split info_rec
  have HFI := Lib.hid (fun W (hb : Below w.heap.size w W) => rfind_yes (h.later hb) hn hf)
  have hl := h.len
  have hm := hf.lt
  have hle := h.le
  have hmost := h.most
  unfold maxLen at hmost
  have HA := Lib.hid h
  have HT := Lib.hid (tb_new2 w a n cap b).1
  have HX := Lib.hid (tb_new2 w a n cap b).2
  have hmn : m < n := by omega
  have HLN := Lib.hid hl
  obtain ⟨ho0, ho1⟩ := ho
  obtain ⟨ht0, ht1⟩ := ht
  obtain ⟨hu0, hu1⟩ := hu
  clear h hf hl hm
  obtain ⟨l, nxt, last, order⟩ := b
  dsimp only at *
  have HAG : Hid ((⟨l, nxt, last, order⟩ : Rb).again m now = ⟨l.set m ((l.getD m Rc.zero).goes now (order + 1)), nxt, now, order + 1⟩) := Lib.hid rfl
  rw [HAG.out]
  clear HAG
  generalize hr : l.getD m Rc.zero = r at *
  have HRE := Lib.hid hr
  clear hr
  have HGD : Hid (∀ r : Rc, (l.set m r).getD m Rc.zero = r) := Lib.hid (fun r => by simp [List.getD, show m < l.length from by rw [HLN.out]; exact hmn])
  obtain ⟨c0, c1, c2, c3⟩ := HT.out.c0
  dsimp only at c0 c1 c2 c3
  go_enter Try.func38, Try.ntmps38
  go_upto_region 6 with (go_at_call 23; (with_reducible refine (HFI.out _ HT.out.below).mono ?_); rintro e w1 ⟨rfl, hb1⟩; have HT1 := Lib.hid (HT.out.later hb1); have HX1 := Lib.hid ((hb1.block _ (lt_of_block HX.out)).trans HX.out); clear HT HX hb1 c0 c1 c2 c3; obtain ⟨c0, c1, c2, c3⟩ := HT1.out.c0; dsimp only at c0 c1 c2 c3)
  have HA1 := Lib.hid (HA.out.later HT1.out.below)
  clear HA HFI
  have HS0 := Lib.hid ((HA1.out.later (al w1 (.cells #[] 58))).src)
  clear HA1
  have HE := Lib.hid (rc_empty w1)
  have HB5 := Lib.hid (al w1 (.cells #[] 58))
  have l0 := lt_of_block HT1.out.b0
  have l2 := lt_of_block HT1.out.rs
  have l3 := lt_of_block HX1.out
  go_upto_region 7 with (at_builtin; refine wpList_append_sz _ rfl (.tmp 28) (.tmp 30) 52 52 rfl w1.heap.size 58 i0 (.agg #[.int .i64 0, .int .i64 0, .int .i64 0, .int .i64 0, .int .i64 0, .int .i64 0, .bool false]) 7 56 Try.underlying52 hi hz0 hz1 (by decide) hz2 rfl (.slice (some ⟨w1.heap.size, 0, none⟩) 0 0) 0 (rcCells []) rfl HE.out (.slice a n cap) rfl n (rcCells l) HS0.out (by unfold maxLen; omega) (by omega) (by first | omega | (simp only [World.size_alloc]; omega)) ?_; intro a1 k1 w2 ho1' hg1 hw1; simp only [Nat.zero_add] at ho1' ⊢; have HO1 := Lib.hid (show w2.ownsRow w1.heap.size 58 7 (.slice a1 n k1) n (rcCells l) from ho1'); have HB6 := Lib.hid (HB5.out.trans (below_grown hg1 HB5.out.size (fun k hk => by cases hk; exact Nat.le_refl _))); clear ho1' hg1 hw1 c0 c1 c2 c3)
  clear HS0 HE HB5
  have HT2 := Lib.hid (HT1.out.later HB6.out)
  have HX2 := Lib.hid ((HB6.out.block _ (lt_of_block HX1.out)).trans HX1.out)
  obtain ⟨g, rfl, hg1, hg2, hR⟩ := ro_of HO1.out (by omega)
  have HR := Lib.hid hR
  clear hR HO1 HT1 HB6 HX1
  have hk1 : n ≤ k1 := by obtain ⟨_, _, _, h, _⟩ := HR.out.parts; exact h
  obtain ⟨c0, c1, c2, c3⟩ := HT2.out.c0
  dsimp only at c0 c1 c2 c3
  have f2 := fofr HT2.out.b0 2; have f3 := fofr HT2.out.b0 3
  have HT4 := Lib.hid ((HT2.out.put (a' := a) (n' := n) (cap' := cap) (b' := ⟨l, nxt, last, order + 1⟩) 3 (.int .i64 (order + 1)) rfl).put (a' := a) (n' := n) (cap' := cap) (b' := ⟨l, nxt, now, order + 1⟩) 2 (.int .i64 now) rfl)
  have HK4 := Lib.hid ((kset w2 w.heap.size 3 (.int .i64 (order + 1))).trans (kset _ w.heap.size 2 (.int .i64 now)) (by simp))
  have HR4 := Lib.hid (HR.out.keep HK4.out (by simp; omega))
  have HX4 := Lib.hid (HK4.out.heap (by simp <;> omega) HX2.out)
  clear HK4 HX2 HR HT2
  go_upto_region 9 with fail
  clear c0 c1 c2 c3 f2 f3
  generalize (w2.setCell ⟨w.heap.size, 3, none⟩ (.int .i64 (order + 1))).setCell ⟨w.heap.size, 2, none⟩ (.int .i64 now) = V at *
  have n0 : ¬ w.heap.size = g := by omega
  have n1 : ¬ g = w.heap.size := by omega
  replace HR4 : Hid (RO V w1.heap.size g n k1 (l.set m r)) := Lib.hid (by
    have : l.set m r = l := by rw [← HRE.out, show l.getD m Rc.zero = l[m]'(by rw [HLN.out]; exact hmn) from by simp [List.getD, show m < l.length from by rw [HLN.out]; exact hmn], List.set_getElem_self]
    rw [this]; exact HR4.out)
  have hcs := HR4.out.cs hmn
  rw [HGD.out] at hcs
  obtain ⟨d0, d1, d2, d3, d4, d5, d6⟩ := hcs
  (try dsimp only at d0 d1 d2 d3 d4 d5 d6)
  have q := HR4.out.f (m * 7 + 2)
  obtain ⟨c0, c1, c2, c3⟩ := HT4.out.c0
  dsimp only at c0 c1 c2 c3
  go_upto_region 10 with fail
  clear d0 d1 d2 d3 d4 d5 d6 q c0 c1 c2 c3
  replace HX4 := Lib.hid ((kset V g (m * 7 + 2) (.int .i64 now)).heap (by simp; omega) HX4.out)
  replace HT4 := Lib.hid (HT4.out.other (kset V g (m * 7 + 2) (.int .i64 now)) (by omega) (by omega))
  have h4 := HR4.out.set hmn 2 (by omega) (.int .i64 now) ⟨r.f, r.t, now, r.order, r.times, r.out, r.lost⟩ (by rw [HGD.out]; rfl)
  rw [List.set_set] at h4
  replace HR4 := Lib.hid h4
  clear h4
  generalize V.setCell ⟨g, m * 7 + 2, none⟩ (.int .i64 now) = V at *
  have hcs := HR4.out.cs hmn
  rw [HGD.out] at hcs
  obtain ⟨d0, d1, d2, d3, d4, d5, d6⟩ := hcs
  (try dsimp only at d0 d1 d2 d3 d4 d5 d6)
  have q := HR4.out.f (m * 7 + 3)
  obtain ⟨c0, c1, c2, c3⟩ := HT4.out.c0
  dsimp only at c0 c1 c2 c3
  go_upto_region 11 with fail
  clear d0 d1 d2 d3 d4 d5 d6 q c0 c1 c2 c3
  replace HX4 := Lib.hid ((kset V g (m * 7 + 3) (.int .i64 (order + 1))).heap (by simp; omega) HX4.out)
  replace HT4 := Lib.hid (HT4.out.other (kset V g (m * 7 + 3) (.int .i64 (order + 1))) (by omega) (by omega))
  have h4 := HR4.out.set hmn 3 (by omega) (.int .i64 (order + 1)) ⟨r.f, r.t, now, order + 1, r.times, r.out, r.lost⟩ (by rw [HGD.out]; rfl)
  rw [List.set_set] at h4
  replace HR4 := Lib.hid h4
  clear h4
  generalize V.setCell ⟨g, m * 7 + 3, none⟩ (.int .i64 (order + 1)) = V at *
  have hcs := HR4.out.cs hmn
  rw [HGD.out] at hcs
  obtain ⟨d0, d1, d2, d3, d4, d5, d6⟩ := hcs
  (try dsimp only at d0 d1 d2 d3 d4 d5 d6)
  have q := HR4.out.f (m * 7 + 4)
  obtain ⟨c0, c1, c2, c3⟩ := HT4.out.c0
  dsimp only at c0 c1 c2 c3
  go_upto_region 12 with fail
  clear d0 d1 d2 d3 d4 d5 d6 q c0 c1 c2 c3
  replace HX4 := Lib.hid ((kset V g (m * 7 + 4) (.int .i64 (r.times + 1))).heap (by simp; omega) HX4.out)
  replace HT4 := Lib.hid (HT4.out.other (kset V g (m * 7 + 4) (.int .i64 (r.times + 1))) (by omega) (by omega))
  have h4 := HR4.out.set hmn 4 (by omega) (.int .i64 (r.times + 1)) ⟨r.f, r.t, now, order + 1, r.times + 1, r.out, r.lost⟩ (by rw [HGD.out]; rfl)
  rw [List.set_set] at h4
  replace HR4 := Lib.hid h4
  clear h4
  generalize V.setCell ⟨g, m * 7 + 4, none⟩ (.int .i64 (r.times + 1)) = V at *
  have hcs := HR4.out.cs hmn
  rw [HGD.out] at hcs
  obtain ⟨d0, d1, d2, d3, d4, d5, d6⟩ := hcs
  (try dsimp only at d0 d1 d2 d3 d4 d5 d6)
  have q := HR4.out.f (m * 7 + 5)
  obtain ⟨c0, c1, c2, c3⟩ := HT4.out.c0
  dsimp only at c0 c1 c2 c3
  go_upto_region 13 with fail
  clear d0 d1 d2 d3 d4 d5 d6 q c0 c1 c2 c3
  replace HX4 := Lib.hid ((kset V g (m * 7 + 5) (.int .i64 (r.out + 1))).heap (by simp; omega) HX4.out)
  replace HT4 := Lib.hid (HT4.out.other (kset V g (m * 7 + 5) (.int .i64 (r.out + 1))) (by omega) (by omega))
  have h4 := HR4.out.set hmn 5 (by omega) (.int .i64 (r.out + 1)) ⟨r.f, r.t, now, order + 1, r.times + 1, r.out + 1, r.lost⟩ (by rw [HGD.out]; rfl)
  rw [List.set_set] at h4
  replace HR4 := Lib.hid h4
  clear h4
  generalize V.setCell ⟨g, m * 7 + 5, none⟩ (.int .i64 (r.out + 1)) = V at *
  have hcs := HR4.out.cs hmn
  rw [HGD.out] at hcs
  obtain ⟨d0, d1, d2, d3, d4, d5, d6⟩ := hcs
  (try dsimp only at d0 d1 d2 d3 d4 d5 d6)
  have q := HR4.out.f (m * 7 + 6)
  obtain ⟨c0, c1, c2, c3⟩ := HT4.out.c0
  dsimp only at c0 c1 c2 c3
  go_upto_region 14 with fail
  clear d0 d1 d2 d3 d4 d5 d6 q c0 c1 c2 c3
  replace HX4 := Lib.hid ((kset V g (m * 7 + 6) (.bool false)).heap (by simp; omega) HX4.out)
  replace HT4 := Lib.hid (HT4.out.other (kset V g (m * 7 + 6) (.bool false)) (by omega) (by omega))
  have h4 := HR4.out.set hmn 6 (by omega) (.bool false) ⟨r.f, r.t, now, order + 1, r.times + 1, r.out + 1, false⟩ (by rw [HGD.out]; rfl)
  rw [List.set_set] at h4
  replace HR4 := Lib.hid h4
  clear h4
  generalize V.setCell ⟨g, m * 7 + 6, none⟩ (.bool false) = V at *
  have HR9 : Hid (RO V w1.heap.size g n k1 (l.set m (r.goes now (order + 1)))) := Lib.hid HR4.out
  have HT9 := Lib.hid HT4.out
  have HX9 := Lib.hid HX4.out
  clear HT4 HX4 HR4
  obtain ⟨c0, c1, c2, c3⟩ := HT9.out.c0
  dsimp only at c0 c1 c2 c3
  have f0 := fofr HT9.out.b0 0
  have HT10 := Lib.hid (HT9.out.put (a' := some ⟨g, 0, none⟩) (n' := n) (cap' := k1) (b' := ⟨l.set m (r.goes now (order + 1)), nxt, now, order + 1⟩) 0 (.slice (some ⟨g, 0, none⟩) n k1) rfl)
  have HK10 := Lib.hid (kset V w.heap.size 0 (.slice (some ⟨g, 0, none⟩) n k1))
  have HR10 := Lib.hid (HR9.out.keep HK10.out (by simp; omega))
  have HX10 := Lib.hid (HK10.out.heap (by simp <;> omega) HX9.out)
  clear HK10 HR9 HX9 HT9
  go_upto_region 15 with fail
  clear c0 c1 c2 c3 f0
  generalize V.setCell ⟨w.heap.size, 0, none⟩ (.slice (some ⟨g, 0, none⟩) n k1) = U at *
  have hcs := HR10.out.cs hmn
  rw [HGD.out] at hcs
  generalize hx : (r.goes now (order + 1)) = x at *
  have HXE := Lib.hid hx
  clear hx
  have HP : Hid (∀ W', Kept [w.heap.size + 1, w.heap.size + 1 + 1] U W' → (W'.cell? ⟨w.heap.size, 0, none⟩ = some (.slice (some ⟨g, 0, none⟩) n k1) ∧ W'.cell? ⟨w.heap.size, 1, none⟩ = some (.int .i64 nxt) ∧ W'.cell? ⟨w.heap.size, 2, none⟩ = some (.int .i64 now) ∧ W'.cell? ⟨w.heap.size, 3, none⟩ = some (.int .i64 (order + 1)) ∧ W'.cell? ⟨g, m * 7, none⟩ = some (.int .i64 x.f) ∧ W'.cell? ⟨g, m * 7 + 1, none⟩ = some (.int .i64 x.t) ∧ W'.cell? ⟨g, m * 7 + 2, none⟩ = some (.int .i64 x.sent) ∧ W'.cell? ⟨g, m * 7 + 3, none⟩ = some (.int .i64 x.order) ∧ W'.cell? ⟨g, m * 7 + 4, none⟩ = some (.int .i64 x.times) ∧ W'.cell? ⟨g, m * 7 + 5, none⟩ = some (.int .i64 x.out) ∧ W'.cell? ⟨g, m * 7 + 6, none⟩ = some (.bool x.lost))) := Lib.hid (by
    intro W' hk
    obtain ⟨c0, c1, c2, c3⟩ := HT10.out.c0
    obtain ⟨d0, d1, d2, d3, d4, d5, d6⟩ := hcs
    have z0 : w.heap.size ∉ [w.heap.size + 1, w.heap.size + 1 + 1] := by simp <;> omega
    have z1 : g ∉ [w.heap.size + 1, w.heap.size + 1 + 1] := by simp; omega
    exact ⟨hk.cell z0 c0, hk.cell z0 c1, hk.cell z0 c2, hk.cell z0 c3, hk.cell z1 d0, hk.cell z1 d1, hk.cell z1 d2, hk.cell z1 d3, hk.cell z1 d4, hk.cell z1 d5, hk.cell z1 d6⟩)
  clear hcs
  have K0 : Kept [w.heap.size + 1, w.heap.size + 1 + 1] U U := Kept.refl _ U
  have KD : Kept [w.heap.size + 1, w.heap.size + 1 + 1] U U.drew := (Kept.refl _ U).drew
  have KB := fun W => (putB_kept (w.heap.size + 1) n k1 (some ⟨g, 0, none⟩) (⟨l.set m x, nxt, now, order + 1⟩ : Rb) W)
  have KR := fun W => (putR_kept (w.heap.size + 1 + 1) x W)
  have P0 := HP.out _ KD
  have P1 := HP.out _ ((K0.trans (KB U) (by simp)).drew)
  have P2 := HP.out _ ((K0.trans (KR U) (by simp)).drew)
  have P3 := HP.out _ (((K0.trans (KB U) (by simp)).trans (KR _) (by simp)).drew)
  have P4 := HP.out _ (((K0.trans (KR U) (by simp)).trans (KB _) (by simp)).drew)
  have HEN : Hid (∀ W', Kept [w.heap.size + 1, w.heap.size + 1 + 1] U W' → W'.ownsRow w.heap.size 58 7 (.slice (some ⟨g, 0, none⟩) n k1) n (rcCells (l.set m x)) ∧ Below w.heap.size w W') := Lib.hid (by
    intro W' hk
    exact ⟨own_base (HR10.out.keep hk (by simp; omega)) (by omega), HT10.out.below.trans (hk.below (by simp <;> omega) HT10.out.below.size)⟩)
  have HA1 := Lib.hid (And.intro ((KR (putB (w.heap.size + 1) (some ⟨g, 0, none⟩) n k1 (⟨l.set m x, nxt, now, order + 1⟩ : Rb) U)).heap (by simp) (putB_at (a := some ⟨g, 0, none⟩) (n := n) (cap := k1) (b := (⟨l.set m x, nxt, now, order + 1⟩ : Rb)) HT10.out.rs)) (putR_at (r := x) ((KB U).heap (by simp) HX10.out)))
  have HA2 := Lib.hid (And.intro (putB_at (a := some ⟨g, 0, none⟩) (n := n) (cap := k1) (b := (⟨l.set m x, nxt, now, order + 1⟩ : Rb)) ((KR U).heap (by simp) HT10.out.rs)) ((KB (putR (w.heap.size + 1 + 1) x U)).heap (by simp) (putR_at (r := x) HX10.out)))
  have KA1 := Lib.hid (((K0.trans (KB U) (by simp)).trans (KR _) (by simp)).drew)
  have KA2 := Lib.hid (((K0.trans (KR U) (by simp)).trans (KB _) (by simp)).drew)
  obtain ⟨r0, r1, r2, r3⟩ := HT10.out.cr
  obtain ⟨e0, e1, e2, e3, e4, e5, e6⟩ := sr7_of HX10.out
  have g0 := fofr HT10.out.rs 0; have g1 := fofr HT10.out.rs 1; have g2 := fofr HT10.out.rs 2; have g3 := fofr HT10.out.rs 3
  have k0 := fofr HX10.out 0; have k1' := fofr HX10.out 1; have k2 := fofr HX10.out 2; have k3 := fofr HX10.out 3; have k4 := fofr HX10.out 4; have k5 := fofr HX10.out 5; have k6 := fofr HX10.out 6
  dsimp only at r0 r1 r2 r3
  go_region_held3 (fun w' => w'.cell? ⟨w.heap.size, 0, none⟩ = some (.slice (some ⟨g, 0, none⟩) n k1) ∧ w'.cell? ⟨w.heap.size, 1, none⟩ = some (.int .i64 nxt) ∧ w'.cell? ⟨w.heap.size, 2, none⟩ = some (.int .i64 now) ∧ w'.cell? ⟨w.heap.size, 3, none⟩ = some (.int .i64 (order + 1)) ∧ w'.cell? ⟨g, m * 7, none⟩ = some (.int .i64 x.f) ∧ w'.cell? ⟨g, m * 7 + 1, none⟩ = some (.int .i64 x.t) ∧ w'.cell? ⟨g, m * 7 + 2, none⟩ = some (.int .i64 x.sent) ∧ w'.cell? ⟨g, m * 7 + 3, none⟩ = some (.int .i64 x.order) ∧ w'.cell? ⟨g, m * 7 + 4, none⟩ = some (.int .i64 x.times) ∧ w'.cell? ⟨g, m * 7 + 5, none⟩ = some (.int .i64 x.out) ∧ w'.cell? ⟨g, m * 7 + 6, none⟩ = some (.bool x.lost)) (first | with_reducible exact P4 | with_reducible exact P3 | with_reducible exact P2 | with_reducible exact P1 | with_reducible exact P0 | go_keep)
    (fail)
  all_goals
    first
    | (obtain ⟨y0, y1, y2, y3⟩ := sb4_of HA1.out.1
       obtain ⟨z0, z1, z2, z3, z4, z5, z6⟩ := sr7_of HA1.out.2
       have HQ := HEN.out _ KA1.out
       clear P0 P1 P2 P3 P4 HP KD K0 KB KR r0 r1 r2 r3 e0 e1 e2 e3 e4 e5 e6 g0 g1 g2 g3 k0 k1' k2 k3 k4 k5 k6
       go_wp2_with fail
       exact bodyPost_ret (v := .tuple #[rbV (some ⟨g, 0, none⟩) n k1 ⟨l.set m x, nxt, now, order + 1⟩, rcV x, .int .i64 0]) (by simp [results, Try.results38, go_sem, y0, y1, y2, y3, z0, z1, z2, z3, z4, z5, z6]) rfl ⟨_, n, k1, rfl, HQ.1, HQ.2⟩)
    | (obtain ⟨y0, y1, y2, y3⟩ := sb4_of HA2.out.1
       obtain ⟨z0, z1, z2, z3, z4, z5, z6⟩ := sr7_of HA2.out.2
       have HQ := HEN.out _ KA2.out
       clear P0 P1 P2 P3 P4 HP KD K0 KB KR r0 r1 r2 r3 e0 e1 e2 e3 e4 e5 e6 g0 g1 g2 g3 k0 k1' k2 k3 k4 k5 k6
       go_wp2_with fail
       exact bodyPost_ret (v := .tuple #[rbV (some ⟨g, 0, none⟩) n k1 ⟨l.set m x, nxt, now, order + 1⟩, rcV x, .int .i64 0]) (by simp [results, Try.results38, go_sem, y0, y1, y2, y3, z0, z1, z2, z3, z4, z5, z6]) rfl ⟨_, n, k1, rfl, HQ.1, HQ.2⟩)
end Go.Proofs.Ytpoifoanigpncaa.bk
/-!   Layer 15's law: fly's book, the document's beside it.
-/
namespace Go.Proofs.Ytpoifoanigpncaa.bk
open Go.RowKit aid mem sp
set_option linter.unusedVariables false
set_option linter.unusedSimpArgs false

theorem own_ty {w : World} {base : Nat} {e : TypeId} {sz : Nat} {v : Value} {n : Nat} {xs : List Value} (h : w.ownsRow base e sz v n xs) {k : Nat} (hk : v.ownBlock = some k) : ∃ cur, w.heap[k]? = some (.cells cur e (0, 0)) := by
  rcases h.2 with ⟨rfl, _⟩ | ⟨g, cap, cur, rfl, _, hg, _⟩
  · cases hk
  · cases hk; exact ⟨cur, hg⟩
/-- the book's own blocks are of three kinds -/
theorem Bk.types {w : World} {B T : Nat} {s : Hd} {N L : List Nd} (h : Bk w B T s N L) : ∀ k ∈ fp B T L, ∃ cs t, w.heap[k]? = some (.cells cs t (0, 0)) ∧ (t = 104 ∨ t = 122 ∨ t = 107) := by
  intro k hk
  unfold fp at hk
  rcases List.mem_cons.1 hk with rfl | hk
  · exact ⟨_, _, h.ln.bk, .inl rfl⟩
  · rcases List.mem_cons.1 hk with rfl | hk
    · obtain ⟨t, ⟨q, h2, _⟩, _⟩ := h.tr
      exact ⟨_, _, h2, .inr (.inl rfl)⟩
    · obtain ⟨x, hx, rfl⟩ := List.mem_map.1 hk
      obtain ⟨p, q, hn⟩ := seg_mem h.ln.sg hx
      exact ⟨_, _, hn, .inr (.inr rfl)⟩
theorem Bk.no54 {w : World} {B T : Nat} {s : Hd} {N L : List Nd} (h : Bk w B T s N L) {X : Nat} {cs : Array Value} (hX : w.heap[X]? = some (.cells cs 54 (0, 0))) : X ∉ fp B T L := by
  intro hk
  obtain ⟨cs', t, h1, h2⟩ := h.types X hk
  rw [h1] at hX
  simp at hX
  obtain ⟨_, rfl⟩ := hX
  rcases h2 with h2 | h2 | h2 <;> revert h2 <;> decide
theorem Bk.no58 {w : World} {B T : Nat} {s : Hd} {N L : List Nd} (h : Bk w B T s N L) {X : Nat} {cs : Array Value} (hX : w.heap[X]? = some (.cells cs 58 (0, 0))) : X ∉ fp B T L := by
  intro hk
  obtain ⟨cs', t, h1, h2⟩ := h.types X hk
  rw [h1] at hX
  simp at hX
  obtain ⟨_, rfl⟩ := hX
  rcases h2 with h2 | h2 | h2 <;> revert h2 <;> decide
/-- the program's book, the document's in a box at X, its row, the flight's box, the answer's -/
structure FY (w0 : World) (X B T : Nat) (s : Hd) (N L : List Nd) (a : Option Addr) (n cap : Nat) (b : Rb) (fv : Array Value) (W : World) : Prop where
  bk : Bk W B T s N L
  bx : W.heap[X]? = some (rbO a n cap b)
  ow : W.ownsRow (X + 1) 58 7 (.slice a n cap) n (rcCells b.l)
  fl : W.heap[w0.heap.size]? = some (.cells fv 50 (0, 0))
  rs : W.heap[w0.heap.size + 1]? = some (rbO none 0 0 ⟨[], 0, 0, 0⟩)
  below : Below w0.heap.size w0 W
  fresh : ∀ k ∈ fp B T L, w0.heap.size + 1 < k
  xn : w0.heap.size + 1 < X
section
variable {w0 W W' : World} {X B T n cap : Nat} {s s' : Hd} {N L N' L' : List Nd} {a : Option Addr} {b : Rb} {fv : Array Value}
theorem FY.later (h : FY w0 X B T s N L a n cap b fv W) (hb : Below W.heap.size W W') : FY w0 X B T s N L a n cap b fv W' :=
  ⟨h.bk.later hb, (hb.block _ (lt_of_block h.bx)).trans h.bx, own_later h.ow hb, (hb.block _ (lt_of_block h.fl)).trans h.fl, (hb.block _ (lt_of_block h.rs)).trans h.rs, h.below.trans (hb.mono h.below.size), h.fresh, h.xn⟩
theorem FY.drew (h : FY w0 X B T s N L a n cap b fv W) : FY w0 X B T s N L a n cap b fv W.drew := h.later (Below.refl _ _).drew
/-- the program's book was written -/
theorem FY.prog (h : FY w0 X B T s N L a n cap b fv W) (hk : Kept (fp B T L) W W') (h2 : Bk W' B T s' N' L') (hf : ∀ k ∈ fp B T L', w0.heap.size + 1 < k) : FY w0 X B T s' N' L' a n cap b fv W' := by
  refine ⟨h2, hk.heap (h.bk.no54 h.bx) h.bx, own_step h.ow (fun k o hko ho => ?_), hk.heap (fun hm => by have := h.fresh _ hm; omega) h.fl, hk.heap (fun hm => by have := h.fresh _ hm; omega) h.rs, h.below.trans (hk.below (fun k hm => by have := h.fresh _ hm; omega) h.below.size), hf, h.xn⟩
  obtain ⟨cur, hcur⟩ := own_ty h.ow hko
  exact hk.heap (h.bk.no58 hcur) ho
/-- the document's book is stored -/
theorem FY.ref {W2 : World} {a' : Option Addr} {n' cap' : Nat} {b' : Rb} (h : FY w0 X B T s N L a n cap b fv W) (hb : Below W.heap.size W W2) (ho : W2.ownsRow W.heap.size 58 7 (.slice a' n' cap') n' (rcCells b'.l)) :
    FY w0 X B T s N L a' n' cap' b' fv (putB X a' n' cap' b' W2) := by
  have h2 := h.later hb
  have kk := putB_kept X n' cap' a' b' W2
  have hX : X ∉ fp B T L := h2.bk.no54 h2.bx
  have hxn := h.xn
  have hlt := lt_of_block h.bx
  refine ⟨h2.bk.other kk hX (fun cs e => ?_), putB_at h2.bx, own_step (own_base ho (by omega)) (fun k o hko hk2 => ?_), kk.heap (by simp; omega) h2.fl, kk.heap (by simp; omega) h2.rs, h2.below.trans (kk.below (by simp; omega) h2.below.size), h.fresh, h.xn⟩
  · rw [h2.bx] at e; simp at e
  · have := (own_in ho hko).2
    exact kk.heap (by simp; omega) hk2
/-- the document's book, as it was, is stored -/
theorem FY.ref0 {W2 : World} (h : FY w0 X B T s N L a n cap b fv W) (hb : Below W.heap.size W W2) : FY w0 X B T s N L a n cap b fv (putB X a n cap b W2) := by
  have h2 := h.later hb
  have kk := putB_kept X n cap a b W2
  have hX : X ∉ fp B T L := h2.bk.no54 h2.bx
  have hxn := h.xn
  refine ⟨h2.bk.other kk hX (fun cs e => ?_), putB_at h2.bx, own_step h2.ow (fun k o hko hk2 => ?_), kk.heap (by simp; omega) h2.fl, kk.heap (by simp; omega) h2.rs, h2.below.trans (kk.below (by simp; omega) h2.below.size), h.fresh, h.xn⟩
  · rw [h2.bx] at e; simp at e
  · have := (own_in h2.ow hko).2
    exact kk.heap (by simp; omega) hk2
theorem FY.rca (h : FY w0 X B T s N L a n cap b fv W) : RcA W a n cap b.l := by
  obtain ⟨a', c, he, hr⟩ := own_rc h.ow
  cases he
  exact hr
end
/-- the document's book is the program's -/
abbrev same (s : Hd) (N : List Nd) : Rb := ⟨N.map (·.2), s.nxt, s.now, s.sent⟩
theorem same_send {s : Hd} {N : List Nd} {p : Int × Int} {now : Int} {n : Nat} : (same s N).send p now = same ⟨p.2, s.sent + 1, now⟩ (N ++ [(n, sendR s p now)]) := by
  unfold same Rb.send sendR
  simp
end Go.Proofs.Ytpoifoanigpncaa.bk
/-!   Layer 15's law: what stays of fly's book.
-/
namespace Go.Proofs.Ytpoifoanigpncaa.bk
open Go.RowKit aid mem sp
set_option linter.unusedVariables false
set_option linter.unusedSimpArgs false

/-- what was sent later stands behind -/
def Mo (L : List Nd) : Prop := L.Pairwise (fun x y => x.2.sent ≤ y.2.sent)
/-- behind c calls at most -/
structure FI (c : Nat) (s : Hd) (N L : List Nd) : Prop where
  nxt : 0 ≤ s.nxt ∧ s.nxt ≤ c * 256
  now : 0 ≤ s.now ∧ s.now ≤ c * 255
  sent : 0 ≤ s.sent ∧ s.sent ≤ c
  len : N.length ≤ c
  rc : ∀ x ∈ N, (0 ≤ x.2.sent ∧ x.2.sent ≤ s.now) ∧ (1 ≤ x.2.times ∧ x.2.times ≤ c) ∧ (0 ≤ x.2.out ∧ x.2.out ≤ c) ∧ (1 ≤ x.2.order ∧ x.2.order ≤ s.sent) ∧ (x.2.lost = true → x.2.out = 0)
  perm : L.Perm N
  ord : Ord L
  mon : Mo L
theorem fi_nil : FI 0 ⟨0, 0, 0⟩ [] [] := ⟨by simp, by simp, by simp, by simp, fun x hx => by simp at hx, List.Perm.nil, List.Pairwise.nil, List.Pairwise.nil⟩
section
variable {c : Nat} {s : Hd} {N L : List Nd}
theorem FI.ordL (h : FI c s N L) : ∀ x ∈ L, x.2.order ≤ s.sent := fun x hx => (h.rc x (h.perm.mem_iff.1 hx)).2.2.2.1.2
theorem FI.sentL (h : FI c s N L) : ∀ x ∈ L, x.2.sent ≤ s.now := fun x hx => (h.rc x (h.perm.mem_iff.1 hx)).1.2
theorem FI.send (h : FI c s N L) {p : Int × Int} {now : Int} {n : Nat} (h1 : s.nxt ≤ p.2) (h2 : p.2 ≤ s.nxt + 256) (h3 : s.now ≤ now) (h4 : now ≤ s.now + 255) : FI (c + 1) ⟨p.2, s.sent + 1, now⟩ (N ++ [(n, sendR s p now)]) (L ++ [(n, sendR s p now)]) := by
  have hL := h.ordL
  have hS := h.sentL
  obtain ⟨⟨a0, a1⟩, ⟨b0, b1⟩, ⟨d0, d1⟩, e, f, g, i, j⟩ := h
  refine ⟨by dsimp only; omega, by dsimp only; omega, by dsimp only; omega, by simp; omega, fun x hx => ?_, g.append (List.Perm.refl _), ?_, ?_⟩
  · rcases List.mem_append.1 hx with hx | hx
    · obtain ⟨⟨q1, q2⟩, ⟨q3, q4⟩, ⟨q5, q6⟩, ⟨q7, q8⟩, q9⟩ := f x hx
      exact ⟨by dsimp only; omega, by omega, by omega, by dsimp only; omega, q9⟩
    · simp at hx
      subst hx
      unfold sendR
      dsimp only
      exact ⟨by omega, by omega, by omega, by omega, fun h => by cases h⟩
  · unfold Ord
    rw [List.pairwise_append]
    refine ⟨i, by simp, fun x hx y hy => ?_⟩
    simp at hy
    subst hy
    have := hL x hx
    unfold sendR
    dsimp only
    omega
  · unfold Mo
    rw [List.pairwise_append]
    refine ⟨j, by simp, fun x hx y hy => ?_⟩
    simp at hy
    subst hy
    have := hS x hx
    unfold sendR
    dsimp only
    omega
end
/-- nodes in the middle -/
theorem FI.again {c : Nat} {s : Hd} {N1 N2 P Q : List Nd} {n : Nat} {r : Rc} (h : FI c s (N1 ++ (n, r) :: N2) (P ++ (n, r) :: Q)) {now : Int} (h3 : s.now ≤ now) (h4 : now ≤ s.now + 255) : FI (c + 1) (s.goes now) (N1 ++ (n, r.goes now (s.sent + 1)) :: N2) ((P ++ Q) ++ [(n, r.goes now (s.sent + 1))]) := by
  have hL := h.ordL
  have hS := h.sentL
  obtain ⟨⟨a0, a1⟩, ⟨b0, b1⟩, ⟨d0, d1⟩, e, f, g, i, j⟩ := h
  unfold Hd.goes
  refine ⟨by dsimp only; omega, by dsimp only; omega, by dsimp only; omega, by simp at e ⊢; omega, fun x hx => ?_, (perm_mid (y := (n, r.goes now (s.sent + 1))) g).2.2, ?_, ?_⟩
  · have old : ∀ x ∈ N1 ++ (n, r) :: N2, (0 ≤ x.2.sent ∧ x.2.sent ≤ now) ∧ (1 ≤ x.2.times ∧ x.2.times ≤ ((c + 1 : Nat) : Int)) ∧ (0 ≤ x.2.out ∧ x.2.out ≤ ((c + 1 : Nat) : Int)) ∧ (1 ≤ x.2.order ∧ x.2.order ≤ s.sent + 1) ∧ (x.2.lost = true → x.2.out = 0) := by
      intro x hx
      obtain ⟨⟨q1, q2⟩, ⟨q3, q4⟩, ⟨q5, q6⟩, ⟨q7, q8⟩, q9⟩ := f x hx
      exact ⟨by omega, by omega, by omega, by omega, q9⟩
    rcases List.mem_append.1 hx with hx | hx
    · exact old x (List.mem_append.2 (.inl hx))
    · rcases List.mem_cons.1 hx with rfl | hx
      · obtain ⟨⟨q1, q2⟩, ⟨q3, q4⟩, ⟨q5, q6⟩, ⟨q7, q8⟩, q9⟩ := f (n, r) (by simp)
        dsimp only at q1 q2 q3 q4 q5 q6 q7 q8
        unfold Rc.goes
        dsimp only
        exact ⟨by omega, by omega, by omega, by omega, fun h => by cases h⟩
      · exact old x (List.mem_append.2 (.inr (List.mem_cons_of_mem _ hx)))
  · unfold Ord at i ⊢
    rw [List.pairwise_append] at i ⊢
    obtain ⟨i1, i2, i3⟩ := i
    obtain ⟨i4, i5⟩ := List.pairwise_cons.1 i2
    refine ⟨List.pairwise_append.2 ⟨i1, i5, fun x hx y hy => i3 x hx y (List.mem_cons_of_mem _ hy)⟩, by simp, fun x hx y hy => ?_⟩
    simp at hy
    subst hy
    have hx2 : x ∈ P ++ (n, r) :: Q := by
      rcases List.mem_append.1 hx with hx | hx
      · exact List.mem_append.2 (.inl hx)
      · exact List.mem_append.2 (.inr (List.mem_cons_of_mem _ hx))
    have := hL x hx2
    unfold Rc.goes
    dsimp only
    omega
  · unfold Mo at j ⊢
    rw [List.pairwise_append] at j ⊢
    obtain ⟨i1, i2, i3⟩ := j
    obtain ⟨i4, i5⟩ := List.pairwise_cons.1 i2
    refine ⟨List.pairwise_append.2 ⟨i1, i5, fun x hx y hy => i3 x hx y (List.mem_cons_of_mem _ hy)⟩, by simp, fun x hx y hy => ?_⟩
    simp at hy
    subst hy
    have hx2 : x ∈ P ++ (n, r) :: Q := by
      rcases List.mem_append.1 hx with hx | hx
      · exact List.mem_append.2 (.inl hx)
      · exact List.mem_append.2 (.inr (List.mem_cons_of_mem _ hx))
    have := hS x hx2
    unfold Rc.goes
    dsimp only
    omega
theorem FI.lose {c : Nat} {s : Hd} {N1 N2 P Q : List Nd} {n : Nat} {r : Rc} (h : FI c s (N1 ++ (n, r) :: N2) (P ++ (n, r) :: Q)) : FI c s (N1 ++ (n, r.lose) :: N2) (P ++ (n, r.lose) :: Q) := by
  obtain ⟨a, b, d, e, f, g, i, j⟩ := h
  refine ⟨a, b, d, by simp at e ⊢; omega, fun x hx => ?_, (perm_mid (y := (n, r.lose)) g).2.1, ?_, ?_⟩
  · rcases List.mem_append.1 hx with hx | hx
    · exact f x (List.mem_append.2 (.inl hx))
    · rcases List.mem_cons.1 hx with rfl | hx
      · obtain ⟨q1, q2, q3, q4, q5⟩ := f (n, r) (by simp)
        unfold Rc.lose
        exact ⟨q1, q2, by dsimp only; omega, q4, fun _ => rfl⟩
      · exact f x (List.mem_append.2 (.inr (List.mem_cons_of_mem _ hx)))
  · unfold Ord at i ⊢
    rw [List.pairwise_append] at i ⊢
    obtain ⟨i1, i2, i3⟩ := i
    obtain ⟨i4, i5⟩ := List.pairwise_cons.1 i2
    refine ⟨i1, List.pairwise_cons.2 ⟨i4, i5⟩, fun x hx y hy => ?_⟩
    rcases List.mem_cons.1 hy with rfl | hy
    · exact i3 x hx (n, r) (by simp)
    · exact i3 x hx y (List.mem_cons_of_mem _ hy)
  · unfold Mo at j ⊢
    rw [List.pairwise_append] at j ⊢
    obtain ⟨i1, i2, i3⟩ := j
    obtain ⟨i4, i5⟩ := List.pairwise_cons.1 i2
    refine ⟨i1, List.pairwise_cons.2 ⟨i4, i5⟩, fun x hx y hy => ?_⟩
    rcases List.mem_cons.1 hy with rfl | hy
    · exact i3 x hx (n, r) (by simp)
    · exact i3 x hx y (List.mem_cons_of_mem _ hy)
/-- one that is lost stays as it is -/
theorem lose_lost {r : Rc} (h1 : r.lost = true) (h2 : r.out = 0) : r.lose = r := by
  obtain ⟨f, t, sent, order, times, out, lost⟩ := r
  dsimp only at h1 h2
  subst h1 h2
  rfl
/-- the node at a place -/
theorem nd_split (N : List Nd) (m : Nat) (hm : m < N.length) : ∃ N1 N2 n r, N = N1 ++ (n, r) :: N2 ∧ N1.length = m := by
  refine ⟨N.take m, N.drop (m + 1), (N[m]).1, (N[m]).2, ?_, by simp; omega⟩
  have : N.drop m = N[m] :: N.drop (m + 1) := List.drop_eq_getElem_cons hm
  rw [show ((N[m]).1, (N[m]).2) = N[m] from rfl, ← this, List.take_append_drop]
theorem ln_split {L N1 N2 : List Nd} {n : Nat} {r : Rc} (h : L.Perm (N1 ++ (n, r) :: N2)) : ∃ P Q, L = P ++ (n, r) :: Q :=
  List.append_of_mem (h.mem_iff.2 (by simp))
/-- it is the first one that begins there -/
theorem fst_mid {N1 N2 : List Nd} {n : Nat} {r : Rc} {nxt : Int} (h : Up (N1 ++ (n, r) :: N2) nxt) : Fst ((N1 ++ (n, r) :: N2).map (·.2)) r.f N1.length := by
  have hup := List.pairwise_append.1 h.up
  refine ⟨by simp, fun i hi => ?_, ?_⟩
  · have e : ((N1 ++ (n, r) :: N2).map (·.2)).getD i Rc.zero = (N1[i]).2 := by simp [List.getD, List.getElem?_append, hi]
    rw [e]
    have hm : N1[i] ∈ N1 := List.getElem_mem hi
    have h1 := hup.2.2 _ hm (n, r) (by simp)
    have h2 := (h.ok _ (List.mem_append.2 (.inl hm))).1
    simp
    dsimp only at h1
    omega
  · simp [List.getD]
theorem at_mid {N1 N2 : List Nd} {n : Nat} {r : Rc} : ((N1 ++ (n, r) :: N2).map (·.2)).getD N1.length Rc.zero = r := by simp [List.getD]
theorem set_mid {N1 N2 : List Nd} {n : Nat} {r r' : Rc} : ((N1 ++ (n, r) :: N2).map (·.2)).set N1.length r' = (N1 ++ (n, r') :: N2).map (·.2) := by
  simp [List.set_append]
end Go.Proofs.Ytpoifoanigpncaa.bk
/-!   Layer 15's law: fly (under way).
-/
namespace Go.Proofs.Ytpoifoanigpncaa.bk
open Go.RowKit aid mem sp
attribute [local go_sem ↓] Go.wp_at_zero Go.wp_at_succ
set_option linter.unusedVariables false
set_option linter.unusedSimpArgs false

theorem len_new {a b : Int} (h0 : 0 ≤ a) (h1 : a < b) (h2 : b ≤ 4611686018427387904) : lenI (a, b) ≠ 0 := by
  have : fitP a b = (a, b) := fit_self ⟨h0, Int.le_of_lt h1, h2⟩
  unfold lenI
  rw [this]
  dsimp only
  omega
theorem Bk.noSp {w : World} {B T : Nat} {s : Hd} {N L : List Nd} (h : Bk w B T s N L) {X : Nat} {cs : Array Value} (hX : w.heap[X]? = some (.cells cs 24 (0, 0))) : X ∉ fp B T L := by
  intro hk
  obtain ⟨cs', t, h1, h2⟩ := h.types X hk
  rw [h1] at hX
  simp at hX
  obtain ⟨_, rfl⟩ := hX
  rcases h2 with h2 | h2 | h2 <;> revert h2 <;> decide
theorem fp_snoc {B T : Nat} {L : List Nd} {n : Nat} {r : Rc} {k : Nat} (h : k ∈ fp B T (L ++ [(n, r)])) : k ∈ fp B T L ∨ k = n := by
  unfold fp at h ⊢
  simp only [List.map_append, List.map_cons, List.map_nil, List.mem_cons, List.mem_append, List.not_mem_nil, or_false] at h ⊢
  rcases h with h | h | h | h
  · exact .inl (.inl h)
  · exact .inl (.inr (.inl h))
  · exact .inl (.inr (.inr h))
  · exact .inr h
theorem FI.mono {c c' : Nat} {s : Hd} {N L : List Nd} (h : FI c s N L) (hc : c ≤ c') : FI c' s N L := by
  obtain ⟨⟨a0, a1⟩, ⟨b0, b1⟩, ⟨d0, d1⟩, e, f, g, i, j⟩ := h
  refine ⟨by omega, by omega, by omega, by omega, fun x hx => ?_, g, i, j⟩
  obtain ⟨q1, ⟨q2, q3⟩, ⟨q4, q5⟩, q6, q7⟩ := f x hx
  exact ⟨q1, by omega, by omega, q6, q7⟩
/-- the records one by one -/
theorem RcA.at_ {w : World} {a : Option Addr} {n cap : Nat} {l : List Rc} (h : RcA w a n cap l) (h0 : 0 < n) : ∃ b off, a = some ⟨b, off, none⟩ ∧ ∀ i, i < n → RcCs w b (off + i * 7) (l.getD i Rc.zero) := by
  rcases h.cells with ⟨_, hc⟩ | h
  · have := h.le; omega
  · exact h
theorem tmod_nat {z : Int} {n : Nat} (hz : 0 ≤ z) (hn : 0 < n) : ∃ q : Nat, z.tmod (n : Int) = (q : Int) ∧ z % (n : Int) = (q : Int) ∧ q < n := by
  have h1 := Int.emod_nonneg z (b := (n : Int)) (by omega)
  have h2 := Int.emod_lt_of_pos z (b := (n : Int)) (by omega)
  refine ⟨(z % (n : Int)).toNat, ?_, ?_, ?_⟩
  · rw [Int.tmod_eq_emod_of_nonneg hz]; omega
  · omega
  · omega
theorem fp_again {B T n : Nat} {P Q : List Nd} {r r' : Rc} {k : Nat} (h : k ∈ fp B T ((P ++ Q) ++ [(n, r')])) : k ∈ fp B T (P ++ (n, r) :: Q) := by
  unfold fp at h ⊢
  simp only [List.map_append, List.map_cons, List.map_nil, List.mem_cons, List.mem_append, List.not_mem_nil, or_false] at h ⊢
  rcases h with h | h | (h | h) | h
  · exact .inl h
  · exact .inr (.inl h)
  · exact .inr (.inr (.inl h))
  · exact .inr (.inr (.inr (.inr h)))
  · exact .inr (.inr (.inr (.inl h)))
theorem same_again {s : Hd} {N1 N2 : List Nd} {n : Nat} {r : Rc} (now : Int) : (same s (N1 ++ (n, r) :: N2)).again N1.length now = same (s.goes now) (N1 ++ (n, r.goes now (s.sent + 1)) :: N2) := by
  unfold same Rb.again Hd.goes
  dsimp only
  rw [at_mid, set_mid]
theorem fp_lose {B T n : Nat} {P Q : List Nd} {r r' : Rc} {k : Nat} (h : k ∈ fp B T (P ++ (n, r') :: Q)) : k ∈ fp B T (P ++ (n, r) :: Q) := by
  unfold fp at h ⊢
  simpa using h
theorem same_lose {s : Hd} {N1 N2 : List Nd} {n : Nat} {r : Rc} : (same s (N1 ++ (n, r) :: N2)).setAt N1.length r.lose = same s (N1 ++ (n, r.lose) :: N2) := by
  unfold same Rb.setAt
  dsimp only
  rw [set_mid]
/-- the answer's box is written -/
theorem FY.fin {w0 W : World} {X B T n cap : Nat} {s : Hd} {N L : List Nd} {a : Option Addr} {fv : Array Value} (h : FY w0 X B T s N L a n cap (same s N) fv W) :
    (putB (w0.heap.size + 1) a n cap (same s N) W).heap[w0.heap.size + 1]? = some (rbO a n cap (same s N)) ∧ Bk (putB (w0.heap.size + 1) a n cap (same s N) W) B T s N L ∧ RcA (putB (w0.heap.size + 1) a n cap (same s N) W) a n cap (N.map (·.2)) ∧ Below w0.heap.size w0 (putB (w0.heap.size + 1) a n cap (same s N) W) := by
  have kk := putB_kept (w0.heap.size + 1) n cap a (same s N) W
  have hX := h.bk.no54 h.rs
  have hxn := h.xn
  have ho : (putB (w0.heap.size + 1) a n cap (same s N) W).ownsRow (X + 1) 58 7 (.slice a n cap) n (rcCells (N.map (·.2))) := own_step h.ow (fun k o hko hk2 => by
    have := (own_in h.ow hko).2
    exact kk.heap (by simp; omega) hk2)
  obtain ⟨a', c, he, hr⟩ := own_rc ho
  cases he
  exact ⟨putB_at h.rs, h.bk.other kk hX (fun cs e => by rw [h.rs] at e; simp at e), hr, h.below.trans (kk.below (by simp) h.below.size)⟩
/-- pairs of bytes that came in -/
structure SdA (w : World) (a : Option Addr) (n cap : Nat) (xs : Nat → Int × Int) : Prop where
  le : n ≤ cap
  most : cap ≤ maxLen
  cells : 0 < n → ∃ b off, a = some ⟨b, off, none⟩ ∧ ∀ i, i < n → w.cell? ⟨b, off + i * 2, none⟩ = some (.int .u8 (xs i).1) ∧ w.cell? ⟨b, off + i * 2 + 1, none⟩ = some (.int .u8 (xs i).2) ∧ (0 ≤ (xs i).1 ∧ (xs i).1 ≤ 255) ∧ (0 ≤ (xs i).2 ∧ (xs i).2 ≤ 255)
/-- bytes that came in -/
structure ByA (w : World) (a : Option Addr) (n cap : Nat) (z : Nat → Int) : Prop where
  le : n ≤ cap
  most : cap ≤ maxLen
  cells : 0 < n → ∃ b off, a = some ⟨b, off, none⟩ ∧ ∀ i, i < n → w.cell? ⟨b, off + i, none⟩ = some (.int .u8 (z i)) ∧ (0 ≤ z i ∧ z i ≤ 255)
def RetF (w : World) (e : Ending) (w' : World) : Prop := ∃ B T s N L a n cap c, e = .returned (.tuple #[.pointer (some ⟨B, 0, none⟩), rbV a n cap (same s N), .int .i64 s.now]) ∧ Bk w' B T s N L ∧ FI c s N L ∧ c ≤ 60 ∧ RcA w' a n cap (N.map (·.2)) ∧ Below w.heap.size w w' ∧ ∀ k ∈ fp B T L, w.heap.size ≤ k
abbrev flC (sa : Option Addr) (sn sc : Nat) (ba : Option Addr) (bn bc : Nat) (la : Option Addr) (ln lc : Nat) : Array Value := #[.slice sa sn sc, .slice ba bn bc, .slice la ln lc]
set_option maxRecDepth 100000 in
set_option maxHeartbeats 8000000 in
theorem fly_any {w : World} {sa ba la : Option Addr} {sn sc bn bc ln lc : Nat} {xs : Nat → Int × Int} {zs ys : Nat → Int} (hs : SdA w sa sn sc xs) (hb : ByA w ba bn bc zs) (hl : ByA w la ln lc ys) :
    Calls Try.prog 16 #[.agg (flC sa sn sc ba bn bc la ln lc)] w (RetF w) := by
  have HS := Lib.hid hs.cells
  have HB := Lib.hid hb.cells
  have HLC := Lib.hid hl.cells
  have s1 := hs.le; have s2 := hs.most; have b1 := hb.le; have b2 := hb.most; have l1 := hl.le; have l2 := hl.most
  unfold maxLen at s2 b2 l2
  clear hs hb hl
  have HN := Lib.hid (fun W => new_any (una := 0) (by decide) W)
  have hf0 := al w (.cells (flC sa sn sc ba bn bc la ln lc) 50)
  have hf1 := heap_alloc_new w (.cells (flC sa sn sc ba bn bc la ln lc) 50)
  have hz : (w.alloc (.cells (flC sa sn sc ba bn bc la ln lc) 50)).heap.size = w.heap.size + 1 := by simp
  have hr0 := al (w.alloc (.cells (flC sa sn sc ba bn bc la ln lc) 50)) (rbO none 0 0 ⟨[], 0, 0, 0⟩)
  have hr1 := heap_alloc_new (w.alloc (.cells (flC sa sn sc ba bn bc la ln lc) 50)) (rbO none 0 0 ⟨[], 0, 0, 0⟩)
  rw [hz] at hr1
  have HF := Lib.hid ((hr0.block _ (lt_of_block hf1)).trans hf1)
  have HR := Lib.hid hr1
  have HB0 := Lib.hid (hf0.trans (hr0.mono hf0.size))
  clear hf0 hf1 hr0 hr1 hz
  go_enter Try.func16, Try.ntmps16
  go_upto_block 0 with (go_at_call 31; (with_reducible refine (HN.out _).mono ?_); rintro e w1 ⟨B, T, rfl, hbk, hb1, hB, hT⟩)
  have HFY : Hid (FY w w1.heap.size B T ⟨0, 0, 0⟩ [] [] none 0 0 (same ⟨0, 0, 0⟩ []) (flC sa sn sc ba bn bc la ln lc) (w1.alloc (rbO none 0 0 ⟨[], 0, 0, 0⟩))) := Lib.hid (by
    have ha := al w1 (rbO none 0 0 ⟨[], 0, 0, 0⟩)
    have e2 : ((w.alloc (.cells (flC sa sn sc ba bn bc la ln lc) 50)).alloc (rbO none 0 0 ⟨[], 0, 0, 0⟩)).heap.size = w.heap.size + 1 + 1 := by simp
    rw [e2] at hB hT
    have hs1 := hb1.size
    rw [e2] at hs1
    refine ⟨hbk.later ha, heap_alloc_new w1 _, ⟨rfl, .inl ⟨rfl, rfl⟩⟩, (ha.block _ ?_).trans ((hb1.block _ (lt_of_block HF.out)).trans HF.out), (ha.block _ ?_).trans ((hb1.block _ (lt_of_block HR.out)).trans HR.out), HB0.out.trans ((hb1.trans (ha.mono hb1.size)).mono HB0.out.size), fun k hk => ?_, by omega⟩
    · omega
    · omega
    · simp [fp] at hk
      rcases hk with rfl | rfl <;> omega)
  generalize w1.heap.size = X at *
  generalize w1.alloc (rbO none 0 0 ⟨[], 0, 0, 0⟩) = W1 at *
  clear hbk hb1 hB hT HF HR HB0
  go_cut [8] (fun s8 wx => ∃ (s : Hd) (N L : List Nd) (a : Option Addr) (n cap : Nat), s8 = .int .i64 s.now ∧ Hid (FI 40 s N L) ∧ Hid (FY w X B T s N L a n cap (same s N) (flC sa sn sc ba bn bc la ln lc) wx))
  case first =>
    go_wp2_with fail
    go_loopw [8, 9] (fun u i wr => ∃ (k : Nat) (s : Hd) (N L : List Nd) (a : Option Addr) (n cap : Nat), i = .int .i64 k ∧ u = .int .i64 s.now ∧ k ≤ sn ∧ k ≤ 40 ∧ Hid (FI k s N L) ∧ Hid (FY w X B T s N L a n cap (same s N) (flC sa sn sc ba bn bc la ln lc) wr)) (fun _ i _ => 40 - (intOf i).toNat)
    case atStart => exact ⟨0, ⟨0, 0, 0⟩, [], [], none, 0, 0, rfl, rfl, by omega, by omega, Lib.hid fi_nil, HFY⟩
    case round =>
      clear HFY
      obtain ⟨k, s, N, L, a, n, cap, rfl, rfl, hk, hk2, HI, HF⟩ := hrel
      have fl0 := cofr HF.out.fl 0 _ rfl; have fl1 := cofr HF.out.fl 1 _ rfl; have fl2 := cofr HF.out.fl 2 _ rfl
      by_cases hlt : k < sn ∧ k < 40
      · obtain ⟨h1, h2⟩ := hlt
        obtain ⟨Bo, off, rfl, hc⟩ := HS.out (by omega)
        obtain ⟨e0, e1, b0, b3⟩ := hc k h1
        have HE := Lib.hid (fun V (h : Below w.heap.size w V) => And.intro ((h.cell (p := ⟨Bo, off + k * 2, none⟩) (World.block_lt_of_cell? w _ e0)).trans e0) ((h.cell (p := ⟨Bo, off + k * 2 + 1, none⟩) (World.block_lt_of_cell? w _ e1)).trans e1))
        clear hc e0 e1
        generalize xs k = x at *
        obtain ⟨e0, e1⟩ := HE.out _ HF.out.below
        obtain ⟨n0, n1⟩ := HI.out.nxt
        obtain ⟨m0, m1⟩ := HI.out.now
        obtain ⟨x0, x1⟩ := b0
        obtain ⟨y0, y1⟩ := b3
        obtain ⟨u0, u1, u2, u3⟩ := sb4_of HF.out.bx
        go_upto_region 8 with fail
        go_cut [10] (fun s10 wx => ∃ P, s10 = .pointer (some ⟨P, 0, none⟩) ∧ Hid (FY w X B T s N L a n cap (same s N) (flC (some ⟨Bo, off, none⟩) sn sc ba bn bc la ln lc) wx ∧ wx.heap[P]? = some (.cells #[.int .i64 s.nxt, .int .i64 (s.nxt + 1 + x.1)] 24 (0, 0))))
        case first =>
          have HW : Hid (IntKind.i64.wrap (IntKind.i64.wrap (s.nxt + 1) + IntKind.i64.wrap x.1) = s.nxt + 1 + x.1) := Lib.hid (by rw [IntWalk.i64_in (s.nxt + 1) (by omega), IntWalk.i64_in x.1 (by omega), IntWalk.i64_in (s.nxt + 1 + x.1) (by omega)])
          have HP : Hid (∀ V, FY w X B T s N L a n cap (same s N) (flC (some ⟨Bo, off, none⟩) sn sc ba bn bc la ln lc) V → (V.cell? ⟨X, 1, none⟩ = some (.int .i64 s.nxt) ∧ V.cell? ⟨w.heap.size, 0, none⟩ = some (.slice (some ⟨Bo, off, none⟩) sn sc) ∧ V.cell? ⟨Bo, off + k * 2, none⟩ = some (.int .u8 x.1))) := Lib.hid (by
            intro V h
            obtain ⟨u0, u1, u2, u3⟩ := sb4_of h.bx
            exact ⟨u1, cofr h.fl 0 _ rfl, (HE.out _ h.below).1⟩)
          have P0 := HP.out _ HF.out.drew
          have P1 := HP.out _ (HF.out.later (al wr (.cells #[.int .i64 0, .int .i64 0] 24))).drew
          have P2 := HP.out _ (HF.out.later (al wr (.cells #[.int .i64 s.nxt, .int .i64 (IntKind.i64.wrap (IntKind.i64.wrap (s.nxt + 1) + IntKind.i64.wrap x.1))] 24))).drew
          go_wp2_with fail
          go_region_held3 (fun w' => w'.cell? ⟨X, 1, none⟩ = some (.int .i64 s.nxt) ∧ w'.cell? ⟨w.heap.size, 0, none⟩ = some (.slice (some ⟨Bo, off, none⟩) sn sc) ∧ w'.cell? ⟨Bo, off + k * 2, none⟩ = some (.int .u8 x.1)) (first | with_reducible exact P2 | with_reducible exact P1 | with_reducible exact P0 | go_keep)
            (fail)
          all_goals
            rw [HW.out]
            have HQ := Lib.hid (And.intro (HF.out.later (al wr (.cells #[.int .i64 s.nxt, .int .i64 (s.nxt + 1 + x.1)] 24))).drew (heap_alloc_new wr (.cells #[.int .i64 s.nxt, .int .i64 (s.nxt + 1 + x.1)] 24)))
            clear P0 P1 P2 HP HW
            go_wp2_with fail
            go_meet
            exact ⟨_, rfl, HQ⟩
        case rest =>
          obtain ⟨P, rfl, HQ⟩ := hcut
          clear HF e0 e1 fl0 fl1 fl2 u0 u1 u2 u3
          have hlen : lenI (s.nxt, s.nxt + 1 + x.1) ≠ 0 := len_new (by omega) (by omega) (by omega)
          have HSB : Hid (sendB s (s.nxt, s.nxt + 1 + x.1) (s.now + x.2) = true) := Lib.hid (by
            unfold sendB
            simp only [Bool.and_eq_true, decide_eq_true_eq]
            exact ⟨⟨⟨hlen, trivial⟩, by omega⟩, by omega⟩)
          have HLE := Lib.hid hlen
          clear hlen
          have hlen := HI.out.len
          obtain ⟨t0, t1⟩ := HI.out.sent
          have HSG := Lib.hid (send_good HQ.out.1.bk (s.nxt, s.nxt + 1 + x.1) (s.now + x.2) HSB.out (by omega) (by omega))
          have p0 := cofr HQ.out.2 0 _ rfl; have p1 := cofr HQ.out.2 1 _ rfl
          go_upto_region 10 with (go_at_call 32; (with_reducible refine HSG.out.mono ?_); rintro e w5 ⟨nn, rfl, g1, g2, g3⟩)
          have HF5 := Lib.hid (HQ.out.1.prog g2 g1 (fun k hk => by
            rcases fp_snoc hk with h | h
            · exact HQ.out.1.fresh k h
            · have := lt_of_block HQ.out.1.bx; have := HQ.out.1.xn; omega))
          have HP5 := Lib.hid (g2.heap (HQ.out.1.bk.noSp HQ.out.2) HQ.out.2)
          have hnl : n = N.length := by have := HQ.out.1.rca.len; simp [same] at this; omega
          have HRS := Lib.hid (rsend_ok HF5.out.rca (by omega) (s.nxt, s.nxt + 1 + x.1) (s.now + x.2) HLE.out rfl (by show s.now ≤ _; omega) (by omega) (by show 0 ≤ s.sent ∧ s.sent ≤ _; omega))
          rw [same_send (n := nn)] at HRS
          have HI5 := Lib.hid (HI.out.send (p := (s.nxt, s.nxt + 1 + x.1)) (now := s.now + x.2) (n := nn) (by dsimp only; omega) (by dsimp only; omega) (by omega) (by omega))
          clear g1 g2 g3 p0 p1 hnl HSG HSB HQ
          obtain ⟨u0, u1, u2, u3⟩ := sb4_of HF5.out.bx
          have p0 := cofr HP5.out 0 _ rfl; have p1 := cofr HP5.out 1 _ rfl
          dsimp only at u0 u1 u2 u3
          go_wp2_with (go_at_call 36; (with_reducible refine HRS.out.mono ?_); unfold RetB; rintro e w6 ⟨a', n', cap', rfl, j1, j2⟩; have HF6 := Lib.hid (HF5.out.ref j2 j1); have hF6 := HF5.out.later j2; clear u0 u1 u2 u3 p0 p1 j1 j2; obtain ⟨u0, u1, u2, u3⟩ := sb4_of hF6.bx; have v0 := fofr hF6.bx 0; have v1 := fofr hF6.bx 1; have v2 := fofr hF6.bx 2; have v3 := fofr hF6.bx 3; clear hF6; dsimp only at u0 u1 u2 u3)
          go_roundw
          case rel => exact ⟨k + 1, ⟨s.nxt + 1 + x.1, s.sent + 1, s.now + x.2⟩, _, _, a', n', cap', by go_num, rfl, by omega, by omega, HI5, HF6⟩
          case measure => simp [intOf]; omega
      · by_cases h1 : k < sn
        · have h2 : ¬ k < 40 := by omega
          go_wp2_with fail
          go_meet
          exact ⟨s, N, L, a, n, cap, rfl, Lib.hid (HI.out.mono hk2), HF⟩
        · go_wp2_with fail
          go_meet
          exact ⟨s, N, L, a, n, cap, rfl, Lib.hid (HI.out.mono hk2), HF⟩
  case rest =>
    clear HFY
    obtain ⟨s, N, L, a, n, cap, rfl, HI, HF⟩ := hcut
    generalize wc = w2 at *
    go_upto_block 2 with fail
    go_cut [8] (fun s8 wx => ∃ (s : Hd) (N L : List Nd) (a : Option Addr) (n cap : Nat), s8 = .int .i64 s.now ∧ Hid (FI 60 s N L) ∧ Hid (FY w X B T s N L a n cap (same s N) (flC sa sn sc ba bn bc la ln lc) wx))
    case first =>
      go_wp2_with fail
      go_loopw [8, 11] (fun u i wr => ∃ (k : Nat) (s : Hd) (N L : List Nd) (a : Option Addr) (n cap : Nat), i = .int .i64 k ∧ u = .int .i64 s.now ∧ k ≤ bn ∧ k ≤ 20 ∧ Hid (FI (40 + k) s N L) ∧ Hid (FY w X B T s N L a n cap (same s N) (flC sa sn sc ba bn bc la ln lc) wr)) (fun _ i _ => 20 - (intOf i).toNat)
      case atStart => exact ⟨0, s, N, L, a, n, cap, rfl, rfl, by omega, by omega, HI, HF⟩
      case round =>
        clear HF HI
        obtain ⟨k, s, N, L, a, n, cap, rfl, rfl, hk, hk2, HI, HF⟩ := hrel
        have fl0 := cofr HF.out.fl 0 _ rfl; have fl1 := cofr HF.out.fl 1 _ rfl; have fl2 := cofr HF.out.fl 2 _ rfl
        obtain ⟨u0, u1, u2, u3⟩ := sb4_of HF.out.bx
        by_cases h1 : k < bn
        case neg =>
          go_wp2_with fail
          go_meet
          exact ⟨s, N, L, a, n, cap, rfl, Lib.hid (HI.out.mono (by omega)), HF⟩
        by_cases h2 : k < 20
        case neg =>
          go_wp2_with fail
          go_meet
          exact ⟨s, N, L, a, n, cap, rfl, Lib.hid (HI.out.mono (by omega)), HF⟩
        by_cases h3 : 0 < n
        case neg =>
          go_wp2_with fail
          go_meet
          exact ⟨s, N, L, a, n, cap, rfl, Lib.hid (HI.out.mono (by omega)), HF⟩
        obtain ⟨Bo, off, rfl, hc⟩ := HB.out (by omega)
        obtain ⟨e0, y0, y1⟩ := hc k h1
        have HE := Lib.hid (fun V (h : Below w.heap.size w V) => (h.cell (p := ⟨Bo, off + k, none⟩) (World.block_lt_of_cell? w _ e0)).trans e0)
        clear hc e0
        generalize zs k = z at *
        have hlen : N.length = n := by have := HF.out.rca.len; simpa using this
        obtain ⟨q, hq1, hq2, hq3⟩ := tmod_nat (n := n) y0 h3
        obtain ⟨N1, N2, nn, r, rfl, rfl⟩ := nd_split N q (by omega)
        obtain ⟨P, Q, rfl⟩ := ln_split HI.out.perm
        obtain ⟨g, go, rfl, hrc⟩ := HF.out.rca.at_ h3
        have HRC := Lib.hid (hrc N1.length hq3).1
        rw [at_mid] at HRC
        obtain ⟨m0, m1⟩ := HI.out.now
        obtain ⟨t0, t1⟩ := HI.out.sent
        obtain ⟨⟨v0, v1⟩, ⟨v2, v3⟩, ⟨v4, v5⟩, _, _⟩ := HI.out.rc (nn, r) (by simp)
        dsimp only at v0 v1 v2 v3 v4 v5
        have hlen2 := HI.out.len
        clear hrc
        have hne : ((n : Int) == 0) = false := by simp; omega
        go_upto_region 15 with fail
        go_cut [12] (fun s12 wx => s12 = .int .i64 r.f ∧ Hid (FY w X B T s (N1 ++ (nn, r) :: N2) (P ++ (nn, r) :: Q) (some ⟨g, go, none⟩) n cap (same s (N1 ++ (nn, r) :: N2)) (flC sa sn sc (some ⟨Bo, off, none⟩) bn bc la ln lc) wx))
        case first =>
          have e0 := HE.out _ HF.out.below
          have r0 := HRC.out
          go_wp2_with fail
          go_quiet (fail)
          go_wp2_with fail
          go_meet
          exact ⟨rfl, Lib.hid (HF.out.later ⟨rfl, rfl, rfl, Nat.le_refl _, fun _ _ => rfl⟩)⟩
        case rest =>
          obtain ⟨rfl, HF⟩ := hcut
          clear u0 u1 u2 u3 fl0 fl1 fl2 hne hq1 hq2 HRC
          have HAY := Lib.hid (again_yes HF.out.bk (s.now + 1) (by simp only [Bool.and_eq_true, decide_eq_true_eq]; omega) (by omega) (by omega) (by omega))
          have HFS := Lib.hid (fst_mid HF.out.bk.up)
          go_upto_region 17 with (go_at_call 37; go_must (with_reducible refine HAY.out.mono ?_); rintro e w5 ⟨rfl, g2, g1⟩)
          have HF5 := Lib.hid (HF.out.prog g1 g2 (fun k hk => HF.out.fresh k (fp_again hk)))
          have hat : (same s (N1 ++ (nn, r) :: N2)).l.getD N1.length Rc.zero = r := at_mid
          have HRA := Lib.hid (ragain_yes HF5.out.rca (by omega) HFS.out (now := s.now + 1) (by show s.now ≤ _; omega) (by omega) (by show 0 ≤ s.sent ∧ s.sent ≤ _; omega) (by rw [hat]; omega) (by rw [hat]; omega))
          rw [same_again] at HRA
          have HI5 := Lib.hid (HI.out.again (now := s.now + 1) (by omega) (by omega))
          clear g1 g2 HAY hat
          obtain ⟨u0, u1, u2, u3⟩ := sb4_of HF5.out.bx
          dsimp only at u0 u1 u2 u3
          go_wp2_with (go_at_call 38; go_must (with_reducible refine HRA.out.mono ?_); unfold RetB; rintro e w6 ⟨a', n', cap', rfl, j1, j2⟩; have HF6 := Lib.hid (HF5.out.ref j2 j1); have hF6 := HF5.out.later j2; clear u0 u1 u2 u3 j1 j2; obtain ⟨u0, u1, u2, u3⟩ := sb4_of hF6.bx; have v0 := fofr hF6.bx 0; have v1 := fofr hF6.bx 1; have v2 := fofr hF6.bx 2; have v3 := fofr hF6.bx 3; clear hF6)
          go_roundw
          case rel => exact ⟨k + 1, s.goes (s.now + 1), _, _, a', n', cap', by go_num, rfl, by omega, by omega, HI5, HF6⟩
          case measure => simp [intOf]; omega
    case rest =>
      clear HF HI
      obtain ⟨s, N, L, a, n, cap, rfl, HI, HF⟩ := hcut
      generalize wc = w3 at *
      go_upto_block 4 with fail
      go_cut [13] (fun _ wx => ∃ (N L : List Nd) (a : Option Addr) (n cap : Nat), Hid (FI 60 s N L) ∧ Hid (FY w X B T s N L a n cap (same s N) (flC sa sn sc ba bn bc la ln lc) wx))
      case first =>
        go_wp2_with fail
        go_loopw [13] (fun i wr => ∃ (k : Nat) (N L : List Nd) (a : Option Addr) (n cap : Nat), i = .int .i64 k ∧ k ≤ ln ∧ k ≤ 20 ∧ Hid (FI 60 s N L) ∧ Hid (FY w X B T s N L a n cap (same s N) (flC sa sn sc ba bn bc la ln lc) wr)) (fun i _ => 20 - (intOf i).toNat)
        case atStart => exact ⟨0, N, L, a, n, cap, rfl, by omega, by omega, HI, HF⟩
        case round =>
          clear HF HI
          obtain ⟨k, N, L, a, n, cap, rfl, hk, hk2, HI, HF⟩ := hrel
          have fl0 := cofr HF.out.fl 0 _ rfl; have fl1 := cofr HF.out.fl 1 _ rfl; have fl2 := cofr HF.out.fl 2 _ rfl
          obtain ⟨u0, u1, u2, u3⟩ := sb4_of HF.out.bx
          by_cases h1 : k < ln
          case neg =>
            go_wp2_with fail
            go_meet
            exact ⟨N, L, a, n, cap, HI, HF⟩
          by_cases h2 : k < 20
          case neg =>
            go_wp2_with fail
            go_meet
            exact ⟨N, L, a, n, cap, HI, HF⟩
          by_cases h3 : 0 < n
          case neg =>
            go_wp2_with fail
            go_meet
            exact ⟨N, L, a, n, cap, HI, HF⟩
          obtain ⟨Bo, off, rfl, hc⟩ := HLC.out (by omega)
          obtain ⟨e0, y0, y1⟩ := hc k h1
          have HE := Lib.hid (fun V (h : Below w.heap.size w V) => (h.cell (p := ⟨Bo, off + k, none⟩) (World.block_lt_of_cell? w _ e0)).trans e0)
          clear hc e0
          generalize ys k = z at *
          have hlen : N.length = n := by have := HF.out.rca.len; simpa using this
          obtain ⟨q, hq1, hq2, hq3⟩ := tmod_nat (n := n) y0 h3
          obtain ⟨N1, N2, nn, r, rfl, rfl⟩ := nd_split N q (by omega)
          obtain ⟨P, Q, rfl⟩ := ln_split HI.out.perm
          obtain ⟨g, go, rfl, hrc⟩ := HF.out.rca.at_ h3
          have HRC := Lib.hid (hrc N1.length hq3).1
          rw [at_mid] at HRC
          obtain ⟨_, _, _, _, vl⟩ := HI.out.rc (nn, r) (by simp)
          dsimp only at vl
          have hlen2 := HI.out.len
          clear hrc
          have hne : ((n : Int) == 0) = false := by simp; omega
          go_upto_region 21 with fail
          go_cut [14] (fun s12 wx => s12 = .int .i64 r.f ∧ Hid (FY w X B T s (N1 ++ (nn, r) :: N2) (P ++ (nn, r) :: Q) (some ⟨g, go, none⟩) n cap (same s (N1 ++ (nn, r) :: N2)) (flC sa sn sc ba bn bc (some ⟨Bo, off, none⟩) ln lc) wx))
          case first =>
            have e0 := HE.out _ HF.out.below
            have r0 := HRC.out
            clear vl
            go_wp2_with fail
            go_quiet (fail)
            go_wp2_with fail
            go_meet
            exact ⟨rfl, Lib.hid (HF.out.later ⟨rfl, rfl, rfl, Nat.le_refl _, fun _ _ => rfl⟩)⟩
          case rest =>
            obtain ⟨rfl, HF⟩ := hcut
            clear u0 u1 u2 u3 fl0 fl1 fl2 hne hq1 hq2 HRC
            have HAY := Lib.hid (blose_yes HF.out.bk)
            have HFS := Lib.hid (fst_mid HF.out.bk.up)
            have HVL := Lib.hid vl
            clear vl
            generalize hee : (if r.lost = true then (13 : Int) else 0) = ee at *
            clear hee
            go_upto_region 23 with (go_at_call 39; go_must (with_reducible refine HAY.out.mono ?_); rintro e w5 ⟨rfl, g2, g1⟩)
            have HF5 := Lib.hid (HF.out.prog g1 g2 (fun k hk => HF.out.fresh k (fp_lose hk)))
            have HI5 := Lib.hid HI.out.lose
            have hat : (same s (N1 ++ (nn, r) :: N2)).l.getD N1.length Rc.zero = r := at_mid
            clear g1 g2 HAY
            obtain ⟨u0, u1, u2, u3⟩ := sb4_of HF5.out.bx
            dsimp only at u0 u1 u2 u3
            cases hl : r.lost with
            | true =>
              have HRA := Lib.hid (rlose_no HF5.out.rca (by omega) HFS.out (by rw [hat]; exact hl))
              have hsame : r.lose = r := lose_lost hl (HVL.out hl)
              have HSM := Lib.hid hsame
              clear hat hl hsame HVL
              go_wp2_with (go_at_call 40; go_must (with_reducible refine HRA.out.mono ?_); rintro e w6 ⟨rfl, j2⟩; have HF6 := Lib.hid (HF5.out.ref0 j2); have hF6 := HF5.out.later j2; clear u0 u1 u2 u3 j2; obtain ⟨u0, u1, u2, u3⟩ := sb4_of hF6.bx; have v0 := fofr hF6.bx 0; have v1 := fofr hF6.bx 1; have v2 := fofr hF6.bx 2; have v3 := fofr hF6.bx 3; clear hF6)
              rw [HSM.out] at HF6 HI5
              go_roundw
              case rel => exact ⟨k + 1, _, _, _, n, cap, by go_num, by omega, by omega, HI5, HF6⟩
              case measure => simp [intOf]; omega
            | false =>
              have HRA := Lib.hid (rlose_yes HF5.out.rca (by omega) HFS.out (by rw [hat]; exact hl))
              rw [hat, same_lose] at HRA
              clear hat hl HVL
              go_wp2_with (go_at_call 40; go_must (with_reducible refine HRA.out.mono ?_); unfold RetB; rintro e w6 ⟨a', n', cap', rfl, j1, j2⟩; have HF6 := Lib.hid (HF5.out.ref j2 j1); have hF6 := HF5.out.later j2; clear u0 u1 u2 u3 j1 j2; obtain ⟨u0, u1, u2, u3⟩ := sb4_of hF6.bx; have v0 := fofr hF6.bx 0; have v1 := fofr hF6.bx 1; have v2 := fofr hF6.bx 2; have v3 := fofr hF6.bx 3; clear hF6)
              go_roundw
              case rel => exact ⟨k + 1, _, _, a', n', cap', by go_num, by omega, by omega, HI5, HF6⟩
              case measure => simp [intOf]; omega
      case rest =>
        clear HF HI
        obtain ⟨N, L, a, n, cap, HI, HF⟩ := hcut
        generalize wc = w4 at *
        have HFD := Lib.hid (HF.out.drew).fin
        have HFR := Lib.hid HF.out.fresh
        obtain ⟨u0, u1, u2, u3⟩ := sb4_of HF.out.bx
        obtain ⟨x0, x1, x2, x3⟩ := sb4_of HF.out.rs
        have v0 := fofr HF.out.rs 0; have v1 := fofr HF.out.rs 1; have v2 := fofr HF.out.rs 2; have v3 := fofr HF.out.rs 3
        go_upto_region 24 with fail
        have u0' : w4.drew.cell? ⟨X, 0, none⟩ = _ := u0; have u1' : w4.drew.cell? ⟨X, 1, none⟩ = _ := u1; have u2' : w4.drew.cell? ⟨X, 2, none⟩ = _ := u2; have u3' : w4.drew.cell? ⟨X, 3, none⟩ = _ := u3
        have x0' : w4.drew.cell? ⟨w.heap.size + 1, 0, none⟩ = _ := x0; have x1' : w4.drew.cell? ⟨w.heap.size + 1, 1, none⟩ = _ := x1; have x2' : w4.drew.cell? ⟨w.heap.size + 1, 2, none⟩ = _ := x2; have x3' : w4.drew.cell? ⟨w.heap.size + 1, 3, none⟩ = _ := x3
        have v0' : w4.drew.frozen? ⟨w.heap.size + 1, 0, none⟩ = false := v0; have v1' : w4.drew.frozen? ⟨w.heap.size + 1, 1, none⟩ = false := v1; have v2' : w4.drew.frozen? ⟨w.heap.size + 1, 2, none⟩ = false := v2; have v3' : w4.drew.frozen? ⟨w.heap.size + 1, 3, none⟩ = false := v3
        go_region
        have HE2 := Lib.hid (show (((((w4.setCell ⟨w.heap.size + 1, 0, none⟩ (.slice a n cap)).setCell ⟨w.heap.size + 1, 1, none⟩ (.int .i64 s.nxt)).setCell ⟨w.heap.size + 1, 2, none⟩ (.int .i64 s.now)).setCell ⟨w.heap.size + 1, 3, none⟩ (.int .i64 s.sent)).drew).heap[w.heap.size + 1]? = some (rbO a n cap (same s N)) ∧ Bk (((((w4.setCell ⟨w.heap.size + 1, 0, none⟩ (.slice a n cap)).setCell ⟨w.heap.size + 1, 1, none⟩ (.int .i64 s.nxt)).setCell ⟨w.heap.size + 1, 2, none⟩ (.int .i64 s.now)).setCell ⟨w.heap.size + 1, 3, none⟩ (.int .i64 s.sent)).drew) B T s N L ∧ RcA (((((w4.setCell ⟨w.heap.size + 1, 0, none⟩ (.slice a n cap)).setCell ⟨w.heap.size + 1, 1, none⟩ (.int .i64 s.nxt)).setCell ⟨w.heap.size + 1, 2, none⟩ (.int .i64 s.now)).setCell ⟨w.heap.size + 1, 3, none⟩ (.int .i64 s.sent)).drew) a n cap (N.map (·.2)) ∧ Below w.heap.size w (((((w4.setCell ⟨w.heap.size + 1, 0, none⟩ (.slice a n cap)).setCell ⟨w.heap.size + 1, 1, none⟩ (.int .i64 s.nxt)).setCell ⟨w.heap.size + 1, 2, none⟩ (.int .i64 s.now)).setCell ⟨w.heap.size + 1, 3, none⟩ (.int .i64 s.sent)).drew) from HFD.out)
        clear HFD u0 u1 u2 u3 x0 x1 x2 x3 v0 v1 v2 v3 u0' u1' u2' u3' x0' x1' x2' x3' v0' v1' v2' v3' HF
        generalize ((((w4.setCell ⟨w.heap.size + 1, 0, none⟩ (.slice a n cap)).setCell ⟨w.heap.size + 1, 1, none⟩ (.int .i64 s.nxt)).setCell ⟨w.heap.size + 1, 2, none⟩ (.int .i64 s.now)).setCell ⟨w.heap.size + 1, 3, none⟩ (.int .i64 s.sent)).drew = U at *
        obtain ⟨y0, y1, y2, y3⟩ := sb4_of HE2.out.1
        dsimp only at y0 y1 y2 y3
        go_wp2_with fail
        exact bodyPost_ret (v := .tuple #[.pointer (some ⟨B, 0, none⟩), rbV a n cap (same s N), .int .i64 s.now]) (by simp [results, Try.results16, go_sem, y0, y1, y2, y3]) rfl ⟨B, T, s, N, L, a, n, cap, 60, rfl, HE2.out.2.1, HI.out, Nat.le_refl _, HE2.out.2.2.1, HE2.out.2.2.2, fun k hk => by have := HFR.out k hk; omega⟩
end Go.Proofs.Ytpoifoanigpncaa.bk
