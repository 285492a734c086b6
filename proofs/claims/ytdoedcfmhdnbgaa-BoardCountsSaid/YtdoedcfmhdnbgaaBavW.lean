/-
  Package avl: nodes in memory; making, putting, deleting.
-/
import Derived.Test.YtdoedcfmhdnbgaaProg
import Derived.Test.YtdoedcfmhdnbgaaMem
import Derived.Test.YtdoedcfmhdnbgaaBavX
import Derived.Laws.StructEq
import Derived.Deep.DrawnRows
namespace Go.Proofs.Ytdoedcfmhdnbgaa.bv
open Go.RowKit aid mem
attribute [local go_sem ↓] Go.wp_at_zero Go.wp_at_succ
set_option linter.unusedVariables false

theorem bal' {w : World} (o : Obj) : Below w.heap.size w (w.alloc o) := (Below.refl _ _).alloc (Nat.le_refl _) _
/-- the block of a node -/
abbrev ndB (l : T) (k : Int) (v : Vt) (r : T) (pl pr : Option Addr) : Obj :=
  .cells #[.int .i64 k, .int .i64 v.1, .int .i64 v.2, .pointer pl, .pointer pr, .int .i64 ((l.size + 1 + r.size : Nat) : Int), .int .i64 ((1 + max l.ht r.ht : Nat) : Int)] 100 (0, 0)
/-- a tree lies where a pointer leads -/
def NdAt (w : World) : Option Addr → T → Prop
  | p, .nil => p = none
  | p, .node l k v r => ∃ b pl pr, p = some ⟨b, 0, none⟩ ∧ w.heap[b]? = some (ndB l k v r pl pr) ∧ NdAt w pl l ∧ NdAt w pr r

theorem NdAt.keepT {w w' : World} (hk : ∀ (b : Nat) (cs : Array Value), w.heap[b]? = some (.cells cs 100 (0, 0)) → w'.heap[b]? = w.heap[b]?) : ∀ {t : T} {p : Option Addr}, NdAt w p t → NdAt w' p t := by
  intro t
  induction t with
  | nil => intro p h; exact h
  | node l k v r ihl ihr =>
    rintro p ⟨b, pl, pr, rfl, hb, hl, hr⟩
    exact ⟨b, pl, pr, rfl, (hk b _ hb).trans hb, ihl hl, ihr hr⟩
theorem NdAt.later {w w' : World} {t : T} {p : Option Addr} (h : NdAt w p t) (hb : Below w.heap.size w w') : NdAt w' p t :=
  h.keepT (fun b _ hc => hb.block b (lt_of_block hc))
theorem NdAt.nil {w : World} {t : T} (h : NdAt w none t) : t = .nil := by
  cases t with
  | nil => rfl
  | node l k v r => obtain ⟨b, _, _, h, _⟩ := h; cases h
/-- the six cells of a node -/
structure Cs (w : World) (b : Nat) (k : Int) (v : Vt) (pl pr : Option Addr) (n h : Nat) : Prop where
  c0 : w.cell? ⟨b, 0, none⟩ = some (.int .i64 k)
  c1 : w.cell? ⟨b, 1, none⟩ = some (.int .i64 v.1) ∧ w.cell? ⟨b, 2, none⟩ = some (.int .i64 v.2)
  c2 : w.cell? ⟨b, 3, none⟩ = some (.pointer pl)
  c3 : w.cell? ⟨b, 4, none⟩ = some (.pointer pr)
  c4 : w.cell? ⟨b, 5, none⟩ = some (.int .i64 (n : Int))
  c5 : w.cell? ⟨b, 6, none⟩ = some (.int .i64 (h : Int))
theorem cs_of {w : World} {b : Nat} {l r : T} {k : Int} {v : Vt} {pl pr : Option Addr} (h : w.heap[b]? = some (ndB l k v r pl pr)) : Cs w b k v pl pr (l.size + 1 + r.size) (1 + max l.ht r.ht) :=
  ⟨(cell_of_row w b 0 _ _ (0, 0) h).trans rfl, ⟨(cell_of_row w b 1 _ _ (0, 0) h).trans rfl, (cell_of_row w b 2 _ _ (0, 0) h).trans rfl⟩, (cell_of_row w b 3 _ _ (0, 0) h).trans rfl, (cell_of_row w b 4 _ _ (0, 0) h).trans rfl, (cell_of_row w b 5 _ _ (0, 0) h).trans rfl, (cell_of_row w b 6 _ _ (0, 0) h).trans rfl⟩

theorem count_any {t : T} {p : Option Addr} {w : World} (h : NdAt w p t) : Calls Try.prog 65 #[.pointer p] w fun e w' => e = .returned (.int .i64 (t.size : Int)) ∧ w = w' := by
  cases t with
  | nil =>
    obtain rfl : p = none := h
    go_enter Try.func65, Try.ntmps65
    go_wp2
    go_ret
    exact ⟨rfl, rfl⟩
  | node l k v r =>
    obtain ⟨b, pl, pr, rfl, hb, _, _⟩ := h
    have c4 := (cs_of hb).c4
    show Calls _ _ _ _ fun e w' => e = .returned (.int .i64 ((l.size + 1 + r.size : Nat) : Int)) ∧ _
    generalize l.size + 1 + r.size = n at *
    clear hb
    go_enter Try.func65, Try.ntmps65
    go_wp2
    go_ret
    exact ⟨rfl, rfl⟩
theorem tall_any {t : T} {p : Option Addr} {w : World} (h : NdAt w p t) : Calls Try.prog 91 #[.pointer p] w fun e w' => e = .returned (.int .i64 (t.ht : Int)) ∧ w = w' := by
  cases t with
  | nil =>
    obtain rfl : p = none := h
    go_enter Try.func91, Try.ntmps91
    go_wp2
    go_ret
    exact ⟨rfl, rfl⟩
  | node l k v r =>
    obtain ⟨b, pl, pr, rfl, hb, _, _⟩ := h
    have c5 := (cs_of hb).c5
    show Calls _ _ _ _ fun e w' => e = .returned (.int .i64 ((1 + max l.ht r.ht : Nat) : Int)) ∧ _
    generalize 1 + max l.ht r.ht = n at *
    clear hb
    go_enter Try.func91, Try.ntmps91
    go_wp2
    go_ret
    exact ⟨rfl, rfl⟩

/-- what is handed back is a tree -/
def RetT (t : T) (w : World) (e : Ending) (w' : World) : Prop := ∃ p, e = .returned (.pointer p) ∧ NdAt w' p t ∧ Below w.heap.size w w'

theorem nd_new {w : World} {l r : T} {k : Int} {v : Vt} {pl pr : Option Addr} (hl : NdAt w pl l) (hr : NdAt w pr r) : NdAt (w.alloc (ndB l k v r pl pr)) (some ⟨w.heap.size, 0, none⟩) (.node l k v r) :=
  ⟨w.heap.size, pl, pr, rfl, heap_alloc_new w _, hl.later (bal' _), hr.later (bal' _)⟩

theorem nd_new' {w : World} {l r : T} {k : Int} {v : Vt} {pl pr : Option Addr} (hl : NdAt w pl l) (hr : NdAt w pr r) (n h : Int) (hn : n = (l.size : Int) + 1 + (r.size : Int)) (hh : h = 1 + max (l.ht : Int) (r.ht : Int)) :
    NdAt (w.alloc (.cells #[.int .i64 k, .int .i64 v.1, .int .i64 v.2, .pointer pl, .pointer pr, .int .i64 n, .int .i64 h] 100)) (some ⟨w.heap.size, 0, none⟩) (.node l k v r) := by
  obtain rfl : n = ((l.size + 1 + r.size : Nat) : Int) := by omega
  obtain rfl : h = ((1 + max l.ht r.ht : Nat) : Int) := by omega
  exact nd_new hl hr
set_option maxHeartbeats 1000000 in
theorem join_any {l r : T} {pl pr : Option Addr} (k : Int) (v : Vt) {w : World} (hl : NdAt w pl l) (hr : NdAt w pr r) (hs : l.size + r.size ≤ 1000000) :
    Calls Try.prog 86 #[.pointer pl, .int .i64 k, .agg #[.int .i64 v.1, .int .i64 v.2], .pointer pr] w (RetT (.node l k v r) w) := by
  have a1 := l.ht_le
  have a2 := r.ht_le
  have bb := bal' (w := w) (.cells #[.int .i64 v.1, .int .i64 v.2] 24)
  have x1 := heap_alloc_new w (.cells #[.int .i64 v.1, .int .i64 v.2] 24)
  generalize hW : w.alloc (.cells #[.int .i64 v.1, .int .i64 v.2] 24) = W at *
  have HL := Lib.hid (hl.later bb.drew)
  have HR := Lib.hid (hr.later bb.drew)
  have HB := Lib.hid bb.drew
  have HE := Lib.hid (nd_new' (k := k) (v := v) (hl.later bb.drew) (hr.later bb.drew))
  have c0 := (cell_of_row W w.heap.size 0 _ _ (0, 0) x1).trans rfl
  have c1 := (cell_of_row W w.heap.size 1 _ _ (0, 0) x1).trans rfl
  have hz : W.drew.heap.size = w.heap.size + 1 := by show W.heap.size = _; rw [← hW]; simp
  rw [hz] at HE
  have w1 : IntKind.i64.wrap ((l.size : Int) + 1) = (l.size : Int) + 1 := IntWalk.i64_in _ (by omega)
  have w2 : IntKind.i64.wrap ((l.size : Int) + 1 + (r.size : Int)) = (l.size : Int) + 1 + (r.size : Int) := IntWalk.i64_in _ (by omega)
  have w3 : IntKind.i64.wrap (1 + (l.ht : Int)) = 1 + (l.ht : Int) := IntWalk.i64_in _ (by omega)
  have w4 : IntKind.i64.wrap (1 + (r.ht : Int)) = 1 + (r.ht : Int) := IntWalk.i64_in _ (by omega)
  clear hl hr bb x1 hz
  subst hW
  go_enter Try.func86, Try.ntmps86
  go_wp2_with fail
  go_region_held3 (fun w' => w'.cell? ⟨w.heap.size, 0, none⟩ = some (.int .i64 v.1) ∧ w'.cell? ⟨w.heap.size, 1, none⟩ = some (.int .i64 v.2)) (first | exact ⟨c0, c1⟩ | go_keep) (first
    | (go_at_call 65; first | ((with_reducible refine (count_any HL.out).mono ?_); rintro e w' ⟨rfl, rfl⟩) | ((with_reducible refine (count_any HR.out).mono ?_); rintro e w' ⟨rfl, rfl⟩))
    | (go_at_call 91; first | ((with_reducible refine (tall_any HL.out).mono ?_); rintro e w' ⟨rfl, rfl⟩) | ((with_reducible refine (tall_any HR.out).mono ?_); rintro e w' ⟨rfl, rfl⟩)))
  go_wp2
  all_goals
    go_ret
    exact ⟨_, rfl, HE.out _ _ (by omega) (by omega), HB.out.trans (bal' _ |>.mono HB.out.size)⟩
end Go.Proofs.Ytdoedcfmhdnbgaa.bv
