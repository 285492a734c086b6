/-
  Layer 8's law: one operation with both.
-/
import Derived.Test.YthganmlechikiabAvlE
namespace Go.Proofs.Ythganmlechikiab.av
open Go.RowKit aid mem rng
attribute [local go_sem ↓] Go.wp_at_zero Go.wp_at_succ
set_option linter.unusedVariables false

/-! ### Lists -/
theorem put_len {l : Ps} {k v : Int} (hu : T.Up l) : (T.putL k v l).length = if hasL l k then l.length else l.length + 1 := by
  have hk := rk_le l k
  rw [putL_cut hu]
  cases hz : hasL l k with
  | true => have := has_lt hu hz; simp; omega
  | false => simp; omega
theorem del_len {l : Ps} {k : Int} (hu : T.Up l) : (T.delL k l).length = if hasL l k then l.length - 1 else l.length := by
  cases hz : hasL l k with
  | true => have := has_lt hu hz; rw [delL_has hu hz]; simp; omega
  | false => rw [delL_not hu hz]; simp
theorem ins_more {t : T} {k v : Int} (hu : T.Up t.toL) : decide (t.size < (T.ins k v t).size) = !hasL t.toL k := by
  rw [← T.size_toL, ← T.size_toL, T.ins_toL k v t hu, put_len hu]
  cases hasL t.toL k <;> simp
theorem del_less {t : T} {k : Int} (hu : T.Up t.toL) : decide ((T.del k t).size < t.size) = hasL t.toL k := by
  rw [← T.size_toL, ← T.size_toL, T.del_toL k t hu, del_len hu]
  cases hz : hasL t.toL k with
  | true => have := has_lt hu hz; simp; omega
  | false => simp
theorem get_put {l : Ps} (k v : Int) : getL (T.putL k v l) k = some v := by
  unfold getL T.putL
  rw [List.find?_append, find_none (fun x hx => by have := (List.mem_filter.1 hx).2; simp at this; omega)]
  simp
theorem get_del {l : Ps} (k : Int) : getL (T.delL k l) k = none := by
  unfold getL T.delL
  rw [find_none]
  · rfl
  · intro x hx
    rcases List.mem_append.1 hx with h | h <;> (have := (List.mem_filter.1 h).2; simp at this; omega)
/-- what an operation makes of a tree -/
def step (q : OpV) (t : T) : T := if q.out then T.del q.key t else T.ins q.key q.v t
def stepL (q : OpV) (l : Ps) : Ps := if q.out then T.delL q.key l else T.putL q.key q.v l
theorem step_toL {q : OpV} {t : T} (hu : T.Up t.toL) : (step q t).toL = stepL q t.toL := by
  unfold step stepL; split
  · exact T.del_toL _ _ hu
  · exact T.ins_toL _ _ _ hu
theorem step_up {q : OpV} {t : T} (hu : T.Up t.toL) : T.Up (step q t).toL := by
  unfold step; split
  · exact del_up _ hu
  · exact ins_up _ _ hu
theorem step_size (q : OpV) (t : T) : (step q t).size ≤ t.size + 1 := by
  unfold step; split
  · have := T.del_size q.key t; omega
  · have := T.ins_size q.key q.v t; omega
theorem step_bound {q : OpV} {t : T} (hu : T.Up t.toL) (hb : Bound t) (hq : -9223372036854775808 ≤ q.key) : Bound (step q t) := by
  intro x hx
  rw [step_toL hu] at hx
  unfold stepL at hx
  split at hx
  · unfold T.delL at hx
    rcases List.mem_append.1 hx with h | h <;> exact hb x (List.mem_filter.1 h).1
  · unfold T.putL at hx
    rcases List.mem_append.1 hx with h | h
    · exact hb x (List.mem_filter.1 h).1
    · rcases List.mem_cons.1 h with rfl | h
      · exact hq
      · exact hb x (List.mem_filter.1 h).1
theorem step_get (q : OpV) {t : T} (hu : T.Up t.toL) : getL (step q t).toL q.key = if q.out then none else some q.v := by
  rw [step_toL hu]
  unfold stepL
  split
  · exact get_del _
  · exact get_put _ _

/-! ### The list's own memory -/
/-- the reference's list -/
def Row8 (B : Nat) (w : World) (a : Option Addr) (n cap : Nat) (l : Ps) : Prop := w.ownsRow B 37 2 (.slice a n cap) n (prCells l)
theorem Row8.pr {B : Nat} {w : World} {a : Option Addr} {n cap : Nat} {l : Ps} (h : Row8 B w a n cap l) : PrA w a n cap l := by
  obtain ⟨a', cap', he, hp⟩ := own_pr h
  injection he with h1 _ h3
  subst h1 h3
  exact hp
theorem Row8.later {B : Nat} {w w' : World} {a : Option Addr} {n cap : Nat} {l : Ps} (h : Row8 B w a n cap l) (hb : Below w.heap.size w w') : Row8 B w' a n cap l :=
  own_steps h (fun k o _ ho => (hb.block k (lt_of_block ho)).trans ho)
/-- a tree that is written leaves it alone -/
theorem Row8.keep {B : Nat} {w w' : World} {a : Option Addr} {n cap : Nat} {l : Ps} {b : Nat} {t : T} (h : Row8 B w a n cap l) (ht : TrAt w b t) (hk : Kept [b] w w') : Row8 B w' a n cap l := by
  obtain ⟨q, h1, _⟩ := ht
  refine ⟨h.1, ?_⟩
  rcases h.2 with hn | ⟨g, cap', cur, he, hb, hgg, rest⟩
  · exact .inl hn
  · refine .inr ⟨g, cap', cur, he, hb, hk.heap ?_ hgg, rest⟩
    simp only [List.mem_singleton]
    rintro rfl
    rw [h1] at hgg
    simp at hgg
theorem row8_nil (B : Nat) (w : World) : Row8 B w none 0 0 [] := World.ownsRow_nil w B _ 2
def RetR (B : Nat) (L : Ps) (w : World) (e : Ending) (w' : World) : Prop := ∃ a n cap, e = .returned (.slice a n cap) ∧ Row8 B w' a n cap L ∧ Below w.heap.size w w'
theorem put8 {B : Nat} {w : World} {a : Option Addr} {n cap : Nat} {l : Ps} (h : Row8 B w a n cap l) (hu : T.Up l) (k v : Int) (hn : n ≤ 100000) (hB : B ≤ w.heap.size) :
    Calls Try.prog 17 #[.slice a n cap, .int .i64 k, .int .i64 v] w (RetR B (T.putL k v l) w) :=
  (rput_any h.pr hu k v hn).mono fun e w' ⟨a', n', c', h1, h2, h3⟩ => ⟨a', n', c', h1, own_base h2 (fun k hk => Nat.le_trans hB (own_lt h2 hk).2), h3⟩
theorem del8 {B : Nat} {w : World} {a : Option Addr} {n cap : Nat} {l : Ps} (h : Row8 B w a n cap l) (hu : T.Up l) (k : Int) (hn : n ≤ 100000) (hB : B ≤ w.heap.size) :
    Calls Try.prog 29 #[.slice a n cap, .int .i64 k] w (RetR B (T.delL k l) w) :=
  (rdelete_any h.pr hu k hn).mono fun e w' h' => by
    rcases h' with ⟨rfl, he, rfl⟩ | ⟨a', n', c', h1, h2, h3⟩
    · exact ⟨a, n, cap, rfl, by rw [he]; exact h, Below.refl _ _⟩
    · exact ⟨a', n', c', h1, own_base h2 (fun k hk => Nat.le_trans hB (own_lt h2 hk).2), h3⟩

/-- what lies while both are done: the operation's box, the tree, the list -/
structure Dos (B : Nat) (w0 w : World) (x : Nat) (q : OpV) (b : Nat) (t : T) (a : Option Addr) (n cap : Nat) (l : Ps) : Prop where
  box : w.heap[x]? = some (.cells #[.bool q.out, .int .i64 q.key, .int .i64 q.v] 24 (0, 0))
  tree : TrAt w b t
  row : Row8 B w a n cap l
  kept : Kept [b] w0 w
theorem Dos.later {B : Nat} {w0 w w' : World} {x : Nat} {q : OpV} {b : Nat} {t : T} {a : Option Addr} {n cap : Nat} {l : Ps} (h : Dos B w0 w x q b t a n cap l) (hb : Below w.heap.size w w') : Dos B w0 w' x q b t a n cap l :=
  ⟨(hb.block x (lt_of_block h.box)).trans h.box, h.tree.later hb, h.row.later hb, h.kept.trans (Kept.of_below hb (Nat.le_refl _) [b]) (by simp)⟩
theorem Dos.wrote {B : Nat} {w0 w w' : World} {x : Nat} {q : OpV} {b : Nat} {t t' : T} {a : Option Addr} {n cap : Nat} {l : Ps} (h : Dos B w0 w x q b t a n cap l) (ht : TrAt w' b t') (hk : Kept [b] w w') : Dos B w0 w' x q b t' a n cap l := by
  obtain ⟨r, h1, _⟩ := h.tree
  refine ⟨hk.heap ?_ h.box, ht, h.row.keep h.tree hk, h.kept.trans hk (by simp)⟩
  simp only [List.mem_singleton]
  rintro rfl
  have := h.box
  rw [h1] at this
  simp at this
theorem Dos.cells {B : Nat} {w0 w : World} {x : Nat} {q : OpV} {b : Nat} {t : T} {a : Option Addr} {n cap : Nat} {l : Ps} (h : Dos B w0 w x q b t a n cap l) :
    w.cell? ⟨x, 0, none⟩ = some (.bool q.out) ∧ w.cell? ⟨x, 1, none⟩ = some (.int .i64 q.key) ∧ w.cell? ⟨x, 2, none⟩ = some (.int .i64 q.v) :=
  ⟨(cell_of_row w x 0 _ _ (0, 0) h.box).trans rfl, (cell_of_row w x 1 _ _ (0, 0) h.box).trans rfl, (cell_of_row w x 2 _ _ (0, 0) h.box).trans rfl⟩
theorem Dos.rowed {B : Nat} {w0 w : World} {x : Nat} {q : OpV} {b : Nat} {t : T} {a a' : Option Addr} {n n' cap cap' : Nat} {l l' : Ps} (h : Dos B w0 w x q b t a n cap l) (hr : Row8 B w a' n' cap' l') : Dos B w0 w x q b t a' n' cap' l' := ⟨h.box, h.tree, hr, h.kept⟩
/-- what is handed back -/
def RetD (B : Nat) (b : Nat) (q : OpV) (t : T) (w : World) (e : Ending) (w' : World) : Prop :=
  ∃ a n cap, e = .returned (.tuple #[.slice a n cap, .bool true]) ∧ TrAt w' b (step q t) ∧ Row8 B w' a n cap (step q t).toL ∧ Kept [b] w w'

set_option maxRecDepth 100000 in
set_option maxHeartbeats 4000000 in
theorem does_any {B : Nat} {w : World} {b : Nat} {t : T} {a : Option Addr} {n cap : Nat} (q : OpV) (ht : TrAt w b t) (hr : Row8 B w a n cap t.toL) (hu : T.Up t.toL) (hs : t.size ≤ 90000) (hB : B ≤ w.heap.size) :
    Calls Try.prog 10 #[.pointer (some ⟨b, 0, none⟩), .slice a n cap, .agg #[.bool q.out, .int .i64 q.key, .int .i64 q.v]] w (RetD B b q t w) := by
  have hb0 := bal' (w := w) (.cells #[.bool q.out, .int .i64 q.key, .int .i64 q.v] 24)
  have D0 : Dos B w (w.alloc (.cells #[.bool q.out, .int .i64 q.key, .int .i64 q.v] 24)) w.heap.size q b t a n cap t.toL := ⟨heap_alloc_new w _, ht.later hb0, hr.later hb0, Kept.of_below hb0 (Nat.le_refl _) [b]⟩
  have hlen : n = t.size := by rw [← T.size_toL]; exact hr.pr.len.symm
  have hB1 : B ≤ (w.alloc (.cells #[.bool q.out, .int .i64 q.key, .int .i64 q.v] 24)).heap.size := Nat.le_trans hB hb0.size
  have HST := Lib.hid (step_toL (q := q) hu)
  have HHAS := Lib.hid (rhas_any D0.row.pr hu q.key (by omega))
  have HPUT := Lib.hid (fun (X : World) (a : Option Addr) (n cap : Nat) (h : Row8 B X a n cap t.toL) (hX : B ≤ X.heap.size) => put8 h hu q.key q.v (by have := h.pr.len; rw [T.size_toL] at this; omega) hX)
  have HDEL := Lib.hid (fun (X : World) (a : Option Addr) (n cap : Nat) (h : Row8 B X a n cap t.toL) (hX : B ≤ X.heap.size) => del8 h hu q.key (by have := h.pr.len; rw [T.size_toL] at this; omega) hX)
  have HTP := Lib.hid (fun (X : World) (h : TrAt X b t) => by have := put_any q.key q.v h (by omega); rwa [ins_more hu] at this)
  have HTD := Lib.hid (fun (X : World) (h : TrAt X b t) => by have := delete_any q.key h (by omega); rwa [del_less hu] at this)
  obtain ⟨W, hW⟩ : ∃ W, W = w.alloc (.cells #[.bool q.out, .int .i64 q.key, .int .i64 q.v] 24) := ⟨_, rfl⟩
  rw [← hW] at D0 HHAS hB1
  obtain ⟨x, hx⟩ : ∃ x, x = w.heap.size := ⟨_, rfl⟩
  rw [← hx] at D0
  obtain ⟨out, key, v⟩ := q
  obtain ⟨e0, e1, e2⟩ := D0.cells
  dsimp only at *
  clear hb0 ht hr hu hlen hB1 hs
  rw [hx] at D0 e0 e1 e2
  rw [hW] at e0 e1 e2
  cases out with
  | true =>
    clear HPUT HTP
    change Hid ((step ⟨true, key, v⟩ t).toL = T.delL key t.toL) at HST
    have HTT : Hid (∀ X, TrAt X b (T.del key t) → TrAt X b (step ⟨true, key, v⟩ t)) := Lib.hid (fun X h => h)
    generalize T.del key t = t1 at *
    generalize T.delL key t.toL = l1 at *
    go_enter Try.func10, Try.ntmps10
    go_wp2_with fail
    rw [← hW]
    clear hW
    have HBX := Lib.hid (fun (X : World) (h : Kept [b] w X) => Nat.le_trans hB h.size)
    clear e0 e1 e2 hx x
    clear hB
    generalize w.heap.size = x at *
    obtain ⟨e0, e1, e2⟩ := D0.cells
    dsimp only at e0 e1 e2
    refine HHAS.out.mono ?_
    rintro e w' ⟨rfl, rfl⟩
    generalize hasL t.toL key = z at *
    clear HHAS
    go_wp2
    have S0 := D0.later (Below.refl W.heap.size W).drew
    clear D0 e1 e2
    go_region_held3 (fun w' => w'.cell? ⟨x, 1, none⟩ = some (.int .i64 key)) (with_reducible first | exact S0.cells.2.1 | exact SA.cells.2.1 | exact SB.cells.2.1 | exact SC.cells.2.1 | go_keep) (first
      | (go_at_call 29; (with_reducible refine (HDEL.out _ _ _ _ S0.row (HBX.out _ S0.kept)).mono ?_); rintro e w2 ⟨a2, n2, c2, rfl, hr2, hb2⟩; have SA := (S0.later hb2).rowed hr2; clear S0 hr2 hb2)
      | (go_at_call 26; (with_reducible refine (HTD.out _ S0.tree).mono ?_); rintro e w3 ⟨rfl, ht3, hk3⟩; have SB := S0.wrote ht3 hk3; clear S0 ht3 hk3)
      | (go_at_call 26; (with_reducible refine (HTD.out _ SA.tree).mono ?_); rintro e w3 ⟨rfl, ht3, hk3⟩; have SC := SA.wrote ht3 hk3; clear SA ht3 hk3)
      | (go_at_call 29; (with_reducible refine (HDEL.out _ _ _ _ SB.row (HBX.out _ SB.kept)).mono ?_); rintro e w2 ⟨a2, n2, c2, rfl, hr2, hb2⟩; have SC := (SB.later hb2).rowed hr2; clear SB hr2 hb2))
    all_goals
      go_wp2
      refine bodyPost_ret (v := .tuple #[.slice a2 n2 c2, .bool true]) (by simp [results, Try.results10, go_sem]) rfl ⟨a2, n2, c2, rfl, HTT.out _ SC.tree, by rw [HST.out]; exact SC.row, SC.kept⟩
  | false =>
    clear HDEL HTD
    change Hid ((step ⟨false, key, v⟩ t).toL = T.putL key v t.toL) at HST
    have HTT : Hid (∀ X, TrAt X b (T.ins key v t) → TrAt X b (step ⟨false, key, v⟩ t)) := Lib.hid (fun X h => h)
    generalize T.ins key v t = t1 at *
    generalize T.putL key v t.toL = l1 at *
    go_enter Try.func10, Try.ntmps10
    go_wp2_with fail
    rw [← hW]
    clear hW
    have HBX := Lib.hid (fun (X : World) (h : Kept [b] w X) => Nat.le_trans hB h.size)
    clear e0 e1 e2 hx x
    clear hB
    generalize w.heap.size = x at *
    obtain ⟨e0, e1, e2⟩ := D0.cells
    dsimp only at e0 e1 e2
    refine HHAS.out.mono ?_
    rintro e w' ⟨rfl, rfl⟩
    generalize hasL t.toL key = z at *
    clear HHAS
    go_wp2
    have S0 := D0.later (Below.refl W.heap.size W).drew
    clear D0 e1 e2
    go_region_held3 (fun w' => w'.cell? ⟨x, 1, none⟩ = some (.int .i64 key) ∧ w'.cell? ⟨x, 2, none⟩ = some (.int .i64 v)) (with_reducible first | exact S0.cells.2 | exact SA.cells.2 | exact SB.cells.2 | exact SC.cells.2 | go_keep) (first
      | (go_at_call 17; (with_reducible refine (HPUT.out _ _ _ _ S0.row (HBX.out _ S0.kept)).mono ?_); rintro e w2 ⟨a2, n2, c2, rfl, hr2, hb2⟩; have SA := (S0.later hb2).rowed hr2; clear S0 hr2 hb2)
      | (go_at_call 16; (with_reducible refine (HTP.out _ S0.tree).mono ?_); rintro e w3 ⟨rfl, ht3, hk3⟩; have SB := S0.wrote ht3 hk3; clear S0 ht3 hk3)
      | (go_at_call 16; (with_reducible refine (HTP.out _ SA.tree).mono ?_); rintro e w3 ⟨rfl, ht3, hk3⟩; have SC := SA.wrote ht3 hk3; clear SA ht3 hk3)
      | (go_at_call 17; (with_reducible refine (HPUT.out _ _ _ _ SB.row (HBX.out _ SB.kept)).mono ?_); rintro e w2 ⟨a2, n2, c2, rfl, hr2, hb2⟩; have SC := (SB.later hb2).rowed hr2; clear SB hr2 hb2))
    all_goals
      go_wp2
      refine bodyPost_ret (v := .tuple #[.slice a2 n2 c2, .bool true]) (by simp [results, Try.results10, go_sem]) rfl ⟨a2, n2, c2, rfl, HTT.out _ SC.tree, by rw [HST.out]; exact SC.row, SC.kept⟩
end Go.Proofs.Ythganmlechikiab.av
