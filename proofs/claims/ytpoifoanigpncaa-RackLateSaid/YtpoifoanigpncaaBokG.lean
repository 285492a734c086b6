/-
  Package book: New, may, goes.
-/
import Derived.Test.YtpoifoanigpncaaBokM
namespace Go.Proofs.Ytpoifoanigpncaa.bk
open Go.RowKit aid mem
attribute [local go_sem ↓] Go.wp_at_zero Go.wp_at_succ
set_option linter.unusedVariables false

theorem may_eq {w : World} {B T : Nat} {s : Hd} {f l : Option Nat} (h : BlAt w B s T f l) (now : Int) : Calls Try.prog 51 #[.pointer (some ⟨B, 0, none⟩), .int .i64 now] w fun e w' => e = .returned (.bool (decide (s.now ≤ now) && decide (now ≤ 4611686018427387904))) ∧ w = w' := by
  obtain ⟨c0, c1, c2, c3, c4, c5⟩ := h.cs
  by_cases h1 : s.now ≤ now
  · have h1b := decide_eq_true h1
    go_enter Try.func51, Try.ntmps51
    go_wp2_with fail
    go_ret
    exact ⟨ret_b (by simp [h1]), rfl⟩
  · have h1b := decide_eq_false h1
    go_enter Try.func51, Try.ntmps51
    go_wp2_with fail
    go_ret
    exact ⟨ret_b (by simp [h1]), rfl⟩
/-- once more is sent -/
def Hd.goes (s : Hd) (now : Int) : Hd := ⟨s.nxt, s.sent + 1, now⟩
theorem hd_set {w : World} {B T : Nat} {s : Hd} {L : List Nd} (h : Ln w B s T L) (now : Int) :
    Ln ((w.setCell ⟨B, 1, none⟩ (.int .i64 (s.sent + 1))).setCell ⟨B, 2, none⟩ (.int .i64 now)) B (s.goes now) T L ∧ Kept [B] w ((w.setCell ⟨B, 1, none⟩ (.int .i64 (s.sent + 1))).setCell ⟨B, 2, none⟩ (.int .i64 now)) := by
  have k : Kept [B] w _ := (kset w B 1 (.int .i64 (s.sent + 1))).setCell (p := ⟨B, 2, none⟩) (.inl (by simp)) (.int .i64 now)
  exact ⟨⟨(setp (setp h.bk _) _).trans rfl, seg_kept k (fun x hx => by simpa using h.nB x hx) h.sg, h.nd, h.nB⟩, k⟩
set_option maxHeartbeats 1000000 in
theorem bgoes_any {w : World} {B T n : Nat} {s : Hd} {L : List Nd} {r : Rc} {a : Option Nat} (h : Ln w B s T L) (hn : NdAt w n r a none) (hnB : n ≠ B) (hnL : ∀ x ∈ L, x.1 ≠ n) (now : Int)
    (h0 : -4611686018427387904 ≤ s.sent ∧ s.sent ≤ 4611686018427387904) (h1 : -4611686018427387904 ≤ r.times ∧ r.times ≤ 4611686018427387904) (h2 : -4611686018427387904 ≤ r.out ∧ r.out ≤ 4611686018427387904) :
    Calls Try.prog 52 #[.pointer (some ⟨B, 0, none⟩), .pointer (some ⟨n, 0, none⟩), .int .i64 now] w fun e w' => (∃ v, e = .returned v) ∧ Ln w' B (s.goes now) T (L ++ [(n, r.goes now (s.sent + 1))]) ∧ Kept (B :: n :: Nb (la none L)) w w' := by
  obtain ⟨c0, c1, c2, c3, c4, c5⟩ := h.bk.cs
  have g1 := h.bk.f 1; have g2 := h.bk.f 2
  obtain ⟨s0, s1⟩ := h0
  obtain ⟨L1, k1⟩ := hd_set h now
  have n1 := hn.keep k1 (by simpa using hnB)
  have HK1 := Lib.hid k1
  have HL1 := Lib.hid L1
  have HN1 := Lib.hid n1
  have hBn := hnB.symm
  clear h hn L1 k1 n1
  go_enter Try.func52, Try.ntmps52
  go_wp2_with fail
  generalize (w.setCell ⟨B, 1, none⟩ (.int .i64 (s.sent + 1))).setCell ⟨B, 2, none⟩ (.int .i64 now) = w1 at *
  have e1 : w1.drew.cell? ⟨B, 1, none⟩ = some (.int .i64 (s.sent + 1)) := HL1.out.bk.cs.2.1
  go_region_held3 (fun w' => w'.cell? ⟨B, 1, none⟩ = some (.int .i64 (s.sent + 1))) (first | exact e1 | exact e2 | go_keep)
    ((go_at_call 63; (with_reducible refine (goes_any (HN1.out.later (Below.refl _ _).drew) now (s.sent + 1) h1 h2).mono ?_); rintro x w2 ⟨⟨v, rfl⟩, n2, k2⟩; have L2 := (HL1.out.drew).kept k2 (by simpa using hBn) (fun x hx => by simpa using hnL x hx); have e2 := L2.bk.cs.2.1))
  go_wp2_with (go_at_call 64; (with_reducible refine (add_any L2 n2 hnB hnL).mono ?_); rintro x w3 ⟨⟨v, rfl⟩, L3, k3⟩)
  go_end0
  refine ⟨⟨_, rfl⟩, L3, ?_⟩
  have q1 : Kept (B :: n :: Nb (la none L)) w w1.drew := (HK1.out.drew).mono (by simp)
  exact (q1.trans k2 (by simp)).trans k3 (fun x hx => .inl hx)
theorem new_bad {una : Int} (h : una < 0 ∨ 4611686018427387904 < una) (w : World) : Calls Try.prog 31 #[.int .i64 una] w fun e w' => e = .returned (.tuple #[.pointer none, .int .i64 3]) ∧ w = w' := by
  rcases h with h | h
  · go_enter Try.func31, Try.ntmps31
    go_wp2
    go_ret2
    exact ⟨rfl, rfl⟩
  · have h' : ¬ una < 0 := by omega
    go_enter Try.func31, Try.ntmps31
    go_wp2
    go_ret2
    exact ⟨rfl, rfl⟩
/-- the nodes by their From -/
def kvN (N : List Nd) : List (Int × cv.Vt) := N.map fun x => (x.2.f, some ⟨x.1, 0, none⟩)
/-- records that rise, up to an offset -/
structure Up (N : List Nd) (nxt : Int) : Prop where
  ok : ∀ x ∈ N, x.2.f < x.2.t ∧ x.2.t ≤ nxt
  up : N.Pairwise (fun x y => x.2.t ≤ y.2.f)
theorem Up.tree {N : List Nd} {nxt : Int} (h : Up N nxt) : cv.T.Up (kvN N) := by
  unfold cv.T.Up kvN
  rw [List.pairwise_map]
  refine h.up.imp_of_mem (fun {x y} hx hy hxy => ?_)
  have := (h.ok x hx).1
  simp only
  omega
/-- a book: block B, its tree's header T; its records by their From (N), and by their order (L) -/
structure Bk (w : World) (B T : Nat) (s : Hd) (N L : List Nd) : Prop where
  ln : Ln w B s T L
  tr : ∃ t, cv.TrAt w T t ∧ t.toL = kvN N
  tb : T ≠ B
  tl : ∀ x ∈ L, x.1 ≠ T
  perm : L.Perm N
  up : Up N s.nxt
  n0 : 0 ≤ s.nxt ∧ s.nxt ≤ 4611686018427387904
/-- the blocks that a book has of its own (the tree's nodes aside, which are never written) -/
def fp (B T : Nat) (L : List Nd) : List Nat := B :: T :: L.map (·.1)
theorem Bk.later {w w' : World} {B T : Nat} {s : Hd} {N L : List Nd} (h : Bk w B T s N L) (hb : Below w.heap.size w w') : Bk w' B T s N L := by
  obtain ⟨t, h2, h3⟩ := h.tr
  exact ⟨h.ln.later hb, ⟨t, h2.later hb, h3⟩, h.tb, h.tl, h.perm, h.up, h.n0⟩
theorem Bk.lt {w : World} {B T : Nat} {s : Hd} {N L : List Nd} (h : Bk w B T s N L) : ∀ k ∈ fp B T L, k < w.heap.size := by
  intro k hk
  unfold fp at hk
  rcases List.mem_cons.1 hk with rfl | hk
  · exact h.ln.bk.lt
  · rcases List.mem_cons.1 hk with rfl | hk
    · obtain ⟨t, h2, _⟩ := h.tr; exact h2.lt
    · obtain ⟨x, hx, rfl⟩ := List.mem_map.1 hk; exact h.ln.lt hx
/-- none of these is a node of a tree -/
theorem Bk.notree {w : World} {B T : Nat} {s : Hd} {N L : List Nd} (h : Bk w B T s N L) : ∀ k ∈ fp B T L, ∀ cs, w.heap[k]? ≠ some (.cells cs 138 (0, 0)) := by
  intro k hk cs e
  unfold fp at hk
  rcases List.mem_cons.1 hk with rfl | hk
  · rw [show w.heap[k]? = _ from h.ln.bk] at e; simp at e
  · rcases List.mem_cons.1 hk with rfl | hk
    · obtain ⟨t, ⟨q, h2, _⟩, _⟩ := h.tr
      rw [h2] at e; simp at e
    · obtain ⟨x, hx, rfl⟩ := List.mem_map.1 hk
      obtain ⟨p, q, hn⟩ := seg_mem h.ln.sg hx
      rw [show w.heap[x.1]? = _ from hn] at e; simp at e
/-- a tree stays as it was where neither its header nor nodes of trees are written -/
theorem tr_kept {w w' : World} {T : Nat} {t : cv.T} {S : List Nat} (h : cv.TrAt w T t) (hk : Kept S w w') (hT : T ∉ S) (hS : ∀ k ∈ S, k < w.heap.size → ∀ cs, w.heap[k]? ≠ some (.cells cs 138 (0, 0))) : cv.TrAt w' T t := by
  obtain ⟨q, h1, h2⟩ := h
  exact ⟨q, hk.heap hT h1, h2.keepT (fun b cs hb => hk.block b (lt_of_block hb) (fun e => hS b e (lt_of_block hb) cs hb))⟩
set_option maxHeartbeats 1000000 in
theorem new_any {una : Int} (h : 0 ≤ una ∧ una ≤ 4611686018427387904) (w : World) : Calls Try.prog 31 #[.int .i64 una] w fun e w' => ∃ B T, e = .returned (.tuple #[.pointer (some ⟨B, 0, none⟩), .int .i64 0]) ∧ Bk w' B T ⟨una, 0, 0⟩ [] [] ∧ Below w.heap.size w w' ∧ w.heap.size ≤ B ∧ w.heap.size ≤ T := by
  obtain ⟨h0, h1⟩ := h
  have H01 := Lib.hid (And.intro h0 h1)
  go_enter Try.func31, Try.ntmps31
  go_wp2_with (go_at_call 49; (with_reducible refine (cv.new_any _).mono ?_); rintro e w1 ⟨rfl, ht, hb⟩; have HT := Lib.hid ht; have HB := Lib.hid hb; clear ht hb)
  go_ret2
  have hz := HB.out.size
  have hlt := HT.out.lt
  exact ⟨_, w.heap.size, rfl, ⟨⟨heap_alloc_new w1 _, trivial, by simp, by simp⟩, ⟨.nil, HT.out.later (al _ _), rfl⟩, by omega, by simp, List.Perm.refl _, ⟨by simp, List.Pairwise.nil⟩, H01.out⟩, HB.out.trans ((al w1 _).mono hz), hz, Nat.le_refl _⟩
end Go.Proofs.Ytpoifoanigpncaa.bk
