/-
  Package book: a line's add and cut.
-/
import Derived.Test.YtpoifoanigpncaaBokW
namespace Go.Proofs.Ytpoifoanigpncaa.bk
open Go.RowKit aid mem
attribute [local go_sem ↓] Go.wp_at_zero Go.wp_at_succ
set_option linter.unusedVariables false

/-- the book's own cells -/
structure Hd where
  nxt : Int
  sent : Int
  now : Int
abbrev bkO (s : Hd) (T : Nat) (f l : Option Nat) : Obj := .cells #[.int .i64 s.nxt, .int .i64 s.sent, .int .i64 s.now, .pointer (some ⟨T, 0, none⟩), pA f, pA l] 104 (0, 0)
def BlAt (w : World) (B : Nat) (s : Hd) (T : Nat) (f l : Option Nat) : Prop := w.heap[B]? = some (bkO s T f l)
section
variable {w w' : World} {B T : Nat} {s : Hd} {fi l : Option Nat} (h : BlAt w B s T fi l)
include h
theorem BlAt.cs : w.cell? ⟨B, 0, none⟩ = some (.int .i64 s.nxt) ∧ w.cell? ⟨B, 1, none⟩ = some (.int .i64 s.sent) ∧ w.cell? ⟨B, 2, none⟩ = some (.int .i64 s.now) ∧ w.cell? ⟨B, 3, none⟩ = some (.pointer (some ⟨T, 0, none⟩)) ∧ w.cell? ⟨B, 4, none⟩ = some (pA fi) ∧ w.cell? ⟨B, 5, none⟩ = some (pA l) :=
  ⟨cofr h 0 _ rfl, cofr h 1 _ rfl, cofr h 2 _ rfl, cofr h 3 _ rfl, cofr h 4 _ rfl, cofr h 5 _ rfl⟩
theorem BlAt.f (i : Nat) : w.frozen? ⟨B, i, none⟩ = false := fofr h i
theorem BlAt.lt : B < w.heap.size := lt_of_block h
theorem BlAt.keep {S : List Nat} (hk : Kept S w w') (hb : B ∉ S) : BlAt w' B s T fi l := hk.heap hb h
theorem BlAt.later (hk : Below w.heap.size w w') : BlAt w' B s T fi l := (hk.block B (lt_of_block h)).trans h
theorem BlAt.setF (f' : Option Nat) : BlAt (w.setCell ⟨B, 4, none⟩ (pA f')) B s T f' l := (heap_setCell_same _ B 4 _ _ _ h).trans rfl
theorem BlAt.setL (l' : Option Nat) : BlAt (w.setCell ⟨B, 5, none⟩ (pA l')) B s T fi l' := (heap_setCell_same _ B 5 _ _ _ h).trans rfl
end
/-- what a line's change writes: the book, the node, its neighbours -/
def Nb : Option Nat → List Nat
  | none => []
  | some b => [b]
/-- the book's block and its line -/
structure Ln (w : World) (B : Nat) (s : Hd) (T : Nat) (L : List Nd) : Prop where
  bk : BlAt w B s T (hd none L) (la none L)
  sg : seg w none L none
  nd : (L.map (·.1)).Nodup
  nB : ∀ x ∈ L, x.1 ≠ B
theorem Ln.later {w w' : World} {B T : Nat} {s : Hd} {L : List Nd} (h : Ln w B s T L) (hb : Below w.heap.size w w') : Ln w' B s T L := ⟨h.bk.later hb, seg_later hb h.sg, h.nd, h.nB⟩
theorem Ln.kept {w w' : World} {B T : Nat} {s : Hd} {L : List Nd} {S : List Nat} (h : Ln w B s T L) (hk : Kept S w w') (hB : B ∉ S) (hL : ∀ x ∈ L, x.1 ∉ S) : Ln w' B s T L := ⟨h.bk.keep hk hB, seg_kept hk hL h.sg, h.nd, h.nB⟩
theorem Ln.lt {w : World} {B T : Nat} {s : Hd} {L : List Nd} (h : Ln w B s T L) {x : Nd} (hx : x ∈ L) : x.1 < w.heap.size := seg_lt h.sg hx
theorem nodup_snoc {L : List Nd} {n : Nat} {r : Rc} (h : (L.map (·.1)).Nodup) (hn : ∀ x ∈ L, x.1 ≠ n) : ((L ++ [(n, r)]).map (·.1)).Nodup := by
  rw [List.map_append]
  refine List.nodup_append.2 ⟨h, by simp, ?_⟩
  intro a ha b hb
  simp at hb
  subst hb
  obtain ⟨x, hx, rfl⟩ := List.mem_map.1 ha
  exact hn x hx
set_option maxHeartbeats 1000000 in
theorem add_any {w : World} {B T n : Nat} {s : Hd} {L : List Nd} {r : Rc} {a : Option Nat} (h : Ln w B s T L) (hn : NdAt w n r a none) (hnB : n ≠ B) (hnL : ∀ x ∈ L, x.1 ≠ n) :
    Calls Try.prog 64 #[.pointer (some ⟨B, 4, none⟩), .pointer (some ⟨n, 0, none⟩)] w fun e w' => (∃ v, e = .returned v) ∧ Ln w' B s T (L ++ [(n, r)]) ∧ Kept (B :: n :: Nb (la none L)) w w' := by
  have hnd := nodup_snoc (r := r) h.nd hnL
  have hnb : ∀ x ∈ L ++ [(n, r)], x.1 ≠ B := fun x hx => by
    rcases List.mem_append.1 hx with hx | hx
    · exact h.nB x hx
    · simp at hx; subst hx; exact hnB
  have hBn := hnB.symm
  rcases List.eq_nil_or_concat L with rfl | ⟨L', ⟨m, rm⟩, rfl⟩
  · obtain ⟨c0, c1, c2, c3, c4, c5⟩ := h.bk.cs
    have g4 := h.bk.f 4; have g5 := h.bk.f 5
    have f7 := hn.f 7
    obtain ⟨_, _, _, _, _, _, _, n7, n8⟩ := hn.cs
    simp only [hd, la, pA, Option.map] at c4 c5
    have HD := Lib.hid hnd
    have HB := Lib.hid hnb
    have k1 := kset w n 7 (pA none)
    have HF : Hid (∀ W, W = ((w.setCell ⟨n, 7, none⟩ (pA none)).setCell ⟨B, 4, none⟩ (pA (some n))).setCell ⟨B, 5, none⟩ (pA (some n)) → Ln W B s T ([] ++ [(n, r)]) ∧ Kept (B :: n :: Nb (la none [])) w W) := by
      refine Lib.hid ?_
      rintro W rfl
      have b1 := BlAt.setL (BlAt.setF (h.bk.keep k1 (by simpa using hnB.symm)) (some n)) (some n)
      have n1 := hn.setA none
      have k2 := kset (w.setCell ⟨n, 7, none⟩ (pA none)) B 4 (pA (some n))
      have k3 := kset ((w.setCell ⟨n, 7, none⟩ (pA none)).setCell ⟨B, 4, none⟩ (pA (some n))) B 5 (pA (some n))
      have n2 := (n1.keep k2 (by simpa using hnB)).keep k3 (by simpa using hnB)
      exact ⟨⟨b1, ⟨n2, trivial⟩, hnd, hnb⟩, ((k1.mono (by simp)).trans k2 (by simp)).trans k3 (by simp)⟩
    clear h hn hnd hnb k1
    go_enter Try.func64, Try.ntmps64
    go_wp2_with fail
    go_end0
    exact ⟨⟨_, rfl⟩, HF.out _ rfl⟩
  · rw [List.concat_eq_append] at *
    obtain ⟨c0, c1, c2, c3, c4, c5⟩ := h.bk.cs
    have g4 := h.bk.f 4; have g5 := h.bk.f 5
    have f7 := hn.f 7
    obtain ⟨_, _, _, _, _, _, _, n7, n8⟩ := hn.cs
    have hmn : m ≠ n := hnL (m, rm) (by simp)
    have hmB : m ≠ B := h.nB (m, rm) (by simp)
    have hnm := hmn.symm; have hBm := hmB.symm
    rw [la_append] at c5
    simp only [la, pA, Option.map] at c5
    have hm := (seg_append.1 h.sg).2.1
    have m8 := hm.f 8
    obtain ⟨_, _, _, _, _, _, _, m7, m8c⟩ := hm.cs
    have hfn : w.frozen? ⟨m, 8, none⟩ = false := m8
    have HF : Hid (∀ W, W = ((w.setCell ⟨n, 7, none⟩ (pA (some m))).setCell ⟨m, 8, none⟩ (pA (some n))).setCell ⟨B, 5, none⟩ (pA (some n)) → Ln W B s T ((L' ++ [(m, rm)]) ++ [(n, r)]) ∧ Kept (B :: n :: Nb (la none (L' ++ [(m, rm)]))) w W) := by
      refine Lib.hid ?_
      rintro W rfl
      have k1 := kset w n 7 (pA (some m))
      have k2 := kset (w.setCell ⟨n, 7, none⟩ (pA (some m))) m 8 (pA (some n))
      have k3 := kset ((w.setCell ⟨n, 7, none⟩ (pA (some m))).setCell ⟨m, 8, none⟩ (pA (some n))) B 5 (pA (some n))
      have b1 := BlAt.setL ((h.bk.keep k1 (by simpa using hnB.symm)).keep k2 (by simpa using hmB.symm)) (some n)
      have n1 := ((hn.setA (some m)).keep k2 (by simpa using hmn.symm)).keep k3 (by simpa using hnB)
      have k123 : Kept (B :: n :: m :: []) w _ := ((k1.mono (by simp)).trans k2 (by simp)).trans k3 (by simp)
      have hm1 := ((hm.keep k1 (by simpa using hmn)).setZ (some n)).keep k3 (by simpa using hmB)
      have hl : seg _ none L' (hd none [(m, rm)]) := seg_kept k123 (fun x hx => by
        have e1 := hnL x (by simp [hx])
        have e2 := h.nB x (by simp [hx])
        have e3 : x.1 ≠ m := by
          have := h.nd
          rw [List.map_append] at this
          exact (List.nodup_append.1 this).2.2 x.1 (List.mem_map.2 ⟨x, hx, rfl⟩) m (by simp)
        simp [e1, e2, e3]) (seg_append.1 h.sg).1
      refine ⟨⟨?_, seg_append.2 ⟨seg_append.2 ⟨hl, hm1, trivial⟩, ?_, trivial⟩, hnd, hnb⟩, ?_⟩
      · rw [la_append, List.append_assoc, hd_append]
        rw [hd_append] at b1
        exact b1
      · rw [la_append]; exact n1
      · rw [la_append]; exact k123
    clear h hn hnd hnb hm
    simp only [pA, Option.map] at HF m8c
    go_enter Try.func64, Try.ntmps64
    go_wp2_with fail
    go_end0
    have hfin := HF.out _ rfl
    rw [List.append_assoc] at hfin
    exact ⟨⟨_, rfl⟩, hfin⟩

theorem nodup_mid {P Q : List Nd} {n : Nat} {r : Rc} (h : ((P ++ (n, r) :: Q).map (·.1)).Nodup) : ((P ++ Q).map (·.1)).Nodup ∧ (∀ x ∈ P, x.1 ≠ n) ∧ (∀ x ∈ Q, x.1 ≠ n) ∧ ∀ x ∈ P, ∀ y ∈ Q, x.1 ≠ y.1 := by
  rw [List.map_append, List.map_cons] at h
  obtain ⟨h1, h2, h3⟩ := List.nodup_append.1 h
  obtain ⟨h4, h5⟩ := List.nodup_cons.1 h2
  refine ⟨?_, fun x hx => h3 x.1 (List.mem_map.2 ⟨x, hx, rfl⟩) n (by simp), fun x hx e => h4 (List.mem_map.2 ⟨x, hx, e⟩), fun x hx y hy => h3 x.1 (List.mem_map.2 ⟨x, hx, rfl⟩) y.1 (by simp; exact .inr ⟨y.2, hy⟩)⟩
  rw [List.map_append]
  exact List.nodup_append.2 ⟨h1, h5, fun a ha b hb => h3 a ha b (List.mem_cons_of_mem _ hb)⟩
/-- the line once a node is out -/
def CutP (B T n : Nat) (s : Hd) (P Q : List Nd) (r : Rc) (w : World) (W : World) : Prop := Ln W B s T (P ++ Q) ∧ NdAt W n r none none ∧ Kept (B :: n :: (Nb (la none P) ++ Nb (hd none Q))) w W
theorem cut_nn {w : World} {B T n : Nat} {s : Hd} {r : Rc} (h : Ln w B s T ([] ++ (n, r) :: [])) :
    CutP B T n s [] [] r w ((((w.setCell ⟨B, 4, none⟩ (pA none)).setCell ⟨B, 5, none⟩ (pA none)).setCell ⟨n, 7, none⟩ (pA none)).setCell ⟨n, 8, none⟩ (pA none)) := by
  have hnB := h.nB (n, r) (by simp)
  have k1 := kset w B 4 (pA none)
  have k2 := kset (w.setCell ⟨B, 4, none⟩ (pA none)) B 5 (pA none)
  have k3 := kset ((w.setCell ⟨B, 4, none⟩ (pA none)).setCell ⟨B, 5, none⟩ (pA none)) n 7 (pA none)
  have k4 := kset (((w.setCell ⟨B, 4, none⟩ (pA none)).setCell ⟨B, 5, none⟩ (pA none)).setCell ⟨n, 7, none⟩ (pA none)) n 8 (pA none)
  have hn := (seg_append.1 h.sg).2.1
  have b := (((h.bk.setF none).setL none).keep k3 (by simpa using hnB.symm)).keep k4 (by simpa using hnB.symm)
  have m := ((((hn.keep k1 (by simpa using hnB)).keep k2 (by simpa using hnB)).setA none).setZ none)
  exact ⟨⟨b, trivial, by simp, by simp⟩, m, (((k1.mono (by simp)).trans k2 (by simp)).trans k3 (by simp)).trans k4 (by simp)⟩
theorem cut_nc {w : World} {B T n : Nat} {s : Hd} {r : Rc} {q : Nd} {Q : List Nd} (h : Ln w B s T ([] ++ (n, r) :: (q :: Q))) :
    CutP B T n s [] (q :: Q) r w ((((w.setCell ⟨B, 4, none⟩ (pA (some q.1))).setCell ⟨q.1, 7, none⟩ (pA none)).setCell ⟨n, 7, none⟩ (pA none)).setCell ⟨n, 8, none⟩ (pA none)) := by
  have hnB := h.nB (n, r) (by simp)
  have hqB := h.nB q (by simp)
  obtain ⟨d1, d2, d3, d4⟩ := nodup_mid h.nd
  have hqn := d3 q (by simp)
  have k1 := kset w B 4 (pA (some q.1))
  have k2 := kset (w.setCell ⟨B, 4, none⟩ (pA (some q.1))) q.1 7 (pA none)
  have k3 := kset ((w.setCell ⟨B, 4, none⟩ (pA (some q.1))).setCell ⟨q.1, 7, none⟩ (pA none)) n 7 (pA none)
  have k4 := kset (((w.setCell ⟨B, 4, none⟩ (pA (some q.1))).setCell ⟨q.1, 7, none⟩ (pA none)).setCell ⟨n, 7, none⟩ (pA none)) n 8 (pA none)
  have hn := (seg_append.1 h.sg).2.1
  have hq := (seg_append.1 h.sg).2.2.1
  have hQ := (seg_append.1 h.sg).2.2.2
  have b := (((h.bk.setF (some q.1)).keep k2 (by simpa using hqB.symm)).keep k3 (by simpa using hnB.symm)).keep k4 (by simpa using hnB.symm)
  have m := ((((hn.keep k1 (by simpa using hnB)).keep k2 (by simpa using hqn.symm)).setA none).setZ none)
  have e := (((hq.keep k1 (by simpa using hqB)).setA none).keep k3 (by simpa using hqn)).keep k4 (by simpa using hqn)
  have k : Kept (B :: n :: (Nb (la none []) ++ Nb (hd none (q :: Q)))) w _ := (((k1.mono (by simp)).trans k2 (by simp [Nb, hd])).trans k3 (by simp)).trans k4 (by simp)
  have hdq : ∀ x ∈ Q, x.1 ≠ q.1 := by
    have := d1
    simp only [List.nil_append, List.map_cons] at this
    exact fun x hx e => (List.nodup_cons.1 this).1 (List.mem_map.2 ⟨x, hx, e⟩)
  refine ⟨⟨b, ⟨e, seg_kept k (fun x hx => ?_) hQ⟩, d1, fun x hx => h.nB x (by simp at hx ⊢; rcases hx with hx | hx; exact .inr (.inl hx); exact .inr (.inr hx))⟩, m, k⟩
  have e1 := h.nB x (by simp [hx])
  have e2 := d3 x (by simp [hx])
  have e3 := hdq x hx
  simp [Nb, la, hd, e1, e2, e3]
theorem cut_sn {w : World} {B T n : Nat} {s : Hd} {r : Rc} {m : Nat} {rm : Rc} {P : List Nd} (h : Ln w B s T ((P ++ [(m, rm)]) ++ (n, r) :: [])) :
    CutP B T n s (P ++ [(m, rm)]) [] r w ((((w.setCell ⟨m, 8, none⟩ (pA none)).setCell ⟨B, 5, none⟩ (pA (some m))).setCell ⟨n, 7, none⟩ (pA none)).setCell ⟨n, 8, none⟩ (pA none)) := by
  have hnB := h.nB (n, r) (by simp)
  have hmB := h.nB (m, rm) (by simp)
  obtain ⟨d1, d2, d3, d4⟩ := nodup_mid h.nd
  have hmn : m ≠ n := d2 (m, rm) (by simp)
  have k1 := kset w m 8 (pA none)
  have k2 := kset (w.setCell ⟨m, 8, none⟩ (pA none)) B 5 (pA (some m))
  have k3 := kset ((w.setCell ⟨m, 8, none⟩ (pA none)).setCell ⟨B, 5, none⟩ (pA (some m))) n 7 (pA none)
  have k4 := kset (((w.setCell ⟨m, 8, none⟩ (pA none)).setCell ⟨B, 5, none⟩ (pA (some m))).setCell ⟨n, 7, none⟩ (pA none)) n 8 (pA none)
  obtain ⟨s1, hn, _⟩ := seg_append.1 h.sg
  obtain ⟨hP, hm, _⟩ := seg_append.1 s1
  have b := (((h.bk.keep k1 (by simpa using hmB.symm)).setL (some m)).keep k3 (by simpa using hnB.symm)).keep k4 (by simpa using hnB.symm)
  have mm := ((((hn.keep k1 (by simpa using hmn.symm)).keep k2 (by simpa using hnB)).setA none).setZ none)
  have e := (((hm.setZ none).keep k2 (by simpa using hmB)).keep k3 (by simpa using hmn)).keep k4 (by simpa using hmn)
  have hla : la none (P ++ [(m, rm)]) = some m := by rw [la_append]; rfl
  have k : Kept (B :: n :: (Nb (la none (P ++ [(m, rm)])) ++ Nb (hd none []))) w _ := (((k1.mono (by rw [hla]; simp [Nb])).trans k2 (by simp)).trans k3 (by simp)).trans k4 (by simp)
  have hdp : ∀ x ∈ P, x.1 ≠ m := by
    have := d1
    rw [List.append_nil, List.map_append] at this
    exact fun x hx => (List.nodup_append.1 this).2.2 x.1 (List.mem_map.2 ⟨x, hx, rfl⟩) m (by simp)
  refine ⟨⟨?_, ?_, d1, fun x hx => h.nB x (by rw [List.append_nil] at hx; exact List.mem_append.2 (.inl hx))⟩, mm, k⟩
  · rw [List.append_nil, hla]
    have hh : hd none (P ++ [(m, rm)] ++ (n, r) :: []) = hd none (P ++ [(m, rm)]) := by rw [hd_append, hd_append, hd_append]; cases P <;> rfl
    rw [hh] at b
    exact b
  · rw [List.append_nil]
    refine seg_append.2 ⟨seg_kept k (fun x hx => ?_) hP, e, trivial⟩
    have e1 := h.nB x (by simp [hx])
    have e2 := d2 x (by simp [hx])
    have e3 := hdp x hx
    rw [hla]
    simp [Nb, hd, e1, e2, e3]
theorem cut_sc {w : World} {B T n : Nat} {s : Hd} {r : Rc} {m : Nat} {rm : Rc} {P : List Nd} {q : Nd} {Q : List Nd} (h : Ln w B s T ((P ++ [(m, rm)]) ++ (n, r) :: (q :: Q))) :
    CutP B T n s (P ++ [(m, rm)]) (q :: Q) r w ((((w.setCell ⟨m, 8, none⟩ (pA (some q.1))).setCell ⟨q.1, 7, none⟩ (pA (some m))).setCell ⟨n, 7, none⟩ (pA none)).setCell ⟨n, 8, none⟩ (pA none)) := by
  have hnB := h.nB (n, r) (by simp)
  have hmB := h.nB (m, rm) (by simp)
  have hqB := h.nB q (by simp)
  obtain ⟨d1, d2, d3, d4⟩ := nodup_mid h.nd
  have hmn : m ≠ n := d2 (m, rm) (by simp)
  have hqn := d3 q (by simp)
  have hmq : m ≠ q.1 := d4 (m, rm) (by simp) q (by simp)
  have k1 := kset w m 8 (pA (some q.1))
  have k2 := kset (w.setCell ⟨m, 8, none⟩ (pA (some q.1))) q.1 7 (pA (some m))
  have k3 := kset ((w.setCell ⟨m, 8, none⟩ (pA (some q.1))).setCell ⟨q.1, 7, none⟩ (pA (some m))) n 7 (pA none)
  have k4 := kset (((w.setCell ⟨m, 8, none⟩ (pA (some q.1))).setCell ⟨q.1, 7, none⟩ (pA (some m))).setCell ⟨n, 7, none⟩ (pA none)) n 8 (pA none)
  obtain ⟨s1, hn, hq, hQ⟩ := seg_append.1 h.sg
  obtain ⟨hP, hm, _⟩ := seg_append.1 s1
  have b := (((h.bk.keep k1 (by simpa using hmB.symm)).keep k2 (by simpa using hqB.symm)).keep k3 (by simpa using hnB.symm)).keep k4 (by simpa using hnB.symm)
  have mm := ((((hn.keep k1 (by simpa using hmn.symm)).keep k2 (by simpa using hqn.symm)).setA none).setZ none)
  have e := (((hm.setZ (some q.1)).keep k2 (by simpa using hmq)).keep k3 (by simpa using hmn)).keep k4 (by simpa using hmn)
  have eq := (((hq.keep k1 (by simpa using hmq.symm)).setA (some m)).keep k3 (by simpa using hqn)).keep k4 (by simpa using hqn)
  have hla : la none (P ++ [(m, rm)]) = some m := by rw [la_append]; rfl
  have k : Kept (B :: n :: (Nb (la none (P ++ [(m, rm)])) ++ Nb (hd none (q :: Q)))) w _ := (((k1.mono (by rw [hla]; simp [Nb])).trans k2 (by simp [Nb, hd])).trans k3 (by simp)).trans k4 (by simp)
  have hdp : ∀ x ∈ P, x.1 ≠ m := by
    have := d1
    rw [List.map_append, List.map_append] at this
    exact fun x hx => (List.nodup_append.1 (List.nodup_append.1 this).1).2.2 x.1 (List.mem_map.2 ⟨x, hx, rfl⟩) m (by simp)
  have hdq : ∀ x ∈ Q, x.1 ≠ q.1 := by
    have := d1
    rw [List.map_append, List.map_cons] at this
    exact fun x hx e => (List.nodup_cons.1 (List.nodup_append.1 this).2.1).1 (List.mem_map.2 ⟨x, hx, e⟩)
  refine ⟨⟨?_, ?_, d1, fun x hx => h.nB x (by rcases List.mem_append.1 hx with hx | hx; exact List.mem_append.2 (.inl hx); exact List.mem_append.2 (.inr (List.mem_cons_of_mem _ hx)))⟩, mm, k⟩
  · have hh : hd none (P ++ [(m, rm)] ++ (n, r) :: q :: Q) = hd none (P ++ [(m, rm)] ++ q :: Q) := by rw [hd_append, hd_append, hd_append, hd_append]; cases P <;> rfl
    have hl : la none (P ++ [(m, rm)] ++ (n, r) :: q :: Q) = la none (P ++ [(m, rm)] ++ q :: Q) := by rw [la_append none (P ++ [(m, rm)]) ((n, r) :: q :: Q), la_append none (P ++ [(m, rm)]) (q :: Q)]; rfl
    rw [hh, hl] at b
    exact b
  · refine seg_append.2 ⟨seg_append.2 ⟨seg_kept k (fun x hx => ?_) hP, e, trivial⟩, ?_, seg_kept k (fun x hx => ?_) hQ⟩
    · have e1 := h.nB x (by simp [hx])
      have e2 := d2 x (by simp [hx])
      have e3 := hdp x hx
      have e4 := d4 x (by simp [hx]) q (by simp)
      rw [hla]
      simp [Nb, hd, e1, e2, e3, e4]
    · rw [hla]; exact eq
    · have e1 := h.nB x (by simp [hx])
      have e2 := d3 x (by simp [hx])
      have e3 := hdq x hx
      have e4 := d4 (m, rm) (by simp) x (by simp [hx])
      rw [hla]
      simp [Nb, hd, e1, e2, e3, Ne.symm e4]
end Go.Proofs.Ytpoifoanigpncaa.bk
