/-
  Several texts in one: BavI BavS BavR BavQ SpnY SpnQ SpnT SpnH SpnG SpnK Open SpnO SpnS SpnE Kp RunW RunP RunQ
-/
import Derived.RangeFuncWrites
import Derived.Shelf.Abstract
import Derived.Shelf.RegionOpen
import Derived.WalkKit
import Derived.OwnWalkIn
import Derived.TacticsInMore
import Derived.LoopNIn
import Derived.LoopIn
import Derived.OpenShut
import Derived.Deep.Slices
import Derived.ProofKit
import Derived.Laws.StructEq
import Derived.Test.YtohpaoleomcimaaGreatM5
/-!   Package avl: going through the nodes.
-/
namespace Go.Proofs.YtohpaoleomcimaaGreat.bv
open Go.RowKit Go.Shelf aid mem rng
attribute [local go_sem] Oper.semAt_some
set_option linter.unusedVariables false

/-- a node: its block, its key, its value -/
abbrev Nd := Nat × Int × Vt
/-- the nodes of a tree from a key on, rising; R = none: all, falling -/
def Goes (w : World) (key : Int) : Option Addr → T → List Nd → Prop
  | p, .nil, LN => p = none ∧ LN = []
  | p, .node l k v r, LN => ∃ b pl pr Ll Lr, p = some ⟨b, 0, none⟩ ∧ w.heap[b]? = some (ndB l k v r pl pr) ∧ Goes w key pl l Ll ∧ Goes w key pr r Lr ∧ LN = if k < key then Lr else Ll ++ (b, k, v) :: Lr
theorem goes_of {w : World} (key : Int) : ∀ {t : T} {p : Option Addr}, NdAt w p t → ∃ LN, Goes w key p t LN := by
  intro t
  induction t with
  | nil => intro p h; exact ⟨[], h, rfl⟩
  | node l k v r ihl ihr =>
    rintro p ⟨b, pl, pr, rfl, hb, hl, hr⟩
    obtain ⟨Ll, h1⟩ := ihl hl
    obtain ⟨Lr, h2⟩ := ihr hr
    exact ⟨_, b, pl, pr, Ll, Lr, rfl, hb, h1, h2, rfl⟩
theorem goes_keys {w : World} (key : Int) : ∀ {t : T} {p : Option Addr} {LN : List Nd}, Goes w key p t LN → T.Up t.toL → LN.map (fun x => (x.2.1, x.2.2)) = t.toL.filter (fun x => decide (key ≤ x.1)) := by
  intro t
  induction t with
  | nil => rintro p LN ⟨rfl, rfl⟩ _; rfl
  | node l k v r ihl ihr =>
    rintro p LN ⟨b, pl, pr, Ll, Lr, rfl, hb, hl, hr, rfl⟩ hu
    obtain ⟨u1, u2, u3, u4, u5⟩ := T.up_node.1 hu
    have e1 := ihl hl u1
    have e2 := ihr hr u2
    by_cases hk : k < key
    · rw [if_pos hk, e2]
      show _ = (l.toL ++ (k, v) :: r.toL).filter _
      rw [List.filter_append, List.filter_cons, if_neg (by simp; omega), (List.filter_eq_nil_iff (l := l.toL)).2 (fun x hx => by have := u3 x hx; simp; omega), List.nil_append]
    · rw [if_neg hk, List.map_append, List.map_cons, e1, e2]
      show _ = (l.toL ++ (k, v) :: r.toL).filter _
      rw [List.filter_append, List.filter_cons, if_pos (by simp; omega)]
theorem goes_cells {w : World} (key : Int) : ∀ {t : T} {p : Option Addr} {LN : List Nd}, Goes w key p t LN → ∀ x ∈ LN, ∃ cs, w.heap[x.1]? = some (.cells cs 176 (0, 0)) ∧ w.cell? ⟨x.1, 0, none⟩ = some (.int .i64 x.2.1) ∧ (w.cell? ⟨x.1, 1, none⟩ = some (.int .i64 x.2.2.1) ∧ w.cell? ⟨x.1, 2, none⟩ = some (.int .i64 x.2.2.2)) := by
  intro t
  induction t with
  | nil => rintro p LN ⟨rfl, rfl⟩ x hx; cases hx
  | node l k v r ihl ihr =>
    rintro p LN ⟨b, pl, pr, Ll, Lr, rfl, hb, hl, hr, rfl⟩ x hx
    by_cases hk : k < key
    · rw [if_pos hk] at hx
      exact ihr hr x hx
    · rw [if_neg hk] at hx
      rcases List.mem_append.1 hx with hx | hx
      · exact ihl hl x hx
      · rcases List.mem_cons.1 hx with rfl | hx
        · exact ⟨_, hb, (cs_of hb).c0, (cs_of hb).c1⟩
        · exact ihr hr x hx

abbrev ndE (x : Nd) : Array Value := #[.pointer (some ⟨x.1, 0, none⟩)]
/-- what stands while the nodes are gone through -/
structure Cx (w W : World) (C0 : Nat → Prop) (l : Nat) (J Jx : List Nd → (Nat → Prop) → World → Prop) (L : List Nd) : Prop where
  nodes : ∀ (b : Nat) (cs : Array Value), w.heap[b]? = some (.cells cs 176 (0, 0)) → ¬ C0 b ∧ W.heap[b]? = some (.cells cs 176 (0, 0))
  yd : ∀ pre x C W1, J pre C W1 → W.heap.size ≤ W1.heap.size → pre ++ [x] <+: L → Yd Tryz.prog l (ndE x) W1 fun e W' =>
      ∃ C', Round C W1 C' W' ∧ ((e = .returned (.bool true) ∧ J (pre ++ [x]) C' W') ∨ (e = .returned (.bool false) ∧ Jx (pre ++ [x]) C' W'))
def RiseP (W : World) (C0 : Nat → Prop) (J Jx : List Nd → (Nat → Prop) → World → Prop) (xs : List Nd) (e : Ending) (W' : World) : Prop :=
  ∃ C', It C0 W C' W' ∧ ((e = .returned (.bool true) ∧ J xs C' W') ∨ (e = .returned (.bool false) ∧ ∃ pre, Jx pre C' W'))

set_option maxRecDepth 100000 in
set_option maxHeartbeats 4000000 in
theorem rise_any {w W : World} {C0 : Nat → Prop} {l : Nat} {J Jx : List Nd → (Nat → Prop) → World → Prop} {L : List Nd} (hx : Cx w W C0 l J Jx L) (key : Int) :
    ∀ (t : T) {p : Option Addr} {LN : List Nd} {pre : List Nd} {C : Nat → Prop} {W1 : World}, Goes w key p t LN → pre ++ LN <+: L → J pre C W1 → It C0 W C W1 →
    Calls Tryz.prog 147 #[.pointer p, .int .i64 key, .func (.yield l) #[] #[]] W1 (RiseP W C0 J Jx (pre ++ LN)) := by
  intro t
  induction t with
  | nil =>
    rintro p LN pre C W1 ⟨rfl, rfl⟩ hp hJ hI
    go_enter Tryz.func147, Tryz.ntmps147
    go_wp2_with fail
    go_ret
    exact ⟨C, hI, .inl ⟨rfl, by rw [List.append_nil]; exact hJ⟩⟩
  | node tl k v tr ihl ihr =>
    rintro p LN pre C W1 ⟨b, pl, pr, Ll, Lr, rfl, hb, hl, hr, rfl⟩ hp hJ hI
    have hc := cs_of (hI.block (hx.nodes b _ hb).2 (hx.nodes b _ hb).1)
    obtain ⟨c0, c1, c2, c3, _, _⟩ := hc
    by_cases hk : k < key
    · rw [if_pos hk] at hp ⊢
      have HC := Lib.hid (ihr hr hp hJ hI)
      clear ihl ihr hb hl hr hp hJ hI
      go_enter Tryz.func147, Tryz.ntmps147
      go_wp2_with (go_at_call 147; (with_reducible refine HC.out.mono ?_); rintro e w2 ⟨C', hI', ⟨rfl, hJ'⟩ | ⟨rfl, hJ'⟩⟩)
      · go_ret
        exact ⟨C', hI', .inl ⟨rfl, hJ'⟩⟩
      · go_ret
        exact ⟨C', hI', .inr ⟨rfl, hJ'⟩⟩
    · rw [if_neg hk] at hp ⊢
      have hp1 : pre ++ Ll <+: L := (List.prefix_append _ ((b, k, v) :: Lr)).trans (by rw [List.append_assoc]; exact hp)
      have hp2 : (pre ++ Ll) ++ [(b, k, v)] <+: L := (List.prefix_append _ Lr).trans (by simpa using hp)
      have hp3 : ((pre ++ Ll) ++ [(b, k, v)]) ++ Lr <+: L := by simpa using hp
      have he : pre ++ (Ll ++ (b, k, v) :: Lr) = ((pre ++ Ll) ++ [(b, k, v)]) ++ Lr := by simp
      rw [he]
      obtain ⟨xs, hxs⟩ : ∃ xs, xs = ((pre ++ Ll) ++ [(b, k, v)]) ++ Lr := ⟨_, rfl⟩
      rw [← hxs]
      have HX := Lib.hid hxs
      clear hxs
      have HC := Lib.hid (ihl hl hp1 hJ hI)
      have HR := Lib.hid (fun (C : Nat → Prop) (W1 : World) (hJ : J ((pre ++ Ll) ++ [(b, k, v)]) C W1) (hI : It C0 W C W1) => ihr hr hp3 hJ hI)
      have HY := Lib.hid (fun (C : Nat → Prop) (W1 : World) (hJ : J (pre ++ Ll) C W1) (hI : It C0 W C W1) => hx.yd _ _ C W1 hJ hI.kept.size hp2)
      have HB := Lib.hid (fun (C : Nat → Prop) (W1 : World) (hI : It C0 W C W1) => cs_of (hI.block (hx.nodes b _ hb).2 (hx.nodes b _ hb).1))
      generalize pre ++ Ll = pre1 at *
      clear ihl ihr hb hl hr hp hJ hI hp1 hp2 hp3 he
      refine (callsIn_wide (n := 6)).1 ?_
      refine callsIn_of_wp Tryz.func147 rfl trivial ?_ rfl
      simp only [Tryz.ntmps147, List.size_toArray, List.length_cons, List.length_nil, Nat.reduceAdd, Nat.reduceSub, Array.replicate_succ, Array.replicate_zero, List.push_toArray, List.append_toArray, List.nil_append, List.cons_append]
      gi_wp2
      refine ⟨trivial, ?_⟩
      refine (callsIn_wide.2 HC.out).mono ?_
      rintro e w2 ⟨C', hI', ⟨rfl, hJ'⟩ | ⟨rfl, hJ'⟩⟩
      · obtain ⟨d0, d1, d2, d3, _, _⟩ := HB.out _ _ hI'
        obtain ⟨fn, tmps, assign, body, hyy, hY⟩ := (HY.out _ _ hJ' hI').at 5
        gi_wp2
        refine hY.mono ?_
        clear hyy hY d0 d1 d2 d3
        rintro e w3 ⟨C2, hr2, ⟨rfl, hJ2⟩ | ⟨rfl, hJ2⟩⟩
        · have hI2 := hI'.round hr2
          obtain ⟨d0, d1, d2, d3, _, _⟩ := HB.out _ _ hI2
          clear hr2 hI' hJ'
          gi_wp2
          refine ⟨trivial, ?_⟩
          refine (callsIn_wide.2 (HR.out _ _ hJ2 hI2)).mono ?_
          rw [← HX.out]
          rintro e w4 ⟨C4, hI4, ⟨rfl, hJ4⟩ | ⟨rfl, hJ4⟩⟩
          · gi_wp2
            go_ret
            exact ⟨C4, hI4, .inl ⟨rfl, hJ4⟩⟩
          · gi_wp2
            go_ret
            exact ⟨C4, hI4, .inr ⟨rfl, hJ4⟩⟩
        · have hI2 := hI'.round hr2
          clear hr2 hI' hJ'
          gi_wp2
          refine ⟨trivial, ?_⟩
          gi_wp2
          go_ret
          exact ⟨C2, hI2, .inr ⟨rfl, _, hJ2⟩⟩
      · gi_wp2
        refine ⟨(fun _ h => by cases h), ?_⟩
        gi_wp2
        refine ⟨trivial, ?_⟩
        gi_wp2
        go_ret
        exact ⟨C', hI', .inr ⟨rfl, hJ'⟩⟩

/-- the nodes of a tree, falling -/
def Falls (w : World) : Option Addr → T → List Nd → Prop
  | p, .nil, LN => p = none ∧ LN = []
  | p, .node l k v r, LN => ∃ b pl pr Ll Lr, p = some ⟨b, 0, none⟩ ∧ w.heap[b]? = some (ndB l k v r pl pr) ∧ Falls w pl l Ll ∧ Falls w pr r Lr ∧ LN = Lr ++ (b, k, v) :: Ll
theorem falls_of {w : World} : ∀ {t : T} {p : Option Addr}, NdAt w p t → ∃ LN, Falls w p t LN := by
  intro t
  induction t with
  | nil => intro p h; exact ⟨[], h, rfl⟩
  | node l k v r ihl ihr =>
    rintro p ⟨b, pl, pr, rfl, hb, hl, hr⟩
    obtain ⟨Ll, h1⟩ := ihl hl
    obtain ⟨Lr, h2⟩ := ihr hr
    exact ⟨_, b, pl, pr, Ll, Lr, rfl, hb, h1, h2, rfl⟩
theorem falls_keys {w : World} : ∀ {t : T} {p : Option Addr} {LN : List Nd}, Falls w p t LN → LN.map (fun x => (x.2.1, x.2.2)) = t.toL.reverse := by
  intro t
  induction t with
  | nil => rintro p LN ⟨rfl, rfl⟩; rfl
  | node l k v r ihl ihr =>
    rintro p LN ⟨b, pl, pr, Ll, Lr, rfl, hb, hl, hr, rfl⟩
    rw [List.map_append, List.map_cons, ihl hl, ihr hr]
    show _ = (l.toL ++ (k, v) :: r.toL).reverse
    simp
theorem falls_cells {w : World} : ∀ {t : T} {p : Option Addr} {LN : List Nd}, Falls w p t LN → ∀ x ∈ LN, ∃ cs, w.heap[x.1]? = some (.cells cs 176 (0, 0)) ∧ w.cell? ⟨x.1, 0, none⟩ = some (.int .i64 x.2.1) ∧ (w.cell? ⟨x.1, 1, none⟩ = some (.int .i64 x.2.2.1) ∧ w.cell? ⟨x.1, 2, none⟩ = some (.int .i64 x.2.2.2)) := by
  intro t
  induction t with
  | nil => rintro p LN ⟨rfl, rfl⟩ x hx; cases hx
  | node l k v r ihl ihr =>
    rintro p LN ⟨b, pl, pr, Ll, Lr, rfl, hb, hl, hr, rfl⟩ x hx
    rcases List.mem_append.1 hx with hx | hx
    · exact ihr hr x hx
    · rcases List.mem_cons.1 hx with rfl | hx
      · exact ⟨_, hb, (cs_of hb).c0, (cs_of hb).c1⟩
      · exact ihl hl x hx
theorem Goes.later {w w' : World} (hb : Below w.heap.size w w') (key : Int) : ∀ {t : T} {p : Option Addr} {LN : List Nd}, Goes w key p t LN → Goes w' key p t LN := by
  intro t
  induction t with
  | nil => intro p LN h; exact h
  | node l k v r ihl ihr =>
    rintro p LN ⟨b, pl, pr, Ll, Lr, rfl, h, hl, hr, rfl⟩
    exact ⟨b, pl, pr, Ll, Lr, rfl, (hb.block b (lt_of_block h)).trans h, ihl hl, ihr hr, rfl⟩
theorem Falls.later {w w' : World} (hb : Below w.heap.size w w') : ∀ {t : T} {p : Option Addr} {LN : List Nd}, Falls w p t LN → Falls w' p t LN := by
  intro t
  induction t with
  | nil => intro p LN h; exact h
  | node l k v r ihl ihr =>
    rintro p LN ⟨b, pl, pr, Ll, Lr, rfl, h, hl, hr, rfl⟩
    exact ⟨b, pl, pr, Ll, Lr, rfl, (hb.block b (lt_of_block h)).trans h, ihl hl, ihr hr, rfl⟩

end Go.Proofs.YtohpaoleomcimaaGreat.bv
/-!   Package avl: the iterators.
-/
namespace Go.Proofs.YtohpaoleomcimaaGreat.bv
open Go.RowKit Go.Shelf aid mem rng
attribute [local go_sem] Oper.semAt_some
set_option linter.unusedVariables false

/-- a pointer to a tree, and its root -/
def RootOf (w : World) (p q : Option Addr) : Prop := (p = none ∧ q = none) ∨ ∃ b, p = some ⟨b, 0, none⟩ ∧ w.heap[b]? = some (.cells #[.pointer q] 162 (0, 0))
theorem trO_root {w : World} {p : Option Addr} {t : T} (h : TrO w p t) : ∃ q, RootOf w p q ∧ NdAt w q t := by
  rcases h with ⟨rfl, rfl⟩ | ⟨b, rfl, q, h1, h2⟩
  · exact ⟨none, .inl ⟨rfl, rfl⟩, rfl⟩
  · exact ⟨q, .inr ⟨b, rfl, h1⟩, h2⟩
theorem RootOf.later {w w' : World} {p q : Option Addr} (h : RootOf w p q) (hb : Below w.heap.size w w') : RootOf w' p q := by
  rcases h with h | ⟨b, rfl, h1⟩
  · exact .inl h
  · exact .inr ⟨b, rfl, (hb.block b (lt_of_block h1)).trans h1⟩
theorem top_at {w : World} {p q : Option Addr} (h : RootOf w p q) : Calls Tryz.prog 120 #[.pointer p] w fun e w' => e = .returned (.pointer q) ∧ w = w' := by
  rcases h with ⟨rfl, rfl⟩ | ⟨b, rfl, h1⟩
  · go_enter Tryz.func120, Tryz.ntmps120
    go_wp2
    go_ret
    exact ⟨rfl, rfl⟩
  · have c0 : w.cell? ⟨b, 0, none⟩ = some (.pointer q) := (cell_of_row w b 0 _ _ (0, 0) h1).trans rfl
    go_enter Tryz.func120, Tryz.ntmps120
    go_wp2
    go_ret
    exact ⟨rfl, rfl⟩

/-- what of the old blocks a consumer may write: none of a tree's -/
def Far (w : World) (A : Nat → Prop) : Prop := ∀ k, A k → k < w.heap.size ∧ ∀ cs, w.heap[k]? ≠ some (.cells cs 176 (0, 0))
theorem cx_nodes {w W : World} {A C0 : Nat → Prop} (hA : Far w A) (hW : Below w.heap.size w W) (hC : ∀ k, C0 k → (A k ∨ w.heap.size ≤ k) ∧ k < W.heap.size) (b : Nat) (cs : Array Value)
    (h : w.heap[b]? = some (.cells cs 176 (0, 0))) : ¬ C0 b ∧ W.heap[b]? = some (.cells cs 176 (0, 0)) := by
  refine ⟨fun hc => ?_, (hW.block b (lt_of_block h)).trans h⟩
  rcases (hC _ hc).1 with a | a
  · exact (hA _ a).2 cs h
  · have := lt_of_block h; omega

/-- how going through the nodes ends, in one piece -/
def RiseB (W : World) (C0 : Nat → Prop) (J Jx : List Nd → (Nat → Prop) → World → Prop) (xs : List Nd) (b : Bool) (W' : World) : Prop := ∃ C', It C0 W C' W' ∧ ((b = true ∧ J xs C' W') ∨ (b = false ∧ ∃ pre, Jx pre C' W'))
theorem rise_b {W : World} {C0 : Nat → Prop} {J Jx : List Nd → (Nat → Prop) → World → Prop} {xs : List Nd} {e : Ending} {W' : World} (h : RiseP W C0 J Jx xs e W') : ∃ b, e = .returned (.bool b) ∧ RiseB W C0 J Jx xs b W' := by
  obtain ⟨C', hI, ⟨rfl, h⟩ | ⟨rfl, h⟩⟩ := h
  · exact ⟨true, rfl, C', hI, .inl ⟨rfl, h⟩⟩
  · exact ⟨false, rfl, C', hI, .inr ⟨rfl, h⟩⟩
theorem RiseB.cell {W : World} {C0 : Nat → Prop} {J Jx : List Nd → (Nat → Prop) → World → Prop} {xs : List Nd} {b : Bool} {W' : World} (h : RiseB W C0 J Jx xs b W') {k : Nat} {v : Value} (hk : ¬ C0 k) (hc : W.cell? ⟨k, 0, none⟩ = some v) : W'.cell? ⟨k, 0, none⟩ = some v := by
  obtain ⟨C', hI, _⟩ := h
  exact hI.kept.cell hk hc
theorem RiseB.done {W : World} {C0 : Nat → Prop} {J Jx : List Nd → (Nat → Prop) → World → Prop} {xs : List Nd} {b : Bool} {W' : World} (h : RiseB W C0 J Jx xs b W') : ∃ C', J xs C' W' ∨ ∃ pre, Jx pre C' W' := by
  obtain ⟨C', _, ⟨_, h⟩ | ⟨_, h⟩⟩ := h
  · exact ⟨C', .inl h⟩
  · exact ⟨C', .inr h⟩

set_option maxRecDepth 100000 in
set_option maxHeartbeats 4000000 in
theorem from1_seq {w : World} {p q : Option Addr} {t : T} {key : Int} {LN : List Nd} {bt bk : Nat} {A : Nat → Prop} (hr : RootOf w p q) (hg : Goes w key q t LN)
    (ht : w.cell? ⟨bt, 0, none⟩ = some (.pointer p)) (hk : w.cell? ⟨bk, 0, none⟩ = some (.int .i64 key)) (hA : Far w A) (hat : ¬ A bt) (hak : ¬ A bk) :
    SeqOf Tryz.prog 146 #[.pointer (some ⟨bt, 0, none⟩), .pointer (some ⟨bk, 0, none⟩)] ndE LN A w := by
  intro l J Jx C0 W hW hC hJ hJx hY h0
  have r2 := hr.later (hW.trans ((Below.refl W.heap.size W).drew.mono hW.size))
  have hx : Cx w W C0 l J Jx LN := ⟨cx_nodes hA hW hC, hY⟩
  have c1 := ck hW ht
  have c2 := ck hW hk
  have j2 := hJ _ _ _ _ h0 (Nat.le_refl _) (Steps.drew _ W)
  have i2 : It C0 W C0 W.drew := (It.refl (fun k hk => (hC k hk).2)).own (Steps.drew _ W)
  have nt : ¬ C0 bt := fun e => by
    rcases (hC _ e).1 with a | a
    · exact hat a
    · have := World.block_lt_of_cell? w _ ht; simp only at this; omega
  have nk : ¬ C0 bk := fun e => by
    rcases (hC _ e).1 with a | a
    · exact hak a
    · have := World.block_lt_of_cell? w _ hk; simp only at this; omega
  have HR := Lib.hid (rise_any hx key t hg (List.prefix_refl _) j2 i2)
  rw [List.nil_append] at HR
  clear hr hg hx j2 i2 hJ hJx hY h0 hC hW ht hk hA
  show Calls Tryz.prog 146 #[.func (.yield l) #[] #[], .pointer (some ⟨bt, 0, none⟩), .pointer (some ⟨bk, 0, none⟩)] W _
  go_enter Tryz.func146, Tryz.ntmps146
  go_wp2
  have k0 : W.drew.cell? ⟨bt, 0, none⟩ = some (.pointer p) ∧ W.drew.cell? ⟨bk, 0, none⟩ = some (.int .i64 key) := ⟨c1, c2⟩
  go_region_held3 (fun w' => w'.cell? ⟨bt, 0, none⟩ = some (.pointer p) ∧ w'.cell? ⟨bk, 0, none⟩ = some (.int .i64 key)) (with_reducible first | exact k0 | exact k1 | go_keep) (first
    | (go_at_call 120; (with_reducible refine (top_at r2).mono ?_); rintro e w2 ⟨rfl, rfl⟩)
    | (go_at_call 147; (with_reducible refine HR.out.mono ?_); rintro e w3 hrp; obtain ⟨b, rfl, hb⟩ := rise_b hrp; have k1 := And.intro (hb.cell nt c1) (hb.cell nk c2); clear hrp))
  all_goals
    go_wp2
    go_end0
    exact ⟨⟨_, rfl⟩, hb.done⟩

end Go.Proofs.YtohpaoleomcimaaGreat.bv
/-!   Package avl: pairs of nodes; From, All, Back.
-/
namespace Go.Proofs.YtohpaoleomcimaaGreat.bv
open Go.RowKit Go.Shelf aid mem rng
attribute [local go_sem] Oper.semAt_some
set_option linter.unusedVariables false

abbrev kv (x : Nd) : Int × Vt := (x.2.1, x.2.2)
abbrev kvE (x : Int × Vt) : Array Value := #[.int .i64 x.1, .agg #[.int .i64 x.2.1, .int .i64 x.2.2]]
def isRet (c : Code) : Prop := c = .ret
theorem pre_map {α β : Type} (f : α → β) {a b : List α} (h : a <+: b) : a.map f <+: b.map f := by
  obtain ⟨t, rfl⟩ := h
  rw [List.map_append]
  exact List.prefix_append _ _

set_option maxRecDepth 100000 in
set_option maxHeartbeats 300000 in
theorem pairs1_seq {w : World} {gf : Nat} {lb : Array Value} {LN : List Nd} {A : Nat → Prop} {bx : Nat} (hseq : SeqOf Tryz.prog gf lb ndE LN A w) (eg : ∀ args w, (callFunc gf args).run Tryz.prog w = .ok (.enter gf args) w)
    (hn : ∀ x ∈ LN, w.cell? ⟨x.1, 0, none⟩ = some (.int .i64 x.2.1) ∧ (w.cell? ⟨x.1, 1, none⟩ = some (.int .i64 x.2.2.1) ∧ w.cell? ⟨x.1, 2, none⟩ = some (.int .i64 x.2.2.2)) ∧ ¬ A x.1)
    (hbx : w.cell? ⟨bx, 0, none⟩ = some (.func (.func gf) #[] lb)) :
    SeqOf Tryz.prog 153 #[.pointer (some ⟨bx, 0, none⟩)] kvE (LN.map kv) A w := by
  intro l J Jx C0 W hW hC hJ hJx hY h0
  have c0 := ck hW hbx
  show Calls Tryz.prog 153 #[.func (.yield l) #[] #[], .pointer (some ⟨bx, 0, none⟩)] W _
  refine (callsIn_wide (n := 6)).1 ?_
  refine callsIn_of_wp_marks Tryz.func153 rfl trivial ?_ rfl
  simp only [Tryz.ntmps153, List.size_toArray, List.length_cons, List.length_nil, Nat.reduceAdd, Nat.reduceSub, Array.replicate_succ, Array.replicate_zero, List.push_toArray, List.append_toArray, List.nil_append, List.cons_append]
  have hwb : Below W.heap.size W (W.alloc (.cells #[.func (.yield l) #[] #[]] 142)) := (Below.refl _ _).alloc (Nat.le_refl _) _
  have c1 := ck hwb c0
  gi_wp2
  refine wpIn_range' (gf := gf) (lb := lb) (L := LN) (A := A) (w0 := w) (encs := ndE) rfl eg hseq (hW.trans (hwb.mono hW.size)) (fun _ => rfl)
    (fun pre C W' => J (pre.map kv) C W' ∧ It C0 W C W' ∧ ¬ C W.heap.size ∧ W'.cell? ⟨W.heap.size, 0, none⟩ = some (.func (.yield l) #[] #[]))
    (fun c pre C W' => isRet c ∧ Jx (pre.map kv) C W') C0 ?hc0 ?hI ?hIx ?h0
    (fun x => { tmps := #[.func (.yield l) #[] #[], .pointer (some ⟨bx, 0, none⟩), .pointer (some ⟨W.heap.size, 0, none⟩), .pointer (some ⟨x.1, 0, none⟩), .func (.func gf) #[] lb, .pointer (some ⟨x.1, 0, none⟩), undef, undef, undef, undef, undef, undef, undef, undef, undef, undef, undef], defers := [] }) ?assign ?body ?done ?stop
  case hc0 => exact fun k hk => ⟨(hC k hk).1, Nat.lt_of_lt_of_le (hC k hk).2 hwb.size⟩
  case hI =>
    rintro s C X Y ⟨h1, h2, h3, h4⟩ hz hs
    have hs' : rng.Steps (fun k => k < W.heap.size ∨ C k) X Y := hs.mono (fun k _ hk => hk.imp (fun h => by simp; omega) id)
    have := hwb.size
    exact ⟨hJ _ _ _ _ h1 (by omega) hs', h2.own hs', h3, hs.cell (.inl (by simp)) h4⟩
  case hIx =>
    rintro c s C X Y ⟨h1, h2⟩ hz hs
    have hs' : rng.Steps (fun k => k < W.heap.size ∨ C k) X Y := hs.mono (fun k _ hk => hk.imp (fun h => by simp; omega) id)
    have := hwb.size
    exact ⟨h1, hJx _ _ _ _ h2 (by omega) hs'⟩
  case h0 =>
    have ss := Steps.of_below hwb (fun k => k < W.heap.size ∨ C0 k)
    exact ⟨hJ _ _ _ _ h0 (Nat.le_refl _) ss, (It.refl (fun k hk => (hC k hk).2)).own ss, fun e => by have := (hC _ e).2; omega, (cell_of_row _ W.heap.size 0 _ _ (0, 0) (heap_alloc_new W _)).trans rfl⟩
  case assign =>
    intro l' x X K hK
    gi_wp2
    exact hK
  case body =>
    rintro l' pre x C X ⟨h1, h2, h3, h4⟩ hp hcb hz
    have hp' := pre_map kv hp
    rw [List.map_append] at hp'
    have j1 := hJ _ _ _ _ h1 h2.kept.size (rng.Steps.drew _ X)
    have hy := (hY _ _ _ X.drew j1 h2.kept.size hp').mono (fun e w h => one_way (X := fun C' => J (pre.map kv ++ [kv x]) C' w) (Y := fun C' => Jx (pre.map kv ++ [kv x]) C' w) h)
    have hxm : x ∈ LN := hp.subset (by simp)
    obtain ⟨n0, n1, n2⟩ := hn x hxm
    have nc : ¬ C0 x.1 := fun e => by
      rcases (hC _ e).1 with a | a
      · exact n2 a
      · have := World.block_lt_of_cell? w _ n0; simp only at this; omega
    have d0 := h2.kept.cell (p := ⟨x.1, 0, none⟩) nc (ck hW n0)
    have d1 := h2.kept.cell (p := ⟨x.1, 1, none⟩) nc (ck hW n1.1)
    have d1' := h2.kept.cell (p := ⟨x.1, 2, none⟩) nc (ck hW n1.2)
    obtain ⟨fn, tmps, assign, body, hyy, hYY⟩ := hy.at 3
    have e0 : X.drew.cell? ⟨x.1, 0, none⟩ = some (.int .i64 x.2.1) := d0
    have e1 : X.drew.cell? ⟨x.1, 1, none⟩ = some (.int .i64 x.2.2.1) := d1
    have e1' : X.drew.cell? ⟨x.1, 2, none⟩ = some (.int .i64 x.2.2.2) := d1'
    have e2 : X.drew.cell? ⟨W.heap.size, 0, none⟩ = some (.func (.yield l) #[] #[]) := h4
    have rd : Round C X C X.drew := ⟨rng.Steps.drew _ X, fun _ h => .inl h⟩
    have HN := Lib.hid (fun (C3 : Nat → Prop) (w3 : World) (hr : Round C X.drew C3 w3) (hj : J (pre.map kv ++ [kv x]) C3 w3) => show ∃ C', Round C X C' w3 ∧ (J ((pre ++ [x]).map kv) C' w3 ∧ It C0 W C' w3 ∧ ¬ C' W.heap.size ∧ w3.cell? ⟨W.heap.size, 0, none⟩ = some (.func (.yield l) #[] #[])) from
      ⟨C3, rd.trans hr, by rw [List.map_append]; exact hj, h2.round (rd.trans hr), fun e => by
        rcases hr.2 _ e with a | a
        · exact h3 a
        · have hz' : W.heap.size + 1 ≤ X.heap.size := by simpa using hz
          have : X.drew.heap.size = X.heap.size := rfl
          omega, (rd.trans hr).1.cell h3 h4⟩)
    have HS := Lib.hid (fun (C3 : Nat → Prop) (w3 : World) (hr : Round C X.drew C3 w3) (hj : Jx (pre.map kv ++ [kv x]) C3 w3) => show ∃ C', Round C X C' w3 ∧ (isRet Code.ret ∧ Jx ((pre ++ [x]).map kv) C' w3) from
      ⟨C3, rd.trans hr, rfl, by rw [List.map_append]; exact hj⟩)
    clear hseq eg hn hbx hW hJ hJx hY h0 c0 c1 hwb hC hp hp' hcb hz hy j1 h1 h2 h3 h4 n0 n1 n2 nc d0 d1 d1' hxm rd
    have hmo : Tryz.prog.follows .mixedOrders = true := by kernel_rfl
    gi_wp2
    refine wpIn_region_round (by assumption) (by kernel_rfl) ?_
    refine wpAnyIn_take (i := 1) (v := (.pointer (some ⟨x.1, 0, none⟩))) rfl rfl (by kernel_rfl) (by kernel_rfl) (by kernel_rfl) (fun _ _ _ h => h) ⟨Or.inl ⟨by rfl, by intro w; go_simp⟩, fun _ => rfl⟩ ?_
    refine wpAnyIn_take (i := 2) (v := (.pointer (some ⟨x.1, 0, none⟩))) rfl rfl (by kernel_rfl) (by kernel_rfl) (by kernel_rfl) (fun _ _ _ h => h) ⟨Or.inl ⟨by rfl, by intro w; go_simp⟩, fun _ => rfl⟩ ?_
    refine wpAnyIn_take (i := 3) (v := (.pointer (some ⟨x.1, 0, none⟩))) rfl rfl (by kernel_rfl) (by kernel_rfl) (by kernel_rfl) (fun _ _ _ h => h) ⟨Or.inl ⟨by rfl, by intro w; go_simp⟩, fun _ => rfl⟩ ?_
    refine wpAnyIn_take (i := 5) (v := (.pointer (some ⟨x.1, 0, none⟩))) rfl rfl (by kernel_rfl) (by kernel_rfl) (by kernel_rfl) (fun _ _ _ h => h) ⟨Or.inl ⟨by rfl, by intro w; go_simp⟩, fun _ => rfl⟩ ?_
    refine wpAnyIn_take (i := 6) (v := (.pointer (some ⟨x.1, 0, none⟩))) rfl rfl (by kernel_rfl) (by kernel_rfl) (by kernel_rfl) (fun _ _ _ h => h) ⟨Or.inl ⟨by rfl, by intro w; go_simp⟩, fun _ => rfl⟩ ?_
    refine wpAnyIn_take (i := 7) (v := (.pointer (some ⟨x.1, 1, none⟩))) rfl rfl (by kernel_rfl) (by kernel_rfl) (by kernel_rfl) (fun _ _ _ h => h) ⟨Or.inl ⟨by rfl, by intro w; go_simp⟩, fun _ => rfl⟩ ?_
    refine wpAnyIn_ready (rs := [0, 4, 8]) (by kernel_rfl) (by simp) ?_
    refine AllReadyIn.cons rfl (fun K hK => ?_) ?_
    · go_simp
      refine hK _ _ ?_
      clear hK K
      refine wpAnyIn_ready (rs := [4, 8]) (by kernel_rfl) (by simp) ?_
      refine AllReadyIn.cons rfl (fun K hK => ?_) ?_
      · go_simp
        refine hK _ _ ?_
        clear hK K
        refine wpAnyIn_ready (rs := [8]) (by kernel_rfl) (by simp) ?_
        refine AllReadyIn.cons rfl (fun K hK => ?_) ?_
        · go_simp
          refine hK _ _ ?_
          clear hK K
          refine wpAnyIn_ready (rs := [9]) (by kernel_rfl) (by simp) ?_
          refine AllReadyIn.cons rfl (fun K hK => ?_) ?_
          · go_simp
            refine hYY.mono ?_
            rintro e w3 ⟨bo, rfl, hr3⟩
            clear hyy hYY e0 e1 e1' e2
            refine hK _ _ ?_
            clear hK K
            refine wpAnyIn_take (i := 10) (v := (.bool (!bo))) rfl rfl (by kernel_rfl) (by kernel_rfl) (by kernel_rfl) (fun _ _ _ h => h) ⟨Or.inl ⟨by rfl, by intro w; go_simp⟩, fun _ => rfl⟩ ?_
            refine wpAnyIn_done (by kernel_rfl) ?_ _
            obtain ⟨C3, hr4, ⟨rfl, h3'⟩ | ⟨rfl, h3'⟩⟩ := hr3
            · gi_wp2
              exact HN.out _ _ hr4 h3'
            · gi_wp2
              exact HS.out _ _ hr4 h3'
          exact AllReadyIn.nil
        exact AllReadyIn.nil
      refine AllReadyIn.cons rfl (fun K hK => ?_) ?_
      · go_simp
        refine hK _ _ ?_
        clear hK K
        refine wpAnyIn_ready (rs := [4]) (by kernel_rfl) (by simp) ?_
        refine AllReadyIn.cons rfl (fun K hK => ?_) ?_
        · go_simp
          refine hK _ _ ?_
          clear hK K
          refine wpAnyIn_ready (rs := [9]) (by kernel_rfl) (by simp) ?_
          refine AllReadyIn.cons rfl (fun K hK => ?_) ?_
          · go_simp
            refine hYY.mono ?_
            rintro e w3 ⟨bo, rfl, hr3⟩
            clear hyy hYY e0 e1 e1' e2
            refine hK _ _ ?_
            clear hK K
            refine wpAnyIn_take (i := 10) (v := (.bool (!bo))) rfl rfl (by kernel_rfl) (by kernel_rfl) (by kernel_rfl) (fun _ _ _ h => h) ⟨Or.inl ⟨by rfl, by intro w; go_simp⟩, fun _ => rfl⟩ ?_
            refine wpAnyIn_done (by kernel_rfl) ?_ _
            obtain ⟨C3, hr4, ⟨rfl, h3'⟩ | ⟨rfl, h3'⟩⟩ := hr3
            · gi_wp2
              exact HN.out _ _ hr4 h3'
            · gi_wp2
              exact HS.out _ _ hr4 h3'
          exact AllReadyIn.nil
        exact AllReadyIn.nil
      exact AllReadyIn.nil
    refine AllReadyIn.cons rfl (fun K hK => ?_) ?_
    · go_simp
      refine hK _ _ ?_
      clear hK K
      refine wpAnyIn_ready (rs := [0, 8]) (by kernel_rfl) (by simp) ?_
      refine AllReadyIn.cons rfl (fun K hK => ?_) ?_
      · go_simp
        refine hK _ _ ?_
        clear hK K
        refine wpAnyIn_ready (rs := [8]) (by kernel_rfl) (by simp) ?_
        refine AllReadyIn.cons rfl (fun K hK => ?_) ?_
        · go_simp
          refine hK _ _ ?_
          clear hK K
          refine wpAnyIn_ready (rs := [9]) (by kernel_rfl) (by simp) ?_
          refine AllReadyIn.cons rfl (fun K hK => ?_) ?_
          · go_simp
            refine hYY.mono ?_
            rintro e w3 ⟨bo, rfl, hr3⟩
            clear hyy hYY e0 e1 e1' e2
            refine hK _ _ ?_
            clear hK K
            refine wpAnyIn_take (i := 10) (v := (.bool (!bo))) rfl rfl (by kernel_rfl) (by kernel_rfl) (by kernel_rfl) (fun _ _ _ h => h) ⟨Or.inl ⟨by rfl, by intro w; go_simp⟩, fun _ => rfl⟩ ?_
            refine wpAnyIn_done (by kernel_rfl) ?_ _
            obtain ⟨C3, hr4, ⟨rfl, h3'⟩ | ⟨rfl, h3'⟩⟩ := hr3
            · gi_wp2
              exact HN.out _ _ hr4 h3'
            · gi_wp2
              exact HS.out _ _ hr4 h3'
          exact AllReadyIn.nil
        exact AllReadyIn.nil
      refine AllReadyIn.cons rfl (fun K hK => ?_) ?_
      · go_simp
        refine hK _ _ ?_
        clear hK K
        refine wpAnyIn_ready (rs := [0]) (by kernel_rfl) (by simp) ?_
        refine AllReadyIn.cons rfl (fun K hK => ?_) ?_
        · go_simp
          refine hK _ _ ?_
          clear hK K
          refine wpAnyIn_ready (rs := [9]) (by kernel_rfl) (by simp) ?_
          refine AllReadyIn.cons rfl (fun K hK => ?_) ?_
          · go_simp
            refine hYY.mono ?_
            rintro e w3 ⟨bo, rfl, hr3⟩
            clear hyy hYY e0 e1 e1' e2
            refine hK _ _ ?_
            clear hK K
            refine wpAnyIn_take (i := 10) (v := (.bool (!bo))) rfl rfl (by kernel_rfl) (by kernel_rfl) (by kernel_rfl) (fun _ _ _ h => h) ⟨Or.inl ⟨by rfl, by intro w; go_simp⟩, fun _ => rfl⟩ ?_
            refine wpAnyIn_done (by kernel_rfl) ?_ _
            obtain ⟨C3, hr4, ⟨rfl, h3'⟩ | ⟨rfl, h3'⟩⟩ := hr3
            · gi_wp2
              exact HN.out _ _ hr4 h3'
            · gi_wp2
              exact HS.out _ _ hr4 h3'
          exact AllReadyIn.nil
        exact AllReadyIn.nil
      exact AllReadyIn.nil
    refine AllReadyIn.cons rfl (fun K hK => ?_) ?_
    · go_simp
      refine hK _ _ ?_
      clear hK K
      refine wpAnyIn_ready (rs := [0, 4]) (by kernel_rfl) (by simp) ?_
      refine AllReadyIn.cons rfl (fun K hK => ?_) ?_
      · go_simp
        refine hK _ _ ?_
        clear hK K
        refine wpAnyIn_ready (rs := [4]) (by kernel_rfl) (by simp) ?_
        refine AllReadyIn.cons rfl (fun K hK => ?_) ?_
        · go_simp
          refine hK _ _ ?_
          clear hK K
          refine wpAnyIn_ready (rs := [9]) (by kernel_rfl) (by simp) ?_
          refine AllReadyIn.cons rfl (fun K hK => ?_) ?_
          · go_simp
            refine hYY.mono ?_
            rintro e w3 ⟨bo, rfl, hr3⟩
            clear hyy hYY e0 e1 e1' e2
            refine hK _ _ ?_
            clear hK K
            refine wpAnyIn_take (i := 10) (v := (.bool (!bo))) rfl rfl (by kernel_rfl) (by kernel_rfl) (by kernel_rfl) (fun _ _ _ h => h) ⟨Or.inl ⟨by rfl, by intro w; go_simp⟩, fun _ => rfl⟩ ?_
            refine wpAnyIn_done (by kernel_rfl) ?_ _
            obtain ⟨C3, hr4, ⟨rfl, h3'⟩ | ⟨rfl, h3'⟩⟩ := hr3
            · gi_wp2
              exact HN.out _ _ hr4 h3'
            · gi_wp2
              exact HS.out _ _ hr4 h3'
          exact AllReadyIn.nil
        exact AllReadyIn.nil
      refine AllReadyIn.cons rfl (fun K hK => ?_) ?_
      · go_simp
        refine hK _ _ ?_
        clear hK K
        refine wpAnyIn_ready (rs := [0]) (by kernel_rfl) (by simp) ?_
        refine AllReadyIn.cons rfl (fun K hK => ?_) ?_
        · go_simp
          refine hK _ _ ?_
          clear hK K
          refine wpAnyIn_ready (rs := [9]) (by kernel_rfl) (by simp) ?_
          refine AllReadyIn.cons rfl (fun K hK => ?_) ?_
          · go_simp
            refine hYY.mono ?_
            rintro e w3 ⟨bo, rfl, hr3⟩
            clear hyy hYY e0 e1 e1' e2
            refine hK _ _ ?_
            clear hK K
            refine wpAnyIn_take (i := 10) (v := (.bool (!bo))) rfl rfl (by kernel_rfl) (by kernel_rfl) (by kernel_rfl) (fun _ _ _ h => h) ⟨Or.inl ⟨by rfl, by intro w; go_simp⟩, fun _ => rfl⟩ ?_
            refine wpAnyIn_done (by kernel_rfl) ?_ _
            obtain ⟨C3, hr4, ⟨rfl, h3'⟩ | ⟨rfl, h3'⟩⟩ := hr3
            · gi_wp2
              exact HN.out _ _ hr4 h3'
            · gi_wp2
              exact HS.out _ _ hr4 h3'
          exact AllReadyIn.nil
        exact AllReadyIn.nil
      exact AllReadyIn.nil
    exact AllReadyIn.nil
  case done =>
    rintro D C X hD hCD ⟨h1, h2, h3, h4⟩ hK
    have hD' : W.heap.size ≤ D := Nat.le_trans hwb.size hD
    have hf := hJ _ _ _ (X.putObj D (.deferred none)) h1 h2.kept.size (rng.Steps.putObj _ _ _ _ (by rintro (e | e); omega; exact hCD e))
    have HF := Lib.hid hf
    clear hseq eg hn hbx hW hJ hJx hY h0 c0 c1 hwb hC h1 h2 h3 h4 hf
    gi_wp2
    refine ⟨by simp, .inl ⟨_, _, rfl, run_takeDeferred hK, ?_⟩⟩
    exact ⟨_, results_none rfl _ _ _, ⟨_, rfl⟩, C, .inl HF.out⟩
  case stop =>
    rintro D c pre C X hD hCD ⟨rfl, h2⟩ hK
    have hD' : W.heap.size ≤ D := Nat.le_trans hwb.size hD
    have hX : W.heap.size ≤ X.heap.size := by have := lt_of_block hK; omega
    have hf := hJx _ _ _ (X.putObj D (.deferred none)) h2 hX (rng.Steps.putObj _ _ _ _ (by rintro (e | e); omega; exact hCD e))
    have HF := Lib.hid hf
    clear hseq eg hn hbx hW hJ hJx hY h0 c0 c1 hwb hC h2 hf
    gi_wp2
    refine ⟨by simp, .inl ⟨_, _, rfl, run_takeDeferred hK, ?_⟩⟩
    exact ⟨_, results_none rfl _ _ _, ⟨_, rfl⟩, C, .inr ⟨_, HF.out⟩⟩
end Go.Proofs.YtohpaoleomcimaaGreat.bv
/-!   Package avl: From, All, Back; the law's list of all keys.
-/
namespace Go.Proofs.YtohpaoleomcimaaGreat.bv
open Go.RowKit Go.Shelf aid mem rng
attribute [local go_sem] Oper.semAt_some
set_option linter.unusedVariables false

theorem Far.later {w w' : World} {A : Nat → Prop} (h : Far w A) (hb : Below w.heap.size w w') : Far w' A := fun k hk => by
  obtain ⟨h1, h2⟩ := h k hk
  exact ⟨Nat.lt_of_lt_of_le h1 hb.size, fun cs e => h2 cs (by rw [← hb.block k h1]; exact e)⟩
theorem far_node {w : World} {A : Nat → Prop} (h : Far w A) {k : Nat} {cs : Array Value} (hk : w.heap[k]? = some (.cells cs 176 (0, 0))) : ¬ A k := fun e => (h k e).2 cs hk

/-- an iterator of pairs -/
def SeqKV (L : List (Int × Vt)) (A : Nat → Prop) (w : World) (e : Ending) (w' : World) : Prop :=
  ∃ lb, e = .returned (.func (.func 153) #[] lb) ∧ SeqOf Tryz.prog 153 lb kvE L A w' ∧ Below w.heap.size w w'

theorem pairs_any {gf : Nat} {lb : Array Value} {w : World} : Calls Tryz.prog 145 #[.func (.func gf) #[] lb] w fun e w' =>
    e = .returned (.func (.func 153) #[] #[.pointer (some ⟨w.heap.size, 0, none⟩)]) ∧ w' = w.alloc (.cells #[.func (.func gf) #[] lb] 188) := by
  go_enter Tryz.func145, Tryz.ntmps145
  go_wp2_with fail
  go_ret
  exact ⟨rfl, rfl⟩

theorem eg41 : ∀ args w, (callFunc 146 args).run Tryz.prog w = .ok (.enter 146 args) w := enters_of Tryz.func146 (by kernel_rfl) rfl
theorem eg49 : ∀ args w, (callFunc 153 args).run Tryz.prog w = .ok (.enter 153 args) w := enters_of Tryz.func153 (by kernel_rfl) rfl

set_option maxRecDepth 100000 in
set_option maxHeartbeats 2000000 in
theorem from_any {w : World} {p : Option Addr} {t : T} (h : TrO w p t) (key : Int) (hu : T.Up t.toL) (A : Nat → Prop) (hA : Far w A) :
    Calls Tryz.prog 136 #[.pointer p, .int .i64 key] w (SeqKV (t.toL.filter (fun x => decide (key ≤ x.1))) A w) := by
  obtain ⟨q, hr, hq⟩ := trO_root h
  obtain ⟨LN, hg⟩ := goes_of key hq
  have hk := goes_keys key hg hu
  obtain ⟨w1, hw1⟩ : ∃ w1, w1 = (w.alloc (.cells #[.pointer p] 105)).alloc (.cells #[.int .i64 key] 3) := ⟨_, rfl⟩
  have b1 : Below w.heap.size w w1 := by rw [hw1]; exact ((Below.refl _ _).alloc (Nat.le_refl _) _).alloc (by simp) _
  have c1 : w1.cell? ⟨w.heap.size, 0, none⟩ = some (.pointer p) := by
    rw [hw1]; exact ck (bal' _) ((cell_of_row _ w.heap.size 0 _ _ (0, 0) (heap_alloc_new w (.cells #[.pointer p] 105))).trans rfl)
  have c2 : w1.cell? ⟨w.heap.size + 1, 0, none⟩ = some (.int .i64 key) := by
    have := (cell_of_row _ (w.alloc (.cells #[.pointer p] 105)).heap.size 0 _ _ (0, 0) (heap_alloc_new (w.alloc (.cells #[.pointer p] 105)) (.cells #[.int .i64 key] 3))).trans rfl
    rw [World.size_alloc] at this
    rw [hw1]; exact this
  have s1 := from1_seq (hr.later b1) (hg.later b1) c1 c2 (hA.later b1) (fun e => by have := (hA _ e).1; omega) (fun e => by have := (hA _ e).1; omega)
  obtain ⟨w2, hw2⟩ : ∃ w2, w2 = w1.alloc (.cells #[.func (.func 146) #[] #[.pointer (some ⟨w.heap.size, 0, none⟩), .pointer (some ⟨w.heap.size + 1, 0, none⟩)]] 188) := ⟨_, rfl⟩
  have b2 : Below w1.heap.size w1 w2 := by rw [hw2]; exact bal' _
  have hz1 : w1.heap.size = w.heap.size + 1 + 1 := by rw [hw1]; simp
  have hb : w2.cell? ⟨w1.heap.size, 0, none⟩ = some (.func (.func 146) #[] #[.pointer (some ⟨w.heap.size, 0, none⟩), .pointer (some ⟨w.heap.size + 1, 0, none⟩)]) := by
    rw [hw2]; exact (cell_of_row _ w1.heap.size 0 _ _ (0, 0) (heap_alloc_new w1 _)).trans rfl
  have hcells := goes_cells key hg
  have s2 := pairs1_seq (s1.later b2 (fun k hk => .inl hk)) eg41 (fun x hx => by
    obtain ⟨cs, n0, n1, n2⟩ := hcells x hx
    have b12 := b1.trans (b2.mono b1.size)
    exact ⟨ck b12 n1, ck2 b12 n2, far_node hA n0⟩) hb
  rw [hk] at s2
  have HF : Hid (SeqKV (t.toL.filter (fun x => decide (key ≤ x.1))) A w (.returned (.func (.func 153) #[] #[.pointer (some ⟨w1.heap.size, 0, none⟩)])) w2) := Lib.hid ⟨_, rfl, s2, b1.trans (b2.mono b1.size)⟩
  rw [hw2, hz1] at HF
  clear hw2 s2 hb b2 s1 c2 c1 hcells hk hg hq hr h hu hA b1 hz1
  subst hw1
  go_enter Tryz.func136, Tryz.ntmps136
  go_wp2_with (go_at_call 145; (with_reducible refine pairs_any.mono ?_); rintro e w3 ⟨rfl, rfl⟩)
  go_ret
  exact HF.out

def Bound (t : T) : Prop := ∀ x ∈ t.toL, -9223372036854775808 ≤ x.1
end Go.Proofs.YtohpaoleomcimaaGreat.bv
/-!   Spans as pairs of numbers: the reference's other calls; hulls; the laws. Imports nothing of the program.
-/
namespace Go.Proofs.YtohpaoleomcimaaGreat.sp
set_option linter.unusedVariables false

theorem len_fit {s : Int × Int} (h : Ok s) : lenI s = s.2 - s.1 := by
  unfold lenI
  rw [show fitP s.1 s.2 = s from fit_self (f := s.1) (t := s.2) h]
theorem len_ofP (s : Int × Int) : lenI (ofP s) = lenI s := by
  rw [len_fit (of_ok s), len_of]
theorem of_lt (s : Int × Int) : ofP s = (0, 0) ∨ (ofP s = s ∧ Ok s ∧ s.1 < s.2) := by
  rcases of_cases s with ⟨h, h1, h2, _⟩ | ⟨h, _⟩
  · exact .inr ⟨h, h1, h2⟩
  · exact .inl h
theorem meet_of (s t : Int × Int) : meetP s t = betw (max (ofP s).1 (ofP t).1) (min (ofP s).2 (ofP t).2) := by
  rw [← rmeet_eq]
  unfold rmeetP
  have hs := of_ok s
  have ht := of_ok t
  unfold Ok at hs ht
  rw [of_betw (by split <;> omega) (by split <;> omega)]
  congr 1
  · split <;> omega
  · split <;> omega
theorem holds_eq (s t : Int × Int) : decide (meetP s t = ofP t) = holdsB s t := by
  unfold holdsB
  by_cases h : lenI t = 0
  · rw [decide_eq_true h, Bool.true_or, decide_eq_true]
    rcases of_cases t with ⟨h1, h2, h3, _⟩ | ⟨h1, _⟩
    · rw [len_fit h2] at h; omega
    · rw [meet_of, h1]
      have hs := of_ok s
      unfold Ok at hs
      unfold betw
      rw [if_pos (by simp; omega)]
  · rw [decide_eq_false h, Bool.false_or]
    rcases of_cases t with ⟨h1, h2, h3, _⟩ | ⟨h1, h2, _⟩
    · rw [h1]
    · exact absurd h2 h
theorem touch_no (s t : Int × Int) (h : lenI s = 0 ∨ lenI t = 0) : touchB s t = false := by
  unfold touchB
  rcases h with h | h <;> simp [h]
theorem touch_eq (s t : Int × Int) (hs : lenI s ≠ 0) (ht : lenI t ≠ 0) :
    (decide (lenI (meetP (ofP s) (ofP t)) > 0) || decide ((ofP s).2 = (ofP t).1) || decide ((ofP t).2 = (ofP s).1)) = touchB s t := by
  have h1 : ofP s = s ∧ Ok s ∧ s.1 < s.2 := by
    rcases of_cases s with ⟨h1, h2, h3, _⟩ | ⟨_, h2, _⟩
    · exact ⟨h1, h2, h3⟩
    · exact absurd h2 hs
  have h2 : ofP t = t ∧ Ok t ∧ t.1 < t.2 := by
    rcases of_cases t with ⟨h1, h2, h3, _⟩ | ⟨_, h2, _⟩
    · exact ⟨h1, h2, h3⟩
    · exact absurd h2 ht
  rw [h1.1, h2.1, len_fit (meet_ok _ _), meet_of, h1.1, h2.1]
  unfold touchB betw
  obtain ⟨_, o1, l1⟩ := h1
  obtain ⟨_, o2, l2⟩ := h2
  unfold Ok at o1 o2
  rw [Bool.eq_iff_iff]
  split <;> simp [hs, ht] <;> omega
theorem below_no (s : Int × Int) (o : Int) (h : o < 0) : belowP s o = (0, 0) := by
  have := fit_ok s.1 s.2
  unfold Ok at this
  unfold belowP betw
  rw [if_pos (by omega)]
theorem below_eq (s : Int × Int) (o : Int) (h : 0 ≤ o) : meetP s (0, min o 4611686018427387904) = belowP s o := by
  have := fit_ok s.1 s.2
  unfold meetP belowP
  rw [fit_self (f := 0) (t := min o 4611686018427387904) ⟨by simp, by simp; omega, by simp; omega⟩]
  unfold Ok at this
  congr 1 <;> simp <;> omega
theorem from_no (s : Int × Int) (o : Int) (h : 4611686018427387904 < o) : fromP s o = (0, 0) := by
  have := fit_ok s.1 s.2
  unfold Ok at this
  unfold fromP betw
  rw [if_pos (by omega)]
theorem from_eq (s : Int × Int) (o : Int) (h : o ≤ 4611686018427387904) : meetP s (max o 0, 4611686018427387904) = fromP s o := by
  have := fit_ok s.1 s.2
  unfold meetP fromP
  rw [fit_self (f := max o 0) (t := 4611686018427387904) ⟨by simp; omega, by simp; omega, by simp⟩]
  unfold Ok at this
  congr 1 <;> simp <;> omega

/-- a hull so far -/
def Inv (h : Int × Int) : Prop := h = (0, 0) ∨ (Ok h ∧ h.1 < h.2)
theorem wider_inv {h : Int × Int} (s : Int × Int) (hi : Inv h) : Inv (widerP h s) := by
  unfold widerP
  by_cases h0 : lenI s = 0
  · rw [if_pos h0]; exact hi
  · rw [if_neg h0]
    have hs : Ok s ∧ s.1 < s.2 := by
      rcases of_cases s with ⟨_, h2, h3, _⟩ | ⟨_, h2, _⟩
      · exact ⟨h2, h3⟩
      · exact absurd h2 h0
    split
    · exact .inr hs
    · rename_i hne
      rcases hi with rfl | ⟨h1, h2⟩
      · exact absurd rfl hne
      · obtain ⟨k1, k2⟩ := hs
        unfold Ok at h1 k1
        exact .inr ⟨⟨by simp; omega, by simp; omega, by simp; omega⟩, by simp; omega⟩
theorem hull_inv (l : List (Int × Int)) (h : Int × Int) (hi : Inv h) : Inv (l.foldl widerP h) := by
  induction l generalizing h with
  | nil => exact hi
  | cons a l ih => exact ih _ (wider_inv a hi)
theorem hullP_inv (l : List (Int × Int)) : Inv (hullP l) := hull_inv l _ (.inl rfl)
theorem hullP_snoc (l : List (Int × Int)) (s : Int × Int) : hullP (l ++ [s]) = widerP (hullP l) s := by
  unfold hullP
  rw [List.foldl_append]
  rfl
/-- the reference's step, of a span that is not empty -/
theorem wider_none (h s : Int × Int) (h0 : lenI s = 0) : widerP h s = h := by unfold widerP; rw [if_pos h0]
theorem wider_first (s : Int × Int) (h0 : lenI s ≠ 0) : widerP (0, 0) s = s := by unfold widerP; rw [if_neg h0, if_pos rfl]
theorem inv_len {h : Int × Int} (hi : Inv h) : (lenI h = 0 ↔ h = (0, 0)) := by
  rcases hi with rfl | ⟨h1, h2⟩
  · exact ⟨fun _ => rfl, fun _ => rfl⟩
  · rw [len_fit h1]
    constructor
    · intro h; omega
    · intro h; rw [h] at h2; simp at h2
theorem wider_more {h s : Int × Int} (h0 : lenI s ≠ 0) (h1 : h ≠ (0, 0)) : widerP h s = (min h.1 s.1, max h.2 s.2) := by unfold widerP; rw [if_neg h0, if_neg h1]
theorem of_self {s : Int × Int} (h0 : lenI s ≠ 0) : ofP s = s ∧ Ok s ∧ s.1 < s.2 := by
  rcases of_cases s with ⟨h1, h2, h3, _⟩ | ⟨_, h2, _⟩
  · exact ⟨h1, h2, h3⟩
  · exact absurd h2 h0

/-! ### The laws -/
theorem hull_two (s t : Int × Int) : hullP [s, t] = widerP (widerP (0, 0) s) t := rfl
theorem parts_len (s : Int × Int) (o : Int) : lenI (belowP s o) + lenI (fromP s o) = lenI s := by
  have hs := fit_ok s.1 s.2
  have h1 : Ok (belowP s o) := by unfold Ok at hs; exact betw_ok (by omega) (by omega)
  have h2 : Ok (fromP s o) := by unfold Ok at hs; exact betw_ok (by omega) (by omega)
  rw [len_fit h1, len_fit h2]
  unfold lenI belowP fromP betw
  unfold Ok at hs
  split <;> split <;> simp <;> omega
theorem parts_meet (s : Int × Int) (o : Int) : lenI (meetP (belowP s o) (fromP s o)) = 0 := by
  have hs := fit_ok s.1 s.2
  have h1 : Ok (belowP s o) := by unfold Ok at hs; exact betw_ok (by omega) (by omega)
  have h2 : Ok (fromP s o) := by unfold Ok at hs; exact betw_ok (by omega) (by omega)
  rw [len_fit (meet_ok _ _)]
  unfold meetP
  rw [show fitP (belowP s o).1 (belowP s o).2 = belowP s o from fit_self h1, show fitP (fromP s o).1 (fromP s o).2 = fromP s o from fit_self h2]
  unfold Ok at hs
  unfold belowP fromP betw
  (repeat' split) <;> simp at * <;> omega
theorem parts_cases (s : Int × Int) (o : Int) (hf : fitP s.1 s.2 = s) (h : s.1 < s.2) :
    (belowP s o = (0, 0) ∧ fromP s o = s) ∨ (s.1 < o ∧ o < s.2 ∧ belowP s o = (s.1, o) ∧ fromP s o = (o, s.2)) ∨ (belowP s o = s ∧ fromP s o = (0, 0)) := by
  unfold belowP fromP betw
  rw [hf]
  by_cases h1 : o ≤ s.1
  · left
    rw [if_pos (by omega), if_neg (by omega)]
    exact ⟨rfl, by ext <;> simp; omega⟩
  · by_cases h2 : o < s.2
    · right; left
      rw [if_neg (by omega), if_neg (by omega)]
      exact ⟨by omega, h2, by ext <;> simp; omega, by ext <;> simp; omega⟩
    · right; right
      rw [if_neg (by omega), if_pos (by omega)]
      exact ⟨by ext <;> simp; omega, rfl⟩
theorem parts_zero (s : Int × Int) (o : Int) (hf : (fitP s.1 s.2).1 = (fitP s.1 s.2).2) : belowP s o = (0, 0) ∧ fromP s o = (0, 0) := by
  unfold belowP fromP betw
  rw [if_pos (by omega), if_pos (by omega)]
  exact ⟨rfl, rfl⟩
theorem parts_hull (s : Int × Int) (o : Int) : hullP [belowP s o, fromP s o] = ofP s := by
  rw [hull_two]
  rcases of_cases s with ⟨h, h3, h4, hf⟩ | ⟨h, _, he⟩
  · rw [h]
    have hl : lenI s ≠ 0 := by rw [len_fit h3]; omega
    unfold Ok at h3
    rcases parts_cases s o hf h4 with ⟨e1, e2⟩ | ⟨l1, l2, e1, e2⟩ | ⟨e1, e2⟩
    · rw [e1, e2, show widerP (0, 0) (0, 0) = (0, 0) from rfl, wider_first _ hl]
    · have k1 : lenI (s.1, o) ≠ 0 := by rw [len_fit ⟨by simp; omega, by simp; omega, by simp; omega⟩]; simp; omega
      have k2 : lenI (o, s.2) ≠ 0 := by rw [len_fit ⟨by simp; omega, by simp; omega, by simp; omega⟩]; simp; omega
      rw [e1, e2, wider_first _ k1, wider_more k2 (by intro h; injection h with h1 h2; omega)]
      ext <;> simp <;> omega
    · rw [e1, e2, wider_first _ hl, wider_none _ _ rfl]
  · obtain ⟨e1, e2⟩ := parts_zero s o he
    rw [e1, e2, h]
    rfl
theorem parts_has (s : Int × Int) (o : Int) : hasB (belowP s o) o = false := by
  have hs := fit_ok s.1 s.2
  have h1 : Ok (belowP s o) := by unfold Ok at hs; exact betw_ok (by omega) (by omega)
  unfold hasB
  rw [show fitP (belowP s o).1 (belowP s o).2 = belowP s o from fit_self h1]
  unfold Ok at hs
  unfold belowP betw
  rw [Bool.eq_false_iff]
  intro h
  split at h <;> simp at h <;> omega
theorem parts_from (s : Int × Int) (o : Int) (h : lenI (fromP s o) ≠ 0) : o ≤ (fromP s o).1 := by
  unfold fromP betw at *
  by_cases h1 : (fitP s.1 s.2).2 ≤ max (fitP s.1 s.2).1 o
  · rw [if_pos h1] at h
    exact absurd rfl h
  · rw [if_neg h1]
    simp
    omega
theorem touch_meet (s t : Int × Int) (h : touchB s t = false) : lenI (meetP s t) = 0 := by
  rw [len_fit (meet_ok _ _), meet_of]
  unfold touchB at h
  rcases of_cases s with ⟨e1, o1, l1, f1⟩ | ⟨e1, _, _⟩
  · rcases of_cases t with ⟨e2, o2, l2, f2⟩ | ⟨e2, _, _⟩
    · rw [len_fit o1, len_fit o2] at h
      rw [e1, e2]
      unfold Ok at o1 o2
      unfold betw
      simp at h
      split <;> simp <;> omega
    · rw [e2]
      have := of_ok s
      unfold Ok at this
      unfold betw
      split <;> simp at * <;> omega
  · rw [e1]
    have := of_ok t
    unfold Ok at this
    unfold betw
    split <;> simp at * <;> omega
theorem touch_hull (s t : Int × Int) (h : touchB s t = true) : lenI (hullP [s, t]) + lenI (meetP s t) = lenI s + lenI t := by
  have h' := h
  unfold touchB at h'
  simp at h'
  obtain ⟨⟨⟨h1, h2⟩, h3⟩, h4⟩ := h'
  obtain ⟨e1, o1, l1⟩ := of_self h1
  obtain ⟨e2, o2, l2⟩ := of_self h2
  have hi := hullP_inv [s, t]
  rw [hull_two, wider_first _ h1] at *
  have hne : s ≠ (0, 0) := by intro h; rw [h] at l1; simp at l1
  rw [wider_more h2 hne] at *
  have ho : Ok (min s.1 t.1, max s.2 t.2) := by
    unfold Ok at o1 o2 ⊢
    exact ⟨by simp; omega, by simp; omega, by simp; omega⟩
  rw [len_fit ho, len_fit (meet_ok _ _), len_fit o1, len_fit o2, meet_of, e1, e2]
  unfold Ok at o1 o2
  unfold betw
  split <;> simp <;> omega
theorem touch_comm (s t : Int × Int) : touchB t s = touchB s t := by
  unfold touchB
  rw [Bool.eq_iff_iff]
  simp
  constructor <;> (rintro ⟨⟨⟨h1, h2⟩, h3⟩, h4⟩; exact ⟨⟨⟨h2, h1⟩, h4⟩, h3⟩)
end Go.Proofs.YtohpaoleomcimaaGreat.sp
/-!   Spans, as the reference has them: Holds, Touch, Below, From; wider.
-/
namespace Go.Proofs.YtohpaoleomcimaaGreat.sp
open Go.RowKit aid mem
attribute [local go_sem ↓] Go.wp_at_zero Go.wp_at_succ
set_option linter.unusedVariables false

set_option maxRecDepth 100000 in
set_option maxHeartbeats 800000 in
theorem rbelow_any (s : Int × Int) (o : Int) (w : World) : Calls Tryz.prog 109 #[spV s, .int .i64 o] w (RetS (belowP s o) w) := by
  have M0 := m2_zero w s
  by_cases h : o < 0
  · have H : Hid (belowP s o = (0, 0)) := Lib.hid (below_no s o h)
    go_enter Tryz.func109, Tryz.ntmps109
    go_wp2
    exact bodyPost_ret (v := spV (0, 0)) (by simp [results, Tryz.results109, go_sem]) rfl ⟨by rw [H.out], (bal _).alloc (bal _).size _⟩
  · have H : Hid (meetP s (0, min o 4611686018427387904) = belowP s o) := Lib.hid (below_eq s o (by omega))
    generalize belowP s o = r at *
    go_enter Tryz.func109, Tryz.ntmps109
    go_wp2_with fail
    all_goals
      generalize (w.alloc (.cells #[.int .i64 s.1, .int .i64 s.2] 24)).alloc (.cells #[.int .i64 0, .int .i64 0] 24) = W at *
      generalize w.heap.size = B at *
      refine (rmeet_any s (0, _) _).mono ?_
      rintro e w2 ⟨rfl, h2⟩
      have M2 := M0.later h2
      rw [show meetP s _ = r from by rw [← H.out]; congr 2; omega]
      have M3 := M2.put1 r.1 r.2
      have c0 := M2.b1.c0; have c1 := M2.b1.c1; have f0 := M2.b1.f0; have f1 := M2.b1.f1
      clear h2 M0 M2
      go_wp2_with fail
      have e0 := M3.b1.c0; have e1 := M3.b1.c1
      exact bodyPost_ret (v := spV r) (by simp [results, Tryz.results109, go_sem, e0, e1]) rfl ⟨rfl, M3.below⟩

set_option maxRecDepth 100000 in
set_option maxHeartbeats 800000 in
theorem rfrom_any (s : Int × Int) (o : Int) (w : World) : Calls Tryz.prog 80 #[spV s, .int .i64 o] w (RetS (fromP s o) w) := by
  have M0 := m2_zero w s
  by_cases h : 4611686018427387904 < o
  · have H : Hid (fromP s o = (0, 0)) := Lib.hid (from_no s o h)
    go_enter Tryz.func80, Tryz.ntmps80
    go_wp2
    exact bodyPost_ret (v := spV (0, 0)) (by simp [results, Tryz.results80, go_sem]) rfl ⟨by rw [H.out], (bal _).alloc (bal _).size _⟩
  · have H : Hid (meetP s (max o 0, 4611686018427387904) = fromP s o) := Lib.hid (from_eq s o (by omega))
    generalize fromP s o = r at *
    go_enter Tryz.func80, Tryz.ntmps80
    go_wp2_with fail
    all_goals
      generalize (w.alloc (.cells #[.int .i64 s.1, .int .i64 s.2] 24)).alloc (.cells #[.int .i64 0, .int .i64 0] 24) = W at *
      generalize w.heap.size = B at *
      refine (rmeet_any s (_, 4611686018427387904) _).mono ?_
      rintro e w2 ⟨rfl, h2⟩
      have M2 := M0.later h2
      rw [show meetP s _ = r from by rw [← H.out]; congr 2; omega]
      have M3 := M2.put1 r.1 r.2
      have c0 := M2.b1.c0; have c1 := M2.b1.c1; have f0 := M2.b1.f0; have f1 := M2.b1.f1
      clear h2 M0 M2
      go_wp2_with fail
      have e0 := M3.b1.c0; have e1 := M3.b1.c1
      exact bodyPost_ret (v := spV r) (by simp [results, Tryz.results80, go_sem, e0, e1]) rfl ⟨rfl, M3.below⟩

set_option maxRecDepth 100000 in
set_option maxHeartbeats 1600000 in
theorem wider_any (u s : Int × Int) (w : World) : Calls Tryz.prog 123 #[spV u, spV s] w (RetS (widerP u s) w) := by
  obtain ⟨s1, s2, s3, b1⟩ := three_new w u s
  have M0 : M3 w w.heap.size u s (0, 0) (((w.alloc (.cells #[.int .i64 u.1, .int .i64 u.2] 24)).alloc (.cells #[.int .i64 s.1, .int .i64 s.2] 24)).alloc (.cells #[.int .i64 0, .int .i64 0] 24)) := ⟨s1, s2, s3, b1, Nat.le_refl _⟩
  clear s1 s2 s3 b1
  have HF := len_any s
  have eqb := eq_sp u.1 u.2 0 0
  have eqg := eq_guard
  by_cases hl : lenI s = 0
  · have H : Hid (widerP u s = u) := Lib.hid (wider_none u s hl)
    have hl1 : (lenI s == 0) = true := by simpa using hl
    generalize lenI s = n at *
    have HFF := Lib.hid HF
    clear HF hl
    go_enter Tryz.func123, Tryz.ntmps123
    go_wp2_with fail
    generalize ((w.alloc (.cells #[.int .i64 u.1, .int .i64 u.2] 24)).alloc (.cells #[.int .i64 s.1, .int .i64 s.2] 24)).alloc (.cells #[.int .i64 0, .int .i64 0] 24) = W at *
    generalize w.heap.size = B at *
    refine (HFF.out _).mono ?_
    rintro e w1 ⟨rfl, h1⟩
    have M1 := M0.later h1
    clear M0 h1
    have M4 := M1.put2 (u.1) (u.2)
    have g0 := M1.b2.c0; have g1 := M1.b2.c1; have g2 := M1.b2.f0; have g3 := M1.b2.f1
    have c0 := M1.b0.c0; have c1 := M1.b0.c1; have d0 := M1.b1.c0; have d1 := M1.b1.c1
    clear M1
    go_wp2_with fail
    have e0 := M4.b2.c0; have e1 := M4.b2.c1
    exact bodyPost_ret (v := spV u) (by simp [results, Tryz.results123, go_sem, e0, e1]) rfl ⟨by rw [H.out], M4.below⟩
  · have hl1 : (lenI s == 0) = false := by simpa using hl
    by_cases hz : u = (0, 0)
    · have H : Hid (widerP u s = s) := Lib.hid (by rw [hz]; exact wider_first s hl)
      have hb : (u.1 == 0 && u.2 == 0) = true := by simp [hz]
      rw [hb] at eqb
      generalize lenI s = n at *
      have HFF := Lib.hid HF
      clear HF hl hz hb
      go_enter Tryz.func123, Tryz.ntmps123
      go_wp2_with fail
      generalize ((w.alloc (.cells #[.int .i64 u.1, .int .i64 u.2] 24)).alloc (.cells #[.int .i64 s.1, .int .i64 s.2] 24)).alloc (.cells #[.int .i64 0, .int .i64 0] 24) = W at *
      generalize w.heap.size = B at *
      refine (HFF.out _).mono ?_
      rintro e w1 ⟨rfl, h1⟩
      have M1 := M0.later h1
      clear M0 h1
      have M4 := M1.put2 (s.1) (s.2)
      have g0 := M1.b2.c0; have g1 := M1.b2.c1; have g2 := M1.b2.f0; have g3 := M1.b2.f1
      have c0 := M1.b0.c0; have c1 := M1.b0.c1; have d0 := M1.b1.c0; have d1 := M1.b1.c1
      clear M1
      go_wp2_with fail
      have e0 := M4.b2.c0; have e1 := M4.b2.c1
      exact bodyPost_ret (v := spV s) (by simp [results, Tryz.results123, go_sem, e0, e1]) rfl ⟨by rw [H.out], M4.below⟩
    · have H : Hid (widerP u s = (min u.1 s.1, max u.2 s.2)) := Lib.hid (wider_more hl hz)
      have hb : (u.1 == 0 && u.2 == 0) = false := by
        rw [Bool.eq_false_iff]; intro hx; apply hz; simp at hx; exact Prod.ext hx.1 hx.2
      rw [hb] at eqb
      generalize lenI s = n at *
      have HFF := Lib.hid HF
      clear HF hl hz hb
      go_enter Tryz.func123, Tryz.ntmps123
      go_wp2_with fail
      generalize ((w.alloc (.cells #[.int .i64 u.1, .int .i64 u.2] 24)).alloc (.cells #[.int .i64 s.1, .int .i64 s.2] 24)).alloc (.cells #[.int .i64 0, .int .i64 0] 24) = W at *
      generalize w.heap.size = B at *
      refine (HFF.out _).mono ?_
      rintro e w1 ⟨rfl, h1⟩
      have M1 := M0.later h1
      clear M0 h1
      have g0 := M1.b2.c0; have g1 := M1.b2.c1; have g2 := M1.b2.f0; have g3 := M1.b2.f1
      have c0 := M1.b0.c0; have c1 := M1.b0.c1; have d0 := M1.b1.c0; have d1 := M1.b1.c1
      go_wp2_with fail
      all_goals
        first
        | (have M4 := M1.put2 u.1 u.2; have e0 := M4.b2.c0; have e1 := M4.b2.c1; exact bodyPost_ret (v := spV (u.1, u.2)) (by simp [results, Tryz.results123, go_sem, e0, e1]) rfl ⟨by rw [H.out, show min u.1 s.1 = u.1 by omega, show max u.2 s.2 = u.2 by omega], M4.below⟩)
        | (have M4 := M1.put2 u.1 s.2; have e0 := M4.b2.c0; have e1 := M4.b2.c1; exact bodyPost_ret (v := spV (u.1, s.2)) (by simp [results, Tryz.results123, go_sem, e0, e1]) rfl ⟨by rw [H.out, show min u.1 s.1 = u.1 by omega, show max u.2 s.2 = s.2 by omega], M4.below⟩)
        | (have M4 := M1.put2 s.1 u.2; have e0 := M4.b2.c0; have e1 := M4.b2.c1; exact bodyPost_ret (v := spV (s.1, u.2)) (by simp [results, Tryz.results123, go_sem, e0, e1]) rfl ⟨by rw [H.out, show min u.1 s.1 = s.1 by omega, show max u.2 s.2 = u.2 by omega], M4.below⟩)
        | (have M4 := M1.put2 s.1 s.2; have e0 := M4.b2.c0; have e1 := M4.b2.c1; exact bodyPost_ret (v := spV (s.1, s.2)) (by simp [results, Tryz.results123, go_sem, e0, e1]) rfl ⟨by rw [H.out, show min u.1 s.1 = s.1 by omega, show max u.2 s.2 = s.2 by omega], M4.below⟩)
end Go.Proofs.YtohpaoleomcimaaGreat.sp
/-!   Spans, as the reference has them: Touch.
-/
namespace Go.Proofs.YtohpaoleomcimaaGreat.sp
open Go.RowKit aid mem
attribute [local go_sem ↓] Go.wp_at_zero Go.wp_at_succ
set_option linter.unusedVariables false

/-- two boxes, wherever they lie -/
structure MP (w0 : World) (A C : Nat) (a b : Int × Int) (w : World) : Prop where
  a : SpAt w A a
  b : SpAt w C b
  below : Below w0.heap.size w0 w
theorem MP.later {w0 : World} {A C : Nat} {a b : Int × Int} {w w' : World} (h : MP w0 A C a b w) (hb : Below w.heap.size w w') : MP w0 A C a b w' :=
  ⟨h.a.later hb, h.b.later hb, h.below.trans (hb.mono h.below.size)⟩

set_option maxRecDepth 100000 in
set_option maxHeartbeats 1600000 in
theorem rtouch_any (s t : Int × Int) (w : World) : Calls Tryz.prog 110 #[spV s, spV t] w (RetB (touchB s t) w) := by
  have M0 := m2_new w s t
  have HF := rof_any s
  have HG := rof_any t
  have hp := len_ofP s
  have hq := len_ofP t
  have HT := touch_eq s t
  have HN := touch_no s t
  generalize ofP s = p at *
  generalize ofP t = q at *
  rw [← hp, ← hq] at HT HN
  clear hp hq
  have HFF := Lib.hid HF
  have HGG := Lib.hid HG
  have HTT := Lib.hid HT
  have HNN := Lib.hid HN
  have HA := Lib.hid (rlen_any p)
  have HB := Lib.hid (rlen_any q)
  have HM := Lib.hid (rmeet_any p q)
  have HL := Lib.hid (rlen_any (meetP p q))
  clear HF HG HT HN
  generalize lenI p = n at *
  generalize lenI q = m at *
  generalize meetP p q = r at *
  generalize lenI r = k at *
  generalize touchB s t = b at *
  by_cases hn : n = 0
  · have H : Hid (b = false) := Lib.hid (HNN.out (.inl hn))
    have hn1 : (n == 0) = true := by simpa using hn
    clear hn HTT HNN
    go_enter Tryz.func110, Tryz.ntmps110
    go_wp2_with fail
    generalize (w.alloc (.cells #[.int .i64 s.1, .int .i64 s.2] 24)).alloc (.cells #[.int .i64 t.1, .int .i64 t.2] 24) = W at *
    generalize w.heap.size = B at M0 ⊢
    refine (HFF.out _).mono ?_
    rintro e w1 ⟨rfl, h1⟩
    have M1 := M0.later h1
    have c0 := M1.b1.c0; have c1 := M1.b1.c1
    have n1 := M1.b0.lt; have n2 := M1.b1.lt; have n4 := M1.below.size
    clear h1 M0
    go_wp2_with fail
    refine (HGG.out _).mono ?_
    rintro e w2 ⟨rfl, h2⟩
    have A2 := (sp_new w1 p).later h2
    have M2 : MP w w1.heap.size w2.heap.size p q (w2.alloc (.cells #[.int .i64 q.1, .int .i64 q.2] 24)) := ⟨A2.later (bal (.cells #[.int .i64 q.1, .int .i64 q.2] 24)), sp_new w2 q, ((M1.below.alloc n4 (.cells #[.int .i64 p.1, .int .i64 p.2] 24)).trans (h2.mono (by simp; omega))).alloc (by have := h2.size; simp at this; omega) (.cells #[.int .i64 q.1, .int .i64 q.2] 24)⟩
    have n5 := A2.lt
    have d0 := A2.c0; have d1 := A2.c1
    clear h2 M1 c0 c1
    go_wp2_with fail
    refine (HA.out _).mono ?_
    rintro e w3 ⟨rfl, h3⟩
    have M3 := M2.later h3
    clear M2 h3
    go_wp2
    go_ret
    exact ⟨ret_b H.out.symm, M3.below⟩
  · have hn1 : (n == 0) = false := by simpa using hn
    by_cases hm : m = 0
    · have H : Hid (b = false) := Lib.hid (HNN.out (.inr hm))
      have hm1 : (m == 0) = true := by simpa using hm
      clear hn hm HTT HNN
      go_enter Tryz.func110, Tryz.ntmps110
      go_wp2_with fail
      generalize (w.alloc (.cells #[.int .i64 s.1, .int .i64 s.2] 24)).alloc (.cells #[.int .i64 t.1, .int .i64 t.2] 24) = W at *
      generalize w.heap.size = B at M0 ⊢
      refine (HFF.out _).mono ?_
      rintro e w1 ⟨rfl, h1⟩
      have M1 := M0.later h1
      have c0 := M1.b1.c0; have c1 := M1.b1.c1
      have n1 := M1.b0.lt; have n2 := M1.b1.lt; have n4 := M1.below.size
      clear h1 M0
      go_wp2_with fail
      refine (HGG.out _).mono ?_
      rintro e w2 ⟨rfl, h2⟩
      have A2 := (sp_new w1 p).later h2
      have M2 : MP w w1.heap.size w2.heap.size p q (w2.alloc (.cells #[.int .i64 q.1, .int .i64 q.2] 24)) := ⟨A2.later (bal (.cells #[.int .i64 q.1, .int .i64 q.2] 24)), sp_new w2 q, ((M1.below.alloc n4 (.cells #[.int .i64 p.1, .int .i64 p.2] 24)).trans (h2.mono (by simp; omega))).alloc (by have := h2.size; simp at this; omega) (.cells #[.int .i64 q.1, .int .i64 q.2] 24)⟩
      have n5 := A2.lt
      have d0 := A2.c0; have d1 := A2.c1
      clear h2 M1 c0 c1
      go_wp2_with fail
      refine (HA.out _).mono ?_
      rintro e w3 ⟨rfl, h3⟩
      have M3 := M2.later h3
      clear M2 h3 d0 d1
      have d0 := M3.b.c0; have d1 := M3.b.c1
      go_wp2_with fail
      refine (HB.out _).mono ?_
      rintro e w4 ⟨rfl, h4⟩
      have M4 := M3.later h4
      clear M3 h4 d0 d1
      go_wp2
      go_ret
      exact ⟨ret_b H.out.symm, M4.below⟩
    · have hm1 : (m == 0) = false := by simpa using hm
      have H : Hid ((decide (k > 0) || decide (p.2 = q.1) || decide (q.2 = p.1)) = b) := Lib.hid (HTT.out hn hm)
      clear hn hm HTT HNN
      go_enter Tryz.func110, Tryz.ntmps110
      go_wp2_with fail
      generalize (w.alloc (.cells #[.int .i64 s.1, .int .i64 s.2] 24)).alloc (.cells #[.int .i64 t.1, .int .i64 t.2] 24) = W at *
      generalize w.heap.size = B at M0 ⊢
      refine (HFF.out _).mono ?_
      rintro e w1 ⟨rfl, h1⟩
      have M1 := M0.later h1
      have c0 := M1.b1.c0; have c1 := M1.b1.c1
      have n1 := M1.b0.lt; have n2 := M1.b1.lt; have n4 := M1.below.size
      clear h1 M0
      go_wp2_with fail
      refine (HGG.out _).mono ?_
      rintro e w2 ⟨rfl, h2⟩
      have A2 := (sp_new w1 p).later h2
      have M2 : MP w w1.heap.size w2.heap.size p q (w2.alloc (.cells #[.int .i64 q.1, .int .i64 q.2] 24)) := ⟨A2.later (bal (.cells #[.int .i64 q.1, .int .i64 q.2] 24)), sp_new w2 q, ((M1.below.alloc n4 (.cells #[.int .i64 p.1, .int .i64 p.2] 24)).trans (h2.mono (by simp; omega))).alloc (by have := h2.size; simp at this; omega) (.cells #[.int .i64 q.1, .int .i64 q.2] 24)⟩
      have n5 := A2.lt
      have d0 := A2.c0; have d1 := A2.c1
      clear h2 M1 c0 c1
      go_wp2_with fail
      refine (HA.out _).mono ?_
      rintro e w3 ⟨rfl, h3⟩
      have M3 := M2.later h3
      clear M2 h3 d0 d1
      have d0 := M3.b.c0; have d1 := M3.b.c1
      go_wp2_with fail
      refine (HB.out _).mono ?_
      rintro e w4 ⟨rfl, h4⟩
      have M4 := M3.later h4
      clear M3 h4 d0 d1
      have d0 := M4.b.c0; have d1 := M4.b.c1; have c0 := M4.a.c0; have c1 := M4.a.c1
      go_wp2_with fail
      refine (HM.out _).mono ?_
      rintro e w5 ⟨rfl, h5⟩
      have M5 := M4.later h5
      clear M4 h5 d0 d1 c0 c1
      go_wp2_with fail
      refine (HL.out _).mono ?_
      rintro e w6 ⟨rfl, h6⟩
      have M6 := M5.later h6
      clear M5 h6
      have d0 := M6.b.c0; have d1 := M6.b.c1; have c0 := M6.a.c0; have c1 := M6.a.c1
      go_wp2
      all_goals
        go_ret
        exact ⟨ret_b (by rw [← H.out, Bool.eq_iff_iff]; simp <;> omega), M6.below⟩
end Go.Proofs.YtohpaoleomcimaaGreat.sp
/-!   Hulls of lists of spans.
-/
namespace Go.Proofs.YtohpaoleomcimaaGreat.sp
open Go.RowKit aid mem
attribute [local go_sem ↓] Go.wp_at_zero Go.wp_at_succ
set_option linter.unusedVariables false

/-- a slice of spans -/
structure SlS (w : World) (a : Option Addr) (n cap : Nat) (l : List (Int × Int)) : Prop where
  len : l.length = n
  le : n ≤ cap
  most : cap ≤ maxLen
  nil : a = none → cap = 0
  cells : 0 < n → ∃ b off, a = some ⟨b, off, none⟩ ∧ ∀ i, i < n → w.cell? ⟨b, off + i * 2, none⟩ = some (.int .i64 (l.getD i (0, 0)).1) ∧ w.cell? ⟨b, off + i * 2 + 1, none⟩ = some (.int .i64 (l.getD i (0, 0)).2)
theorem SlS.keep {w w' : World} {a : Option Addr} {n cap : Nat} {l : List (Int × Int)} (h : SlS w a n cap l) {S : List Nat} (hk : Kept S w w') (hd : ∀ x, a = some x → 0 < n → x.block ∉ S) : SlS w' a n cap l :=
  ⟨h.len, h.le, h.most, h.nil, fun h0 => by
    obtain ⟨b, off, rfl, hc⟩ := h.cells h0
    exact ⟨b, off, rfl, fun i hi => ⟨hk.cell (p := ⟨b, off + i * 2, none⟩) (hd ⟨b, off, none⟩ rfl h0) (hc i hi).1, hk.cell (p := ⟨b, off + i * 2 + 1, none⟩) (hd ⟨b, off, none⟩ rfl h0) (hc i hi).2⟩⟩⟩
theorem SlS.later {w w' : World} {a : Option Addr} {n cap : Nat} {l : List (Int × Int)} (h : SlS w a n cap l) (hk : Below w.heap.size w w') : SlS w' a n cap l :=
  h.keep (Kept.of_below hk (Nat.le_refl _) []) (fun _ _ _ => by simp)
/-- two spans in a new array -/
theorem sls_two (w : World) (s t : Int × Int) (ty : TypeId) : SlS (w.alloc (.cells #[.int .i64 s.1, .int .i64 s.2, .int .i64 t.1, .int .i64 t.2] ty)) (some ⟨w.heap.size, 0, none⟩) 2 2 [s, t] :=
  ⟨rfl, Nat.le_refl _, by simp [maxLen], (fun h => by cases h), fun _ => ⟨w.heap.size, 0, rfl, fun i hi => by
    rcases (show i = 0 ∨ i = 1 by omega) with rfl | rfl
    · exact ⟨World.cell?_alloc_at _ _ _ _ rfl, World.cell?_alloc_at _ _ _ _ rfl⟩
    · exact ⟨World.cell?_alloc_at _ _ _ _ rfl, World.cell?_alloc_at _ _ _ _ rfl⟩⟩⟩

theorem hull_take (l : List (Int × Int)) (k : Nat) (hk : k < l.length) : hullP (l.take (k + 1)) = widerP (hullP (l.take k)) (l.getD k (0, 0)) := by
  rw [← hullP_snoc]
  congr 1
  rw [List.take_succ_eq_append_getElem hk]
  simp [List.getD, hk]

set_option maxRecDepth 100000 in
set_option maxHeartbeats 1600000 in
theorem hull_any (l : List (Int × Int)) (a : Option Addr) (n cap : Nat) (w : World) (hl : SlS w a n cap l) : Calls Tryz.prog 96 #[.slice a n cap] w (RetS (hullP l) w) := by
  have hlen := hl.len
  have hle := hl.le
  have hmost := hl.most
  unfold maxLen at hmost
  have M0 := m2_new w (0, 0) (0, 0)
  by_cases hz : n = 0
  · subst hz
    obtain rfl : l = [] := List.eq_nil_of_length_eq_zero hlen
    have H : Hid (hullP [] = (0, 0)) := Lib.hid rfl
    go_enter Tryz.func96, Tryz.ntmps96
    go_wp2_with fail
    generalize (w.alloc (.cells #[.int .i64 0, .int .i64 0] 24)).alloc (.cells #[.int .i64 0, .int .i64 0] 24) = W at *
    generalize w.heap.size = B at M0 ⊢
    go_loopw [8] (fun i wr => i = .int .i64 0 ∧ wr = W) (fun _ _ => 0)
    case atStart => exact ⟨rfl, rfl⟩
    case round =>
      obtain ⟨rfl, rfl⟩ := hrel
      have M3 := M0.put0 0 0
      have c0 := M0.b0.c0; have c1 := M0.b0.c1; have f0 := M0.b0.f0; have f1 := M0.b0.f1
      have d0 := M0.b1.c0; have d1 := M0.b1.c1
      go_wp2_with fail
      have e0 := M3.b0.c0; have e1 := M3.b0.c1
      exact bodyPost_ret (v := spV (0, 0)) (by simp [results, Tryz.results96, go_sem, e0, e1]) rfl ⟨by rw [H.out], M3.below⟩
  · obtain ⟨b, off, rfl, hc⟩ := hl.cells (by omega)
    have hbl : b < w.heap.size := World.block_lt_of_cell? w _ (hc 0 (by omega)).1
    have HC := Lib.hid hc
    have HL := Lib.hid hlen
    have HS := Lib.hid (hull_take l)
    clear hc hlen hl
    go_enter Tryz.func96, Tryz.ntmps96
    go_wp2_with fail
    generalize (w.alloc (.cells #[.int .i64 0, .int .i64 0] 24)).alloc (.cells #[.int .i64 0, .int .i64 0] 24) = W at *
    generalize hB : w.heap.size = B at M0 ⊢
    go_loopw [8] (fun i wr => ∃ k : Nat, k ≤ n ∧ i = .int .i64 k ∧ M2 w B (0, 0) (hullP (l.take k)) wr) (fun i _ => n - (intOf i).toNat)
    case atStart => exact ⟨0, Nat.zero_le _, rfl, M0⟩
    case round =>
      clear M0
      obtain ⟨k, hk, rfl, MK⟩ := hrel
      obtain ⟨wo, rfl⟩ : ∃ wo : World, wo = wr := ⟨_, rfl⟩
      by_cases hlt : k < n
      · obtain ⟨x0, x1⟩ := HC.out k hlt
        have hst := HS.out k (by rw [HL.out]; exact hlt)
        generalize l.getD k (0, 0) = x at *
        generalize hullP (l.take k) = h at *
        have HST := Lib.hid hst
        have y0 := (MK.below.cell (p := ⟨b, off + k * 2, none⟩) (by simpa using hbl)).trans x0
        have y1 := (MK.below.cell (p := ⟨b, off + k * 2 + 1, none⟩) (by simpa using hbl)).trans x1
        have n1 := MK.b0.lt; have n2 := MK.b1.lt
        have c0 := MK.b1.c0; have c1 := MK.b1.c1
        clear hst x0 x1
        go_wp2_with fail
        have M3 := MK.later (bal (.cells #[.int .i64 x.1, .int .i64 x.2] 24))
        refine (wider_any h x _).mono ?_
        rintro e w4 ⟨rfl, h4⟩
        have M4 := M3.later h4
        clear M3 h4 c0 c1 MK y0 y1
        rw [← HST.out]
        generalize hhh : hullP (l.take (k + 1)) = u at *
        have M5 := M4.put1 u.1 u.2
        have c0 := M4.b1.c0; have c1 := M4.b1.c1; have f0 := M4.b1.f0; have f1 := M4.b1.f1
        have HH := Lib.hid hhh
        clear hhh M4
        go_wp2_with fail
        go_roundw
        case rel => exact ⟨k + 1, by omega, by go_num, by rw [HH.out]; exact M5⟩
        case measure => simp [intOf]; omega
      · have hkn : Hid (hullP (l.take k) = hullP l) := Lib.hid (by rw [List.take_of_length_le (by have := HL.out; omega)])
        rw [hkn.out] at MK
        generalize hullP l = h at *
        have M3 := MK.put0 h.1 h.2
        have c0 := MK.b0.c0; have c1 := MK.b0.c1; have f0 := MK.b0.f0; have f1 := MK.b0.f1
        have d0 := MK.b1.c0; have d1 := MK.b1.c1
        clear MK
        go_wp2_with fail
        have e0 := M3.b0.c0; have e1 := M3.b0.c1
        exact bodyPost_ret (v := spV h) (by simp [results, Tryz.results96, go_sem, e0, e1]) rfl ⟨rfl, M3.below⟩
end Go.Proofs.YtohpaoleomcimaaGreat.sp
/-!   Hulls of lists of spans, as the reference has them.
-/
namespace Go.Proofs.YtohpaoleomcimaaGreat.sp
open Go.RowKit aid mem
attribute [local go_sem ↓] Go.wp_at_zero Go.wp_at_succ
set_option linter.unusedVariables false

theorem M2.s10 {w0 : World} {B : Nat} {s t : Int × Int} {w : World} (h : M2 w0 B s t w) (x : Int) : M2 w0 B s (x, t.2) (w.setCell ⟨B + 1, 0, none⟩ (.int .i64 x)) := by
  have hk := (Kept.refl [B + 1] w).setCell (p := ⟨B + 1, 0, none⟩) (.inl (by simp)) (.int .i64 x)
  exact ⟨h.b0.keep hk (by simp), h.b1.set0 x, h.below.trans (hk.below (by have := h.le; simp; omega) h.below.size), h.le⟩
theorem M2.s11 {w0 : World} {B : Nat} {s t : Int × Int} {w : World} (h : M2 w0 B s t w) (x : Int) : M2 w0 B s (t.1, x) (w.setCell ⟨B + 1, 1, none⟩ (.int .i64 x)) := by
  have hk := (Kept.refl [B + 1] w).setCell (p := ⟨B + 1, 1, none⟩) (.inl (by simp)) (.int .i64 x)
  exact ⟨h.b0.keep hk (by simp), h.b1.set1 x, h.below.trans (hk.below (by have := h.le; simp; omega) h.below.size), h.le⟩

set_option maxRecDepth 100000 in
set_option maxHeartbeats 3200000 in
theorem rhull_any (l : List (Int × Int)) (a : Option Addr) (n cap : Nat) (w : World) (hl : SlS w a n cap l) : Calls Tryz.prog 111 #[.slice a n cap] w (RetS (hullP l) w) := by
  have hlen := hl.len
  have hle := hl.le
  have hmost := hl.most
  unfold maxLen at hmost
  have M0 := m2_new w (0, 0) (0, 0)
  by_cases hz : n = 0
  · subst hz
    obtain rfl : l = [] := List.eq_nil_of_length_eq_zero hlen
    have H : Hid (hullP [] = (0, 0)) := Lib.hid rfl
    go_enter Tryz.func111, Tryz.ntmps111
    go_wp2_with fail
    generalize (w.alloc (.cells #[.int .i64 0, .int .i64 0] 24)).alloc (.cells #[.int .i64 0, .int .i64 0] 24) = W at *
    generalize w.heap.size = B at M0 ⊢
    go_loopw [4] (fun i wr => i = .int .i64 0 ∧ wr = W) (fun _ _ => 0)
    case atStart => exact ⟨rfl, rfl⟩
    case round =>
      obtain ⟨rfl, rfl⟩ := hrel
      have M3 := M0.put0 0 0
      have c0 := M0.b0.c0; have c1 := M0.b0.c1; have f0 := M0.b0.f0; have f1 := M0.b0.f1
      have d0 := M0.b1.c0; have d1 := M0.b1.c1
      go_wp2_with fail
      have e0 := M3.b0.c0; have e1 := M3.b0.c1
      exact bodyPost_ret (v := spV (0, 0)) (by simp [results, Tryz.results111, go_sem, e0, e1]) rfl ⟨by rw [H.out], M3.below⟩
  · obtain ⟨b, off, rfl, hc⟩ := hl.cells (by omega)
    have hbl : b < w.heap.size := World.block_lt_of_cell? w _ (hc 0 (by omega)).1
    have HC := Lib.hid hc
    have HL := Lib.hid hlen
    have HS := Lib.hid (hull_take l)
    have HI := Lib.hid (fun k => hullP_inv (l.take k))
    clear hc hlen hl
    go_enter Tryz.func111, Tryz.ntmps111
    go_wp2_with fail
    generalize (w.alloc (.cells #[.int .i64 0, .int .i64 0] 24)).alloc (.cells #[.int .i64 0, .int .i64 0] 24) = W at *
    generalize hB : w.heap.size = B at M0 ⊢
    go_loopw [4] (fun i wr => ∃ k : Nat, k ≤ n ∧ i = .int .i64 k ∧ M2 w B (0, 0) (hullP (l.take k)) wr) (fun i _ => n - (intOf i).toNat)
    case atStart => exact ⟨0, Nat.zero_le _, rfl, M0⟩
    case round =>
      clear M0
      obtain ⟨k, hk, rfl, MK⟩ := hrel
      obtain ⟨wo, rfl⟩ : ∃ wo : World, wo = wr := ⟨_, rfl⟩
      by_cases hlt : k < n
      · obtain ⟨x0, x1⟩ := HC.out k hlt
        have hst := HS.out k (by rw [HL.out]; exact hlt)
        have hin := HI.out k
        generalize l.getD k (0, 0) = x at *
        generalize hullP (l.take k) = h at *
        have y0 := (MK.below.cell (p := ⟨b, off + k * 2, none⟩) (by simpa using hbl)).trans x0
        have y1 := (MK.below.cell (p := ⟨b, off + k * 2 + 1, none⟩) (by simpa using hbl)).trans x1
        have n1 := MK.b0.lt; have n2 := MK.b1.lt; have n3 := MK.below.size
        clear x0 x1
        by_cases hx : lenI x = 0
        · have HST : Hid (hullP (l.take (k + 1)) = h) := Lib.hid (by rw [hst, wider_none _ _ hx])
          have hq := len_ofP x
          have hf := rof_any x
          rw [hx] at hq
          generalize ofP x = p at *
          have HF := Lib.hid hf
          have HQ := Lib.hid (rlen_any p)
          have hx1 : (lenI p == 0) = true := by simpa using hq
          clear hst hin hx hq hf
          go_wp2_with fail
          refine (HF.out _).mono ?_
          rintro e w4 ⟨rfl, h4⟩
          have M4 := MK.later h4
          clear MK h4 y0 y1
          go_wp2_with fail
          refine (HQ.out _).mono ?_
          rintro e w5 ⟨rfl, h5⟩
          have M5 := (M4.later (bal (.cells #[.int .i64 p.1, .int .i64 p.2] 24))).later h5
          have X5 := (sp_new w4 p).later h5
          have n6 := M4.b1.lt
          have n7 := X5.lt
          clear h5 M4
          go_wp2_with fail
          go_roundw
          case rel => exact ⟨k + 1, by omega, by go_num, by rw [HST.out]; exact M5⟩
          case measure => simp [intOf]; omega
        · obtain ⟨hsf, hok, hne⟩ := of_self hx
          have hf := rof_any x
          rw [hsf] at hf
          have HF := Lib.hid hf
          have HQ := Lib.hid (rlen_any x)
          have hx1 : (lenI x == 0) = false := by simpa using hx
          clear hsf hf
          by_cases hh : h = (0, 0)
          · have HST : Hid (hullP (l.take (k + 1)) = x) := Lib.hid (by rw [hst, hh, wider_first _ hx])
            subst hh
            have HR := Lib.hid (rlen_any (0, 0))
            have hh1 : (lenI (0, 0) == 0) = true := rfl
            clear hst hin hx hok hne
            go_wp2_with fail
            refine (HF.out _).mono ?_
            rintro e w4 ⟨rfl, h4⟩
            have M4 := MK.later h4
            clear MK h4 y0 y1
            go_wp2_with fail
            refine (HQ.out _).mono ?_
            rintro e w5 ⟨rfl, h5⟩
            have M5 := (M4.later (bal (.cells #[.int .i64 x.1, .int .i64 x.2] 24))).later h5
            have X5 := (sp_new w4 x).later h5
            have n6 := M4.b1.lt
            have n7 := X5.lt
            clear h5 M4
            have d0 := M5.b1.c0; have d1 := M5.b1.c1
            go_wp2_with fail
            refine (HR.out _).mono ?_
            rintro e w6 ⟨rfl, h6⟩
            have M6 := M5.later h6
            have X6 := X5.later h6
            clear h6 M5 X5 d0 d1
            have d0 := M6.b1.c0; have d1 := M6.b1.c1; have g0 := M6.b1.f0; have g1 := M6.b1.f1; have c0 := X6.c0; have c1 := X6.c1
            have M7 := M6.put1 x.1 x.2
            have n8 : w4.heap.size ≠ B + 1 := by omega
            clear M6
            go_wp2_with fail
            go_roundw
            case rel => exact ⟨k + 1, by omega, by go_num, by rw [HST.out]; exact M7⟩
            case measure => simp [intOf]; omega
          · have hh1 : (lenI h == 0) = false := by
              rw [Bool.eq_false_iff]; intro e; exact hh ((inv_len hin).1 (by simpa using e))
            have hst2 := hst.trans (wider_more hx hh)
            have HR := Lib.hid (rlen_any h)
            clear hst hin hx hok hne hh
            by_cases ha : x.1 < h.1
            · by_cases hb : h.2 < x.2
              · have HST : Hid (hullP (l.take (k + 1)) = (x.1, x.2)) := Lib.hid (by rw [hst2]; ext <;> simp <;> omega)
                clear hst2
                go_wp2_with fail
                refine (HF.out _).mono ?_
                rintro e w4 ⟨rfl, h4⟩
                have M4 := MK.later h4
                clear MK h4 y0 y1
                go_wp2_with fail
                refine (HQ.out _).mono ?_
                rintro e w5 ⟨rfl, h5⟩
                have M5 := (M4.later (bal (.cells #[.int .i64 x.1, .int .i64 x.2] 24))).later h5
                have X5 := (sp_new w4 x).later h5
                have n6 := M4.b1.lt
                have n7 := X5.lt
                clear h5 M4
                have d0 := M5.b1.c0; have d1 := M5.b1.c1
                go_wp2_with fail
                refine (HR.out _).mono ?_
                rintro e w6 ⟨rfl, h6⟩
                have M6 := M5.later h6
                have X6 := X5.later h6
                clear h6 M5 X5 d0 d1
                have d0 := M6.b1.c0; have d1 := M6.b1.c1; have g0 := M6.b1.f0; have g1 := M6.b1.f1; have c0 := X6.c0; have c1 := X6.c1
                have M7 := (M6.s10 x.1).s11 x.2
                have n8 : w4.heap.size ≠ B + 1 := by omega
                clear M6
                go_wp2_with fail
                go_roundw
                case rel => exact ⟨k + 1, by omega, by go_num, by rw [HST.out]; exact M7⟩
                case measure => simp [intOf]; omega
              · have HST : Hid (hullP (l.take (k + 1)) = (x.1, h.2)) := Lib.hid (by rw [hst2]; ext <;> simp <;> omega)
                clear hst2
                go_wp2_with fail
                refine (HF.out _).mono ?_
                rintro e w4 ⟨rfl, h4⟩
                have M4 := MK.later h4
                clear MK h4 y0 y1
                go_wp2_with fail
                refine (HQ.out _).mono ?_
                rintro e w5 ⟨rfl, h5⟩
                have M5 := (M4.later (bal (.cells #[.int .i64 x.1, .int .i64 x.2] 24))).later h5
                have X5 := (sp_new w4 x).later h5
                have n6 := M4.b1.lt
                have n7 := X5.lt
                clear h5 M4
                have d0 := M5.b1.c0; have d1 := M5.b1.c1
                go_wp2_with fail
                refine (HR.out _).mono ?_
                rintro e w6 ⟨rfl, h6⟩
                have M6 := M5.later h6
                have X6 := X5.later h6
                clear h6 M5 X5 d0 d1
                have d0 := M6.b1.c0; have d1 := M6.b1.c1; have g0 := M6.b1.f0; have g1 := M6.b1.f1; have c0 := X6.c0; have c1 := X6.c1
                have M7 := M6.s10 x.1
                have n8 : w4.heap.size ≠ B + 1 := by omega
                clear M6
                go_wp2_with fail
                go_roundw
                case rel => exact ⟨k + 1, by omega, by go_num, by rw [HST.out]; exact M7⟩
                case measure => simp [intOf]; omega
            · by_cases hb : h.2 < x.2
              · have HST : Hid (hullP (l.take (k + 1)) = (h.1, x.2)) := Lib.hid (by rw [hst2]; ext <;> simp <;> omega)
                clear hst2
                go_wp2_with fail
                refine (HF.out _).mono ?_
                rintro e w4 ⟨rfl, h4⟩
                have M4 := MK.later h4
                clear MK h4 y0 y1
                go_wp2_with fail
                refine (HQ.out _).mono ?_
                rintro e w5 ⟨rfl, h5⟩
                have M5 := (M4.later (bal (.cells #[.int .i64 x.1, .int .i64 x.2] 24))).later h5
                have X5 := (sp_new w4 x).later h5
                have n6 := M4.b1.lt
                have n7 := X5.lt
                clear h5 M4
                have d0 := M5.b1.c0; have d1 := M5.b1.c1
                go_wp2_with fail
                refine (HR.out _).mono ?_
                rintro e w6 ⟨rfl, h6⟩
                have M6 := M5.later h6
                have X6 := X5.later h6
                clear h6 M5 X5 d0 d1
                have d0 := M6.b1.c0; have d1 := M6.b1.c1; have g0 := M6.b1.f0; have g1 := M6.b1.f1; have c0 := X6.c0; have c1 := X6.c1
                have M7 := (M6).s11 x.2
                have n8 : w4.heap.size ≠ B + 1 := by omega
                clear M6
                go_wp2_with fail
                go_roundw
                case rel => exact ⟨k + 1, by omega, by go_num, by rw [HST.out]; exact M7⟩
                case measure => simp [intOf]; omega
              · have HST : Hid (hullP (l.take (k + 1)) = (h.1, h.2)) := Lib.hid (by rw [hst2]; ext <;> simp <;> omega)
                clear hst2
                go_wp2_with fail
                refine (HF.out _).mono ?_
                rintro e w4 ⟨rfl, h4⟩
                have M4 := MK.later h4
                clear MK h4 y0 y1
                go_wp2_with fail
                refine (HQ.out _).mono ?_
                rintro e w5 ⟨rfl, h5⟩
                have M5 := (M4.later (bal (.cells #[.int .i64 x.1, .int .i64 x.2] 24))).later h5
                have X5 := (sp_new w4 x).later h5
                have n6 := M4.b1.lt
                have n7 := X5.lt
                clear h5 M4
                have d0 := M5.b1.c0; have d1 := M5.b1.c1
                go_wp2_with fail
                refine (HR.out _).mono ?_
                rintro e w6 ⟨rfl, h6⟩
                have M6 := M5.later h6
                have X6 := X5.later h6
                clear h6 M5 X5 d0 d1
                have d0 := M6.b1.c0; have d1 := M6.b1.c1; have g0 := M6.b1.f0; have g1 := M6.b1.f1; have c0 := X6.c0; have c1 := X6.c1
                have M7 := M6
                have n8 : w4.heap.size ≠ B + 1 := by omega
                clear M6
                go_wp2_with fail
                go_roundw
                case rel => exact ⟨k + 1, by omega, by go_num, by rw [HST.out]; exact M7⟩
                case measure => simp [intOf]; omega
      · have hkn : Hid (hullP (l.take k) = hullP l) := Lib.hid (by rw [List.take_of_length_le (by have := HL.out; omega)])
        rw [hkn.out] at MK
        generalize hullP l = h at *
        have M3 := MK.put0 h.1 h.2
        have c0 := MK.b0.c0; have c1 := MK.b0.c1; have f0 := MK.b0.f0; have f1 := MK.b0.f1
        have d0 := MK.b1.c0; have d1 := MK.b1.c1
        clear MK
        go_wp2_with fail
        have e0 := M3.b0.c0; have e1 := M3.b0.c1
        exact bodyPost_ret (v := spV h) (by simp [results, Tryz.results111, go_sem, e0, e1]) rfl ⟨rfl, M3.below⟩
end Go.Proofs.YtohpaoleomcimaaGreat.sp
/-!   Layer 6: what must come of fixed calls; the walks of the laws SpanTouches and SpanAsks.
-/
namespace Go.Proofs.YtohpaoleomcimaaGreat.sp
open Go.RowKit aid mem
attribute [local go_sem ↓] Go.wp_at_zero Go.wp_at_succ
set_option linter.unusedVariables false

end Go.Proofs.YtohpaoleomcimaaGreat.sp
/-!   What came in, opened: a slice of whatever elements, element by element. Imports nothing of the program.
-/
namespace Go.Proofs.YtohpaoleomcimaaGreat.opn
open Go.RowKit aid mem Go.ChangeShapes Go.WideShapes Go.ChangeAt
set_option linter.unusedVariables false

theorem exists_list {T : Type} (n : Nat) (Q : Nat → T → Prop) (h : ∀ i, i < n → ∃ t, Q i t) : ∃ l : List T, l.length = n ∧ ∀ i (hi : i < l.length), Q i l[i] := by
  induction n with
  | zero => exact ⟨[], rfl, fun i hi => absurd hi (Nat.not_lt_zero i)⟩
  | succ n ih =>
    obtain ⟨l, hl, hq⟩ := ih (fun i hi => h i (by omega))
    obtain ⟨t, ht⟩ := h n (by omega)
    refine ⟨l ++ [t], by simp [hl], fun i hi => ?_⟩
    by_cases hil : i < l.length
    · rw [List.getElem_append_left hil]; exact hq i hil
    · have : i = n := by simp at hi; omega
      subst this
      simpa [hl] using ht

theorem mapM_some {α : Type} (f : Nat → Option α) : ∀ (n : Nat) (cs : List α), (List.range n).mapM f = some cs → cs.length = n ∧ ∀ j, j < n → f j = cs[j]? := by
  intro n
  induction n with
  | zero => intro cs h; simp at h; subst h; exact ⟨rfl, fun j hj => absurd hj (Nat.not_lt_zero j)⟩
  | succ n ih =>
    intro cs h
    rw [List.range_succ, List.mapM_append] at h
    simp only [Option.bind_eq_bind, Option.bind_eq_some_iff] at h
    obtain ⟨qs, h1, bs, h2, h3⟩ := h
    rw [List.mapM_cons] at h2
    simp only [List.mapM_nil, Option.bind_eq_bind, Option.bind_eq_some_iff] at h2
    obtain ⟨c, hc, _, h4, h5⟩ := h2
    injection h4 with h4
    subst h4
    injection h5 with h5
    subst h5
    injection h3 with h3
    subst h3
    obtain ⟨hl, hj⟩ := ih qs h1
    refine ⟨by simp [hl], fun j hjn => ?_⟩
    by_cases hjl : j < n
    · rw [hj j hjl, List.getElem?_append_left (by omega)]
    · have : j = n := by omega
      subst this
      rw [hc, List.getElem?_append_right (by omega)]
      simp [hl]

theorem cells_some {w : World} {base : Nat} {a : Addr} {n : Nat} {cs : List Value} (h : w.cells? base a n = some cs) : cs.length = n ∧ ∀ j, j < n → w.cell? (a.add j) = cs[j]? := by
  unfold World.cells? at h
  split at h
  · exact mapM_some _ _ _ h
  · cases h

/-- a slice of elements of c cells each: the element at i stands for l's at i, by R -/
structure ElA {T : Type} (R : List Value → T → Prop) (c : Nat) (w : World) (a : Option Addr) (n cap : Nat) (l : List T) : Prop where
  len : l.length = n
  le : n ≤ cap
  most : cap ≤ maxLen
  nil : a = none → cap = 0
  cells : 0 < n → ∃ b off, a = some ⟨b, off, none⟩ ∧ ∀ i (hi : i < l.length), ∃ cs, R cs l[i] ∧ cs.length = c ∧ ∀ j, j < c → w.cell? ⟨b, off + (i * c + j), none⟩ = cs[j]?

theorem ElA.keep {T : Type} {R : List Value → T → Prop} {c : Nat} {w w' : World} {a : Option Addr} {n cap : Nat} {l : List T} (h : ElA R c w a n cap l) {S : List Nat} (hk : Kept S w w') (hd : ∀ x, a = some x → x.block ∉ S) : ElA R c w' a n cap l :=
  ⟨h.len, h.le, h.most, h.nil, fun h0 => by
    obtain ⟨b, off, rfl, hc⟩ := h.cells h0
    refine ⟨b, off, rfl, fun i hi => ?_⟩
    obtain ⟨cs, h1, h2, h3⟩ := hc i hi
    refine ⟨cs, h1, h2, fun j hj => ?_⟩
    have h4 := h3 j hj
    rw [List.getElem?_eq_getElem (by omega)] at h4 ⊢
    exact hk.cell (p := ⟨b, off + (i * c + j), none⟩) (hd ⟨b, off, none⟩ rfl) h4⟩

section
variable {H : Type} {enc : TypeId × Value → H} {P : Program} {w : World} {base : Nat} {spare : Nat → Bool} {held : Bool}

/-- opened: 'hE': what one element's reading says -/
theorem open_els {T : Type} {R : List Value → T → Prop} {D : DataW H → T → Prop} {t e : TypeId} {a : Option Addr} {len cap : Nat} {d : DataW H} {p : List MemPlace}
    (ht : P.underlying t = some (.slice e)) (hc : 0 < P.cellsOf e) (h : ∃ fuel, DataW.trod enc P w base spare held fuel t [.slice a len cap] = some (d, p))
    (hE : ∀ n cs d' p', DataW.trod enc P w base spare held n e cs = some (d', p') → ∃ x : T, R cs x ∧ D d' x) :
    ∃ l : List T, ElA R (P.cellsOf e) w a len cap l ∧ ((d = .nil ∧ l = []) ∨ ∃ elems rest, d = .slice elems rest ∧ elems.length = l.length ∧ ∀ i (hi : i < l.length) (hi' : i < elems.length), D elems[i] l[i]) := by
  obtain ⟨fuel, h⟩ := h
  rcases DataW.trod_slice ht h with ⟨hcs, hx⟩ | ⟨a', len', cap', elems, rest, n, _, hcs, hx, hb, hl, hm, hlen, hel, hsp, hns⟩
  · injection hcs with hcs _
    injection hcs with h1 h2 h3
    subst h1 h2 h3
    injection hx with hx _
    exact ⟨[], ⟨rfl, Nat.le_refl _, by simp [maxLen], fun _ => rfl, fun h => by omega⟩, .inl ⟨hx, rfl⟩⟩
  · injection hcs with hcs _
    injection hcs with h1 h2 h3
    subst h1 h2 h3
    injection hx with hx _
    have hkey : ∀ i, i < len → ∃ x : T, (∃ cs, R cs x ∧ w.cells? base (a'.add (i * P.cellsOf e)) (P.cellsOf e) = some cs) ∧ ∃ y, elems[i]? = some y ∧ D y.1 x := by
      intro i hi
      have := hel i hi
      rw [List.getElem?_eq_getElem (by omega)] at this
      obtain ⟨cs, h1, h2⟩ := Option.bind_eq_some_iff.1 this
      obtain ⟨x, hR, hD⟩ := hE n cs _ _ h2
      exact ⟨x, ⟨cs, hR, h1⟩, _, List.getElem?_eq_getElem (by omega), hD⟩
    obtain ⟨l, hll, hq⟩ := exists_list len _ hkey
    refine ⟨l, ⟨hll, hl, hm, (fun h => by cases h), fun h0 => ?_⟩, .inr ⟨_, _, hx, by simp [hlen, hll], fun i hi hi' => ?_⟩⟩
    · have hshape : a'.spot = none := by
        obtain ⟨⟨cs, _, hcs⟩, _⟩ := hq 0 (by omega)
        obtain ⟨hcl, hcj⟩ := cells_some hcs
        have h0 := hcj 0 hc
        rw [List.getElem?_eq_getElem (by omega)] at h0
        simp only [Nat.zero_mul, Addr.add, if_true] at h0
        unfold World.cell? at h0
        split at h0
        · split at h0
          · cases h0
          · rename_i hs; simpa using hs
        · cases h0
      obtain ⟨b, off, spot⟩ := a'
      simp only at hshape
      subst hshape
      refine ⟨b, off, rfl, fun i hi => ?_⟩
      obtain ⟨⟨cs, hR, hcs⟩, _⟩ := hq i hi
      obtain ⟨hcl, hcj⟩ := cells_some hcs
      refine ⟨cs, hR, hcl, fun j hj => ?_⟩
      have hadd : (⟨b, off, none⟩ : Addr).add (i * P.cellsOf e + j) = ⟨b, off + (i * P.cellsOf e + j), none⟩ := by unfold Addr.add; split <;> simp_all
      rw [← hcj j hj, Go.Deep.add_add, hadd]
    · obtain ⟨_, y, hy, hD⟩ := hq i hi
      have hie : i < elems.length := by omega
      rw [List.getElem?_eq_getElem hie] at hy
      injection hy with hy
      simp only [List.getElem_map]
      rw [hy]
      exact hD
end
end Go.Proofs.YtohpaoleomcimaaGreat.opn
/-!   Spans that came in, opened.
-/
namespace Go.Proofs.YtohpaoleomcimaaGreat.sp
open Go.RowKit aid mem opn Go.ChangeShapes Go.WideShapes Go.ChangeAt
set_option linter.unusedVariables false

theorem cells_int : Tryz.prog.cellsOf 3 = 1 := by kernel_rfl
theorem cells_span : Tryz.prog.cellsOf 24 = 2 := by kernel_rfl
def SpIs (cs : List Value) (q : Int × Int) : Prop := cs = [.int .i64 q.1, .int .i64 q.2]

section
variable {H : Type} {enc : TypeId × Value → H} {w : World} {base : Nat}
set_option maxRecDepth 100000 in
theorem span_of (n : Nat) (cs : List Value) (d : DataW H) (p : List MemPlace)
    (h : DataW.trod enc Tryz.prog w base (fun _ => true) true n 24 cs = some (d, p)) : ∃ q : Int × Int, SpIs cs q ∧ True := by
  obtain ⟨xs, m, _, hx, hl, hxl, hf⟩ := DataW.trod_struct Tryz.underlying24 h
  rw [cells_span] at hl
  have h0 := hf 0 _ rfl
  have h1 := hf 1 _ rfl
  match cs, hl, xs, hxl with
  | [c0, c1], _, [x0, x1], _ =>
    simp [cells_int] at h0 h1
    obtain ⟨k, hk, hk2, hkw⟩ := DataW.trod_int Tryz.underlying3 h0
    obtain ⟨q, hq, hq2, hqw⟩ := DataW.trod_int Tryz.underlying3 h1
    injection hk with hk _
    injection hq with hq _
    subst hk hq
    exact ⟨(k, q), rfl, trivial⟩
set_option maxRecDepth 100000 in
theorem open_span {b0 : Nat} {v : Value} {d : DataW H} {p : List MemPlace} (hv : Value.okWide Tryz.prog w .any b0 24 v)
    (hk : DataW.Trod enc Tryz.prog w base (fun _ => true) true 24 v d p) : ∃ s : Int × Int, v = spV s := by
  obtain ⟨cs, rfl, hsz⟩ := okWide_struct Tryz.underlying24 hv
  obtain ⟨fuel, h⟩ := hk
  obtain ⟨q, hq, _⟩ := span_of fuel _ d p h
  refine ⟨q, ?_⟩
  unfold SpIs at hq
  have : cs = #[.int .i64 q.1, .int .i64 q.2] := by
    apply Array.toList_inj.1
    simpa [Value.cells] using hq
  rw [this]
theorem sls_of_els {a : Option Addr} {len cap : Nat} {l : List (Int × Int)} (h : ElA SpIs 2 w a len cap l) : SlS w a len cap l := by
  refine ⟨h.len, h.le, h.most, h.nil, fun h0 => ?_⟩
  obtain ⟨b, off, ha, hc⟩ := h.cells h0
  refine ⟨b, off, ha, fun i hi => ?_⟩
  have hil : i < l.length := by rw [h.len]; exact hi
  obtain ⟨cs, hR, _, hj⟩ := hc i hil
  rw [hR] at hj
  have e : l.getD i (0, 0) = l[i] := by simp [List.getD, hil]
  rw [e]
  have j0 := hj 0 (by omega)
  have j1 := hj 1 (by omega)
  rw [← Nat.add_assoc] at j1
  exact ⟨by simpa using j0, by simpa using j1⟩
set_option maxRecDepth 100000 in
theorem open_spans {a : Option Addr} {len cap : Nat} {d : DataW H} {p : List MemPlace}
    (h : ∃ fuel, DataW.trod enc Tryz.prog w base (fun _ => true) true fuel 33 [.slice a len cap] = some (d, p)) :
    ∃ l : List (Int × Int), SlS w a len cap l ∧ True := by
  obtain ⟨l, hl, _⟩ := open_els (R := SpIs) (D := fun (_ : DataW H) (_ : Int × Int) => True) Tryz.underlying33 (by rw [cells_span]; omega) h span_of
  rw [cells_span] at hl
  exact ⟨l, sls_of_els hl, trivial⟩
end
end Go.Proofs.YtohpaoleomcimaaGreat.sp
/-!   Rows of spans.
-/
namespace Go.Proofs.YtohpaoleomcimaaGreat.sp
open Go.RowKit aid mem
set_option linter.unusedVariables false

def spCells (l : List (Int × Int)) : List Value := l.flatMap (fun x => [.int .i64 x.1, .int .i64 x.2])
theorem spCells_snoc (l : List (Int × Int)) (x : Int × Int) : spCells (l ++ [x]) = spCells l ++ [.int .i64 x.1, .int .i64 x.2] := by simp [spCells]
theorem spCells_append (l r : List (Int × Int)) : spCells (l ++ r) = spCells l ++ spCells r := by simp [spCells]
theorem spCells_len (l : List (Int × Int)) : (spCells l).length = l.length * 2 := by
  induction l with
  | nil => rfl
  | cons x l ih => rw [show spCells (x :: l) = [.int .i64 x.1, .int .i64 x.2] ++ spCells l from rfl, List.length_append, ih]; simp; omega
theorem spCells_get (l : List (Int × Int)) : ∀ i, i < l.length → (spCells l)[i * 2]? = some (.int .i64 (l.getD i (0, 0)).1) ∧ (spCells l)[i * 2 + 1]? = some (.int .i64 (l.getD i (0, 0)).2) := by
  induction l with
  | nil => intro i hi; simp at hi
  | cons x l ih =>
    intro i hi
    rw [show spCells (x :: l) = .int .i64 x.1 :: .int .i64 x.2 :: spCells l from rfl]
    cases i with
    | zero => exact ⟨rfl, rfl⟩
    | succ i =>
      have := ih i (by simpa using hi)
      rw [show (i + 1) * 2 = i * 2 + 1 + 1 from by omega]
      simpa [List.getD] using this
theorem spCells_inj : ∀ {l r : List (Int × Int)}, spCells l = spCells r → l = r := by
  intro l
  induction l with
  | nil => intro r h; cases r with | nil => rfl | cons y r => simp [spCells] at h
  | cons x l ih =>
    intro r h
    cases r with
    | nil => simp [spCells] at h
    | cons y r =>
      rw [show spCells (x :: l) = .int .i64 x.1 :: .int .i64 x.2 :: spCells l from rfl, show spCells (y :: r) = .int .i64 y.1 :: .int .i64 y.2 :: spCells r from rfl] at h
      injection h with h1 h
      injection h with h2 h
      injection h1 with _ h1
      injection h2 with _ h2
      rw [ih h, Prod.ext h1 h2]
theorem spCells_one (l : List (Int × Int)) : ∀ u ∈ spCells l, u.oneCell' = true := by
  intro u hu
  unfold spCells at hu
  obtain ⟨x, _, hx⟩ := List.mem_flatMap.1 hu
  simp at hx
  rcases hx with rfl | rfl <;> rfl
theorem info_span : (Tryz.prog.info? 24).map (fun i => (i.zero, i.size, i.bytes)) = some (some (.agg #[.int .i64 0, .int .i64 0]), 2, 16) := by kernel_rfl
/-- one span in a new array, as what is appended -/
theorem span_src (X : World) (s : Int × Int) : Src Tryz.prog 2 33 (.slice (some ⟨X.heap.size, 0, none⟩) 1 1) 1 [.int .i64 s.1, .int .i64 s.2] (X.alloc (.cells #[.int .i64 s.1, .int .i64 s.2] 24)) := by
  refine Src.ofSlice _ Tryz.underlying33 ⟨X.heap.size, 0, none⟩ 1 1 _ rfl ?_ (by simp [Value.oneCell'])
  intro j u hu
  have := cell_of_row (X.alloc (.cells #[.int .i64 s.1, .int .i64 s.2] 24)) X.heap.size j _ _ (0, 0) (heap_alloc_new X _)
  have hadd : (⟨X.heap.size, 0, none⟩ : Addr).add j = ⟨X.heap.size, 0 + j, none⟩ := by unfold Addr.add; split <;> simp_all
  rw [hadd, Nat.zero_add, this, ← hu]
  simp
/-- a slice of spans, as what is appended -/
theorem SlS.src {w : World} {a : Option Addr} {n cap : Nat} {l : List (Int × Int)} (h : SlS w a n cap l) : Src Tryz.prog 2 33 (.slice a n cap) n (spCells l) w := by
  have hl : (spCells l).length = n * 2 := by rw [spCells_len, h.len]
  cases a with
  | none =>
    have hn : n = 0 := by have := h.le; have := h.nil rfl; omega
    subst hn
    obtain rfl : l = [] := List.eq_nil_of_length_eq_zero h.len
    exact Src.ofNil w Tryz.underlying33 cap
  | some x =>
    refine Src.ofSlice w Tryz.underlying33 x n cap _ hl ?_ (spCells_one l)
    intro j u hu
    have hj : j < n * 2 := by rw [← hl]; exact (List.getElem?_eq_some_iff.1 hu).1
    obtain ⟨b, off, hx, hc⟩ := h.cells (by omega)
    obtain rfl : x = ⟨b, off, none⟩ := by injection hx
    have hadd : (⟨b, off, none⟩ : Addr).add j = ⟨b, off + j, none⟩ := by unfold Addr.add; split <;> simp_all
    rw [hadd]
    obtain ⟨c0, c1⟩ := hc (j / 2) (by omega)
    obtain ⟨e0, e1⟩ := spCells_get l (j / 2) (by rw [h.len]; omega)
    by_cases hp : j % 2 = 0
    · rw [show j = j / 2 * 2 from by omega] at hu ⊢
      rw [e0] at hu
      cases hu
      exact c0
    · rw [show j = j / 2 * 2 + 1 from by omega] at hu ⊢
      rw [e1] at hu
      cases hu
      rw [← Nat.add_assoc]
      exact c1
/-- a row of one's own is a slice of spans -/
theorem sls_of_own {w : World} {base : Nat} {v : Value} {n : Nat} {l : List (Int × Int)} (h : w.ownsRow base 24 2 v n (spCells l)) :
    ∃ a cap, v = .slice a n cap ∧ SlS w a n cap l ∧ ∀ x, a = some x → v.ownBlock = some x.block := by
  have hl : l.length = n := by have := h.1; rw [spCells_len] at this; omega
  rcases h.2 with ⟨rfl, rfl⟩ | ⟨g, cap, cur, rfl, hb, hg, hn, hm, hc, ht⟩
  · exact ⟨none, 0, rfl, ⟨hl, Nat.le_refl _, by unfold maxLen; omega, fun _ => rfl, fun h => by omega⟩, fun _ h => by cases h⟩
  · refine ⟨some ⟨g, 0, none⟩, cap, rfl, ⟨hl, hn, hm, (fun h => by cases h), fun _ => ⟨g, 0, rfl, fun i hi => ?_⟩⟩, fun x hx => by injection hx with hx; subst hx; rfl⟩
    obtain ⟨e0, e1⟩ := spCells_get l i (by omega)
    rw [← ht, List.getElem?_take, if_pos (by omega)] at e0 e1
    rw [cell_of_row w g _ cur _ (0, 0) hg, cell_of_row w g _ cur _ (0, 0) hg, Nat.zero_add]
    exact ⟨by simpa using e0, by simpa using e1⟩
end Go.Proofs.YtohpaoleomcimaaGreat.sp
/-!   The reference's Same, of two lists of spans.
-/
namespace Go.Proofs.YtohpaoleomcimaaGreat.sp
open Go.RowKit aid mem
attribute [local go_sem ↓] Go.wp_at_zero Go.wp_at_succ
set_option linter.unusedVariables false

theorem eq_spB (x y : Int × Int) (w : World) : (Op.equalIn 10000 24 (.agg #[.int .i64 x.1, .int .i64 x.2]) (.agg #[.int .i64 y.1, .int .i64 y.2])).run Tryz.prog w = .ok (decide (x = y)) w := by
  rw [eq_sp]
  congr 1
  rw [Bool.eq_iff_iff]
  simp [Prod.ext_iff]
theorem take_eq_succ {l r : List (Int × Int)} {k : Nat} (h : l.take k = r.take k) (hk : k < l.length) (hr : k < r.length) : (l.take (k + 1) = r.take (k + 1)) ↔ l.getD k (0, 0) = r.getD k (0, 0) := by
  have e1 := List.take_succ_eq_append_getElem hk
  have e2 := List.take_succ_eq_append_getElem hr
  rw [e1, e2, h, List.append_right_inj]
  simp [List.getD, hk, hr]
theorem bdN (w : World) (n : Nat) : Below w.heap.size w (w.drewN n) := ⟨rfl, rfl, rfl, Nat.le_refl _, fun _ _ => rfl⟩

end Go.Proofs.YtohpaoleomcimaaGreat.sp
/-!   Slices with room behind them, that lead into a row of one's own anywhere; append onto them. Imports nothing of the program.
-/
namespace Go.Proofs.YtohpaoleomcimaaGreat.mem
open Go.RowKit aid
set_option linter.unusedVariables false

structure SlR (w : World) (e : TypeId) (sz : Nat) (a : Option Addr) (n cap : Nat) (xs : List Value) : Prop where
  len : xs.length = n * sz
  le : n ≤ cap
  most : cap ≤ maxLen
  rest : 0 < cap → ∃ g off cur, a = some ⟨g, off, none⟩ ∧ w.heap[g]? = some (.cells cur e (0, 0)) ∧ off + cap * sz ≤ cur.size ∧ ∀ j, j < n * sz → cur[off + j]? = xs[j]?
/-- the block that it may write -/
def blk (a : Option Addr) (cap : Nat) : List Nat := if cap = 0 then [] else a.toList.map (·.block)
theorem blk_zero (a : Option Addr) : blk a 0 = [] := rfl
theorem blk_some (g off cap : Nat) (h : 0 < cap) : blk (some ⟨g, off, none⟩) cap = [g] := by unfold blk; rw [if_neg (by omega)]; rfl
theorem SlR.nil (w : World) (e : TypeId) (sz : Nat) : SlR w e sz none 0 0 [] := ⟨by simp, Nat.le_refl _, by simp [maxLen], fun h => by omega⟩
theorem SlR.keep {w w' : World} {e : TypeId} {sz : Nat} {a : Option Addr} {n cap : Nat} {xs : List Value} (h : SlR w e sz a n cap xs) {S : List Nat} (hk : Kept S w w') (hd : ∀ b ∈ blk a cap, b ∉ S) : SlR w' e sz a n cap xs :=
  ⟨h.len, h.le, h.most, fun h0 => by
    obtain ⟨g, off, cur, rfl, hg, h1, h2⟩ := h.rest h0
    exact ⟨g, off, cur, rfl, hk.heap (hd g (by rw [blk_some _ _ _ h0]; simp)) hg, h1, h2⟩⟩
theorem SlR.later {w w' : World} {e : TypeId} {sz : Nat} {a : Option Addr} {n cap : Nat} {xs : List Value} (h : SlR w e sz a n cap xs) (hk : Below w.heap.size w w') : SlR w' e sz a n cap xs :=
  h.keep (Kept.of_below hk (Nat.le_refl _) []) (fun _ _ => by simp)
theorem SlR.lt {w : World} {e : TypeId} {sz : Nat} {a : Option Addr} {n cap : Nat} {xs : List Value} (h : SlR w e sz a n cap xs) : ∀ b ∈ blk a cap, b < w.heap.size ∧ ∃ cur, w.heap[b]? = some (.cells cur e (0, 0)) := by
  intro b hb
  by_cases h0 : cap = 0
  · subst h0; simp [blk_zero] at hb
  · obtain ⟨g, off, cur, rfl, hg, _⟩ := h.rest (by omega)
    rw [blk_some _ _ _ (by omega)] at hb
    simp at hb
    subst hb
    exact ⟨lt_of_block hg, cur, hg⟩
/-- the cells of it -/
theorem SlR.cell {w : World} {e : TypeId} {sz : Nat} {a : Option Addr} {n cap : Nat} {xs : List Value} (h : SlR w e sz a n cap xs) (h0 : 0 < cap) : ∃ g off, a = some ⟨g, off, none⟩ ∧ ∀ j, j < n * sz → w.cell? ⟨g, off + j, none⟩ = xs[j]? := by
  obtain ⟨g, off, cur, rfl, hg, h1, h2⟩ := h.rest h0
  exact ⟨g, off, rfl, fun j hj => by rw [cell_of_row w g _ _ _ (0, 0) hg]; exact h2 j hj⟩
/-- a piece of it, with some of its room: where it has room, its address is moved -/
theorem SlR.sub {w : World} {e : TypeId} {sz : Nat} {g off n cap : Nat} {xs : List Value} (h : SlR w e sz (some ⟨g, off, none⟩) n cap xs) (b f r : Nat) (hbf : b ≤ f) (hfn : f ≤ n) (hfr : f ≤ r) (hr : r ≤ cap) (hbr : b < r) :
    SlR w e sz (some ⟨g, off + b * sz, none⟩) (f - b) (r - b) ((xs.take (f * sz)).drop (b * sz)) := by
  have hm1 : b * sz ≤ f * sz := Nat.mul_le_mul_right _ hbf
  have hm2 : f * sz ≤ n * sz := Nat.mul_le_mul_right _ hfn
  have hm3 : r * sz ≤ cap * sz := Nat.mul_le_mul_right _ hr
  have hsb : (f - b) * sz = f * sz - b * sz := Nat.sub_mul _ _ _
  have hsr : (r - b) * sz = r * sz - b * sz := Nat.sub_mul _ _ _
  have hm4 : b * sz ≤ r * sz := Nat.mul_le_mul_right _ (by omega)
  refine ⟨?_, by omega, by have := h.most; omega, fun _ => ?_⟩
  · have := h.len
    rw [List.length_drop, List.length_take, hsb]
    omega
  · obtain ⟨g', off', cur, hx, hg, h1, h2⟩ := h.rest (by omega)
    injection hx with hx
    injection hx with hx1 hx2
    subst hx1 hx2
    refine ⟨g, off + b * sz, cur, rfl, hg, by omega, fun j hj => ?_⟩
    rw [Nat.add_assoc, h2 (b * sz + j) (by omega), List.getElem?_drop, List.getElem?_take, if_pos (by omega)]
/-- where it has none, whatever its address -/
theorem SlR.sub0 {w : World} {e : TypeId} {sz : Nat} (a : Option Addr) : SlR w e sz a 0 0 [] := ⟨by simp, Nat.le_refl _, by simp [maxLen], fun h => by omega⟩
/-- as what is appended -/
theorem SlR.src {P : Program} {w : World} {e : TypeId} {sz : Nat} {a : Option Addr} {n cap : Nat} {xs : List Value} {t : TypeId} (h : SlR w e sz a n cap xs) (ht : P.underlying t = some (.slice e)) (h1 : ∀ u ∈ xs, u.oneCell' = true) : Src P sz t (.slice a n cap) n xs w := by
  cases a with
  | none =>
    have hn : n = 0 := by
      by_cases h0 : cap = 0
      · have := h.le; omega
      · obtain ⟨g, off, cur, hx, _⟩ := h.rest (by omega)
        cases hx
    subst hn
    have hx0 : xs = [] := List.eq_nil_of_length_eq_zero (by have := h.len; omega)
    subst hx0
    exact Src.ofNil w ht cap
  | some x =>
    refine Src.ofSlice w ht x n cap _ h.len ?_ h1
    intro j u hu
    have hj : j < n * sz := by rw [← h.len]; exact (List.getElem?_eq_some_iff.1 hu).1
    have h0 : 0 < cap := by
      by_cases h0 : cap = 0
      · have := h.le; have : n = 0 := by omega
        subst this; omega
      · omega
    obtain ⟨g, off, hx, hc⟩ := h.cell h0
    obtain rfl : x = ⟨g, off, none⟩ := by injection hx
    have hadd : (⟨g, off, none⟩ : Addr).add j = ⟨g, off + j, none⟩ := by unfold Addr.add; split <;> simp_all
    rw [hadd, hc j hj, hu]
/-- a row of one's own is one -/
theorem slr_of_own {w : World} {base : Nat} {e : TypeId} {sz : Nat} {v : Value} {n : Nat} {xs : List Value} (h : w.ownsRow base e sz v n xs) : ∃ a cap, v = .slice a n cap ∧ SlR w e sz a n cap xs ∧ ∀ b ∈ blk a cap, base ≤ b := by
  rcases h.2 with ⟨rfl, rfl⟩ | ⟨g, cap, cur, rfl, hb, hg, hn, hm, hc, ht⟩
  · have := h.1
    have : xs = [] := List.eq_nil_of_length_eq_zero (by omega)
    subst this
    exact ⟨none, 0, rfl, SlR.nil w e sz, fun b hb => by simp [blk_zero] at hb⟩
  · refine ⟨some ⟨g, 0, none⟩, cap, rfl, ⟨by simpa using h.1, hn, hm, fun _ => ⟨g, 0, cur, rfl, hg, by omega, fun j hj => ?_⟩⟩, fun b hb' => ?_⟩
    · rw [← ht, List.getElem?_take, if_pos hj]
      simp
    · by_cases h0 : cap = 0
      · subst h0; simp [blk_zero] at hb'
      · rw [blk_some _ _ _ (by omega)] at hb'
        simp at hb'
        omega
section
variable {P : Program} (w : World)
theorem run_append_slr (t tx ty : TypeId) (e : TypeId) (i : TypeInfo) (z : Value) (sz bytes : Nat) (ht : P.underlying t = some (.slice e)) (hi : P.info? e = some i) (hz : i.zero = some z)
    (hsize : i.size = sz) (hsz : 0 < sz) (hby : i.bytes = bytes) (hzs : z.cells.size = sz)
    (a : Option Addr) (n cap : Nat) (xs : List Value) (hown : SlR w e sz a n cap xs) (x : Value) (m : Nat) (hm0 : 0 < m) (news : List Value) (hs : Src P sz tx x m news w)
    (h63 : n + m ≤ maxLen) (hbytes : (n + m) * bytes ≤ 140737488355328) :
    ∃ a' cap' w', (Builtin.append_ #[t, tx] ty #[.slice a n cap, x]).run P w = .ok (.slice a' (n + m) cap') w' ∧ SlR w' e sz a' (n + m) cap' (xs ++ news) ∧ Kept (blk a cap) w w' ∧
      ∀ b ∈ blk a' cap', b ∈ blk a cap ∨ w.heap.size ≤ b := by
  have hnl : news.length = m * sz := by simpa using hs.newsLen
  have hxl : xs.length = n * sz := hown.len
  have h63' : ((n + m : Nat) : Int) ≤ 9223372036854775807 := by unfold maxLen at h63; omega
  have hs' : Src P i.size tx x m news w := by rw [hsize]; exact hs
  have hlen : (xs ++ news).length = (n + m) * sz := by rw [List.length_append, hxl, hnl, Nat.add_mul]
  by_cases hroom : n + m ≤ cap
  · obtain ⟨g, off, cur, rfl, hg, h1, h2⟩ := hown.rest (by omega)
    have hcell : ∀ j, w.cell? ⟨g, j, none⟩ = cur[j]? := fun j => cell_of_row w g j cur e (0, 0) hg
    have hfr : ∀ j, w.frozen? ⟨g, j, none⟩ = false := fun j => by simp [World.frozen?, hg]
    have hmul : n * sz + m * sz ≤ cap * sz := by rw [← Nat.add_mul]; exact Nat.mul_le_mul_right _ hroom
    have hr := run_append_room_src (P := P) w t tx ty e i ht hi g off n cap x m news hs' hroom
      (fun j hj => by rw [hcell, hsize]; rw [Array.getElem?_eq_getElem (by omega)]; rfl) (fun j hj => hfr _)
    rw [hsize] at hr
    have hsr : w.setCells g (off + n * sz) news = w.setRow g (cur.toList.take (off + n * sz) ++ news ++ cur.toList.drop (off + n * sz + news.length)).toArray := by
      have h2 := run_storeCells_at P g (off + n * sz) e news 0 cur w hg (by omega) hs.one
      have h3 := run_storeCells_cells (P := P) g (off + n * sz) news 0 w (fun j hj => by rw [hcell]; rw [Array.getElem?_eq_getElem (by omega)]; rfl) (fun j hj => hfr _) hs.one
      simp only [Nat.add_zero] at h2 h3
      rw [h2] at h3
      injection h3 with _ h3
      exact h3.symm
    rw [hsr] at hr
    have hcap : 0 < cap := by omega
    refine ⟨_, _, _, hr, ⟨hlen, hroom, hown.most, fun _ => ⟨g, off, _, rfl, setRow_heap w g cur _ e _ hg, ?_, fun j hj => ?_⟩⟩, ⟨rfl, rfl, rfl, by simp, fun k _ hk => setRow_other w g k _ (fun e => hk (by rw [blk_some _ _ _ hcap]; simp [e]))⟩, fun b hb => .inl hb⟩
    · simp only [List.size_toArray, List.length_append, List.length_take, List.length_drop, Array.length_toList]
      omega
    · have hl1 : (cur.toList.take (off + n * sz)).length = off + n * sz := by rw [List.length_take, Array.length_toList]; omega
      rw [List.getElem?_toArray]
      rw [Nat.add_mul] at hj
      by_cases hjn : j < n * sz
      · rw [List.getElem?_append_left (by rw [List.length_append, hl1]; omega), List.getElem?_append_left (by rw [hl1]; omega), List.getElem?_append_left (by omega), ← h2 j hjn, List.getElem?_take, if_pos (by omega)]
        simp
      · rw [List.getElem?_append_left (by rw [List.length_append, hl1]; omega), List.getElem?_append_right (by rw [hl1]; omega), List.getElem?_append_right (by omega), hl1, hxl]
        congr 1
        omega
  · have hold : (Builtin.firstCells i.size n (.slice a n cap)).run P w.drew = .ok xs.toArray w.drew := by
      cases hc0 : cap with
      | zero =>
        have hn0 : n = 0 := by have := hown.le; omega
        subst hn0
        have hx0 : xs = [] := List.eq_nil_of_length_eq_zero (by omega)
        subst hx0
        cases a with
        | none => exact run_firstCells_none w.drew i.size 0 0 0
        | some y => exact run_firstCells_some w.drew i.size 0 y 0 0 [] (by simp) (fun j v hj => by simp at hj)
      | succ c =>
        obtain ⟨g, off, cur, rfl, hg, h1, h2⟩ := hown.rest (by omega)
        refine run_firstCells_some w.drew i.size n ⟨g, off, none⟩ n (c + 1) xs (by rw [hxl, hsize]) ?_
        intro j v hj
        have hjl : j < n * sz := by rw [← hxl]; exact (List.getElem?_eq_some_iff.1 hj).1
        have hadd : (⟨g, off, none⟩ : Addr).add j = ⟨g, off + j, none⟩ := by unfold Addr.add; split <;> simp_all
        rw [hadd]
        have := cell_of_row w g (off + j) cur e (0, 0) hg
        rw [h2 j hjl, hj] at this
        exact this
    have hr := run_append_grow_src (P := P) w t tx ty e i z ht hi hz a n cap xs hold x m news hs' (by omega) h63' (by rw [hby]; exact growslice_fits (by omega) hbytes)
    have hge := grownCap_ge w (n + m) cap e
    have hgm := grownCap_le_maxLen w (n + m) cap e h63
    refine ⟨_, _, _, hr, ⟨hlen, hge, hgm, fun _ => ⟨w.heap.size, 0, _, rfl, heap_alloc_new w.drew _, ?_, fun j hj => ?_⟩⟩, ⟨rfl, rfl, rfl, by simp, fun k hk _ => Below.heap_alloc w.drew _ k hk⟩, fun b hb => .inr ?_⟩
    · simp only [Array.size_append, List.size_toArray, size_zeroCells, hzs]
      rw [hlen]
      have : grownCap w (n + m) cap e = (n + m) + (grownCap w (n + m) cap e - (n + m)) := by omega
      generalize grownCap w (n + m) cap e - (n + m) = q at *
      rw [this, Nat.add_mul]
      omega
    · rw [Nat.zero_add, Array.getElem?_append_left (by simp only [List.size_toArray]; omega), List.getElem?_toArray]
    · rw [blk_some _ _ _ (by omega)] at hb
      simp at hb
      omega
/-- append as a step of a region that draws its order -/
theorem step_append_slr {ops : Array Oper} {o : Oper} {a : Act} {K : Act → World → Prop} {Q : Exit → Act → World → Prop} {E : Prop} (hgd : o.guard = none) (s x : Operand) (t tx : TypeId)
    (ho : o.op = .call { callee := .builtin .append, args := #[s, x], argTypes := #[t, tx] })
    (e : TypeId) (i : TypeInfo) (z : Value) (sz bytes : Nat) (ht : P.underlying t = some (.slice e)) (hi : P.info? e = some i) (hz : i.zero = some z)
    (hsize : i.size = sz) (hsz : 0 < sz) (hby : i.bytes = bytes) (hzs : z.cells.size = sz)
    (ad : Option Addr) (n cap : Nat) (xs : List Value) (hsv : a.eval s = .slice ad n cap) (hown : SlR w e sz ad n cap xs) (xv : Value) (hx : a.eval x = xv) (m : Nat) (hm0 : 0 < m) (news : List Value) (hs : Src P sz tx xv m news w)
    (h63 : n + m ≤ maxLen) (hbytes : (n + m) * bytes ≤ 140737488355328)
    (h : ∀ a' cap' w', SlR w' e sz a' (n + m) cap' (xs ++ news) → Kept (blk ad cap) w w' → (∀ b ∈ blk a' cap', b ∈ blk ad cap ∨ w.heap.size ≤ b) → K (a.put o.dst (.slice a' (n + m) cap')) w') :
    if Region.wanted o (yielded ops a.tmps) = true then Oper.wp P o a w K Q else E := by
  have hw : Region.wanted o (yielded ops a.tmps) = true := by simp [Region.wanted, hgd]
  rw [if_pos hw]
  obtain ⟨a', cap', w', hr, h2, h3, h4⟩ := run_append_slr (P := P) w t tx o.type e i z sz bytes ht hi hz hsize hsz hby hzs ad n cap xs hown xv m hm0 news hs h63 hbytes
  unfold Oper.wp execOp
  simp only [ho, resolve, invoke, builtin, Sem.run_bind, Sem.run_pure, Result.andThen_ok, List.map_toArray, List.map_cons, List.map_nil, hsv, hx, hr]
  exact h a' cap' w' h2 h3 h4
/-- append as a step of a region in its own order -/
theorem wpList_append_slr {ops : Array Oper} {rest : List Oper} {o : Oper} {a : Act} {Q : Exit → Act → World → Prop} (hgd : o.guard = none) (s x : Operand) (t tx : TypeId)
    (ho : o.op = .call { callee := .builtin .append, args := #[s, x], argTypes := #[t, tx] })
    (e : TypeId) (i : TypeInfo) (z : Value) (sz bytes : Nat) (ht : P.underlying t = some (.slice e)) (hi : P.info? e = some i) (hz : i.zero = some z)
    (hsize : i.size = sz) (hsz : 0 < sz) (hby : i.bytes = bytes) (hzs : z.cells.size = sz)
    (ad : Option Addr) (n cap : Nat) (xs : List Value) (hsv : a.eval s = .slice ad n cap) (hown : SlR w e sz ad n cap xs) (xv : Value) (hx : a.eval x = xv) (m : Nat) (hm0 : 0 < m) (news : List Value) (hs : Src P sz tx xv m news w)
    (h63 : n + m ≤ maxLen) (hbytes : (n + m) * bytes ≤ 140737488355328)
    (h : ∀ a' cap' w', SlR w' e sz a' (n + m) cap' (xs ++ news) → Kept (blk ad cap) w w' → (∀ b ∈ blk a' cap', b ∈ blk ad cap ∨ w.heap.size ≤ b) → wpList P ops Q rest (a.put o.dst (.slice a' (n + m) cap')) w') : wpList P ops Q (o :: rest) a w :=
  wpList_plain hgd fun _ hK => by
    obtain ⟨a', cap', w', hr, h2, h3, h4⟩ := run_append_slr (P := P) w t tx o.type e i z sz bytes ht hi hz hsize hsz hby hzs ad n cap xs hown xv m hm0 news hs h63 hbytes
    unfold Oper.wp execOp
    simp only [ho, resolve, invoke, builtin, Sem.run_bind, Sem.run_pure, Result.andThen_ok, List.map_toArray, List.map_cons, List.map_nil, hsv, hx, hr]
    exact hK _ _ (h a' cap' w' h2 h3 h4)
end
end Go.Proofs.YtohpaoleomcimaaGreat.mem
/-!   Package runs: a set in memory; all, Len, place, behind, check.
-/
namespace Go.Proofs.YtohpaoleomcimaaGreat.rn
open Go.RowKit aid mem sp
attribute [local go_sem ↓] Go.wp_at_zero Go.wp_at_succ
set_option linter.unusedVariables false

theorem cofr {w : World} {B : Nat} {cs : Array Value} {t : TypeId} (h : w.heap[B]? = some (.cells cs t (0, 0))) (i : Nat) (v : Value) (hv : cs[i]? = some v) : w.cell? ⟨B, i, none⟩ = some v := (cell_of_row w B i _ _ (0, 0) h).trans hv
theorem fofr {w : World} {B : Nat} {cs : Array Value} {t : TypeId} (h : w.heap[B]? = some (.cells cs t (0, 0))) (i : Nat) : w.frozen? ⟨B, i, none⟩ = false := by simp [World.frozen?, h]
theorem kcell {w w' : World} {p : Addr} {v : Value} (hb : Below w.heap.size w w') (h : w.cell? p = some v) : w'.cell? p = some v := (hb.cell (World.block_lt_of_cell? w _ h)).trans h
theorem spTake (l : List Sp) : ∀ k, (spCells l).take (k * 2) = spCells (l.take k) := by
  induction l with
  | nil => intro k; simp [spCells]
  | cons x l ih =>
    intro k
    cases k with
    | zero => simp [spCells]
    | succ k =>
      rw [show (k + 1) * 2 = k * 2 + 1 + 1 from by omega, List.take_succ_cons]
      show .int .i64 x.1 :: List.take (k * 2 + 1) (.int .i64 x.2 :: spCells l) = _
      rw [List.take_succ_cons, ih k]
      rfl
theorem spDrop (l : List Sp) : ∀ k, (spCells l).drop (k * 2) = spCells (l.drop k) := by
  induction l with
  | nil => intro k; simp [spCells]
  | cons x l ih =>
    intro k
    cases k with
    | zero => simp
    | succ k =>
      rw [show (k + 1) * 2 = k * 2 + 1 + 1 from by omega]
      show List.drop (k * 2 + 1 + 1) (.int .i64 x.1 :: .int .i64 x.2 :: spCells l) = _
      rw [List.drop_succ_cons, List.drop_succ_cons, ih k]
      rfl
theorem row_len {w : World} {a : Option Addr} {n cap : Nat} {l : List Sp} (h : SlR w 24 2 a n cap (spCells l)) : l.length = n := by have := h.len; rw [spCells_len] at this; omega
theorem row_cells {w : World} {a : Option Addr} {n cap : Nat} {l : List Sp} (h : SlR w 24 2 a n cap (spCells l)) (h0 : 0 < n) : ∃ g off, a = some ⟨g, off, none⟩ ∧ ∀ i, i < n → w.cell? ⟨g, off + i * 2, none⟩ = some (.int .i64 (l.getD i (0, 0)).1) ∧ w.cell? ⟨g, off + i * 2 + 1, none⟩ = some (.int .i64 (l.getD i (0, 0)).2) := by
  obtain ⟨g, off, rfl, hc⟩ := h.cell (by have := h.le; omega)
  refine ⟨g, off, rfl, fun i hi => ?_⟩
  obtain ⟨e0, e1⟩ := spCells_get l i (by rw [row_len h]; exact hi)
  exact ⟨(hc (i * 2) (by omega)).trans e0, by rw [Nat.add_assoc]; exact (hc (i * 2 + 1) (by omega)).trans e1⟩
/-- a place is found -/
def RetN (r : Nat) (w : World) (e : Ending) (w' : World) : Prop := e = .returned (.int .i64 r) ∧ Below w.heap.size w w'
/-! ### the tests of places -/
end Go.Proofs.YtohpaoleomcimaaGreat.rn
/-!   Package runs: going through what of a span is in.
-/
namespace Go.Proofs.YtohpaoleomcimaaGreat.rn
open Go.RowKit Go.Shelf aid mem rng sp
attribute [local go_sem] Oper.semAt_some
set_option linter.unusedVariables false
set_option linter.unusedSimpArgs false

/-- a region that is shown to end as it should -/
def OnlyN (Q : Exit → Act → World → Prop) : Exit → Act → World → Prop
  | .normal, a, w => Q .normal a w
  | _, _, _ => False
theorem OnlyN.normal {Q : Exit → Act → World → Prop} {a : Act} {w : World} (h : Q .normal a w) : OnlyN Q .normal a w := h
theorem OnlyN.imp {Q : Exit → Act → World → Prop} : ∀ (e : Exit) (a : Act) (w : World), OnlyN Q e a w → Q e a w := fun e a w h => by
  cases e <;> first | exact h | exact (h : False).elim
theorem wpIn_region_in {P : Program} {n id : Nat} {ops : Array Oper} {Q : Exit → Act → World → Prop} {a : Act} {w : World} (S : World → Prop) (hm : P.follows .mixedOrders = true)
    (h : wpAnyH P .any ops (OnlyN Q) S ops.size (Array.replicate ops.size false) a w.drew) : (Code.region id ops true).wpIn Fence.wide n P Q a w :=
  Code.wpIn_mono OnlyN.imp (wpIn_region_held' S hm (fun ⟨_, _, h⟩ => h) h)
theorem wpIn_region_inR {P : Program} {n l id : Nat} {ops : Array Oper} {Q : Exit → Act → World → Prop} {a : Act} {w : World} (S : World → Prop) (hm : P.follows .mixedOrders = true) (hd : noDefer ops = true)
    (h : wpAnyH P .any ops (OnlyN Q) S ops.size (Array.replicate ops.size false) a w.drew) : (Code.region id ops true).wpIn (Fence.wide.inRound l) n P Q a w :=
  Code.wpIn_mono OnlyN.imp (wpIn_region_held S hm hd (fun ⟨_, _, h⟩ => h) h)
abbrev spE (x : Sp) : Array Value := #[spV x]
theorem bd_drew {w w' : World} {B : Nat} (h : Below B w w') : Below B w w'.drew := ⟨h.os, h.tape, h.output, h.size, h.block⟩
/-- a row's part, as the code cuts it -/
theorem tw_step {l : List Sp} {s : Sp} {i : Nat} (h : i < l.length) : tw (l.drop i) s = if lenI (meetP (l.getD i (0, 0)) s) = 0 then [] else meetP (l.getD i (0, 0)) s :: tw (l.drop (i + 1)) s := by
  rw [drop_getD h, tw_cons]
theorem tw_end {l : List Sp} {s : Sp} {i : Nat} (h : l.length ≤ i) : tw (l.drop i) s = [] := by
  rw [List.drop_eq_nil_of_le h]; rfl
end Go.Proofs.YtohpaoleomcimaaGreat.rn
/-!   Package runs: parts, Within, Bytes.
-/
namespace Go.Proofs.YtohpaoleomcimaaGreat.rn
open Go.RowKit Go.Shelf aid mem rng sp
attribute [local go_sem] Oper.semAt_some
set_option linter.unusedVariables false
set_option linter.unusedSimpArgs false

theorem undrew {X w2 : World} (h : Below X.drew.heap.size X.drew w2) : Below X.heap.size X w2 := ⟨h.os, h.tape, h.output, h.size, h.block⟩
/-- an iterator over spans is handed back -/
def SeqS (g : Nat) (L : List Sp) (A : Nat → Prop) (w : World) (e : Ending) (w' : World) : Prop :=
  ∃ lb, e = .returned (.func (.func g) #[] lb) ∧ SeqOf Tryz.prog g lb spE L A w' ∧ Below w.heap.size w w'
/-- a sum so far, in its box -/
structure WI (w : World) (bn : Nat) (pre : List Sp) (C : Nat → Prop) (X : World) : Prop where
  hn : X.heap[bn]? = some (.cells #[.int .i64 (bytesL pre)] 3 (0, 0))
  cb : C bn
  below : Below w.heap.size w X
theorem wi_bears {w : World} {bn D : Nat} (h : bn < D) (hw : w.heap.size ≤ bn) : Bears D (WI w bn) := by
  rintro pre C X Y hc hz hs
  exact ⟨hs.heap (.inl (by omega)) hc.hn, hc.cb, hc.below.trans (hs.below (by omega) (fun k hk => .inl (by omega)))⟩
/-- no way out but the end -/
def NoX (c : Code) (pre : List Sp) (C : Nat → Prop) (X : World) : Prop := False
theorem nox_bears (D : Nat) (c : Code) : Bears D (NoX c) := fun _ _ _ _ h => h.elim
/-- a span's box -/
def BxS (n0 b : Nat) (y : Sp) (C : Nat → Prop) (X : World) : Prop := SpAt X b y ∧ n0 ≤ b ∧ C b
theorem bxs_bears (n0 b : Nat) (y : Sp) : Bears n0 (fun (_ : Unit) C W => BxS n0 b y C W) := by
  rintro _ C X Y ⟨h1, h2, h3⟩ hz hs
  exact ⟨hs.heap (.inr h3) h1, h2, h3⟩
end Go.Proofs.YtohpaoleomcimaaGreat.rn
