/-
  Several texts in one: BavI BavS BavR BavQ BrdW BrdR BrdP BrdN BrdA
-/
import Derived.RangeFuncWrites
import Derived.Shelf.Abstract
import Derived.Shelf.RegionOpen
import Derived.WalkKit
import Derived.OwnWalkIn
import Derived.TacticsInMore
import Derived.LoopNIn
import Derived.LoopIn
import Derived.Test.YtegbkeichkifnaaM6
/-!   Package avl: going through the nodes.
-/
namespace Go.Proofs.Ytegbkeichkifnaa.bv
open Go.RowKit Go.Shelf aid mem rng
attribute [local go_sem] Oper.semAt_some
set_option linter.unusedVariables false

/-- a node: its block, its key, its value -/
abbrev Nd := Nat × Int × Vt
/-- the nodes of a tree from a key on, rising; R = none: all, falling -/
def Goes (w : World) (key : Int) : Option Addr → T → List Nd → Prop
  | p, .nil, LN => p = none ∧ LN = []
  | p, .node l k v r, LN => ∃ b pl pr Ll Lr, p = some ⟨b, 0, none⟩ ∧ w.heap[b]? = some (ndB l k v r pl pr) ∧ Goes w key pl l Ll ∧ Goes w key pr r Lr ∧ LN = if k < key then Lr else Ll ++ (b, k, v) :: Lr
theorem goes_of {w : World} (key : Int) : ∀ {t : T} {p : Option Addr}, NdAt w p t → ∃ LN, Goes w key p t LN := by
  intro t
  induction t with
  | nil => intro p h; exact ⟨[], h, rfl⟩
  | node l k v r ihl ihr =>
    rintro p ⟨b, pl, pr, rfl, hb, hl, hr⟩
    obtain ⟨Ll, h1⟩ := ihl hl
    obtain ⟨Lr, h2⟩ := ihr hr
    exact ⟨_, b, pl, pr, Ll, Lr, rfl, hb, h1, h2, rfl⟩
theorem goes_keys {w : World} (key : Int) : ∀ {t : T} {p : Option Addr} {LN : List Nd}, Goes w key p t LN → T.Up t.toL → LN.map (fun x => (x.2.1, x.2.2)) = t.toL.filter (fun x => decide (key ≤ x.1)) := by
  intro t
  induction t with
  | nil => rintro p LN ⟨rfl, rfl⟩ _; rfl
  | node l k v r ihl ihr =>
    rintro p LN ⟨b, pl, pr, Ll, Lr, rfl, hb, hl, hr, rfl⟩ hu
    obtain ⟨u1, u2, u3, u4, u5⟩ := T.up_node.1 hu
    have e1 := ihl hl u1
    have e2 := ihr hr u2
    by_cases hk : k < key
    · rw [if_pos hk, e2]
      show _ = (l.toL ++ (k, v) :: r.toL).filter _
      rw [List.filter_append, List.filter_cons, if_neg (by simp; omega), (List.filter_eq_nil_iff (l := l.toL)).2 (fun x hx => by have := u3 x hx; simp; omega), List.nil_append]
    · rw [if_neg hk, List.map_append, List.map_cons, e1, e2]
      show _ = (l.toL ++ (k, v) :: r.toL).filter _
      rw [List.filter_append, List.filter_cons, if_pos (by simp; omega)]
theorem goes_cells {w : World} (key : Int) : ∀ {t : T} {p : Option Addr} {LN : List Nd}, Goes w key p t LN → ∀ x ∈ LN, ∃ cs, w.heap[x.1]? = some (.cells cs 100 (0, 0)) ∧ w.cell? ⟨x.1, 0, none⟩ = some (.int .i64 x.2.1) ∧ (w.cell? ⟨x.1, 1, none⟩ = some (.int .i64 x.2.2.1) ∧ w.cell? ⟨x.1, 2, none⟩ = some (.int .i64 x.2.2.2)) := by
  intro t
  induction t with
  | nil => rintro p LN ⟨rfl, rfl⟩ x hx; cases hx
  | node l k v r ihl ihr =>
    rintro p LN ⟨b, pl, pr, Ll, Lr, rfl, hb, hl, hr, rfl⟩ x hx
    by_cases hk : k < key
    · rw [if_pos hk] at hx
      exact ihr hr x hx
    · rw [if_neg hk] at hx
      rcases List.mem_append.1 hx with hx | hx
      · exact ihl hl x hx
      · rcases List.mem_cons.1 hx with rfl | hx
        · exact ⟨_, hb, (cs_of hb).c0, (cs_of hb).c1⟩
        · exact ihr hr x hx

abbrev ndE (x : Nd) : Array Value := #[.pointer (some ⟨x.1, 0, none⟩)]
/-- what stands while the nodes are gone through -/
structure Cx (w W : World) (C0 : Nat → Prop) (l : Nat) (J Jx : List Nd → (Nat → Prop) → World → Prop) (L : List Nd) : Prop where
  nodes : ∀ (b : Nat) (cs : Array Value), w.heap[b]? = some (.cells cs 100 (0, 0)) → ¬ C0 b ∧ W.heap[b]? = some (.cells cs 100 (0, 0))
  yd : ∀ pre x C W1, J pre C W1 → W.heap.size ≤ W1.heap.size → pre ++ [x] <+: L → Yd Try.prog l (ndE x) W1 fun e W' =>
      ∃ C', Round C W1 C' W' ∧ ((e = .returned (.bool true) ∧ J (pre ++ [x]) C' W') ∨ (e = .returned (.bool false) ∧ Jx (pre ++ [x]) C' W'))
def RiseP (W : World) (C0 : Nat → Prop) (J Jx : List Nd → (Nat → Prop) → World → Prop) (xs : List Nd) (e : Ending) (W' : World) : Prop :=
  ∃ C', It C0 W C' W' ∧ ((e = .returned (.bool true) ∧ J xs C' W') ∨ (e = .returned (.bool false) ∧ ∃ pre, Jx pre C' W'))

set_option maxRecDepth 100000 in
set_option maxHeartbeats 4000000 in
theorem rise_any {w W : World} {C0 : Nat → Prop} {l : Nat} {J Jx : List Nd → (Nat → Prop) → World → Prop} {L : List Nd} (hx : Cx w W C0 l J Jx L) (key : Int) :
    ∀ (t : T) {p : Option Addr} {LN : List Nd} {pre : List Nd} {C : Nat → Prop} {W1 : World}, Goes w key p t LN → pre ++ LN <+: L → J pre C W1 → It C0 W C W1 →
    Calls Try.prog 90 #[.pointer p, .int .i64 key, .func (.yield l) #[] #[]] W1 (RiseP W C0 J Jx (pre ++ LN)) := by
  intro t
  induction t with
  | nil =>
    rintro p LN pre C W1 ⟨rfl, rfl⟩ hp hJ hI
    go_enter Try.func90, Try.ntmps90
    go_wp2_with fail
    go_ret
    exact ⟨C, hI, .inl ⟨rfl, by rw [List.append_nil]; exact hJ⟩⟩
  | node tl k v tr ihl ihr =>
    rintro p LN pre C W1 ⟨b, pl, pr, Ll, Lr, rfl, hb, hl, hr, rfl⟩ hp hJ hI
    have hc := cs_of (hI.block (hx.nodes b _ hb).2 (hx.nodes b _ hb).1)
    obtain ⟨c0, c1, c2, c3, _, _⟩ := hc
    by_cases hk : k < key
    · rw [if_pos hk] at hp ⊢
      have HC := Lib.hid (ihr hr hp hJ hI)
      clear ihl ihr hb hl hr hp hJ hI
      go_enter Try.func90, Try.ntmps90
      go_wp2_with (go_at_call 90; (with_reducible refine HC.out.mono ?_); rintro e w2 ⟨C', hI', ⟨rfl, hJ'⟩ | ⟨rfl, hJ'⟩⟩)
      · go_ret
        exact ⟨C', hI', .inl ⟨rfl, hJ'⟩⟩
      · go_ret
        exact ⟨C', hI', .inr ⟨rfl, hJ'⟩⟩
    · rw [if_neg hk] at hp ⊢
      have hp1 : pre ++ Ll <+: L := (List.prefix_append _ ((b, k, v) :: Lr)).trans (by rw [List.append_assoc]; exact hp)
      have hp2 : (pre ++ Ll) ++ [(b, k, v)] <+: L := (List.prefix_append _ Lr).trans (by simpa using hp)
      have hp3 : ((pre ++ Ll) ++ [(b, k, v)]) ++ Lr <+: L := by simpa using hp
      have he : pre ++ (Ll ++ (b, k, v) :: Lr) = ((pre ++ Ll) ++ [(b, k, v)]) ++ Lr := by simp
      rw [he]
      obtain ⟨xs, hxs⟩ : ∃ xs, xs = ((pre ++ Ll) ++ [(b, k, v)]) ++ Lr := ⟨_, rfl⟩
      rw [← hxs]
      have HX := Lib.hid hxs
      clear hxs
      have HC := Lib.hid (ihl hl hp1 hJ hI)
      have HR := Lib.hid (fun (C : Nat → Prop) (W1 : World) (hJ : J ((pre ++ Ll) ++ [(b, k, v)]) C W1) (hI : It C0 W C W1) => ihr hr hp3 hJ hI)
      have HY := Lib.hid (fun (C : Nat → Prop) (W1 : World) (hJ : J (pre ++ Ll) C W1) (hI : It C0 W C W1) => hx.yd _ _ C W1 hJ hI.kept.size hp2)
      have HB := Lib.hid (fun (C : Nat → Prop) (W1 : World) (hI : It C0 W C W1) => cs_of (hI.block (hx.nodes b _ hb).2 (hx.nodes b _ hb).1))
      generalize pre ++ Ll = pre1 at *
      clear ihl ihr hb hl hr hp hJ hI hp1 hp2 hp3 he
      refine (callsIn_wide (n := 6)).1 ?_
      refine callsIn_of_wp Try.func90 rfl trivial ?_ rfl
      simp only [Try.ntmps90, List.size_toArray, List.length_cons, List.length_nil, Nat.reduceAdd, Nat.reduceSub, Array.replicate_succ, Array.replicate_zero, List.push_toArray, List.append_toArray, List.nil_append, List.cons_append]
      gi_wp2
      refine ⟨trivial, ?_⟩
      refine (callsIn_wide.2 HC.out).mono ?_
      rintro e w2 ⟨C', hI', ⟨rfl, hJ'⟩ | ⟨rfl, hJ'⟩⟩
      · obtain ⟨d0, d1, d2, d3, _, _⟩ := HB.out _ _ hI'
        obtain ⟨fn, tmps, assign, body, hyy, hY⟩ := (HY.out _ _ hJ' hI').at 5
        gi_wp2
        refine hY.mono ?_
        clear hyy hY d0 d1 d2 d3
        rintro e w3 ⟨C2, hr2, ⟨rfl, hJ2⟩ | ⟨rfl, hJ2⟩⟩
        · have hI2 := hI'.round hr2
          obtain ⟨d0, d1, d2, d3, _, _⟩ := HB.out _ _ hI2
          clear hr2 hI' hJ'
          gi_wp2
          refine ⟨trivial, ?_⟩
          refine (callsIn_wide.2 (HR.out _ _ hJ2 hI2)).mono ?_
          rw [← HX.out]
          rintro e w4 ⟨C4, hI4, ⟨rfl, hJ4⟩ | ⟨rfl, hJ4⟩⟩
          · gi_wp2
            go_ret
            exact ⟨C4, hI4, .inl ⟨rfl, hJ4⟩⟩
          · gi_wp2
            go_ret
            exact ⟨C4, hI4, .inr ⟨rfl, hJ4⟩⟩
        · have hI2 := hI'.round hr2
          clear hr2 hI' hJ'
          gi_wp2
          refine ⟨trivial, ?_⟩
          gi_wp2
          go_ret
          exact ⟨C2, hI2, .inr ⟨rfl, _, hJ2⟩⟩
      · gi_wp2
        refine ⟨(fun _ h => by cases h), ?_⟩
        gi_wp2
        refine ⟨trivial, ?_⟩
        gi_wp2
        go_ret
        exact ⟨C', hI', .inr ⟨rfl, hJ'⟩⟩

/-- the nodes of a tree, falling -/
def Falls (w : World) : Option Addr → T → List Nd → Prop
  | p, .nil, LN => p = none ∧ LN = []
  | p, .node l k v r, LN => ∃ b pl pr Ll Lr, p = some ⟨b, 0, none⟩ ∧ w.heap[b]? = some (ndB l k v r pl pr) ∧ Falls w pl l Ll ∧ Falls w pr r Lr ∧ LN = Lr ++ (b, k, v) :: Ll
theorem falls_of {w : World} : ∀ {t : T} {p : Option Addr}, NdAt w p t → ∃ LN, Falls w p t LN := by
  intro t
  induction t with
  | nil => intro p h; exact ⟨[], h, rfl⟩
  | node l k v r ihl ihr =>
    rintro p ⟨b, pl, pr, rfl, hb, hl, hr⟩
    obtain ⟨Ll, h1⟩ := ihl hl
    obtain ⟨Lr, h2⟩ := ihr hr
    exact ⟨_, b, pl, pr, Ll, Lr, rfl, hb, h1, h2, rfl⟩
theorem falls_keys {w : World} : ∀ {t : T} {p : Option Addr} {LN : List Nd}, Falls w p t LN → LN.map (fun x => (x.2.1, x.2.2)) = t.toL.reverse := by
  intro t
  induction t with
  | nil => rintro p LN ⟨rfl, rfl⟩; rfl
  | node l k v r ihl ihr =>
    rintro p LN ⟨b, pl, pr, Ll, Lr, rfl, hb, hl, hr, rfl⟩
    rw [List.map_append, List.map_cons, ihl hl, ihr hr]
    show _ = (l.toL ++ (k, v) :: r.toL).reverse
    simp
theorem falls_cells {w : World} : ∀ {t : T} {p : Option Addr} {LN : List Nd}, Falls w p t LN → ∀ x ∈ LN, ∃ cs, w.heap[x.1]? = some (.cells cs 100 (0, 0)) ∧ w.cell? ⟨x.1, 0, none⟩ = some (.int .i64 x.2.1) ∧ (w.cell? ⟨x.1, 1, none⟩ = some (.int .i64 x.2.2.1) ∧ w.cell? ⟨x.1, 2, none⟩ = some (.int .i64 x.2.2.2)) := by
  intro t
  induction t with
  | nil => rintro p LN ⟨rfl, rfl⟩ x hx; cases hx
  | node l k v r ihl ihr =>
    rintro p LN ⟨b, pl, pr, Ll, Lr, rfl, hb, hl, hr, rfl⟩ x hx
    rcases List.mem_append.1 hx with hx | hx
    · exact ihr hr x hx
    · rcases List.mem_cons.1 hx with rfl | hx
      · exact ⟨_, hb, (cs_of hb).c0, (cs_of hb).c1⟩
      · exact ihl hl x hx
theorem Goes.later {w w' : World} (hb : Below w.heap.size w w') (key : Int) : ∀ {t : T} {p : Option Addr} {LN : List Nd}, Goes w key p t LN → Goes w' key p t LN := by
  intro t
  induction t with
  | nil => intro p LN h; exact h
  | node l k v r ihl ihr =>
    rintro p LN ⟨b, pl, pr, Ll, Lr, rfl, h, hl, hr, rfl⟩
    exact ⟨b, pl, pr, Ll, Lr, rfl, (hb.block b (lt_of_block h)).trans h, ihl hl, ihr hr, rfl⟩
theorem Falls.later {w w' : World} (hb : Below w.heap.size w w') : ∀ {t : T} {p : Option Addr} {LN : List Nd}, Falls w p t LN → Falls w' p t LN := by
  intro t
  induction t with
  | nil => intro p LN h; exact h
  | node l k v r ihl ihr =>
    rintro p LN ⟨b, pl, pr, Ll, Lr, rfl, h, hl, hr, rfl⟩
    exact ⟨b, pl, pr, Ll, Lr, rfl, (hb.block b (lt_of_block h)).trans h, ihl hl, ihr hr, rfl⟩

end Go.Proofs.Ytegbkeichkifnaa.bv
/-!   Package avl: the iterators.
-/
namespace Go.Proofs.Ytegbkeichkifnaa.bv
open Go.RowKit Go.Shelf aid mem rng
attribute [local go_sem] Oper.semAt_some
set_option linter.unusedVariables false

/-- a pointer to a tree, and its root -/
def RootOf (w : World) (p q : Option Addr) : Prop := (p = none ∧ q = none) ∨ ∃ b, p = some ⟨b, 0, none⟩ ∧ w.heap[b]? = some (.cells #[.pointer q] 94 (0, 0))
theorem trO_root {w : World} {p : Option Addr} {t : T} (h : TrO w p t) : ∃ q, RootOf w p q ∧ NdAt w q t := by
  rcases h with ⟨rfl, rfl⟩ | ⟨b, rfl, q, h1, h2⟩
  · exact ⟨none, .inl ⟨rfl, rfl⟩, rfl⟩
  · exact ⟨q, .inr ⟨b, rfl, h1⟩, h2⟩
theorem RootOf.later {w w' : World} {p q : Option Addr} (h : RootOf w p q) (hb : Below w.heap.size w w') : RootOf w' p q := by
  rcases h with h | ⟨b, rfl, h1⟩
  · exact .inl h
  · exact .inr ⟨b, rfl, (hb.block b (lt_of_block h1)).trans h1⟩
theorem top_at {w : World} {p q : Option Addr} (h : RootOf w p q) : Calls Try.prog 62 #[.pointer p] w fun e w' => e = .returned (.pointer q) ∧ w = w' := by
  rcases h with ⟨rfl, rfl⟩ | ⟨b, rfl, h1⟩
  · go_enter Try.func62, Try.ntmps62
    go_wp2
    go_ret
    exact ⟨rfl, rfl⟩
  · have c0 : w.cell? ⟨b, 0, none⟩ = some (.pointer q) := (cell_of_row w b 0 _ _ (0, 0) h1).trans rfl
    go_enter Try.func62, Try.ntmps62
    go_wp2
    go_ret
    exact ⟨rfl, rfl⟩

/-- what of the old blocks a consumer may write: none of a tree's -/
def Far (w : World) (A : Nat → Prop) : Prop := ∀ k, A k → k < w.heap.size ∧ ∀ cs, w.heap[k]? ≠ some (.cells cs 100 (0, 0))
theorem cx_nodes {w W : World} {A C0 : Nat → Prop} (hA : Far w A) (hW : Below w.heap.size w W) (hC : ∀ k, C0 k → (A k ∨ w.heap.size ≤ k) ∧ k < W.heap.size) (b : Nat) (cs : Array Value)
    (h : w.heap[b]? = some (.cells cs 100 (0, 0))) : ¬ C0 b ∧ W.heap[b]? = some (.cells cs 100 (0, 0)) := by
  refine ⟨fun hc => ?_, (hW.block b (lt_of_block h)).trans h⟩
  rcases (hC _ hc).1 with a | a
  · exact (hA _ a).2 cs h
  · have := lt_of_block h; omega

/-- how going through the nodes ends, in one piece -/
def RiseB (W : World) (C0 : Nat → Prop) (J Jx : List Nd → (Nat → Prop) → World → Prop) (xs : List Nd) (b : Bool) (W' : World) : Prop := ∃ C', It C0 W C' W' ∧ ((b = true ∧ J xs C' W') ∨ (b = false ∧ ∃ pre, Jx pre C' W'))
theorem rise_b {W : World} {C0 : Nat → Prop} {J Jx : List Nd → (Nat → Prop) → World → Prop} {xs : List Nd} {e : Ending} {W' : World} (h : RiseP W C0 J Jx xs e W') : ∃ b, e = .returned (.bool b) ∧ RiseB W C0 J Jx xs b W' := by
  obtain ⟨C', hI, ⟨rfl, h⟩ | ⟨rfl, h⟩⟩ := h
  · exact ⟨true, rfl, C', hI, .inl ⟨rfl, h⟩⟩
  · exact ⟨false, rfl, C', hI, .inr ⟨rfl, h⟩⟩
theorem RiseB.cell {W : World} {C0 : Nat → Prop} {J Jx : List Nd → (Nat → Prop) → World → Prop} {xs : List Nd} {b : Bool} {W' : World} (h : RiseB W C0 J Jx xs b W') {k : Nat} {v : Value} (hk : ¬ C0 k) (hc : W.cell? ⟨k, 0, none⟩ = some v) : W'.cell? ⟨k, 0, none⟩ = some v := by
  obtain ⟨C', hI, _⟩ := h
  exact hI.kept.cell hk hc
theorem RiseB.done {W : World} {C0 : Nat → Prop} {J Jx : List Nd → (Nat → Prop) → World → Prop} {xs : List Nd} {b : Bool} {W' : World} (h : RiseB W C0 J Jx xs b W') : ∃ C', J xs C' W' ∨ ∃ pre, Jx pre C' W' := by
  obtain ⟨C', _, ⟨_, h⟩ | ⟨_, h⟩⟩ := h
  · exact ⟨C', .inl h⟩
  · exact ⟨C', .inr h⟩

set_option maxRecDepth 100000 in
set_option maxHeartbeats 4000000 in
theorem from1_seq {w : World} {p q : Option Addr} {t : T} {key : Int} {LN : List Nd} {bt bk : Nat} {A : Nat → Prop} (hr : RootOf w p q) (hg : Goes w key q t LN)
    (ht : w.cell? ⟨bt, 0, none⟩ = some (.pointer p)) (hk : w.cell? ⟨bk, 0, none⟩ = some (.int .i64 key)) (hA : Far w A) (hat : ¬ A bt) (hak : ¬ A bk) :
    SeqOf Try.prog 89 #[.pointer (some ⟨bt, 0, none⟩), .pointer (some ⟨bk, 0, none⟩)] ndE LN A w := by
  intro l J Jx C0 W hW hC hJ hJx hY h0
  have r2 := hr.later (hW.trans ((Below.refl W.heap.size W).drew.mono hW.size))
  have hx : Cx w W C0 l J Jx LN := ⟨cx_nodes hA hW hC, hY⟩
  have c1 := ck hW ht
  have c2 := ck hW hk
  have j2 := hJ _ _ _ _ h0 (Nat.le_refl _) (Steps.drew _ W)
  have i2 : It C0 W C0 W.drew := (It.refl (fun k hk => (hC k hk).2)).own (Steps.drew _ W)
  have nt : ¬ C0 bt := fun e => by
    rcases (hC _ e).1 with a | a
    · exact hat a
    · have := World.block_lt_of_cell? w _ ht; simp only at this; omega
  have nk : ¬ C0 bk := fun e => by
    rcases (hC _ e).1 with a | a
    · exact hak a
    · have := World.block_lt_of_cell? w _ hk; simp only at this; omega
  have HR := Lib.hid (rise_any hx key t hg (List.prefix_refl _) j2 i2)
  rw [List.nil_append] at HR
  clear hr hg hx j2 i2 hJ hJx hY h0 hC hW ht hk hA
  show Calls Try.prog 89 #[.func (.yield l) #[] #[], .pointer (some ⟨bt, 0, none⟩), .pointer (some ⟨bk, 0, none⟩)] W _
  go_enter Try.func89, Try.ntmps89
  go_wp2
  have k0 : W.drew.cell? ⟨bt, 0, none⟩ = some (.pointer p) ∧ W.drew.cell? ⟨bk, 0, none⟩ = some (.int .i64 key) := ⟨c1, c2⟩
  go_region_held3 (fun w' => w'.cell? ⟨bt, 0, none⟩ = some (.pointer p) ∧ w'.cell? ⟨bk, 0, none⟩ = some (.int .i64 key)) (with_reducible first | exact k0 | exact k1 | go_keep) (first
    | (go_at_call 62; (with_reducible refine (top_at r2).mono ?_); rintro e w2 ⟨rfl, rfl⟩)
    | (go_at_call 90; (with_reducible refine HR.out.mono ?_); rintro e w3 hrp; obtain ⟨b, rfl, hb⟩ := rise_b hrp; have k1 := And.intro (hb.cell nt c1) (hb.cell nk c2); clear hrp))
  all_goals
    go_wp2
    go_end0
    exact ⟨⟨_, rfl⟩, hb.done⟩

end Go.Proofs.Ytegbkeichkifnaa.bv
/-!   Package avl: pairs of nodes; From, All, Back.
-/
namespace Go.Proofs.Ytegbkeichkifnaa.bv
open Go.RowKit Go.Shelf aid mem rng
attribute [local go_sem] Oper.semAt_some
set_option linter.unusedVariables false

abbrev kv (x : Nd) : Int × Vt := (x.2.1, x.2.2)
abbrev kvE (x : Int × Vt) : Array Value := #[.int .i64 x.1, .agg #[.int .i64 x.2.1, .int .i64 x.2.2]]
def isRet (c : Code) : Prop := c = .ret
theorem pre_map {α β : Type} (f : α → β) {a b : List α} (h : a <+: b) : a.map f <+: b.map f := by
  obtain ⟨t, rfl⟩ := h
  rw [List.map_append]
  exact List.prefix_append _ _

set_option maxRecDepth 100000 in
set_option maxHeartbeats 300000 in
theorem pairs1_seq {w : World} {gf : Nat} {lb : Array Value} {LN : List Nd} {A : Nat → Prop} {bx : Nat} (hseq : SeqOf Try.prog gf lb ndE LN A w) (eg : ∀ args w, (callFunc gf args).run Try.prog w = .ok (.enter gf args) w)
    (hn : ∀ x ∈ LN, w.cell? ⟨x.1, 0, none⟩ = some (.int .i64 x.2.1) ∧ (w.cell? ⟨x.1, 1, none⟩ = some (.int .i64 x.2.2.1) ∧ w.cell? ⟨x.1, 2, none⟩ = some (.int .i64 x.2.2.2)) ∧ ¬ A x.1)
    (hbx : w.cell? ⟨bx, 0, none⟩ = some (.func (.func gf) #[] lb)) :
    SeqOf Try.prog 95 #[.pointer (some ⟨bx, 0, none⟩)] kvE (LN.map kv) A w := by
  intro l J Jx C0 W hW hC hJ hJx hY h0
  have c0 := ck hW hbx
  show Calls Try.prog 95 #[.func (.yield l) #[] #[], .pointer (some ⟨bx, 0, none⟩)] W _
  refine (callsIn_wide (n := 6)).1 ?_
  refine callsIn_of_wp_marks Try.func95 rfl trivial ?_ rfl
  simp only [Try.ntmps95, List.size_toArray, List.length_cons, List.length_nil, Nat.reduceAdd, Nat.reduceSub, Array.replicate_succ, Array.replicate_zero, List.push_toArray, List.append_toArray, List.nil_append, List.cons_append]
  have hwb : Below W.heap.size W (W.alloc (.cells #[.func (.yield l) #[] #[]] 53)) := (Below.refl _ _).alloc (Nat.le_refl _) _
  have c1 := ck hwb c0
  gi_wp2
  refine wpIn_range' (gf := gf) (lb := lb) (L := LN) (A := A) (w0 := w) (encs := ndE) rfl eg hseq (hW.trans (hwb.mono hW.size)) (fun _ => rfl)
    (fun pre C W' => J (pre.map kv) C W' ∧ It C0 W C W' ∧ ¬ C W.heap.size ∧ W'.cell? ⟨W.heap.size, 0, none⟩ = some (.func (.yield l) #[] #[]))
    (fun c pre C W' => isRet c ∧ Jx (pre.map kv) C W') C0 ?hc0 ?hI ?hIx ?h0
    (fun x => { tmps := #[.func (.yield l) #[] #[], .pointer (some ⟨bx, 0, none⟩), .pointer (some ⟨W.heap.size, 0, none⟩), .pointer (some ⟨x.1, 0, none⟩), .func (.func gf) #[] lb, .pointer (some ⟨x.1, 0, none⟩), undef, undef, undef, undef, undef, undef, undef, undef, undef, undef, undef], defers := [] }) ?assign ?body ?done ?stop
  case hc0 => exact fun k hk => ⟨(hC k hk).1, Nat.lt_of_lt_of_le (hC k hk).2 hwb.size⟩
  case hI =>
    rintro s C X Y ⟨h1, h2, h3, h4⟩ hz hs
    have hs' : rng.Steps (fun k => k < W.heap.size ∨ C k) X Y := hs.mono (fun k _ hk => hk.imp (fun h => by simp; omega) id)
    have := hwb.size
    exact ⟨hJ _ _ _ _ h1 (by omega) hs', h2.own hs', h3, hs.cell (.inl (by simp)) h4⟩
  case hIx =>
    rintro c s C X Y ⟨h1, h2⟩ hz hs
    have hs' : rng.Steps (fun k => k < W.heap.size ∨ C k) X Y := hs.mono (fun k _ hk => hk.imp (fun h => by simp; omega) id)
    have := hwb.size
    exact ⟨h1, hJx _ _ _ _ h2 (by omega) hs'⟩
  case h0 =>
    have ss := Steps.of_below hwb (fun k => k < W.heap.size ∨ C0 k)
    exact ⟨hJ _ _ _ _ h0 (Nat.le_refl _) ss, (It.refl (fun k hk => (hC k hk).2)).own ss, fun e => by have := (hC _ e).2; omega, (cell_of_row _ W.heap.size 0 _ _ (0, 0) (heap_alloc_new W _)).trans rfl⟩
  case assign =>
    intro l' x X K hK
    gi_wp2
    exact hK
  case body =>
    rintro l' pre x C X ⟨h1, h2, h3, h4⟩ hp hcb hz
    have hp' := pre_map kv hp
    rw [List.map_append] at hp'
    have j1 := hJ _ _ _ _ h1 h2.kept.size (rng.Steps.drew _ X)
    have hy := (hY _ _ _ X.drew j1 h2.kept.size hp').mono (fun e w h => one_way (X := fun C' => J (pre.map kv ++ [kv x]) C' w) (Y := fun C' => Jx (pre.map kv ++ [kv x]) C' w) h)
    have hxm : x ∈ LN := hp.subset (by simp)
    obtain ⟨n0, n1, n2⟩ := hn x hxm
    have nc : ¬ C0 x.1 := fun e => by
      rcases (hC _ e).1 with a | a
      · exact n2 a
      · have := World.block_lt_of_cell? w _ n0; simp only at this; omega
    have d0 := h2.kept.cell (p := ⟨x.1, 0, none⟩) nc (ck hW n0)
    have d1 := h2.kept.cell (p := ⟨x.1, 1, none⟩) nc (ck hW n1.1)
    have d1' := h2.kept.cell (p := ⟨x.1, 2, none⟩) nc (ck hW n1.2)
    obtain ⟨fn, tmps, assign, body, hyy, hYY⟩ := hy.at 3
    have e0 : X.drew.cell? ⟨x.1, 0, none⟩ = some (.int .i64 x.2.1) := d0
    have e1 : X.drew.cell? ⟨x.1, 1, none⟩ = some (.int .i64 x.2.2.1) := d1
    have e1' : X.drew.cell? ⟨x.1, 2, none⟩ = some (.int .i64 x.2.2.2) := d1'
    have e2 : X.drew.cell? ⟨W.heap.size, 0, none⟩ = some (.func (.yield l) #[] #[]) := h4
    have rd : Round C X C X.drew := ⟨rng.Steps.drew _ X, fun _ h => .inl h⟩
    have HN := Lib.hid (fun (C3 : Nat → Prop) (w3 : World) (hr : Round C X.drew C3 w3) (hj : J (pre.map kv ++ [kv x]) C3 w3) => show ∃ C', Round C X C' w3 ∧ (J ((pre ++ [x]).map kv) C' w3 ∧ It C0 W C' w3 ∧ ¬ C' W.heap.size ∧ w3.cell? ⟨W.heap.size, 0, none⟩ = some (.func (.yield l) #[] #[])) from
      ⟨C3, rd.trans hr, by rw [List.map_append]; exact hj, h2.round (rd.trans hr), fun e => by
        rcases hr.2 _ e with a | a
        · exact h3 a
        · have hz' : W.heap.size + 1 ≤ X.heap.size := by simpa using hz
          have : X.drew.heap.size = X.heap.size := rfl
          omega, (rd.trans hr).1.cell h3 h4⟩)
    have HS := Lib.hid (fun (C3 : Nat → Prop) (w3 : World) (hr : Round C X.drew C3 w3) (hj : Jx (pre.map kv ++ [kv x]) C3 w3) => show ∃ C', Round C X C' w3 ∧ (isRet Code.ret ∧ Jx ((pre ++ [x]).map kv) C' w3) from
      ⟨C3, rd.trans hr, rfl, by rw [List.map_append]; exact hj⟩)
    clear hseq eg hn hbx hW hJ hJx hY h0 c0 c1 hwb hC hp hp' hcb hz hy j1 h1 h2 h3 h4 n0 n1 n2 nc d0 d1 d1' hxm rd
    have hmo : Try.prog.follows .mixedOrders = true := by kernel_rfl
    gi_wp2
    refine wpIn_region_round (by assumption) (by kernel_rfl) ?_
    refine wpAnyIn_take (i := 1) (v := (.pointer (some ⟨x.1, 0, none⟩))) rfl rfl (by kernel_rfl) (by kernel_rfl) (by kernel_rfl) (fun _ _ _ h => h) ⟨Or.inl ⟨by rfl, by intro w; go_simp⟩, fun _ => rfl⟩ ?_
    refine wpAnyIn_take (i := 2) (v := (.pointer (some ⟨x.1, 0, none⟩))) rfl rfl (by kernel_rfl) (by kernel_rfl) (by kernel_rfl) (fun _ _ _ h => h) ⟨Or.inl ⟨by rfl, by intro w; go_simp⟩, fun _ => rfl⟩ ?_
    refine wpAnyIn_take (i := 3) (v := (.pointer (some ⟨x.1, 0, none⟩))) rfl rfl (by kernel_rfl) (by kernel_rfl) (by kernel_rfl) (fun _ _ _ h => h) ⟨Or.inl ⟨by rfl, by intro w; go_simp⟩, fun _ => rfl⟩ ?_
    refine wpAnyIn_take (i := 5) (v := (.pointer (some ⟨x.1, 0, none⟩))) rfl rfl (by kernel_rfl) (by kernel_rfl) (by kernel_rfl) (fun _ _ _ h => h) ⟨Or.inl ⟨by rfl, by intro w; go_simp⟩, fun _ => rfl⟩ ?_
    refine wpAnyIn_take (i := 6) (v := (.pointer (some ⟨x.1, 0, none⟩))) rfl rfl (by kernel_rfl) (by kernel_rfl) (by kernel_rfl) (fun _ _ _ h => h) ⟨Or.inl ⟨by rfl, by intro w; go_simp⟩, fun _ => rfl⟩ ?_
    refine wpAnyIn_take (i := 7) (v := (.pointer (some ⟨x.1, 1, none⟩))) rfl rfl (by kernel_rfl) (by kernel_rfl) (by kernel_rfl) (fun _ _ _ h => h) ⟨Or.inl ⟨by rfl, by intro w; go_simp⟩, fun _ => rfl⟩ ?_
    refine wpAnyIn_ready (rs := [0, 4, 8]) (by kernel_rfl) (by simp) ?_
    refine AllReadyIn.cons rfl (fun K hK => ?_) ?_
    · go_simp
      refine hK _ _ ?_
      clear hK K
      refine wpAnyIn_ready (rs := [4, 8]) (by kernel_rfl) (by simp) ?_
      refine AllReadyIn.cons rfl (fun K hK => ?_) ?_
      · go_simp
        refine hK _ _ ?_
        clear hK K
        refine wpAnyIn_ready (rs := [8]) (by kernel_rfl) (by simp) ?_
        refine AllReadyIn.cons rfl (fun K hK => ?_) ?_
        · go_simp
          refine hK _ _ ?_
          clear hK K
          refine wpAnyIn_ready (rs := [9]) (by kernel_rfl) (by simp) ?_
          refine AllReadyIn.cons rfl (fun K hK => ?_) ?_
          · go_simp
            refine hYY.mono ?_
            rintro e w3 ⟨bo, rfl, hr3⟩
            clear hyy hYY e0 e1 e1' e2
            refine hK _ _ ?_
            clear hK K
            refine wpAnyIn_take (i := 10) (v := (.bool (!bo))) rfl rfl (by kernel_rfl) (by kernel_rfl) (by kernel_rfl) (fun _ _ _ h => h) ⟨Or.inl ⟨by rfl, by intro w; go_simp⟩, fun _ => rfl⟩ ?_
            refine wpAnyIn_done (by kernel_rfl) ?_ _
            obtain ⟨C3, hr4, ⟨rfl, h3'⟩ | ⟨rfl, h3'⟩⟩ := hr3
            · gi_wp2
              exact HN.out _ _ hr4 h3'
            · gi_wp2
              exact HS.out _ _ hr4 h3'
          exact AllReadyIn.nil
        exact AllReadyIn.nil
      refine AllReadyIn.cons rfl (fun K hK => ?_) ?_
      · go_simp
        refine hK _ _ ?_
        clear hK K
        refine wpAnyIn_ready (rs := [4]) (by kernel_rfl) (by simp) ?_
        refine AllReadyIn.cons rfl (fun K hK => ?_) ?_
        · go_simp
          refine hK _ _ ?_
          clear hK K
          refine wpAnyIn_ready (rs := [9]) (by kernel_rfl) (by simp) ?_
          refine AllReadyIn.cons rfl (fun K hK => ?_) ?_
          · go_simp
            refine hYY.mono ?_
            rintro e w3 ⟨bo, rfl, hr3⟩
            clear hyy hYY e0 e1 e1' e2
            refine hK _ _ ?_
            clear hK K
            refine wpAnyIn_take (i := 10) (v := (.bool (!bo))) rfl rfl (by kernel_rfl) (by kernel_rfl) (by kernel_rfl) (fun _ _ _ h => h) ⟨Or.inl ⟨by rfl, by intro w; go_simp⟩, fun _ => rfl⟩ ?_
            refine wpAnyIn_done (by kernel_rfl) ?_ _
            obtain ⟨C3, hr4, ⟨rfl, h3'⟩ | ⟨rfl, h3'⟩⟩ := hr3
            · gi_wp2
              exact HN.out _ _ hr4 h3'
            · gi_wp2
              exact HS.out _ _ hr4 h3'
          exact AllReadyIn.nil
        exact AllReadyIn.nil
      exact AllReadyIn.nil
    refine AllReadyIn.cons rfl (fun K hK => ?_) ?_
    · go_simp
      refine hK _ _ ?_
      clear hK K
      refine wpAnyIn_ready (rs := [0, 8]) (by kernel_rfl) (by simp) ?_
      refine AllReadyIn.cons rfl (fun K hK => ?_) ?_
      · go_simp
        refine hK _ _ ?_
        clear hK K
        refine wpAnyIn_ready (rs := [8]) (by kernel_rfl) (by simp) ?_
        refine AllReadyIn.cons rfl (fun K hK => ?_) ?_
        · go_simp
          refine hK _ _ ?_
          clear hK K
          refine wpAnyIn_ready (rs := [9]) (by kernel_rfl) (by simp) ?_
          refine AllReadyIn.cons rfl (fun K hK => ?_) ?_
          · go_simp
            refine hYY.mono ?_
            rintro e w3 ⟨bo, rfl, hr3⟩
            clear hyy hYY e0 e1 e1' e2
            refine hK _ _ ?_
            clear hK K
            refine wpAnyIn_take (i := 10) (v := (.bool (!bo))) rfl rfl (by kernel_rfl) (by kernel_rfl) (by kernel_rfl) (fun _ _ _ h => h) ⟨Or.inl ⟨by rfl, by intro w; go_simp⟩, fun _ => rfl⟩ ?_
            refine wpAnyIn_done (by kernel_rfl) ?_ _
            obtain ⟨C3, hr4, ⟨rfl, h3'⟩ | ⟨rfl, h3'⟩⟩ := hr3
            · gi_wp2
              exact HN.out _ _ hr4 h3'
            · gi_wp2
              exact HS.out _ _ hr4 h3'
          exact AllReadyIn.nil
        exact AllReadyIn.nil
      refine AllReadyIn.cons rfl (fun K hK => ?_) ?_
      · go_simp
        refine hK _ _ ?_
        clear hK K
        refine wpAnyIn_ready (rs := [0]) (by kernel_rfl) (by simp) ?_
        refine AllReadyIn.cons rfl (fun K hK => ?_) ?_
        · go_simp
          refine hK _ _ ?_
          clear hK K
          refine wpAnyIn_ready (rs := [9]) (by kernel_rfl) (by simp) ?_
          refine AllReadyIn.cons rfl (fun K hK => ?_) ?_
          · go_simp
            refine hYY.mono ?_
            rintro e w3 ⟨bo, rfl, hr3⟩
            clear hyy hYY e0 e1 e1' e2
            refine hK _ _ ?_
            clear hK K
            refine wpAnyIn_take (i := 10) (v := (.bool (!bo))) rfl rfl (by kernel_rfl) (by kernel_rfl) (by kernel_rfl) (fun _ _ _ h => h) ⟨Or.inl ⟨by rfl, by intro w; go_simp⟩, fun _ => rfl⟩ ?_
            refine wpAnyIn_done (by kernel_rfl) ?_ _
            obtain ⟨C3, hr4, ⟨rfl, h3'⟩ | ⟨rfl, h3'⟩⟩ := hr3
            · gi_wp2
              exact HN.out _ _ hr4 h3'
            · gi_wp2
              exact HS.out _ _ hr4 h3'
          exact AllReadyIn.nil
        exact AllReadyIn.nil
      exact AllReadyIn.nil
    refine AllReadyIn.cons rfl (fun K hK => ?_) ?_
    · go_simp
      refine hK _ _ ?_
      clear hK K
      refine wpAnyIn_ready (rs := [0, 4]) (by kernel_rfl) (by simp) ?_
      refine AllReadyIn.cons rfl (fun K hK => ?_) ?_
      · go_simp
        refine hK _ _ ?_
        clear hK K
        refine wpAnyIn_ready (rs := [4]) (by kernel_rfl) (by simp) ?_
        refine AllReadyIn.cons rfl (fun K hK => ?_) ?_
        · go_simp
          refine hK _ _ ?_
          clear hK K
          refine wpAnyIn_ready (rs := [9]) (by kernel_rfl) (by simp) ?_
          refine AllReadyIn.cons rfl (fun K hK => ?_) ?_
          · go_simp
            refine hYY.mono ?_
            rintro e w3 ⟨bo, rfl, hr3⟩
            clear hyy hYY e0 e1 e1' e2
            refine hK _ _ ?_
            clear hK K
            refine wpAnyIn_take (i := 10) (v := (.bool (!bo))) rfl rfl (by kernel_rfl) (by kernel_rfl) (by kernel_rfl) (fun _ _ _ h => h) ⟨Or.inl ⟨by rfl, by intro w; go_simp⟩, fun _ => rfl⟩ ?_
            refine wpAnyIn_done (by kernel_rfl) ?_ _
            obtain ⟨C3, hr4, ⟨rfl, h3'⟩ | ⟨rfl, h3'⟩⟩ := hr3
            · gi_wp2
              exact HN.out _ _ hr4 h3'
            · gi_wp2
              exact HS.out _ _ hr4 h3'
          exact AllReadyIn.nil
        exact AllReadyIn.nil
      refine AllReadyIn.cons rfl (fun K hK => ?_) ?_
      · go_simp
        refine hK _ _ ?_
        clear hK K
        refine wpAnyIn_ready (rs := [0]) (by kernel_rfl) (by simp) ?_
        refine AllReadyIn.cons rfl (fun K hK => ?_) ?_
        · go_simp
          refine hK _ _ ?_
          clear hK K
          refine wpAnyIn_ready (rs := [9]) (by kernel_rfl) (by simp) ?_
          refine AllReadyIn.cons rfl (fun K hK => ?_) ?_
          · go_simp
            refine hYY.mono ?_
            rintro e w3 ⟨bo, rfl, hr3⟩
            clear hyy hYY e0 e1 e1' e2
            refine hK _ _ ?_
            clear hK K
            refine wpAnyIn_take (i := 10) (v := (.bool (!bo))) rfl rfl (by kernel_rfl) (by kernel_rfl) (by kernel_rfl) (fun _ _ _ h => h) ⟨Or.inl ⟨by rfl, by intro w; go_simp⟩, fun _ => rfl⟩ ?_
            refine wpAnyIn_done (by kernel_rfl) ?_ _
            obtain ⟨C3, hr4, ⟨rfl, h3'⟩ | ⟨rfl, h3'⟩⟩ := hr3
            · gi_wp2
              exact HN.out _ _ hr4 h3'
            · gi_wp2
              exact HS.out _ _ hr4 h3'
          exact AllReadyIn.nil
        exact AllReadyIn.nil
      exact AllReadyIn.nil
    exact AllReadyIn.nil
  case done =>
    rintro D C X hD hCD ⟨h1, h2, h3, h4⟩ hK
    have hD' : W.heap.size ≤ D := Nat.le_trans hwb.size hD
    have hf := hJ _ _ _ (X.putObj D (.deferred none)) h1 h2.kept.size (rng.Steps.putObj _ _ _ _ (by rintro (e | e); omega; exact hCD e))
    have HF := Lib.hid hf
    clear hseq eg hn hbx hW hJ hJx hY h0 c0 c1 hwb hC h1 h2 h3 h4 hf
    gi_wp2
    refine ⟨by simp, .inl ⟨_, _, rfl, run_takeDeferred hK, ?_⟩⟩
    exact ⟨_, results_none rfl _ _ _, ⟨_, rfl⟩, C, .inl HF.out⟩
  case stop =>
    rintro D c pre C X hD hCD ⟨rfl, h2⟩ hK
    have hD' : W.heap.size ≤ D := Nat.le_trans hwb.size hD
    have hX : W.heap.size ≤ X.heap.size := by have := lt_of_block hK; omega
    have hf := hJx _ _ _ (X.putObj D (.deferred none)) h2 hX (rng.Steps.putObj _ _ _ _ (by rintro (e | e); omega; exact hCD e))
    have HF := Lib.hid hf
    clear hseq eg hn hbx hW hJ hJx hY h0 c0 c1 hwb hC h2 hf
    gi_wp2
    refine ⟨by simp, .inl ⟨_, _, rfl, run_takeDeferred hK, ?_⟩⟩
    exact ⟨_, results_none rfl _ _ _, ⟨_, rfl⟩, C, .inr ⟨_, HF.out⟩⟩
end Go.Proofs.Ytegbkeichkifnaa.bv
/-!   Package avl: From, All, Back; the law's list of all keys.
-/
namespace Go.Proofs.Ytegbkeichkifnaa.bv
open Go.RowKit Go.Shelf aid mem rng
attribute [local go_sem] Oper.semAt_some
set_option linter.unusedVariables false

theorem Far.later {w w' : World} {A : Nat → Prop} (h : Far w A) (hb : Below w.heap.size w w') : Far w' A := fun k hk => by
  obtain ⟨h1, h2⟩ := h k hk
  exact ⟨Nat.lt_of_lt_of_le h1 hb.size, fun cs e => h2 cs (by rw [← hb.block k h1]; exact e)⟩
theorem far_node {w : World} {A : Nat → Prop} (h : Far w A) {k : Nat} {cs : Array Value} (hk : w.heap[k]? = some (.cells cs 100 (0, 0))) : ¬ A k := fun e => (h k e).2 cs hk

/-- an iterator of pairs -/
def SeqKV (L : List (Int × Vt)) (A : Nat → Prop) (w : World) (e : Ending) (w' : World) : Prop :=
  ∃ lb, e = .returned (.func (.func 95) #[] lb) ∧ SeqOf Try.prog 95 lb kvE L A w' ∧ Below w.heap.size w w'

theorem pairs_any {gf : Nat} {lb : Array Value} {w : World} : Calls Try.prog 88 #[.func (.func gf) #[] lb] w fun e w' =>
    e = .returned (.func (.func 95) #[] #[.pointer (some ⟨w.heap.size, 0, none⟩)]) ∧ w' = w.alloc (.cells #[.func (.func gf) #[] lb] 110) := by
  go_enter Try.func88, Try.ntmps88
  go_wp2_with fail
  go_ret
  exact ⟨rfl, rfl⟩

theorem eg41 : ∀ args w, (callFunc 89 args).run Try.prog w = .ok (.enter 89 args) w := enters_of Try.func89 (by kernel_rfl) rfl
theorem eg49 : ∀ args w, (callFunc 95 args).run Try.prog w = .ok (.enter 95 args) w := enters_of Try.func95 (by kernel_rfl) rfl

set_option maxRecDepth 100000 in
set_option maxHeartbeats 2000000 in
theorem from_any {w : World} {p : Option Addr} {t : T} (h : TrO w p t) (key : Int) (hu : T.Up t.toL) (A : Nat → Prop) (hA : Far w A) :
    Calls Try.prog 84 #[.pointer p, .int .i64 key] w (SeqKV (t.toL.filter (fun x => decide (key ≤ x.1))) A w) := by
  obtain ⟨q, hr, hq⟩ := trO_root h
  obtain ⟨LN, hg⟩ := goes_of key hq
  have hk := goes_keys key hg hu
  obtain ⟨w1, hw1⟩ : ∃ w1, w1 = (w.alloc (.cells #[.pointer p] 54)).alloc (.cells #[.int .i64 key] 3) := ⟨_, rfl⟩
  have b1 : Below w.heap.size w w1 := by rw [hw1]; exact ((Below.refl _ _).alloc (Nat.le_refl _) _).alloc (by simp) _
  have c1 : w1.cell? ⟨w.heap.size, 0, none⟩ = some (.pointer p) := by
    rw [hw1]; exact ck (bal' _) ((cell_of_row _ w.heap.size 0 _ _ (0, 0) (heap_alloc_new w (.cells #[.pointer p] 54))).trans rfl)
  have c2 : w1.cell? ⟨w.heap.size + 1, 0, none⟩ = some (.int .i64 key) := by
    have := (cell_of_row _ (w.alloc (.cells #[.pointer p] 54)).heap.size 0 _ _ (0, 0) (heap_alloc_new (w.alloc (.cells #[.pointer p] 54)) (.cells #[.int .i64 key] 3))).trans rfl
    rw [World.size_alloc] at this
    rw [hw1]; exact this
  have s1 := from1_seq (hr.later b1) (hg.later b1) c1 c2 (hA.later b1) (fun e => by have := (hA _ e).1; omega) (fun e => by have := (hA _ e).1; omega)
  obtain ⟨w2, hw2⟩ : ∃ w2, w2 = w1.alloc (.cells #[.func (.func 89) #[] #[.pointer (some ⟨w.heap.size, 0, none⟩), .pointer (some ⟨w.heap.size + 1, 0, none⟩)]] 110) := ⟨_, rfl⟩
  have b2 : Below w1.heap.size w1 w2 := by rw [hw2]; exact bal' _
  have hz1 : w1.heap.size = w.heap.size + 1 + 1 := by rw [hw1]; simp
  have hb : w2.cell? ⟨w1.heap.size, 0, none⟩ = some (.func (.func 89) #[] #[.pointer (some ⟨w.heap.size, 0, none⟩), .pointer (some ⟨w.heap.size + 1, 0, none⟩)]) := by
    rw [hw2]; exact (cell_of_row _ w1.heap.size 0 _ _ (0, 0) (heap_alloc_new w1 _)).trans rfl
  have hcells := goes_cells key hg
  have s2 := pairs1_seq (s1.later b2 (fun k hk => .inl hk)) eg41 (fun x hx => by
    obtain ⟨cs, n0, n1, n2⟩ := hcells x hx
    have b12 := b1.trans (b2.mono b1.size)
    exact ⟨ck b12 n1, ck2 b12 n2, far_node hA n0⟩) hb
  rw [hk] at s2
  have HF : Hid (SeqKV (t.toL.filter (fun x => decide (key ≤ x.1))) A w (.returned (.func (.func 95) #[] #[.pointer (some ⟨w1.heap.size, 0, none⟩)])) w2) := Lib.hid ⟨_, rfl, s2, b1.trans (b2.mono b1.size)⟩
  rw [hw2, hz1] at HF
  clear hw2 s2 hb b2 s1 c2 c1 hcells hk hg hq hr h hu hA b1 hz1
  subst hw1
  go_enter Try.func84, Try.ntmps84
  go_wp2_with (go_at_call 88; (with_reducible refine pairs_any.mono ?_); rintro e w3 ⟨rfl, rfl⟩)
  go_ret
  exact HF.out

def Bound (t : T) : Prop := ∀ x ∈ t.toL, -9223372036854775808 ≤ x.1
end Go.Proofs.Ytegbkeichkifnaa.bv
/-!   Package board: going through what stands in its tree.
-/
namespace Go.Proofs.Ytegbkeichkifnaa.bd
open Go.RowKit Go.Shelf aid mem rng sp rn bv
attribute [local go_sem] Oper.semAt_some
set_option linter.unusedVariables false
set_option linter.unusedSimpArgs false

/-- what an iterator over an iterator knows between two rounds; its yield lies behind the world that it was called in -/
structure Gv {α : Type} (W : World) (C0 : Nat → Prop) (l : Nat) (tl : List α → List Sp) (J : List Sp → (Nat → Prop) → World → Prop) (pre : List α) (Co C : Nat → Prop) (X : World) : Prop where
  sub : ∀ k, Co k → C k
  j : J (tl pre) Co X
  it : It C0 W Co X
  nX : ¬ Co W.heap.size
  yd : X.cell? ⟨W.heap.size, 0, none⟩ = some (.func (.yield l) #[] #[])
def GvI {α : Type} (W : World) (C0 : Nat → Prop) (l : Nat) (tl : List α → List Sp) (J : List Sp → (Nat → Prop) → World → Prop) (pre : List α) (C : Nat → Prop) (X : World) : Prop := ∃ Co, Gv W C0 l tl J pre Co C X
/-- a way out: all was told, or the consumer had enough -/
def GvX {α : Type} (all : List Sp) (J Jx : List Sp → (Nat → Prop) → World → Prop) (c : Code) (pre : List α) (C : Nat → Prop) (X : World) : Prop := c = .ret ∧ ∃ Co, (∀ k, Co k → C k) ∧ (J all Co X ∨ ∃ told, Jx told Co X)
/-- a box beside it -/
def GvB {α : Type} (W : World) (C0 : Nat → Prop) (l : Nat) (tl : List α → List Sp) (J : List Sp → (Nat → Prop) → World → Prop) (val : α → Sp) (D : Nat) (pre : List α) (b : Nat) (y : α) (C : Nat → Prop) (X : World) : Prop :=
  ∃ Co, Gv W C0 l tl J pre Co C X ∧ SpAt X b (val y) ∧ C b ∧ ¬ Co b ∧ D ≤ b
section
variable {α : Type} {W : World} {C0 : Nat → Prop} {l D : Nat} {tl : List α → List Sp} {J Jx : List Sp → (Nat → Prop) → World → Prop} {pre : List α} {Co C : Nat → Prop} {X Y : World}
theorem gv_own (hJ : Bears W.heap.size J) (hD : W.heap.size < D) (h : Gv W C0 l tl J pre Co C X) (hs : rng.Steps (fun k => k < D ∨ C k) X Y) : Gv W C0 l tl J pre Co C Y := by
  have hs' : rng.Steps (fun k => k < W.heap.size ∨ Co k) X Y := hs.mono (fun k _ hk => by
    rcases hk with hk | hk
    · exact .inl (by omega)
    · exact .inr (h.sub k hk))
  exact ⟨h.sub, hJ _ _ _ _ h.j h.it.kept.size hs', h.it.own hs', h.nX, hs.cell (.inl (by simpa using hD)) h.yd⟩
theorem gvi_bears (hJ : Bears W.heap.size J) (hD : W.heap.size < D) : Bears D (GvI W C0 l tl J) := by
  rintro pre C X Y ⟨Co, h⟩ hz hs
  exact ⟨Co, gv_own hJ hD h hs⟩
theorem gvx_bears {all : List Sp} (hJ : Bears W.heap.size J) (hJx : Bears W.heap.size Jx) (hD : W.heap.size ≤ D) (c : Code) : Bears D (fun (pre : List α) => GvX all J Jx c pre) := by
  rintro pre C X Y ⟨rfl, Co, h1, h2⟩ hz hs
  have hs' : rng.Steps (fun k => k < W.heap.size ∨ Co k) X Y := hs.mono (fun k _ hk => by
    rcases hk with hk | hk
    · exact .inl (by omega)
    · exact .inr (h1 k hk))
  refine ⟨rfl, Co, h1, ?_⟩
  rcases h2 with h2 | ⟨told, h2⟩
  · exact .inl (hJ _ _ _ _ h2 (by omega) hs')
  · exact .inr ⟨told, hJx _ _ _ _ h2 (by omega) hs'⟩
theorem gvb_bears {val : α → Sp} {n0 : Nat} (hJ : Bears W.heap.size J) (hD : W.heap.size < D) (pre : List α) (b : Nat) (y : α) : Bears D (fun (_ : Unit) C W' => GvB W C0 l tl J val n0 pre b y C W') := by
  rintro _ C X Y ⟨Co, h, h1, h2, h3, h4⟩ hz hs
  exact ⟨Co, gv_own hJ hD h hs, hs.heap (.inr h2) h1, h2, h3, h4⟩
/-- it begins -/
theorem gv_zero (hJ : Bears W.heap.size J) (hC : ∀ k, C0 k → k < W.heap.size) (h0 : J (tl []) C0 W) (hb : Below W.heap.size W X) (hy : X.cell? ⟨W.heap.size, 0, none⟩ = some (.func (.yield l) #[] #[])) : Gv W C0 l tl J [] C0 C0 X := by
  have hss := Steps.of_below hb (fun k => k < W.heap.size ∨ C0 k)
  exact ⟨fun k hk => hk, hJ _ _ _ _ h0 (Nat.le_refl _) hss, (It.refl hC).own hss, fun e => by have := hC _ e; omega, hy⟩
/-- a new box of its own -/
theorem gv_box (hJ : Bears W.heap.size J) (h : Gv W C0 l tl J pre Co C X) (hW : W.heap.size < X.heap.size) (y : Sp) :
    Round C X (fun k => C k ∨ k = X.heap.size) (X.alloc (.cells #[.int .i64 y.1, .int .i64 y.2] 24)) ∧
    Gv W C0 l tl J pre Co (fun k => C k ∨ k = X.heap.size) (X.alloc (.cells #[.int .i64 y.1, .int .i64 y.2] 24)) ∧ ¬ Co X.heap.size := by
  have b1 := bal (w := X) (.cells #[.int .i64 y.1, .int .i64 y.2] 24)
  have hg := gv_own (D := X.heap.size) hJ hW h (Steps.of_below b1 _)
  exact ⟨⟨Steps.of_below b1 _, fun k hk => by rcases hk with hk | rfl; exact .inl hk; exact .inr ⟨Nat.le_refl _, by simp⟩⟩, ⟨fun k hk => .inl (hg.sub k hk), hg.j, hg.it, hg.nX, hg.yd⟩, fun e => by have := (h.it.grow _ e).2; omega⟩
/-- the consumer took one -/
theorem gv_next {Z V : World} {y : α} {C2 : Nat → Prop} {t : List Sp} (h : Gv W C0 l tl J pre Co C X) (hW : W.heap.size < X.heap.size) (hb : Below X.heap.size X Z) (hit : It C0 W Co Z) (hr : Round Co Z C2 V) (hj : J t C2 V) (ht : tl (pre ++ [y]) = t) :
    ∃ C', Round C X C' V ∧ GvI W C0 l tl J (pre ++ [y]) C' V := by
  have n2 : ¬ C2 W.heap.size := fun e => by
    rcases hr.2 _ e with a | a
    · exact h.nX a
    · have := hb.size; omega
  refine ⟨fun k => C k ∨ C2 k, (Round.of_below hb C).trans ⟨hr.1.mono (fun k _ hk e => hk (h.sub k e)), fun k hk => ?_⟩, C2, ⟨fun k hk => .inr hk, by rw [ht]; exact hj, hit.round hr, n2, hr.1.cell (p := ⟨W.heap.size, 0, none⟩) h.nX (kcell hb h.yd)⟩⟩
  rcases hk with hk | hk
  · exact .inl hk
  · rcases hr.2 k hk with a | a
    · exact .inl (h.sub k a)
    · exact .inr a
/-- nothing was told -/
theorem gv_skip {Z : World} {y : α} (hJ : Bears W.heap.size J) (h : Gv W C0 l tl J pre Co C X) (hW : W.heap.size < X.heap.size) (hb : Below X.heap.size X Z) (ht : tl (pre ++ [y]) = tl pre) :
    ∃ C', Round C X C' Z ∧ GvI W C0 l tl J (pre ++ [y]) C' Z := by
  have hg := gv_own (D := X.heap.size) hJ hW h (Steps.of_below hb _)
  exact ⟨C, Round.of_below hb C, Co, ⟨hg.sub, by rw [ht]; exact hg.j, hg.it, hg.nX, hg.yd⟩⟩
/-- the consumer had enough -/
theorem gv_stop {Z V : World} {xs : List α} {C2 : Nat → Prop} {t all : List Sp} (h : Gv W C0 l tl J pre Co C X) (hb : Below X.heap.size X Z) (hr : Round Co Z C2 V) (hj : Jx t C2 V) :
    ∃ C', Round C X C' V ∧ GvX all J Jx .ret xs C' V := by
  refine ⟨fun k => C k ∨ C2 k, (Round.of_below hb C).trans ⟨hr.1.mono (fun k _ hk e => hk (h.sub k e)), fun k hk => ?_⟩, rfl, C2, fun k hk => .inr hk, .inr ⟨t, hj⟩⟩
  rcases hk with hk | hk
  · exact .inl hk
  · rcases hr.2 k hk with a | a
    · exact .inl (h.sub k a)
    · exact .inr a
/-- it stops by itself: all is told -/
theorem gv_all {Z : World} {xs : List α} {all : List Sp} (hJ : Bears W.heap.size J) (h : Gv W C0 l tl J pre Co C X) (hb : Below X.heap.size X Z) (ht : tl pre = all) :
    ∃ C', Round C X C' Z ∧ GvX all J Jx .ret xs C' Z :=
  ⟨C, Round.of_below hb C, rfl, Co, h.sub, .inl (by rw [← ht]; exact hJ _ _ _ _ h.j h.it.kept.size (Steps.of_below hb _))⟩
end
theorem eg_kv (args : Array Value) (w : World) : (callFunc 95 args).run Try.prog w = .ok (.enter 95 args) w := by kernel_rfl
abbrev tlV (pre : List (Int × Vt)) : List Sp := pre.map (fun x => x.2)
theorem tlV_ky (l : List Sp) : tlV (l.map ky) = l := by unfold tlV; rw [List.map_map]; exact List.map_id _
theorem tr_later {w w' : World} {p : Option Addr} {t : T} (h : TrO w p t) (hb : Below w.heap.size w w') : TrO w' p t := by
  rcases h with ⟨h1, h2⟩ | ⟨b, h1, h2⟩
  · exact .inl ⟨h1, h2⟩
  · exact .inr ⟨b, h1, h2.later hb⟩
/-- what a consumer may write, told beside an older world, in which a tree stands: none of its nodes -/
def FarR (w0 w : World) (A : Nat → Prop) : Prop := ∀ k, A k → k < w.heap.size ∧ ∀ cs, w0.heap[k]? ≠ some (.cells cs 100 (0, 0))
theorem FarR.sub {w0 w W : World} {A C0 : Nat → Prop} (h : FarR w0 w A) (hb0 : Below w0.heap.size w0 w) (hC : ∀ k, C0 k → (A k ∨ w.heap.size ≤ k) ∧ k < W.heap.size) : FarR w0 W C0 := fun k hk => by
  obtain ⟨h1, h2⟩ := hC k hk
  refine ⟨h2, fun cs e => ?_⟩
  rcases h1 with h1 | h1
  · exact (h k h1).2 cs e
  · have := lt_of_block e; have := hb0.size; omega
theorem FarR.later {w0 w w' : World} {A : Nat → Prop} (h : FarR w0 w A) (hb : Below w.heap.size w w') : FarR w0 w' A := fun k hk => ⟨Nat.lt_of_lt_of_le (h k hk).1 hb.size, (h k hk).2⟩
theorem FarR.of {w0 w : World} {A : Nat → Prop} (hb : Below w0.heap.size w0 w) (h : ∀ k, A k → w0.heap.size ≤ k ∧ k < w.heap.size) : FarR w0 w A := fun k hk => ⟨(h k hk).2, fun cs e => by have := lt_of_block e; have := (h k hk).1; omega⟩
set_option maxRecDepth 100000 in
set_option maxHeartbeats 4000000 in
theorem from1_seqR {w0 w : World} {p q : Option Addr} {t : T} {key : Int} {LN : List Nd} {bt bk : Nat} {A : Nat → Prop} (hb0 : Below w0.heap.size w0 w) (hr : RootOf w0 p q) (hg : Goes w0 key q t LN)
    (ht : w.cell? ⟨bt, 0, none⟩ = some (.pointer p)) (hk : w.cell? ⟨bk, 0, none⟩ = some (.int .i64 key)) (hA : FarR w0 w A) (hat : ¬ A bt) (hak : ¬ A bk) :
    SeqOf Try.prog 89 #[.pointer (some ⟨bt, 0, none⟩), .pointer (some ⟨bk, 0, none⟩)] ndE LN A w := by
  intro l J Jx C0 W hW hC hJ hJx hY h0
  have hbW := hb0.trans (hW.mono hb0.size)
  have r2 := hr.later (hbW.trans ((Below.refl W.heap.size W).drew.mono hbW.size))
  have hF := hA.sub hb0 hC
  have hx : Cx w0 W C0 l J Jx LN := ⟨fun b cs h => ⟨fun hc => (hF b hc).2 cs h, (hbW.block b (lt_of_block h)).trans h⟩, hY⟩
  have c1 := ck hW ht
  have c2 := ck hW hk
  have j2 := hJ _ _ _ _ h0 (Nat.le_refl _) (Steps.drew _ W)
  have i2 : It C0 W C0 W.drew := (It.refl (fun k hk => (hC k hk).2)).own (Steps.drew _ W)
  have nt : ¬ C0 bt := fun e => by
    rcases (hC _ e).1 with a | a
    · exact hat a
    · have := World.block_lt_of_cell? w _ ht; simp only at this; omega
  have nk : ¬ C0 bk := fun e => by
    rcases (hC _ e).1 with a | a
    · exact hak a
    · have := World.block_lt_of_cell? w _ hk; simp only at this; omega
  have HR := Lib.hid (rise_any hx key t hg (List.prefix_refl _) j2 i2)
  rw [List.nil_append] at HR
  clear hr hg hx j2 i2 hJ hJx hY h0 hC hW ht hk hA hF hbW hb0
  show Calls Try.prog 89 #[.func (.yield l) #[] #[], .pointer (some ⟨bt, 0, none⟩), .pointer (some ⟨bk, 0, none⟩)] W _
  go_enter Try.func89, Try.ntmps89
  go_wp2
  have k0 : W.drew.cell? ⟨bt, 0, none⟩ = some (.pointer p) ∧ W.drew.cell? ⟨bk, 0, none⟩ = some (.int .i64 key) := ⟨c1, c2⟩
  go_region_held3 (fun w' => w'.cell? ⟨bt, 0, none⟩ = some (.pointer p) ∧ w'.cell? ⟨bk, 0, none⟩ = some (.int .i64 key)) (with_reducible first | exact k0 | exact k1 | go_keep) (first
    | (go_at_call 62; (with_reducible refine (top_at r2).mono ?_); rintro e w2 ⟨rfl, rfl⟩)
    | (go_at_call 90; (with_reducible refine HR.out.mono ?_); rintro e w3 hrp; obtain ⟨b, rfl, hb⟩ := rise_b hrp; have k1 := And.intro (hb.cell nt c1) (hb.cell nk c2); clear hrp))
  all_goals
    go_wp2
    go_end0
    exact ⟨⟨_, rfl⟩, hb.done⟩
set_option maxRecDepth 100000 in
set_option maxHeartbeats 2000000 in
theorem from_anyR {w0 w : World} {p : Option Addr} {t : T} (hb0 : Below w0.heap.size w0 w) (h : TrO w0 p t) (key : Int) (hu : T.Up t.toL) (A : Nat → Prop) (hA : FarR w0 w A) :
    Calls Try.prog 84 #[.pointer p, .int .i64 key] w (SeqKV (t.toL.filter (fun x => decide (key ≤ x.1))) A w) := by
  obtain ⟨q, hr, hq⟩ := trO_root h
  obtain ⟨LN, hg⟩ := goes_of key hq
  have hk := goes_keys key hg hu
  obtain ⟨w1, hw1⟩ : ∃ w1, w1 = (w.alloc (.cells #[.pointer p] 54)).alloc (.cells #[.int .i64 key] 3) := ⟨_, rfl⟩
  have b1 : Below w.heap.size w w1 := by rw [hw1]; exact ((Below.refl _ _).alloc (Nat.le_refl _) _).alloc (by simp) _
  have c1 : w1.cell? ⟨w.heap.size, 0, none⟩ = some (.pointer p) := by
    rw [hw1]; exact ck (bal' _) ((cell_of_row _ w.heap.size 0 _ _ (0, 0) (heap_alloc_new w (.cells #[.pointer p] 54))).trans rfl)
  have c2 : w1.cell? ⟨w.heap.size + 1, 0, none⟩ = some (.int .i64 key) := by
    have := (cell_of_row _ (w.alloc (.cells #[.pointer p] 54)).heap.size 0 _ _ (0, 0) (heap_alloc_new (w.alloc (.cells #[.pointer p] 54)) (.cells #[.int .i64 key] 3))).trans rfl
    rw [World.size_alloc] at this
    rw [hw1]; exact this
  have b01 := hb0.trans (b1.mono hb0.size)
  have s1 := from1_seqR (A := A) b01 hr hg c1 c2 (hA.later b1) (fun e => by have := (hA _ e).1; omega) (fun e => by have := (hA _ e).1; omega)
  obtain ⟨w2, hw2⟩ : ∃ w2, w2 = w1.alloc (.cells #[.func (.func 89) #[] #[.pointer (some ⟨w.heap.size, 0, none⟩), .pointer (some ⟨w.heap.size + 1, 0, none⟩)]] 110) := ⟨_, rfl⟩
  have b2 : Below w1.heap.size w1 w2 := by rw [hw2]; exact bal' _
  have hz1 : w1.heap.size = w.heap.size + 1 + 1 := by rw [hw1]; simp
  have hb : w2.cell? ⟨w1.heap.size, 0, none⟩ = some (.func (.func 89) #[] #[.pointer (some ⟨w.heap.size, 0, none⟩), .pointer (some ⟨w.heap.size + 1, 0, none⟩)]) := by
    rw [hw2]; exact (cell_of_row _ w1.heap.size 0 _ _ (0, 0) (heap_alloc_new w1 _)).trans rfl
  have hcells := goes_cells key hg
  have s2 := pairs1_seq (s1.later b2 (fun k hk => .inl hk)) eg41 (fun x hx => by
    obtain ⟨cs, n0, n1, n2⟩ := hcells x hx
    have b12 := b01.trans (b2.mono b01.size)
    exact ⟨ck b12 n1, ck2 b12 n2, fun e => (hA _ e).2 cs n0⟩) hb
  rw [hk] at s2
  have HF : Hid (SeqKV (t.toL.filter (fun x => decide (key ≤ x.1))) A w (.returned (.func (.func 95) #[] #[.pointer (some ⟨w1.heap.size, 0, none⟩)])) w2) := Lib.hid ⟨_, rfl, s2, b1.trans (b2.mono b1.size)⟩
  rw [hw2, hz1] at HF
  clear hw2 s2 hb b2 s1 c2 c1 hcells hk hg hq hr h hu hA b1 hz1 b01 hb0
  subst hw1
  go_enter Try.func84, Try.ntmps84
  go_wp2_with (go_at_call 88; (with_reducible refine pairs_any.mono ?_); rintro e w3 ⟨rfl, rfl⟩)
  go_ret
  exact HF.out
end Go.Proofs.Ytegbkeichkifnaa.bd
/-!   Package board: from an offset on.
-/
namespace Go.Proofs.Ytegbkeichkifnaa.bd
open Go.RowKit Go.Shelf aid mem rng sp rn bv
attribute [local go_sem] Oper.semAt_some
set_option linter.unusedVariables false
set_option linter.unusedSimpArgs false

theorem tlV_snoc (pre : List (Int × Vt)) (y : Int × Vt) : tlV (pre ++ [y]) = tlV pre ++ [y.2] := by unfold tlV; simp
theorem tlV_pre {L : List (Int × Vt)} {R : List Sp} (e : tlV L = R) {pre : List (Int × Vt)} {y : Int × Vt} (hp : pre ++ [y] <+: L) : tlV pre ++ [y.2] <+: R := by
  obtain ⟨t, rfl⟩ := hp
  rw [← e, ← tlV_snoc]
  unfold tlV
  rw [List.map_append (l₁ := pre ++ [y])]
  exact List.prefix_append _ _
set_option maxRecDepth 100000 in
set_option maxHeartbeats 4000000 in
theorem rise1_seq {w0 w : World} {p : Option Addr} {t : T} {l : List Sp} {o : Int} {bx bo : Nat} {A : Nat → Prop} (hb0 : Below w0.heap.size w0 w) (h : TrO w0 p t) (ht : t.toL = l.map ky) (hl : Rn l) (hx : w.cell? ⟨bx, 0, none⟩ = some (.pointer p)) (ho : w.cell? ⟨bo, 0, none⟩ = some (.int .i64 o)) (hA : FarR w0 w A) :
    SeqOf Try.prog 82 #[.pointer (some ⟨bx, 0, none⟩), .pointer (some ⟨bo, 0, none⟩)] spE (riseL l o) A w := by
  intro l' J Jx C0 W hW hC hJ hJx hY h0
  have hwW := hW.size
  have hu : T.Up t.toL := by rw [ht]; exact up_ky hl
  have hbW := hb0.trans (hW.mono hb0.size)
  have hF := hA.sub hb0 hC
  have cx := kcell hW hx
  have co := kcell hW ho
  show Calls Try.prog 82 #[.func (.yield l') #[] #[], .pointer (some ⟨bx, 0, none⟩), .pointer (some ⟨bo, 0, none⟩)] W _
  refine (callsIn_wide (n := 6)).1 ?_
  refine callsIn_of_wp_marks Try.func82 rfl trivial ?_ rfl
  simp only [Try.ntmps82, List.size_toArray, List.length_cons, List.length_nil, Nat.reduceAdd, Nat.reduceSub, Array.replicate_succ, Array.replicate_zero, List.push_toArray, List.append_toArray, List.nil_append, List.cons_append]
  have b1 := bal (w := W) (.cells #[.func (.yield l') #[] #[]] 40)
  have y1 := heap_alloc_new W (.cells #[.func (.yield l') #[] #[]] 40)
  have HY := Lib.hid hY
  have HJ := Lib.hid hJ
  have HJX := Lib.hid hJx
  have HC0 := Lib.hid (fun k hk => (hC k hk).2)
  have H0 := Lib.hid h0
  have HFL := Lib.hid (fun X (hX : Below W.heap.size W X) => tfloor_any (tr_later h (hbW.trans (hX.mono hbW.size))) o hu)
  have HFR := Lib.hid (fun X (hX : Below W.heap.size W X) (key : Int) => from_anyR (hbW.trans (hX.mono hbW.size)) h key hu C0 (hF.later hX))
  have HCX := Lib.hid (fun X (hX : Below W.heap.size W X) => And.intro (kcell hX cx) (kcell hX co))
  have HB1 := Lib.hid b1
  have HYD := Lib.hid (fun X (hX : Below (W.alloc (.cells #[.func (.yield l') #[] #[]] 40)).heap.size (W.alloc (.cells #[.func (.yield l') #[] #[]] 40)) X) => cofr ((hX.block _ (lt_of_block y1)).trans y1) 0 _ rfl)
  obtain ⟨q0, q1⟩ := HCX.out _ b1
  rw [ht] at HFL HFR
  have HK : Hid (∀ k, k = firstK l o → tlV ((l.map ky).filter (fun x => decide (k ≤ x.1))) = riseL l o) := Lib.hid (fun k e => by rw [e, rise_kv]; exact tlV_ky _)
  clear hY hJ hJx hC h0 hx ho h ht hl hu hbW hF cx co b1 y1 hA hW hb0 hwW
  have hfk : firstK l o = ((flL (l.map ky) o).map (fun x => x.1)).getD o := rfl
  rw [tupO_eq] at HFL
  generalize flL (l.map ky) o = fl at *
  generalize l.map ky = M at *
  have hmo : Try.prog.follows .mixedOrders = true := by kernel_rfl
  gi_wp2
  refine ⟨trivial, ?_⟩
  refine (callsIn_wide.2 (HFL.out _ HB1.out)).mono ?_
  rintro e w3 ⟨rfl, h3⟩
  have h13 := HB1.out.trans (h3.mono HB1.out.size)
  have c3 := HCX.out _ h13
  obtain ⟨d0, d1⟩ := c3
  have hy3 := HYD.out _ h3
  clear q0 q1
  rcases fl with _ | fl
  · have b4 := bal (w := w3) (.cells #[.int .i64 0, .int .i64 0] 24)
    have h4 := h13.trans (b4.mono h13.size)
    have hy4 := HYD.out _ (h3.trans (b4.mono h3.size))
    obtain ⟨e0, e1⟩ := HCX.out _ h4
    have HFR4 := Lib.hid (HFR.out _ h4)
    simp only [Option.map_none, Option.getD_none] at hfk
    have HK2 := Lib.hid (HK.out _ hfk.symm)
    clear HFR HFL HCX HYD HK h13 h3 b4 hfk HB1 hy3 d0 d1
    simp only [oK]
    gi_wp2
    refine ⟨trivial, ?_⟩
    refine (callsIn_wide.2 (HFR4.out _)).mono ?_
    rintro e w5 ⟨lb, rfl, hseq, h5⟩
    have hb5 := h4.trans (h5.mono h4.size)
    have hy5 := kcell h5 hy4
    have hz5 := h5.size
    have HSEQ := Lib.hid hseq
    have hWz : W.heap.size < w5.heap.size := World.block_lt_of_cell? w5 _ hy5
    have HGI : Hid (GvI W C0 l' tlV J [] C0 w5) := Lib.hid ⟨C0, gv_zero HJ.out HC0.out H0.out hb5 hy5⟩
    clear hseq h5 hy5 hy4 h4 HFR4 e0 e1 hz5
    have HPRE := Lib.hid (fun (pre : List (Int × Vt)) (y : Int × Vt) hp => tlV_pre HK2.out (pre := pre) (y := y) hp)
    have hLL := HK2.out
    clear HK2
    generalize List.filter _ M = L at *
    have HLL := Lib.hid hLL
    clear hLL
    gi_wp2
    refine wpIn_rangeBoxP (fun (b : Nat) (y : Int × Vt) (t : Array Value) => ((t.setIfInBounds 24 (.int .i64 y.1)).setIfInBounds 25 (spV y.2)).setIfInBounds 8 (.pointer (some ⟨b, 0, none⟩))) (gf := 95) (lb := lb) (L := L) (A := C0) (w0 := w5) (encs := kvE) rfl eg_kv HSEQ.out (Below.refl _ _) (fun _ => rfl)
      (GvI W C0 l' tlV J) (GvX (riseL l o) J Jx) C0 ?hc0 (gvi_bears HJ.out hWz) (gvx_bears HJ.out HJX.out (by omega)) HGI.out (GvB W C0 l' tlV J (fun y => y.2) w5.heap.size) (gvb_bears HJ.out hWz) ?assign ?body ?done ?stop
    case hc0 =>
      intro k hk
      have := HC0.out k hk
      exact ⟨.inl hk, by omega⟩
    case assign =>
      rintro l2 pre y C X K ⟨Co, hI⟩ hp hc hz hK
      obtain ⟨g1, g2, g3⟩ := gv_box HJ.out hI (by omega) y.2
      have HK := Lib.hid (hK X.heap.size _ _ g1 ⟨Co, g2⟩ ⟨Co, g2, sp_new X y.2, .inr rfl, g3, hz⟩)
      clear hK hI hp hc g1 g2 g3
      gi_wp2
      exact HK.out
    case body =>
      rintro l2 pre y b C X _ ⟨Co, hI, hyb, hCb, hnb, hbD⟩ hp hcc hz
      have hpr := HPRE.out pre y hp
      have HI := Lib.hid hI
      have hyd := hI.yd
      have e2 := hyb.c0; have e3 := hyb.c1
      have hyq := HY.out _ _ Co X hI.j hI.it.kept.size hpr
      obtain ⟨fn, tmps, assign, body, hyy, hYY⟩ := hyq.inRound l2 3
      clear hyq hpr hI hcc HSEQ HGI hyb
      simp only [List.setIfInBounds_toArray, List.set_cons_zero, List.set_cons_succ]
      generalize hRP : rPost (GvI W C0 l' tlV J) (GvX (riseL l o) J Jx) (pre ++ [y]) C X = RP at *
      have HRN := Lib.hid (fun (C' : Nat → Prop) (W' : World) (hr : Round C X C' W') (hg : GvI W C0 l' tlV J (pre ++ [y]) C' W') (a' : Act) => show RP .normal a' W' from by rw [← hRP]; exact ⟨C', hr, hg⟩)
      have HRR := Lib.hid (fun (C' : Nat → Prop) (W' : World) (hr : Round C X C' W') (hg : GvX (riseL l o) J Jx .ret (pre ++ [y]) C' W') (a' : Act) => show RP .ret a' W' from by rw [← hRP]; exact ⟨C', hr, hg⟩)
      clear hRP
      gi_wp2
      refine hYY.mono ?_
      clear hyy hYY
      rintro e w6 ⟨C2, hr2, ⟨rfl, hJ2⟩ | ⟨rfl, hJ2⟩⟩
      · obtain ⟨C', hrr, hgg⟩ := gv_next (y := y) HI.out (by omega) (Below.refl _ X) HI.out.it hr2 hJ2 (tlV_snoc pre y)
        have HFIN := Lib.hid (HRN.out C' _ hrr hgg)
        clear hrr hgg hr2 hJ2 e2 e3 hyd
        gi_wp2
        exact HFIN.out _
      · obtain ⟨C', hrr, hgg⟩ := gv_stop (xs := pre ++ [y]) (all := riseL l o) HI.out (Below.refl _ X) hr2 hJ2
        have HFIN := Lib.hid (HRR.out C' _ hrr hgg)
        clear hrr hgg hr2 hJ2 e2 e3 hyd
        gi_wp2
        exact HFIN.out _
    case done =>
      rintro D C X hD hCD ⟨Co, hI⟩ hK
      have hnD : ¬ Co D := fun e => hCD (hI.sub _ e)
      have HF := Lib.hid (HJ.out _ _ _ _ hI.j hI.it.kept.size (rng.Steps.putObj (fun k => k < W.heap.size ∨ Co k) X D (.deferred none) (by rintro (e | e); omega; exact hnD e)))
      have HK4 := Lib.hid hK
      clear hI hK HGI HSEQ hnD
      gi_wp2
      refine ⟨by simp, .inl ⟨_, _, rfl, run_takeDeferred HK4.out, ?_⟩⟩
      exact ⟨_, results_none rfl _ _ _, ⟨_, rfl⟩, Co, .inl (by rw [← HLL.out]; exact HF.out)⟩
    case stop =>
      rintro D c pre C X hD hCD ⟨rfl, Co, h1, hj⟩ hK
      have hX : W.heap.size ≤ X.heap.size := by have := lt_of_block hK; omega
      have hst := rng.Steps.putObj (fun k => k < W.heap.size ∨ Co k) X D (.deferred none) (by rintro (e | e); omega; exact hCD (h1 _ e))
      have HF : Hid (∃ C', J (riseL l o) C' (X.putObj D (.deferred none)) ∨ ∃ told, Jx told C' (X.putObj D (.deferred none))) := Lib.hid (by
        rcases hj with hj | ⟨told, hj⟩
        · exact ⟨Co, .inl (HJ.out _ _ _ _ hj hX hst)⟩
        · exact ⟨Co, .inr ⟨told, HJX.out _ _ _ _ hj hX hst⟩⟩)
      have HK4 := Lib.hid hK
      clear hj hst hK HGI HSEQ
      gi_wp2
      refine ⟨by simp, .inl ⟨_, _, rfl, run_takeDeferred HK4.out, ?_⟩⟩
      exact ⟨_, results_none rfl _ _ _, ⟨_, rfl⟩, HF.out⟩
  · have b4 := bal (w := w3) (.cells #[.int .i64 fl.2.1, .int .i64 fl.2.2] 24)
    have h4 := h13.trans (b4.mono h13.size)
    have hy4 := HYD.out _ (h3.trans (b4.mono h3.size))
    obtain ⟨e0, e1⟩ := HCX.out _ h4
    have HFR4 := Lib.hid (HFR.out _ h4)
    simp only [Option.map_some, Option.getD_some] at hfk
    have HK2 := Lib.hid (HK.out _ hfk.symm)
    clear HFR HFL HCX HYD HK h13 h3 b4 hfk HB1 hy3 d0 d1
    simp only [oK]
    gi_wp2
    refine ⟨trivial, ?_⟩
    refine (callsIn_wide.2 (HFR4.out _)).mono ?_
    rintro e w5 ⟨lb, rfl, hseq, h5⟩
    have hb5 := h4.trans (h5.mono h4.size)
    have hy5 := kcell h5 hy4
    have hz5 := h5.size
    have HSEQ := Lib.hid hseq
    have hWz : W.heap.size < w5.heap.size := World.block_lt_of_cell? w5 _ hy5
    have HGI : Hid (GvI W C0 l' tlV J [] C0 w5) := Lib.hid ⟨C0, gv_zero HJ.out HC0.out H0.out hb5 hy5⟩
    clear hseq h5 hy5 hy4 h4 HFR4 e0 e1 hz5
    have HPRE := Lib.hid (fun (pre : List (Int × Vt)) (y : Int × Vt) hp => tlV_pre HK2.out (pre := pre) (y := y) hp)
    have hLL := HK2.out
    clear HK2
    generalize List.filter _ M = L at *
    have HLL := Lib.hid hLL
    clear hLL
    gi_wp2
    refine wpIn_rangeBoxP (fun (b : Nat) (y : Int × Vt) (t : Array Value) => ((t.setIfInBounds 24 (.int .i64 y.1)).setIfInBounds 25 (spV y.2)).setIfInBounds 8 (.pointer (some ⟨b, 0, none⟩))) (gf := 95) (lb := lb) (L := L) (A := C0) (w0 := w5) (encs := kvE) rfl eg_kv HSEQ.out (Below.refl _ _) (fun _ => rfl)
      (GvI W C0 l' tlV J) (GvX (riseL l o) J Jx) C0 ?hc0 (gvi_bears HJ.out hWz) (gvx_bears HJ.out HJX.out (by omega)) HGI.out (GvB W C0 l' tlV J (fun y => y.2) w5.heap.size) (gvb_bears HJ.out hWz) ?assign ?body ?done ?stop
    case hc0 =>
      intro k hk
      have := HC0.out k hk
      exact ⟨.inl hk, by omega⟩
    case assign =>
      rintro l2 pre y C X K ⟨Co, hI⟩ hp hc hz hK
      obtain ⟨g1, g2, g3⟩ := gv_box HJ.out hI (by omega) y.2
      have HK := Lib.hid (hK X.heap.size _ _ g1 ⟨Co, g2⟩ ⟨Co, g2, sp_new X y.2, .inr rfl, g3, hz⟩)
      clear hK hI hp hc g1 g2 g3
      gi_wp2
      exact HK.out
    case body =>
      rintro l2 pre y b C X _ ⟨Co, hI, hyb, hCb, hnb, hbD⟩ hp hcc hz
      have hpr := HPRE.out pre y hp
      have HI := Lib.hid hI
      have hyd := hI.yd
      have e2 := hyb.c0; have e3 := hyb.c1
      have hyq := HY.out _ _ Co X hI.j hI.it.kept.size hpr
      obtain ⟨fn, tmps, assign, body, hyy, hYY⟩ := hyq.inRound l2 3
      clear hyq hpr hI hcc HSEQ HGI hyb
      simp only [List.setIfInBounds_toArray, List.set_cons_zero, List.set_cons_succ]
      generalize hRP : rPost (GvI W C0 l' tlV J) (GvX (riseL l o) J Jx) (pre ++ [y]) C X = RP at *
      have HRN := Lib.hid (fun (C' : Nat → Prop) (W' : World) (hr : Round C X C' W') (hg : GvI W C0 l' tlV J (pre ++ [y]) C' W') (a' : Act) => show RP .normal a' W' from by rw [← hRP]; exact ⟨C', hr, hg⟩)
      have HRR := Lib.hid (fun (C' : Nat → Prop) (W' : World) (hr : Round C X C' W') (hg : GvX (riseL l o) J Jx .ret (pre ++ [y]) C' W') (a' : Act) => show RP .ret a' W' from by rw [← hRP]; exact ⟨C', hr, hg⟩)
      clear hRP
      gi_wp2
      refine hYY.mono ?_
      clear hyy hYY
      rintro e w6 ⟨C2, hr2, ⟨rfl, hJ2⟩ | ⟨rfl, hJ2⟩⟩
      · obtain ⟨C', hrr, hgg⟩ := gv_next (y := y) HI.out (by omega) (Below.refl _ X) HI.out.it hr2 hJ2 (tlV_snoc pre y)
        have HFIN := Lib.hid (HRN.out C' _ hrr hgg)
        clear hrr hgg hr2 hJ2 e2 e3 hyd
        gi_wp2
        exact HFIN.out _
      · obtain ⟨C', hrr, hgg⟩ := gv_stop (xs := pre ++ [y]) (all := riseL l o) HI.out (Below.refl _ X) hr2 hJ2
        have HFIN := Lib.hid (HRR.out C' _ hrr hgg)
        clear hrr hgg hr2 hJ2 e2 e3 hyd
        gi_wp2
        exact HFIN.out _
    case done =>
      rintro D C X hD hCD ⟨Co, hI⟩ hK
      have hnD : ¬ Co D := fun e => hCD (hI.sub _ e)
      have HF := Lib.hid (HJ.out _ _ _ _ hI.j hI.it.kept.size (rng.Steps.putObj (fun k => k < W.heap.size ∨ Co k) X D (.deferred none) (by rintro (e | e); omega; exact hnD e)))
      have HK4 := Lib.hid hK
      clear hI hK HGI HSEQ hnD
      gi_wp2
      refine ⟨by simp, .inl ⟨_, _, rfl, run_takeDeferred HK4.out, ?_⟩⟩
      exact ⟨_, results_none rfl _ _ _, ⟨_, rfl⟩, Co, .inl (by rw [← HLL.out]; exact HF.out)⟩
    case stop =>
      rintro D c pre C X hD hCD ⟨rfl, Co, h1, hj⟩ hK
      have hX : W.heap.size ≤ X.heap.size := by have := lt_of_block hK; omega
      have hst := rng.Steps.putObj (fun k => k < W.heap.size ∨ Co k) X D (.deferred none) (by rintro (e | e); omega; exact hCD (h1 _ e))
      have HF : Hid (∃ C', J (riseL l o) C' (X.putObj D (.deferred none)) ∨ ∃ told, Jx told C' (X.putObj D (.deferred none))) := Lib.hid (by
        rcases hj with hj | ⟨told, hj⟩
        · exact ⟨Co, .inl (HJ.out _ _ _ _ hj hX hst)⟩
        · exact ⟨Co, .inr ⟨told, HJX.out _ _ _ _ hj hX hst⟩⟩)
      have HK4 := Lib.hid hK
      clear hj hst hK HGI HSEQ
      gi_wp2
      refine ⟨by simp, .inl ⟨_, _, rfl, run_takeDeferred HK4.out, ?_⟩⟩
      exact ⟨_, results_none rfl _ _ _, ⟨_, rfl⟩, HF.out⟩

theorem eg_rise (args : Array Value) (w : World) : (callFunc 82 args).run Try.prog w = .ok (.enter 82 args) w := by kernel_rfl
/-- the spans from an offset on -/
theorem rise_any {w0 w : World} {p : Option Addr} {t : T} {l : List Sp} (hb0 : Below w0.heap.size w0 w) (h : TrO w0 p t) (ht : t.toL = l.map ky) (hl : Rn l) (o : Int) (A : Nat → Prop) (hA : FarR w0 w A) :
    Calls Try.prog 75 #[.agg #[.pointer p], .int .i64 o] w (SeqS 82 (riseL l o) A w) := by
  have b1 := bal (w := w) (.cells #[.pointer p] 56)
  have x1 := heap_alloc_new w (.cells #[.pointer p] 56)
  have hz1 : (w.alloc (.cells #[.pointer p] 56)).heap.size = w.heap.size + 1 := by simp
  have b2 := bal (w := w.alloc (.cells #[.pointer p] 56)) (.cells #[.int .i64 o] 3)
  have x2 := heap_alloc_new (w.alloc (.cells #[.pointer p] 56)) (.cells #[.int .i64 o] 3)
  rw [hz1] at x2
  have c1 := cofr ((b2.block _ (lt_of_block x1)).trans x1) 0 _ rfl
  have c2 := cofr x2 0 _ rfl
  have b3 := b1.trans (b2.mono b1.size)
  have HF := Lib.hid (show SeqS 82 (riseL l o) A w (.returned (.func (.func 82) #[] #[.pointer (some ⟨w.heap.size, 0, none⟩), .pointer (some ⟨w.heap.size + 1, 0, none⟩)])) _ from
    ⟨_, rfl, rise1_seq (A := A) (hb0.trans (b3.mono hb0.size)) h ht hl c1 c2 (hA.later b3), b3⟩)
  clear b1 x1 hz1 b2 x2 c1 c2 b3 hA h hb0 ht hl
  go_enter Try.func75, Try.ntmps75
  go_wp2_with fail
  go_ret
  exact HF.out
end Go.Proofs.Ytegbkeichkifnaa.bd
/-!   Package board: going through what of a span is in.
-/
namespace Go.Proofs.Ytegbkeichkifnaa.bd
open Go.RowKit Go.Shelf aid mem rng sp rn bv
attribute [local go_sem] Oper.semAt_some
set_option linter.unusedVariables false
set_option linter.unusedSimpArgs false

set_option maxRecDepth 100000 in
set_option maxHeartbeats 4000000 in
theorem parts1_seq {w0 w : World} {p : Option Addr} {t : T} {l : List Sp} {s : Sp} {bx bs : Nat} {A : Nat → Prop} (hb0 : Below w0.heap.size w0 w) (h : TrO w0 p t) (ht : t.toL = l.map ky) (hl : Rn l) (hx : w.cell? ⟨bx, 0, none⟩ = some (.pointer p)) (hs : SpAt w bs s) (has : ¬ A bs) (hA : FarR w0 w A) :
    SeqOf Try.prog 74 #[.pointer (some ⟨bx, 0, none⟩), .pointer (some ⟨bs, 0, none⟩)] spE (partsL l s) A w := by
  intro l' J Jx C0 W hW hC hJ hJx hY h0
  have hwW := hW.size
  have hbW := hb0.trans (hW.mono hb0.size)
  have hF := hA.sub hb0 hC
  have cx := kcell hW hx
  have sW := hs.later hW
  have ns : ¬ C0 bs := fun e => by
    rcases (hC _ e).1 with q | q
    · exact has q
    · have := hs.lt; omega
  show Calls Try.prog 74 #[.func (.yield l') #[] #[], .pointer (some ⟨bx, 0, none⟩), .pointer (some ⟨bs, 0, none⟩)] W _
  refine (callsIn_wide (n := 6)).1 ?_
  refine callsIn_of_wp_marks Try.func74 rfl trivial ?_ rfl
  simp only [Try.ntmps74, List.size_toArray, List.length_cons, List.length_nil, Nat.reduceAdd, Nat.reduceSub, Array.replicate_succ, Array.replicate_zero, List.push_toArray, List.append_toArray, List.nil_append, List.cons_append]
  have b1 := bal (w := W) (.cells #[.func (.yield l') #[] #[]] 40)
  have y1 := heap_alloc_new W (.cells #[.func (.yield l') #[] #[]] 40)
  have HY := Lib.hid hY
  have HJ := Lib.hid hJ
  have HJX := Lib.hid hJx
  have HC0 := Lib.hid (fun k hk => (hC k hk).2)
  have H0 := Lib.hid h0
  have HRS := Lib.hid (rise_any (hbW.trans (b1.mono hbW.size)) h ht hl s.1 C0 (hF.later b1))
  have q0 := kcell b1 cx
  have q1 := (sW.later b1).c0
  have y2 := cofr y1 0 _ rfl
  have HB1 := Lib.hid b1
  have HSK := Lib.hid (fun C W1 (hI : It C0 W C W1) => show SpAt W1 bs s from hI.kept.heap (k := bs) ns sW)
  have HPRE := Lib.hid (fun (pre : List Sp) (y : Sp) (hp : pre ++ [y] <+: riseL l s.1) => show partsL pre s ++ ne (meetP y s) <+: partsL l s from by rw [← parts_rise hl s]; exact parts_pre hp)
  have HALL := Lib.hid (fun (pre : List Sp) (y : Sp) (hp : pre ++ [y] <+: riseL l s.1) (hy : s.2 ≤ y.1) => show partsL pre s = partsL l s from by
    rw [← parts_rise hl s]
    obtain ⟨rest, e⟩ := of_prefix hp
    exact (parts_stop (rise_rn hl s.1) e hy).symm)
  have HLL := Lib.hid (parts_rise hl s)
  clear hY hJ hJx hC h0 hx hs h ht hl hbW hF cx sW b1 y1 hA hW hb0 hwW has ns
  generalize riseL l s.1 = R at *
  have hmo : Try.prog.follows .mixedOrders = true := by kernel_rfl
  gi_wp2
  refine ⟨trivial, ?_⟩
  refine (callsIn_wide.2 HRS.out).mono ?_
  rintro e w5 ⟨lb, rfl, hseq, h5⟩
  have hb5 := HB1.out.trans (h5.mono HB1.out.size)
  have hy5 := kcell h5 y2
  have HSEQ := Lib.hid hseq
  have hWz : W.heap.size < w5.heap.size := World.block_lt_of_cell? w5 _ hy5
  have HGI : Hid (GvI W C0 l' (fun pre => partsL pre s) J [] C0 w5) := Lib.hid ⟨C0, gv_zero HJ.out HC0.out H0.out hb5 hy5⟩
  clear hseq h5 hy5 y2 q0 q1 hb5 HB1 HRS
  gi_wp2
  refine wpIn_rangeBoxP (fun (b : Nat) (y : Sp) (t : Array Value) => (t.setIfInBounds 10 (spV y)).setIfInBounds 4 (.pointer (some ⟨b, 0, none⟩))) (gf := 82) (lb := lb) (L := R) (A := C0) (w0 := w5) (encs := spE) rfl eg_rise HSEQ.out (Below.refl _ _) (fun _ => rfl)
    (GvI W C0 l' (fun pre => partsL pre s) J) (GvX (partsL l s) J Jx) C0 ?hc0 (gvi_bears HJ.out hWz) (gvx_bears HJ.out HJX.out (by omega)) HGI.out (GvB W C0 l' (fun pre => partsL pre s) J (fun y => y) w5.heap.size) (gvb_bears HJ.out hWz) ?assign ?body ?done ?stop
  case hc0 =>
    intro k hk
    have := HC0.out k hk
    exact ⟨.inl hk, by omega⟩
  case assign =>
    rintro l2 pre y C X K ⟨Co, hI⟩ hp hc hz hK
    obtain ⟨g1, g2, g3⟩ := gv_box HJ.out hI (by omega) y
    have HK := Lib.hid (hK X.heap.size _ _ g1 ⟨Co, g2⟩ ⟨Co, g2, sp_new X y, .inr rfl, g3, hz⟩)
    clear hK hI hp hc g1 g2 g3
    gi_wp2
    exact HK.out
  case body =>
    rintro l2 pre y b C X _ ⟨Co, hI, hyb, hCb, hnb, hbD⟩ hp hcc hz
    have hpr := HPRE.out pre y hp
    have hal := HALL.out pre y hp
    have hsn := parts_snoc pre y s
    have HMT := Lib.hid (fun X => meet_any y s X)
    generalize meetP y s = m at *
    have HLN := Lib.hid (fun X => len_any m X)
    have HPR := Lib.hid hpr
    have HSN := Lib.hid hsn
    have HAL := Lib.hid hal
    have hsX := HSK.out _ _ hI.it
    have HI := Lib.hid hI
    have hyd := hI.yd
    have e0 := hsX.c0; have e1 := hsX.c1
    have e2 := hyb.c0; have e3 := hyb.c1
    clear hpr hsn hal hI hcc HSEQ HGI hp
    simp only [List.setIfInBounds_toArray, List.set_cons_zero, List.set_cons_succ]
    generalize hRP : rPost (GvI W C0 l' (fun pre => partsL pre s) J) (GvX (partsL l s) J Jx) (pre ++ [y]) C X = RP at *
    have HRN := Lib.hid (fun (C' : Nat → Prop) (W' : World) (hr : Round C X C' W') (hg : GvI W C0 l' (fun pre => partsL pre s) J (pre ++ [y]) C' W') (a' : Act) => show RP .normal a' W' from by rw [← hRP]; exact ⟨C', hr, hg⟩)
    have HRR := Lib.hid (fun (C' : Nat → Prop) (W' : World) (hr : Round C X C' W') (hg : GvX (partsL l s) J Jx .ret (pre ++ [y]) C' W') (a' : Act) => show RP .ret a' W' from by rw [← hRP]; exact ⟨C', hr, hg⟩)
    clear hRP
    by_cases hst : s.2 ≤ y.1
    · obtain ⟨C', hrr, hgg⟩ := gv_all (Jx := Jx) (xs := pre ++ [y]) (all := partsL l s) HJ.out HI.out (Below.refl _ X) (HAL.out hst)
      have HFIN := Lib.hid (HRR.out C' _ hrr hgg)
      clear hrr hgg hyd hsX hyb
      gi_wp2
      exact HFIN.out _
    · gi_wp2
      refine ⟨trivial, ?_⟩
      refine (callsIn_wide.2 (HMT.out _)).mono ?_
      rintro e w2 ⟨rfl, h2⟩
      have b3 := bal (w := w2) (.cells #[.int .i64 m.1, .int .i64 m.2] 24)
      have h3 := h2.trans (b3.mono h2.size)
      have m3 := sp_new w2 m
      have hyd3 := kcell h3 hyd
      clear e0 e1 e2 e3 b3 h2 HMT hst hyb hsX hyd
      have d0 := m3.c0; have d1 := m3.c1
      gi_wp2
      refine ⟨trivial, ?_⟩
      refine (callsIn_wide.2 (HLN.out _)).mono ?_
      rintro e w4 ⟨rfl, h4⟩
      have h34 := h3.trans (h4.mono h3.size)
      have m4 := m3.later h4
      have hyd4 := kcell h4 hyd3
      clear d0 d1 hyd3 m3 h4 h3 HLN
      have hg4 := gv_own (D := X.heap.size) HJ.out (by omega) HI.out (Steps.of_below h34 _)
      by_cases hm : 0 < lenI m
      · have hne : ne m = [m] := by unfold ne; rw [if_neg (by omega)]
        have hpr := HPR.out
        rw [hne] at hpr
        have hyq := HY.out _ _ Co w4 hg4.j hg4.it.kept.size hpr
        obtain ⟨fn, tmps, assign, body, hyy, hYY⟩ := hyq.inRound l2 3
        have q0 := m4.c0; have q1 := m4.c1
        have HNE := Lib.hid hne
        have HG4 := Lib.hid hg4
        have HH := Lib.hid h34
        clear hyq hpr hne hg4 h34 m4
        gi_wp2
        refine hYY.mono ?_
        clear hyy hYY q0 q1
        rintro e w6 ⟨C2, hr2, ⟨rfl, hJ2⟩ | ⟨rfl, hJ2⟩⟩
        · obtain ⟨C', hrr, hgg⟩ := gv_next (tl := fun pre => partsL pre s) (y := y) HI.out (by omega) HH.out HG4.out.it hr2 hJ2 (by show partsL (pre ++ [y]) s = _; rw [HSN.out, HNE.out])
          have HFIN := Lib.hid (HRN.out C' _ hrr hgg)
          clear hrr hgg hr2 hJ2 hyd4 hm
          gi_wp2
          exact HFIN.out _
        · obtain ⟨C', hrr, hgg⟩ := gv_stop (J := J) (xs := pre ++ [y]) (all := partsL l s) HI.out HH.out hr2 hJ2
          have HFIN := Lib.hid (HRR.out C' _ hrr hgg)
          clear hrr hgg hr2 hJ2 hyd4 hm
          gi_wp2
          exact HFIN.out _
      · have hne : ne m = [] := by unfold ne; rw [if_pos (by have := (lenI_bd m).1; omega)]
        obtain ⟨C', hrr, hgg⟩ := gv_skip (tl := fun pre => partsL pre s) (y := y) HJ.out HI.out (by omega) h34 (by show partsL (pre ++ [y]) s = _; rw [HSN.out, hne, List.append_nil])
        have HFIN := Lib.hid (HRN.out C' _ hrr hgg)
        have q0 := m4.c0; have q1 := m4.c1
        clear hrr hgg hg4 hyd4 hne m4 h34
        gi_wp2
        refine ⟨(fun f hf => by cases hf), ?_⟩
        gi_wp2
        exact HFIN.out _
  case done =>
    rintro D C X hD hCD ⟨Co, hI⟩ hK
    have hnD : ¬ Co D := fun e => hCD (hI.sub _ e)
    have HF := Lib.hid (HJ.out _ _ _ _ hI.j hI.it.kept.size (rng.Steps.putObj (fun k => k < W.heap.size ∨ Co k) X D (.deferred none) (by rintro (e | e); omega; exact hnD e)))
    have HK4 := Lib.hid hK
    clear hI hK HGI HSEQ hnD
    gi_wp2
    refine ⟨by simp, .inl ⟨_, _, rfl, run_takeDeferred HK4.out, ?_⟩⟩
    exact ⟨_, results_none rfl _ _ _, ⟨_, rfl⟩, Co, .inl (by rw [← HLL.out]; exact HF.out)⟩
  case stop =>
    rintro D c pre C X hD hCD ⟨rfl, Co, h1, hj⟩ hK
    have hX : W.heap.size ≤ X.heap.size := by have := lt_of_block hK; omega
    have hst := rng.Steps.putObj (fun k => k < W.heap.size ∨ Co k) X D (.deferred none) (by rintro (e | e); omega; exact hCD (h1 _ e))
    have HF : Hid (∃ C', J (partsL l s) C' (X.putObj D (.deferred none)) ∨ ∃ told, Jx told C' (X.putObj D (.deferred none))) := Lib.hid (by
      rcases hj with hj | ⟨told, hj⟩
      · exact ⟨Co, .inl (HJ.out _ _ _ _ hj hX hst)⟩
      · exact ⟨Co, .inr ⟨told, HJX.out _ _ _ _ hj hX hst⟩⟩)
    have HK4 := Lib.hid hK
    clear hj hst hK HGI HSEQ
    gi_wp2
    refine ⟨by simp, .inl ⟨_, _, rfl, run_takeDeferred HK4.out, ?_⟩⟩
    exact ⟨_, results_none rfl _ _ _, ⟨_, rfl⟩, HF.out⟩
theorem eg_parts (args : Array Value) (w : World) : (callFunc 74 args).run Try.prog w = .ok (.enter 74 args) w := by kernel_rfl
/-- what of a span is in -/
theorem sparts_any {w0 w : World} {p : Option Addr} {t : T} {l : List Sp} (hb0 : Below w0.heap.size w0 w) (h : TrO w0 p t) (ht : t.toL = l.map ky) (hl : Rn l) (s : Sp) (A : Nat → Prop) (hA : FarR w0 w A) :
    Calls Try.prog 55 #[.agg #[.pointer p], spV s] w (SeqS 74 (partsL l s) A w) := by
  have b1 := bal (w := w) (.cells #[.pointer p] 56)
  have x1 := heap_alloc_new w (.cells #[.pointer p] 56)
  have hz1 : (w.alloc (.cells #[.pointer p] 56)).heap.size = w.heap.size + 1 := by simp
  have b2 := bal (w := w.alloc (.cells #[.pointer p] 56)) (.cells #[.int .i64 s.1, .int .i64 s.2] 24)
  have s2 := sp_new (w.alloc (.cells #[.pointer p] 56)) s
  rw [hz1] at s2
  have c1 := cofr ((b2.block _ (lt_of_block x1)).trans x1) 0 _ rfl
  have b3 := b1.trans (b2.mono b1.size)
  have HF := Lib.hid (show SeqS 74 (partsL l s) A w (.returned (.func (.func 74) #[] #[.pointer (some ⟨w.heap.size, 0, none⟩), .pointer (some ⟨w.heap.size + 1, 0, none⟩)])) _ from
    ⟨_, rfl, parts1_seq (A := A) (hb0.trans (b3.mono hb0.size)) h ht hl c1 s2 (fun e => by have := (hA _ e).1; omega) (hA.later b3), b3⟩)
  clear b1 x1 hz1 b2 s2 c1 b3 hA h hb0 ht hl
  go_enter Try.func55, Try.ntmps55
  go_wp2_with fail
  go_ret
  exact HF.out
end Go.Proofs.Ytegbkeichkifnaa.bd
/-!   Package board: those that touch one.
-/
namespace Go.Proofs.Ytegbkeichkifnaa.bd
open Go.RowKit Go.Shelf aid mem rng sp rn bv
attribute [local go_sem] Oper.semAt_some
set_option linter.unusedVariables false
set_option linter.unusedSimpArgs false

/-- between two rounds: those so far, and the span -/
def NI (w : World) (B bs : Nat) (s : Sp) (pre : List Sp) (C : Nat → Prop) (X : World) : Prop := ToldI w B (nearL pre s) C X ∧ SpAt X bs s ∧ ¬ C bs
def NX (w : World) (B : Nat) (all : List Sp) (c : Code) (pre : List Sp) (C : Nat → Prop) (X : World) : Prop := c = .exit 0 ∧ ToldI w B all C X
def NB (B bs D : Nat) (b : Nat) (y : Sp) (C : Nat → Prop) (X : World) : Prop := SpAt X b y ∧ D ≤ b ∧ C b ∧ (∃ v0, X.heap[B]? = some (.cells #[v0] 30 (0, 0)) ∧ v0.ownBlock ≠ some b)
theorem told_later {w X Y : World} {B : Nat} {pre : List Sp} {C : Nat → Prop} (h : ToldI w B pre C X) (hb : Below X.heap.size X Y) : ToldI w B pre C Y := by
  obtain ⟨v, h1, h2, h3, h4, h5⟩ := h
  exact ⟨v, (hb.block _ (lt_of_block h1)).trans h1, h2, own_later h3 hb, h4, h5.trans (hb.mono h5.size)⟩
theorem ni_bears {w : World} {B bs n : Nat} {s : Sp} (hn : w.heap.size ≤ n) (hs : bs < n) : Bears n (NI w B bs s) := by
  rintro pre C X Y ⟨h1, h2, h3⟩ hz hst
  exact ⟨told_bears w B n hn _ _ _ _ h1 hz hst, hst.heap (.inl hs) h2, h3⟩
set_option maxRecDepth 100000 in
set_option maxHeartbeats 4000000 in
theorem near_any {w : World} {p : Option Addr} {t : T} {l : List Sp} {s : Sp} (h : TrO w p t) (ht : t.toL = l.map ky) (hl : Rn l) (hn : l.length ≤ 10000) (hs : ROk s) :
    Calls Try.prog 60 #[.agg #[.pointer p], spV s] w (rn.Told (nearL l s) w) := by
  have b1 := bal (w := w) (.cells #[.pointer p] 56)
  have x1 := heap_alloc_new w (.cells #[.pointer p] 56)
  have hz1 : (w.alloc (.cells #[.pointer p] 56)).heap.size = w.heap.size + 1 := by simp
  have b2 := bal (w := w.alloc (.cells #[.pointer p] 56)) (.cells #[.int .i64 s.1, .int .i64 s.2] 24)
  have s2 := sp_new (w.alloc (.cells #[.pointer p] 56)) s
  have hz2 : ((w.alloc (.cells #[.pointer p] 56)).alloc (.cells #[.int .i64 s.1, .int .i64 s.2] 24)).heap.size = w.heap.size + 1 + 1 := by simp
  rw [hz1] at s2
  have b12 := b1.trans (b2.mono b1.size)
  have x2 := (b2.block _ (lt_of_block x1)).trans x1
  generalize hw2 : (w.alloc (.cells #[.pointer p] 56)).alloc (.cells #[.int .i64 s.1, .int .i64 s.2] 24) = w2 at *
  have b3 := bal (w := w2) (.cells #[.slice none 0 0] 30)
  have x3 := heap_alloc_new w2 (.cells #[.slice none 0 0] 30)
  rw [hz2] at x3
  have b13 := b12.trans (b3.mono b12.size)
  have HR := Lib.hid (rise_any (w0 := w) b13 h ht hl s.1 (fun k => k = w.heap.size + 1 + 1) (FarR.of b13 (fun k hk => by rw [hk]; simp; omega)))
  have q0 := cofr ((b3.block _ (lt_of_block x2)).trans x2) 0 _ rfl
  have q1 := (s2.later b3).c0
  have HX3 := Lib.hid x3
  have HS3 := Lib.hid (s2.later b3)
  have HB3 := Lib.hid b13
  have HLN := Lib.hid (show (riseL l s.1).length ≤ 10000 from Nat.le_trans (List.length_filter_le _ _) hn)
  have HALL := Lib.hid (fun (pre : List Sp) (y : Sp) (hp : pre ++ [y] <+: riseL l s.1) (hy : s.2 < y.1) => show nearL pre s = nearL l s from by
    rw [← near_rise hl hs]
    obtain ⟨rest, e⟩ := of_prefix hp
    exact (near_stop (rise_rn hl s.1) hs e hy).symm)
  have HLL := Lib.hid (near_rise hl hs)
  clear b1 x1 hz1 b2 s2 b12 x2 b3 x3 b13 h ht hl hn hs
  refine (callsIn_wide (n := 6)).1 ?_
  refine callsIn_of_wp_marks Try.func60 rfl trivial ?_ rfl
  simp only [Try.ntmps60, List.size_toArray, List.length_cons, List.length_nil, Nat.reduceAdd, Nat.reduceSub, Array.replicate_succ, Array.replicate_zero, List.push_toArray, List.append_toArray, List.nil_append, List.cons_append]
  generalize riseL l s.1 = R at *
  generalize nearL l s = NL at *
  gi_wp2
  rw [hw2] at *
  refine ⟨trivial, ?_⟩
  refine (callsIn_wide.2 HR.out).mono ?_
  rintro e w5 ⟨lb, rfl, hseq, h5⟩
  have hb5 := HB3.out.trans (h5.mono HB3.out.size)
  have hz5 := h5.size
  have hx5 := (h5.block _ (lt_of_block HX3.out)).trans HX3.out
  have hs5 := HS3.out.later h5
  have HSEQ := Lib.hid hseq
  have hB5 := lt_of_block hx5
  obtain ⟨B, hB⟩ : ∃ B, B = w.heap.size + 1 + 1 := ⟨_, rfl⟩
  obtain ⟨bs, hbs⟩ : ∃ bs, bs = w.heap.size + 1 := ⟨_, rfl⟩
  rw [hz2] at *
  rw [← hB] at hx5 HSEQ hB5 ⊢
  rw [← hbs] at hs5 ⊢
  have hwB : w.heap.size ≤ B := by omega
  have hbB : bs < B := by omega
  have HNI : Hid (NI w B bs s [] (fun k => k = B) w5) := Lib.hid ⟨⟨.slice none 0 0, hx5, rfl, World.ownsRow_nil _ _ _ _, (fun k hk => by cases hk), hb5⟩, hs5, by omega⟩
  clear hseq h5 q0 q1 hb5 HB3 HR hx5 hs5 HX3 HS3 hB hbs hz5 hz2 hw2
  gi_wp2
  refine wpIn_rangeBoxP (fun (b : Nat) (y : Sp) (t : Array Value) => (t.setIfInBounds 11 (spV y)).setIfInBounds 6 (.pointer (some ⟨b, 0, none⟩))) (gf := 82) (lb := lb) (L := R) (A := fun k => k = B) (w0 := w5) (encs := spE) rfl eg_rise HSEQ.out (Below.refl _ _) (fun _ => rfl)
    (NI w B bs s) (NX w B NL) (fun k => k = B) ?hc0 (ni_bears (by omega) (by omega)) ?hIx HNI.out (fun (pre : List Sp) => NB B bs w5.heap.size) ?hB ?assign ?body ?done ?stop
  case hc0 => rintro k rfl; exact ⟨.inl rfl, hB5⟩
  case hIx =>
    rintro c pre C X Y ⟨rfl, h⟩ hz hst
    exact ⟨rfl, told_bears w B _ (by omega) _ _ _ _ h hz hst⟩
  case hB =>
    rintro pre b y _ C X Y ⟨h1, h2, h3, v0, h4, h5⟩ hz hst
    exact ⟨hst.heap (.inr h3) h1, h2, h3, v0, hst.heap (.inl hB5) h4, h5⟩
  case assign =>
    rintro l2 pre y C X K ⟨⟨v, h1, h2, h3, h4, h5⟩, h6, h7⟩ hp hc hz hK
    have b1 := bal (w := X) (.cells #[.int .i64 y.1, .int .i64 y.2] 24)
    have h1' := (b1.block _ (lt_of_block h1)).trans h1
    have h6' := h6.later b1
    have HK := Lib.hid (hK X.heap.size (fun k => C k ∨ k = X.heap.size) _ ⟨Steps.of_below b1 _, fun k hk => by rcases hk with hk | rfl; exact .inl hk; exact .inr ⟨Nat.le_refl _, by simp⟩⟩
      ⟨⟨v, h1', .inl h2, own_later h3 b1, fun k hk => ⟨.inl (h4 k hk).1, (h4 k hk).2⟩, h5.trans (b1.mono h5.size)⟩, h6', fun e => by rcases e with e | e; exact h7 e; omega⟩ ⟨sp_new X y, hz, .inr rfl, v, h1', fun e => by have := (own_in h3 e).1; omega⟩)
    clear hK h1 h1' h2 h3 h4 h5 h6 h6' h7 hp hc b1
    gi_wp2
    exact HK.out
  case body =>
    rintro l2 pre y b C X ⟨⟨v, h1, h2, h3, h4, h5⟩, h6, h7⟩ ⟨hyb, hb, hcb, v0, hv0, hvb0⟩ hp hcc hz
    have hlen : (nearL pre s).length < 1000000 := by
      have a1 := hp.length_le
      have a2 := HLN.out
      have a3 : (nearL pre s).length ≤ pre.length := List.length_filter_le _ _
      rw [List.length_append, List.length_singleton] at a1
      omega
    have hsn := near_snoc pre y s
    have HAL := Lib.hid (HALL.out pre y hp)
    have e0 := hyb.c0; have e1 := hyb.c1
    have e2 := h6.c0; have e3 := h6.c1
    have HT := Lib.hid (fun X => touch_any y s X)
    have HTI : Hid (ToldI w B (nearL pre s) C X) := Lib.hid ⟨v, h1, h2, h3, h4, h5⟩
    have HYB := Lib.hid hyb
    have HCC := Lib.hid hcc
    have hbs : bs < X.heap.size := by omega
    obtain rfl : v0 = v := by rw [h1] at hv0; injection hv0 with e; injection e with e; simpa using e.symm
    have H6 := Lib.hid h6
    simp only [List.setIfInBounds_toArray, List.set_cons_zero, List.set_cons_succ]
    generalize hRP : rPost (NI w B bs s) (NX w B NL) (pre ++ [y]) C X = RP at *
    have HRN := Lib.hid (fun (C' : Nat → Prop) (W' : World) (hr : Round C X C' W') (hg : NI w B bs s (pre ++ [y]) C' W') (a' : Act) => show RP .normal a' W' from by rw [← hRP]; exact ⟨C', hr, hg⟩)
    have HRE := Lib.hid (fun (C' : Nat → Prop) (W' : World) (hr : Round C X C' W') (hg : NX w B NL (.exit 0) (pre ++ [y]) C' W') (a' : Act) => show RP (.exit 0) a' W' from by rw [← hRP]; exact ⟨C', hr, hg⟩)
    have H1 := Lib.hid h1
    have H3 := Lib.hid h3
    have H4 := Lib.hid h4
    have HV := Lib.hid (fun k hk => (own_in h3 (k := k) hk).2)
    have H5 := Lib.hid h5
    have H2 := Lib.hid h2
    have H7 := Lib.hid h7
    clear hRP h1 h3 h4 h5 h2 h7 h6 hyb hcc hp HSEQ HNI HALL HLL HLN hv0
    by_cases hst : s.2 < y.1
    · have HFIN := Lib.hid (HRE.out C X (Round.refl _ _) ⟨rfl, by rw [← HAL.out hst]; exact HTI.out⟩)
      clear hsn
      gi_wp2
      exact HFIN.out _
    · gi_wp2
      refine ⟨trivial, ?_⟩
      refine (callsIn_wide.2 (HT.out _)).mono ?_
      rintro e w2 ⟨rfl, h2⟩
      by_cases htc : touchB y s = true
      · rw [if_pos htc] at hsn
        have HSN := Lib.hid hsn
        rw [htc]
        have c2 := (HYB.out.later h2).c0; have c3 := (HYB.out.later h2).c1
        have x1 := (h2.block _ (lt_of_block H1.out)).trans H1.out
        have cB := cofr x1 0 _ rfl
        have hsrc := span_src w2 y
        have own2 := own_later (own_later H3.out h2) (bal (w := w2) (.cells #[.int .i64 y.1, .int .i64 y.2] 24))
        have d1 := kcell (bal (w := w2) (.cells #[.int .i64 y.1, .int .i64 y.2] 24)) cB
        have HN := Lib.hid (fun (w1 : World) (v' : Value) => told_next (w := w) (X := w2) (w1 := w1) (pre := nearL pre s) (x := y) (v' := v') x1 H2.out H4.out (H5.out.trans (h2.mono H5.out.size)) hwB rfl)
        have HO := Lib.hid own2
        have HSRC := Lib.hid hsrc
        have HX1 := Lib.hid x1
        have HH2 := Lib.hid h2
        obtain ⟨i0, hi, hz0, hz1, hz2⟩ := info_split info_span
        clear x1 own2 hsrc h2 hsn e0 e1 e2 e3 hst htc
        gi_wp2_with (gi_at_builtin; refine wpListIn_append_sz _ rfl (.tmp 20) (.tmp 22) 30 30 rfl w.heap.size 24 i0 (.agg #[.int .i64 0, .int .i64 0]) 2 16 Try.underlying30 hi hz0 hz1 (by decide) hz2 rfl v0 (nearL pre s).length (spCells (nearL pre s)) rfl HO.out _ rfl 1 [.int .i64 y.1, .int .i64 y.2] HSRC.out (by unfold maxLen; omega) (by omega) (by have := H5.out.size; have := HH2.out.size; simp; omega) ?_)
        intro a' cap' w1 ho hg hw
        obtain ⟨C', hr, hg'⟩ := HN.out w1 _ ho hg (by simpa using hw) HV.out
        have HF := Lib.hid (HRN.out C' _ ((Round.of_below HH2.out _).trans hr) ⟨by rw [HSN.out]; exact hg', hr.1.heap H7.out (H6.out.later HH2.out), fun e => by
          rcases hr.2 _ e with q | q
          · exact H7.out q
          · have := HH2.out.size; omega⟩)
        have hB1 : w1.heap[B]? = some (.cells #[v0] 30 (0, 0)) := (hg.block B (by have := lt_of_block HX1.out; simp; omega) (fun e => (H4.out _ e.symm).2 rfl)).trans ((bal (w := w2) (.cells #[.int .i64 y.1, .int .i64 y.2] 24)).block _ (lt_of_block HX1.out) |>.trans HX1.out)
        have g0 : w1.cell? ⟨B, 0, none⟩ = some v0 := (cell_of_row w1 B 0 _ _ (0, 0) hB1).trans rfl
        have g1 : w1.frozen? ⟨B, 0, none⟩ = false := by simp [World.frozen?, hB1]
        clear hB1 ho hg hw HO HSRC HN HV H1 H4 cB d1 c2 c3 hr hg'
        gi_wp2
        exact HF.out _
      · rw [if_neg htc, List.append_nil] at hsn
        have htf : touchB y s = false := by simpa using htc
        rw [htf]
        have HFIN := Lib.hid (HRN.out C w2 (Round.of_below h2 _) ⟨by rw [hsn]; exact told_later HTI.out h2, H6.out.later h2, H7.out⟩)
        clear e0 e1 e2 e3 hsn
        gi_wp2
        exact HFIN.out _
  case done =>
    rintro D C X hD hCD ⟨⟨v, h1, h2, h3, h4, h5⟩, h6, h7⟩ hK
    rw [HLL.out] at h3
    have cB := (cell_of_row X B 0 _ _ (0, 0) h1).trans rfl
    have nD : ∀ k, v.ownBlock = some k → k ≠ D := by rintro k hk rfl; exact hCD (h4 _ hk).1
    have hf : (X.putObj D (.deferred none)).ownsRow w.heap.size 24 2 v NL.length (spCells NL) := own_step h3 (fun k o hk ho => (World.putObj_heap_other (nD k hk)).trans ho)
    have hb' : Below w.heap.size w (X.putObj D (.deferred none)) := h5.trans ((rng.Steps.putObj (fun k => k < w.heap.size) X D _ (by omega)).below (n := w.heap.size) h5.size (fun k hk => hk))
    have HF := Lib.hid (show rn.Told NL w (.returned v) (X.putObj D (.deferred none)) from ⟨v, rfl, hf, hb'⟩)
    have HK4 := Lib.hid hK
    clear h1 h2 h3 h4 h5 h6 h7 nD hf hb' HSEQ HNI hK
    gi_wp2
    refine ⟨by simp, .inl ⟨_, _, rfl, run_takeDeferred HK4.out, ?_⟩⟩
    exact ⟨v, by simp [results, Try.results60, go_sem], HF.out⟩
  case stop =>
    rintro D c pre C X hD hCD ⟨rfl, ⟨v, h1, h2, h3, h4, h5⟩⟩ hK
    have cB := (cell_of_row X B 0 _ _ (0, 0) h1).trans rfl
    have nD : ∀ k, v.ownBlock = some k → k ≠ D := by rintro k hk rfl; exact hCD (h4 _ hk).1
    have hf : (X.putObj D (.deferred none)).ownsRow w.heap.size 24 2 v NL.length (spCells NL) := own_step h3 (fun k o hk ho => (World.putObj_heap_other (nD k hk)).trans ho)
    have hb' : Below w.heap.size w (X.putObj D (.deferred none)) := h5.trans ((rng.Steps.putObj (fun k => k < w.heap.size) X D _ (by omega)).below (n := w.heap.size) h5.size (fun k hk => hk))
    have HF := Lib.hid (show rn.Told NL w (.returned v) (X.putObj D (.deferred none)) from ⟨v, rfl, hf, hb'⟩)
    have HK4 := Lib.hid hK
    clear h1 h2 h3 h4 h5 nD hf hb' HSEQ HNI hK
    gi_wp2
    refine ⟨by simp, .inl ⟨_, _, rfl, run_takeDeferred HK4.out, ?_⟩⟩
    exact ⟨v, by simp [results, Try.results60, go_sem], HF.out⟩
end Go.Proofs.Ytegbkeichkifnaa.bd
/-!   Package board: its spans' tree: putting in.
-/
namespace Go.Proofs.Ytegbkeichkifnaa.bd
open Go.RowKit Go.Shelf aid mem rng sp rn bv
attribute [local go_sem ↓] Go.wp_at_zero Go.wp_at_succ
set_option linter.unusedVariables false
set_option linter.unusedSimpArgs false

/-- a tree of spans, as a list -/
def TL (w : World) (b : Nat) (l : List Sp) : Prop := ∃ t, TrAt w b t ∧ t.toL = l.map ky ∧ Rn l
theorem TL.later {w w' : World} {b : Nat} {l : List Sp} (h : TL w b l) (hb : Below w.heap.size w w') : TL w' b l := by
  obtain ⟨t, h1, h2⟩ := h
  exact ⟨t, h1.later hb, h2⟩
theorem TL.lt {w : World} {b : Nat} {l : List Sp} (h : TL w b l) : b < w.heap.size := by
  obtain ⟨t, h1, h2⟩ := h
  exact h1.lt
theorem TL.rn {w : World} {b : Nat} {l : List Sp} (h : TL w b l) : Rn l := by obtain ⟨t, h1, h2, h3⟩ := h; exact h3
theorem size_ky {t : T} {l : List Sp} (h : t.toL = l.map ky) : t.size = l.length := by rw [← T.size_toL, h, List.length_map]
theorem tl_del {w : World} {b : Nat} {P Q : List Sp} {x : Sp} (h : TL w b (P ++ x :: Q)) (hn : (P ++ x :: Q).length ≤ 900000) :
    Calls Try.prog 58 #[.pointer (some ⟨b, 0, none⟩), .int .i64 x.1] w fun e w' => (∃ q, e = .returned (.bool q)) ∧ TL w' b (P ++ Q) ∧ Kept [b] w w' := by
  obtain ⟨t, h1, h2, h3⟩ := h
  refine (delete_any x.1 h1 (by rw [size_ky h2]; exact hn)).mono ?_
  rintro e w' ⟨rfl, a, k⟩
  refine ⟨⟨_, rfl⟩, ⟨_, a, ?_, Rn.skip h3⟩, k⟩
  rw [T.del_toL _ _ (by rw [h2]; exact up_ky h3), h2, del_ky h3]
theorem tl_put {w : World} {b : Nat} {P Q : List Sp} {x : Sp} (h : TL w b (P ++ Q)) (hR : Rn (P ++ x :: Q)) (hn : (P ++ Q).length ≤ 900000) :
    Calls Try.prog 59 #[.pointer (some ⟨b, 0, none⟩), .int .i64 x.1, spV x] w fun e w' => (∃ q, e = .returned (.bool q)) ∧ TL w' b (P ++ x :: Q) ∧ Kept [b] w w' := by
  obtain ⟨t, h1, h2, h3⟩ := h
  refine (put_any x.1 x h1 (by rw [size_ky h2]; exact hn)).mono ?_
  rintro e w' ⟨rfl, a, k⟩
  refine ⟨⟨_, rfl⟩, ⟨_, a, ?_, hR⟩, k⟩
  rw [T.ins_toL _ _ _ (by rw [h2]; exact up_ky h3), h2, put_ky hR]
theorem tl_len {w : World} {b : Nat} {l : List Sp} (h : TL w b l) : Calls Try.prog 44 #[.pointer (some ⟨b, 0, none⟩)] w fun e w' => e = .returned (.int .i64 (l.length : Int)) ∧ w = w' := by
  obtain ⟨t, h1, h2, h3⟩ := h
  refine (tlen_any h1.o).mono ?_
  rintro e w' ⟨rfl, rfl⟩
  rw [size_ky h2]
  exact ⟨rfl, rfl⟩
theorem tl_near {w : World} {b : Nat} {l : List Sp} {s : Sp} (h : TL w b l) (hn : l.length ≤ 10000) (hs : ROk s) :
    Calls Try.prog 60 #[.agg #[.pointer (some ⟨b, 0, none⟩)], spV s] w (rn.Told (nearL l s) w) := by
  obtain ⟨t, h1, h2, h3⟩ := h
  exact near_any h1.o h2 h3 hn hs
theorem TL.keep {w w' : World} {b c : Nat} {l m : List Sp} (h : TL w b l) (hc : TL w c m) (hk : Kept [c] w w') (hn : b ≠ c) : TL w' b l := by
  obtain ⟨t, h1, h2⟩ := h
  obtain ⟨u, k1, k2⟩ := hc
  exact ⟨t, h1.keep k1 hk hn, h2⟩
theorem own_ty {w : World} {base : Nat} {e : TypeId} {sz : Nat} {v : Value} {n : Nat} {xs : List Value} (h : w.ownsRow base e sz v n xs) {k : Nat} (hk : v.ownBlock = some k) : ∃ cur, w.heap[k]? = some (.cells cur e (0, 0)) := by
  rcases h.2 with ⟨rfl, rfl⟩ | ⟨g, cap, cur, rfl, hb, hg, hn, hm, hc, ht⟩
  · cases hk
  · cases hk; exact ⟨cur, hg⟩
theorem TL.grown {w w' : World} {b base n : Nat} {l : List Sp} {v : Value} {xs : List Value} (h : TL w b l) (ho : w.ownsRow base 24 2 v n xs) (hg : w.grownBy w' v.ownBlock) : TL w' b l := by
  obtain ⟨t, ⟨q, h1, h2⟩, h3⟩ := h
  have key : ∀ (k : Nat) (cs : Array Value) (ty : TypeId), ty ≠ 24 → w.heap[k]? = some (.cells cs ty (0, 0)) → w'.heap[k]? = w.heap[k]? := fun k cs ty hty hk => by
    refine hg.block k (lt_of_block hk) (fun e => ?_)
    obtain ⟨cur, hc⟩ := own_ty ho e.symm
    rw [hk] at hc
    injection hc with hc
    injection hc with _ hc _
    exact hty hc
  exact ⟨t, ⟨q, (key b _ _ (by decide) h1).trans h1, h2.keepT (fun x cs hx => key x cs _ (by decide) hx)⟩, h3⟩
set_option maxRecDepth 100000 in
set_option maxHeartbeats 4000000 in
theorem add_any {w : World} {b : Nat} {l : List Sp} {s : Sp} (h : TL w b l) (hn : l.length ≤ 4096) (hs : ROk s) :
    Calls Try.prog 41 #[.agg #[.pointer (some ⟨b, 0, none⟩)], spV s] w fun e w' => e = .returned (.int .i64 (if 4096 < (refWi l s).length then 4 else 0)) ∧ TL w' b (if 4096 < (refWi l s).length then l else refWi l s) ∧ Kept [b] w w' := by
  have hl := h.rn
  obtain ⟨A, B, D, hc⟩ := cut3 s hs l hl
  have hwi := wi_eq hl hs hc
  have hnr := near_cut hl hs hc
  have hR := (add3_spec hl hs hc).1
  have he := hc.eq
  unfold add3 at hwi hR
  rw [hwi]
  subst he
  have hlen : (A ++ ([hullP (B ++ [s])] ++ D)).length = A.length + 1 + D.length := by simp; omega
  have hbw := h.lt
  simp only [hlen]
  have hln : (A ++ B ++ D).length = A.length + B.length + D.length := by simp; omega
  have b1 := bal (w := w) (.cells #[.pointer (some ⟨b, 0, none⟩)] 56)
  have x1 := heap_alloc_new w (.cells #[.pointer (some ⟨b, 0, none⟩)] 56)
  have hz1 : (w.alloc (.cells #[.pointer (some ⟨b, 0, none⟩)] 56)).heap.size = w.heap.size + 1 := by simp
  have b2 := bal (w := w.alloc (.cells #[.pointer (some ⟨b, 0, none⟩)] 56)) (.cells #[.int .i64 s.1, .int .i64 s.2] 24)
  have s2 := sp_new (w.alloc (.cells #[.pointer (some ⟨b, 0, none⟩)] 56)) s
  rw [hz1] at s2
  have b12 := b1.trans (b2.mono b1.size)
  have x2 := (b2.block _ (lt_of_block x1)).trans x1
  have HN := Lib.hid (tl_near (h.later b12) (by omega) hs)
  rw [hnr] at HN
  have q0 := cofr x2 0 _ rfl
  have q1 := s2.c0; have q2 := s2.c1
  have HST := Lib.hid (And.intro b12 (And.intro x2 (And.intro s2 (h.later b12))))
  have HR := Lib.hid hR
  clear hwi hnr b1 x1 hz1 b2 s2 b12 x2 hR hlen h hl hc
  go_enter Try.func41, Try.ntmps41
  generalize hm : hullP (B ++ [s]) = m at *
  have hw1 : IntKind.i64.wrap ((A.length : Int) + (B.length : Int) + (D.length : Int) - (B.length : Int)) = (A.length : Int) + (D.length : Int) := by rw [IntWalk.i64_in _ (by omega)]; omega
  have hw2 : IntKind.i64.wrap ((A.length : Int) + (D.length : Int) + 1) = (A.length : Int) + (D.length : Int) + 1 := IntWalk.i64_in _ (by omega)
  have hlc : (((A ++ B ++ D).length : Nat) : Int) = (A.length : Int) + (B.length : Int) + (D.length : Int) := by rw [hln]; omega
  go_wp2_with (first
    | (go_at_call 60; (with_reducible refine HN.out.mono ?_); rintro e w3 ⟨v, rfl, ho, hb3⟩; obtain ⟨a, cap, rfl, hS, hob⟩ := sls_of_own ho; obtain ⟨b12, x2, s2, hT⟩ := HST.out; have x3 := (hb3.block _ (lt_of_block x2)).trans x2; have s3 := s2.later hb3; have hT3 := hT.later hb3; have b13 := b12.trans (hb3.mono b12.size); have c0 := cofr x3 0 _ rfl; have c1 := s3.c0; have c2 := s3.c1; have HL := Lib.hid (tl_len hT3); rw [hlc] at HL; clear q0 q1 q2 hb3)
    | (go_at_call 44; (with_reducible refine HL.out.mono ?_); rintro e w4 ⟨rfl, rfl⟩))
  · have HT := Lib.hid hT3
    clear hS hob ho x3 s3 hT hT3 b12 x2 s2 c0 c1 c2
    go_ret
    exact ⟨rfl, by simpa using HT.out, Kept.of_below b13 (Nat.le_refl _) [b]⟩
  · have HS := Lib.hid hS
    have HO := Lib.hid ho
    have HOB := Lib.hid hob
    have HX := Lib.hid x3
    have HSS := Lib.hid s3
    have HT := Lib.hid hT3
    have HB := Lib.hid b13
    have hbn : b ≠ w.heap.size := by omega
    have hbn2 : b ≠ w.heap.size + 1 := by omega
    have HBS := Lib.hid (fun k (hk : Value.ownBlock (.slice a B.length cap) = some k) => (own_in ho hk).2)
    have HZ := Lib.hid b12.size
    clear hS hob ho x3 s3 hT hT3 b12 x2 s2 c0 c1 c2 HN HST HL b13
    go_loopw [22] (fun u wr => ∃ i : Nat, u = .int .i64 i ∧ i ≤ B.length ∧ TL wr b (A ++ (B.drop i ++ D)) ∧ Kept [b] w3 wr) (fun u _ => B.length - (intOf u).toNat)
    case atStart => exact ⟨0, rfl, Nat.zero_le _, by simpa using HT.out, Kept.refl _ _⟩
    case round =>
      obtain ⟨i, rfl, hi, hT, hk⟩ := hrel
      have x4 := hk.heap (by simpa using fun e => hbn e.symm) HX.out
      have s4 : SpAt wr (w.heap.size + 1) s := hk.heap (k := w.heap.size + 1) (by simpa using fun e => hbn2 e.symm) HSS.out
      by_cases hlt : i < B.length
      · obtain ⟨g, off, rfl, hcs⟩ := HS.out.cells (by omega)
        have hg : w.heap.size + 1 + 1 ≤ g := by have := HBS.out g rfl; simpa using this
        obtain ⟨m0, m1⟩ := hcs i hlt
        replace m0 := hk.cell (p := ⟨g, off + i * 2, none⟩) (by simp; omega) m0
        replace m1 := hk.cell (p := ⟨g, off + i * 2 + 1, none⟩) (by simp; omega) m1
        have hdr := drop_getD (l := B) hlt
        generalize B.getD i (0, 0) = x at *
        rw [hdr] at hT
        have b5 := bal (w := wr) (.cells #[.int .i64 x.1, .int .i64 x.2] 24)
        have k5 := hk.trans (Kept.of_below b5 (Nat.le_refl _) [b]) (by simp)
        have HD := Lib.hid (tl_del (P := A) (x := x) (Q := B.drop (i + 1) ++ D) (by have := hT.later b5; simpa using this) (by simp at hln hn ⊢; omega))
        have c0 := kcell b5 (cofr x4 0 _ rfl)
        have x5 := sp_new wr x
        have c1 := x5.c0
        have c2 := cofr x4 0 _ rfl
        have HK5 := Lib.hid k5
        clear hcs hT hdr x5 b5 k5 hk s4 x4
        go_wp2_with (go_at_call 58; (with_reducible refine HD.out.mono ?_); rintro e w6 ⟨⟨q, rfl⟩, hT6, hk6⟩; have HT6 := Lib.hid hT6; have HK6 := Lib.hid hk6; clear hT6 hk6 c0 c1 c2)
        go_roundw
        case rel => exact ⟨i + 1, by go_num, by omega, HT6.out, HK5.out.trans HK6.out (by simp)⟩
        case measure => simp [intOf]; omega
      · obtain rfl : i = B.length := by omega
        rw [List.drop_length, List.nil_append] at hT
        have hgb : ∀ k, Value.ownBlock (.slice a B.length cap) = some k → k ≠ b := fun k hk' => by have := HBS.out k hk'; simp at this; omega
        have ho4 := own_step HO.out (fun k o hk' ho' => (hk.block k (lt_of_block ho') (by simpa using hgb k hk')).trans ho')
        have hsrc := span_src wr s
        have b5 := bal (w := wr) (.cells #[.int .i64 s.1, .int .i64 s.2] 24)
        have ho5 := own_later ho4 b5
        obtain ⟨i0, hi, hz0, hz1, hz2⟩ := info_split info_span
        have c1 := s4.c0; have c2 := s4.c1
        have HO5 := Lib.hid ho5
        have HSRC := Lib.hid hsrc
        have HT5 := Lib.hid (hT.later b5)
        have X5 := Lib.hid ((b5.block _ (lt_of_block x4)).trans x4)
        have HK5 := Lib.hid (hk.trans (Kept.of_below b5 (Nat.le_refl _) [b]) (by simp))
        have hz5 := hk.size
        clear hT ho4 hsrc b5 ho5 s4 hk
        have hKW := (Kept.of_below HB.out (Nat.le_refl _) [b]).trans HK5.out (by simp)
        have HKW := Lib.hid hKW
        clear hKW
        go_wp2_with (first
          | (at_builtin; go_must (refine wpList_append_sz _ rfl (.tmp 32) (.tmp 34) 30 30 rfl _ 24 i0 (.agg #[.int .i64 0, .int .i64 0]) 2 16 Try.underlying30 hi hz0 hz1 (by decide) hz2 rfl _ B.length (spCells B) rfl HO5.out _ rfl 1 [.int .i64 s.1, .int .i64 s.2] HSRC.out (by unfold maxLen; omega) (by omega) (by have := lt_of_block HSS.out; simp; omega) ?_); intro a' cap' w6 ho6 hg6 hw6
             rw [← spCells_snoc] at ho6
             obtain ⟨a2, cap2, e2, hS6, _⟩ := sls_of_own (l := B ++ [s]) ho6
             obtain ⟨rfl, rfl⟩ : a' = a2 ∧ cap' = cap2 := by simpa using e2
             have HU := Lib.hid (hull_any (B ++ [s]) a' (B.length + 1) cap' w6 hS6)
             rw [hm] at HU
             have HT6 := Lib.hid (HT5.out.grown HO5.out hg6)
             have X6 := Lib.hid ((hg6.block _ (lt_of_block X5.out) (fun e => by have := HBS.out _ e.symm; rw [World.size_alloc, World.size_alloc] at this; omega)).trans X5.out)
             have HK6 := Lib.hid (HKW.out.grown hg6 (fun k hk' => .inr (by have := HBS.out k hk'; simp at this; omega)))
             clear ho6 hg6 hw6 hS6 e2 c1 c2)
          | (go_at_call 61; (with_reducible refine HU.out.mono ?_); rintro e w7 ⟨rfl, h7⟩
             have b8 := bal (w := w7) (.cells #[.int .i64 m.1, .int .i64 m.2] 24)
             have b78 := h7.trans (b8.mono h7.size)
             have x8 := (b78.block _ (lt_of_block X6.out)).trans X6.out
             have s8 := sp_new w7 m
             have c0 := cofr x8 0 _ rfl; have c1 := s8.c0; have c2 := s8.c1
             have HP := Lib.hid (tl_put (P := A) (Q := D) (x := m) (HT6.out.later b78) HR.out (by simp at hln ⊢; omega))
             have HK8 := Lib.hid (HK6.out.trans (Kept.of_below b78 (Nat.le_refl _) [b]) (by simp))
             clear b8 b78 x8 s8 h7)
          | (go_at_call 59; (with_reducible refine HP.out.mono ?_); rintro e w9 ⟨⟨q, rfl⟩, hT9, hk9⟩; have HT9 := Lib.hid hT9; have HK9 := Lib.hid (HK8.out.trans hk9 (by simp)); clear hT9 hk9 c0 c1 c2))
        go_ret

        exact ⟨rfl, by simpa using HT9.out, HK9.out⟩
end Go.Proofs.Ytegbkeichkifnaa.bd
