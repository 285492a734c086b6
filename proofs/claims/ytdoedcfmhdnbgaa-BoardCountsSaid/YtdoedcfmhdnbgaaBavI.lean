/-
  Package avl: going through the nodes.
-/
import Derived.RangeFuncWrites
import Derived.Shelf.Abstract
import Derived.Shelf.RegionOpen
import Derived.WalkKit
import Derived.OwnWalkIn
import Derived.TacticsInMore
import Derived.LoopNIn
import Derived.LoopIn
import Derived.Test.YtdoedcfmhdnbgaaRng
import Derived.Test.YtdoedcfmhdnbgaaBavU
namespace Go.Proofs.Ytdoedcfmhdnbgaa.bv
open Go.RowKit Go.Shelf aid mem rng
attribute [local go_sem] Oper.semAt_some
set_option linter.unusedVariables false

/-- a node: its block, its key, its value -/
abbrev Nd := Nat × Int × Vt
/-- the nodes of a tree from a key on, rising; R = none: all, falling -/
def Goes (w : World) (key : Int) : Option Addr → T → List Nd → Prop
  | p, .nil, LN => p = none ∧ LN = []
  | p, .node l k v r, LN => ∃ b pl pr Ll Lr, p = some ⟨b, 0, none⟩ ∧ w.heap[b]? = some (ndB l k v r pl pr) ∧ Goes w key pl l Ll ∧ Goes w key pr r Lr ∧ LN = if k < key then Lr else Ll ++ (b, k, v) :: Lr
theorem goes_of {w : World} (key : Int) : ∀ {t : T} {p : Option Addr}, NdAt w p t → ∃ LN, Goes w key p t LN := by
  intro t
  induction t with
  | nil => intro p h; exact ⟨[], h, rfl⟩
  | node l k v r ihl ihr =>
    rintro p ⟨b, pl, pr, rfl, hb, hl, hr⟩
    obtain ⟨Ll, h1⟩ := ihl hl
    obtain ⟨Lr, h2⟩ := ihr hr
    exact ⟨_, b, pl, pr, Ll, Lr, rfl, hb, h1, h2, rfl⟩
theorem goes_keys {w : World} (key : Int) : ∀ {t : T} {p : Option Addr} {LN : List Nd}, Goes w key p t LN → T.Up t.toL → LN.map (fun x => (x.2.1, x.2.2)) = t.toL.filter (fun x => decide (key ≤ x.1)) := by
  intro t
  induction t with
  | nil => rintro p LN ⟨rfl, rfl⟩ _; rfl
  | node l k v r ihl ihr =>
    rintro p LN ⟨b, pl, pr, Ll, Lr, rfl, hb, hl, hr, rfl⟩ hu
    obtain ⟨u1, u2, u3, u4, u5⟩ := T.up_node.1 hu
    have e1 := ihl hl u1
    have e2 := ihr hr u2
    by_cases hk : k < key
    · rw [if_pos hk, e2]
      show _ = (l.toL ++ (k, v) :: r.toL).filter _
      rw [List.filter_append, List.filter_cons, if_neg (by simp; omega), (List.filter_eq_nil_iff (l := l.toL)).2 (fun x hx => by have := u3 x hx; simp; omega), List.nil_append]
    · rw [if_neg hk, List.map_append, List.map_cons, e1, e2]
      show _ = (l.toL ++ (k, v) :: r.toL).filter _
      rw [List.filter_append, List.filter_cons, if_pos (by simp; omega)]
theorem goes_cells {w : World} (key : Int) : ∀ {t : T} {p : Option Addr} {LN : List Nd}, Goes w key p t LN → ∀ x ∈ LN, ∃ cs, w.heap[x.1]? = some (.cells cs 100 (0, 0)) ∧ w.cell? ⟨x.1, 0, none⟩ = some (.int .i64 x.2.1) ∧ (w.cell? ⟨x.1, 1, none⟩ = some (.int .i64 x.2.2.1) ∧ w.cell? ⟨x.1, 2, none⟩ = some (.int .i64 x.2.2.2)) := by
  intro t
  induction t with
  | nil => rintro p LN ⟨rfl, rfl⟩ x hx; cases hx
  | node l k v r ihl ihr =>
    rintro p LN ⟨b, pl, pr, Ll, Lr, rfl, hb, hl, hr, rfl⟩ x hx
    by_cases hk : k < key
    · rw [if_pos hk] at hx
      exact ihr hr x hx
    · rw [if_neg hk] at hx
      rcases List.mem_append.1 hx with hx | hx
      · exact ihl hl x hx
      · rcases List.mem_cons.1 hx with rfl | hx
        · exact ⟨_, hb, (cs_of hb).c0, (cs_of hb).c1⟩
        · exact ihr hr x hx

abbrev ndE (x : Nd) : Array Value := #[.pointer (some ⟨x.1, 0, none⟩)]
/-- what stands while the nodes are gone through -/
structure Cx (w W : World) (C0 : Nat → Prop) (l : Nat) (J Jx : List Nd → (Nat → Prop) → World → Prop) (L : List Nd) : Prop where
  nodes : ∀ (b : Nat) (cs : Array Value), w.heap[b]? = some (.cells cs 100 (0, 0)) → ¬ C0 b ∧ W.heap[b]? = some (.cells cs 100 (0, 0))
  yd : ∀ pre x C W1, J pre C W1 → W.heap.size ≤ W1.heap.size → pre ++ [x] <+: L → Yd Try.prog l (ndE x) W1 fun e W' =>
      ∃ C', Round C W1 C' W' ∧ ((e = .returned (.bool true) ∧ J (pre ++ [x]) C' W') ∨ (e = .returned (.bool false) ∧ Jx (pre ++ [x]) C' W'))
def RiseP (W : World) (C0 : Nat → Prop) (J Jx : List Nd → (Nat → Prop) → World → Prop) (xs : List Nd) (e : Ending) (W' : World) : Prop :=
  ∃ C', It C0 W C' W' ∧ ((e = .returned (.bool true) ∧ J xs C' W') ∨ (e = .returned (.bool false) ∧ ∃ pre, Jx pre C' W'))

set_option maxRecDepth 100000 in
set_option maxHeartbeats 4000000 in
theorem rise_any {w W : World} {C0 : Nat → Prop} {l : Nat} {J Jx : List Nd → (Nat → Prop) → World → Prop} {L : List Nd} (hx : Cx w W C0 l J Jx L) (key : Int) :
    ∀ (t : T) {p : Option Addr} {LN : List Nd} {pre : List Nd} {C : Nat → Prop} {W1 : World}, Goes w key p t LN → pre ++ LN <+: L → J pre C W1 → It C0 W C W1 →
    Calls Try.prog 90 #[.pointer p, .int .i64 key, .func (.yield l) #[] #[]] W1 (RiseP W C0 J Jx (pre ++ LN)) := by
  intro t
  induction t with
  | nil =>
    rintro p LN pre C W1 ⟨rfl, rfl⟩ hp hJ hI
    go_enter Try.func90, Try.ntmps90
    go_wp2_with fail
    go_ret
    exact ⟨C, hI, .inl ⟨rfl, by rw [List.append_nil]; exact hJ⟩⟩
  | node tl k v tr ihl ihr =>
    rintro p LN pre C W1 ⟨b, pl, pr, Ll, Lr, rfl, hb, hl, hr, rfl⟩ hp hJ hI
    have hc := cs_of (hI.block (hx.nodes b _ hb).2 (hx.nodes b _ hb).1)
    obtain ⟨c0, c1, c2, c3, _, _⟩ := hc
    by_cases hk : k < key
    · rw [if_pos hk] at hp ⊢
      have HC := Lib.hid (ihr hr hp hJ hI)
      clear ihl ihr hb hl hr hp hJ hI
      go_enter Try.func90, Try.ntmps90
      go_wp2_with (go_at_call 90; (with_reducible refine HC.out.mono ?_); rintro e w2 ⟨C', hI', ⟨rfl, hJ'⟩ | ⟨rfl, hJ'⟩⟩)
      · go_ret
        exact ⟨C', hI', .inl ⟨rfl, hJ'⟩⟩
      · go_ret
        exact ⟨C', hI', .inr ⟨rfl, hJ'⟩⟩
    · rw [if_neg hk] at hp ⊢
      have hp1 : pre ++ Ll <+: L := (List.prefix_append _ ((b, k, v) :: Lr)).trans (by rw [List.append_assoc]; exact hp)
      have hp2 : (pre ++ Ll) ++ [(b, k, v)] <+: L := (List.prefix_append _ Lr).trans (by simpa using hp)
      have hp3 : ((pre ++ Ll) ++ [(b, k, v)]) ++ Lr <+: L := by simpa using hp
      have he : pre ++ (Ll ++ (b, k, v) :: Lr) = ((pre ++ Ll) ++ [(b, k, v)]) ++ Lr := by simp
      rw [he]
      obtain ⟨xs, hxs⟩ : ∃ xs, xs = ((pre ++ Ll) ++ [(b, k, v)]) ++ Lr := ⟨_, rfl⟩
      rw [← hxs]
      have HX := Lib.hid hxs
      clear hxs
      have HC := Lib.hid (ihl hl hp1 hJ hI)
      have HR := Lib.hid (fun (C : Nat → Prop) (W1 : World) (hJ : J ((pre ++ Ll) ++ [(b, k, v)]) C W1) (hI : It C0 W C W1) => ihr hr hp3 hJ hI)
      have HY := Lib.hid (fun (C : Nat → Prop) (W1 : World) (hJ : J (pre ++ Ll) C W1) (hI : It C0 W C W1) => hx.yd _ _ C W1 hJ hI.kept.size hp2)
      have HB := Lib.hid (fun (C : Nat → Prop) (W1 : World) (hI : It C0 W C W1) => cs_of (hI.block (hx.nodes b _ hb).2 (hx.nodes b _ hb).1))
      generalize pre ++ Ll = pre1 at *
      clear ihl ihr hb hl hr hp hJ hI hp1 hp2 hp3 he
      refine (callsIn_wide (n := 6)).1 ?_
      refine callsIn_of_wp Try.func90 rfl trivial ?_ rfl
      simp only [Try.ntmps90, List.size_toArray, List.length_cons, List.length_nil, Nat.reduceAdd, Nat.reduceSub, Array.replicate_succ, Array.replicate_zero, List.push_toArray, List.append_toArray, List.nil_append, List.cons_append]
      gi_wp2
      refine ⟨trivial, ?_⟩
      refine (callsIn_wide.2 HC.out).mono ?_
      rintro e w2 ⟨C', hI', ⟨rfl, hJ'⟩ | ⟨rfl, hJ'⟩⟩
      · obtain ⟨d0, d1, d2, d3, _, _⟩ := HB.out _ _ hI'
        obtain ⟨fn, tmps, assign, body, hyy, hY⟩ := (HY.out _ _ hJ' hI').at 5
        gi_wp2
        refine hY.mono ?_
        clear hyy hY d0 d1 d2 d3
        rintro e w3 ⟨C2, hr2, ⟨rfl, hJ2⟩ | ⟨rfl, hJ2⟩⟩
        · have hI2 := hI'.round hr2
          obtain ⟨d0, d1, d2, d3, _, _⟩ := HB.out _ _ hI2
          clear hr2 hI' hJ'
          gi_wp2
          refine ⟨trivial, ?_⟩
          refine (callsIn_wide.2 (HR.out _ _ hJ2 hI2)).mono ?_
          rw [← HX.out]
          rintro e w4 ⟨C4, hI4, ⟨rfl, hJ4⟩ | ⟨rfl, hJ4⟩⟩
          · gi_wp2
            go_ret
            exact ⟨C4, hI4, .inl ⟨rfl, hJ4⟩⟩
          · gi_wp2
            go_ret
            exact ⟨C4, hI4, .inr ⟨rfl, hJ4⟩⟩
        · have hI2 := hI'.round hr2
          clear hr2 hI' hJ'
          gi_wp2
          refine ⟨trivial, ?_⟩
          gi_wp2
          go_ret
          exact ⟨C2, hI2, .inr ⟨rfl, _, hJ2⟩⟩
      · gi_wp2
        refine ⟨(fun _ h => by cases h), ?_⟩
        gi_wp2
        refine ⟨trivial, ?_⟩
        gi_wp2
        go_ret
        exact ⟨C', hI', .inr ⟨rfl, hJ'⟩⟩

/-- the nodes of a tree, falling -/
def Falls (w : World) : Option Addr → T → List Nd → Prop
  | p, .nil, LN => p = none ∧ LN = []
  | p, .node l k v r, LN => ∃ b pl pr Ll Lr, p = some ⟨b, 0, none⟩ ∧ w.heap[b]? = some (ndB l k v r pl pr) ∧ Falls w pl l Ll ∧ Falls w pr r Lr ∧ LN = Lr ++ (b, k, v) :: Ll
theorem falls_of {w : World} : ∀ {t : T} {p : Option Addr}, NdAt w p t → ∃ LN, Falls w p t LN := by
  intro t
  induction t with
  | nil => intro p h; exact ⟨[], h, rfl⟩
  | node l k v r ihl ihr =>
    rintro p ⟨b, pl, pr, rfl, hb, hl, hr⟩
    obtain ⟨Ll, h1⟩ := ihl hl
    obtain ⟨Lr, h2⟩ := ihr hr
    exact ⟨_, b, pl, pr, Ll, Lr, rfl, hb, h1, h2, rfl⟩
theorem falls_keys {w : World} : ∀ {t : T} {p : Option Addr} {LN : List Nd}, Falls w p t LN → LN.map (fun x => (x.2.1, x.2.2)) = t.toL.reverse := by
  intro t
  induction t with
  | nil => rintro p LN ⟨rfl, rfl⟩; rfl
  | node l k v r ihl ihr =>
    rintro p LN ⟨b, pl, pr, Ll, Lr, rfl, hb, hl, hr, rfl⟩
    rw [List.map_append, List.map_cons, ihl hl, ihr hr]
    show _ = (l.toL ++ (k, v) :: r.toL).reverse
    simp
theorem falls_cells {w : World} : ∀ {t : T} {p : Option Addr} {LN : List Nd}, Falls w p t LN → ∀ x ∈ LN, ∃ cs, w.heap[x.1]? = some (.cells cs 100 (0, 0)) ∧ w.cell? ⟨x.1, 0, none⟩ = some (.int .i64 x.2.1) ∧ (w.cell? ⟨x.1, 1, none⟩ = some (.int .i64 x.2.2.1) ∧ w.cell? ⟨x.1, 2, none⟩ = some (.int .i64 x.2.2.2)) := by
  intro t
  induction t with
  | nil => rintro p LN ⟨rfl, rfl⟩ x hx; cases hx
  | node l k v r ihl ihr =>
    rintro p LN ⟨b, pl, pr, Ll, Lr, rfl, hb, hl, hr, rfl⟩ x hx
    rcases List.mem_append.1 hx with hx | hx
    · exact ihr hr x hx
    · rcases List.mem_cons.1 hx with rfl | hx
      · exact ⟨_, hb, (cs_of hb).c0, (cs_of hb).c1⟩
      · exact ihl hl x hx
theorem Goes.later {w w' : World} (hb : Below w.heap.size w w') (key : Int) : ∀ {t : T} {p : Option Addr} {LN : List Nd}, Goes w key p t LN → Goes w' key p t LN := by
  intro t
  induction t with
  | nil => intro p LN h; exact h
  | node l k v r ihl ihr =>
    rintro p LN ⟨b, pl, pr, Ll, Lr, rfl, h, hl, hr, rfl⟩
    exact ⟨b, pl, pr, Ll, Lr, rfl, (hb.block b (lt_of_block h)).trans h, ihl hl, ihr hr, rfl⟩
theorem Falls.later {w w' : World} (hb : Below w.heap.size w w') : ∀ {t : T} {p : Option Addr} {LN : List Nd}, Falls w p t LN → Falls w' p t LN := by
  intro t
  induction t with
  | nil => intro p LN h; exact h
  | node l k v r ihl ihr =>
    rintro p LN ⟨b, pl, pr, Ll, Lr, rfl, h, hl, hr, rfl⟩
    exact ⟨b, pl, pr, Ll, Lr, rfl, (hb.block b (lt_of_block h)).trans h, ihl hl, ihr hr, rfl⟩

end Go.Proofs.Ytdoedcfmhdnbgaa.bv
