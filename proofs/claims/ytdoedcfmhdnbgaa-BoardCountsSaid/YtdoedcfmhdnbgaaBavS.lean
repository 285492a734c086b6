/-
  Package avl: the iterators.
-/
import Derived.Test.YtdoedcfmhdnbgaaBavI
namespace Go.Proofs.Ytdoedcfmhdnbgaa.bv
open Go.RowKit Go.Shelf aid mem rng
attribute [local go_sem] Oper.semAt_some
set_option linter.unusedVariables false

/-- a pointer to a tree, and its root -/
def RootOf (w : World) (p q : Option Addr) : Prop := (p = none ∧ q = none) ∨ ∃ b, p = some ⟨b, 0, none⟩ ∧ w.heap[b]? = some (.cells #[.pointer q] 94 (0, 0))
theorem trO_root {w : World} {p : Option Addr} {t : T} (h : TrO w p t) : ∃ q, RootOf w p q ∧ NdAt w q t := by
  rcases h with ⟨rfl, rfl⟩ | ⟨b, rfl, q, h1, h2⟩
  · exact ⟨none, .inl ⟨rfl, rfl⟩, rfl⟩
  · exact ⟨q, .inr ⟨b, rfl, h1⟩, h2⟩
theorem RootOf.later {w w' : World} {p q : Option Addr} (h : RootOf w p q) (hb : Below w.heap.size w w') : RootOf w' p q := by
  rcases h with h | ⟨b, rfl, h1⟩
  · exact .inl h
  · exact .inr ⟨b, rfl, (hb.block b (lt_of_block h1)).trans h1⟩
theorem top_at {w : World} {p q : Option Addr} (h : RootOf w p q) : Calls Try.prog 62 #[.pointer p] w fun e w' => e = .returned (.pointer q) ∧ w = w' := by
  rcases h with ⟨rfl, rfl⟩ | ⟨b, rfl, h1⟩
  · go_enter Try.func62, Try.ntmps62
    go_wp2
    go_ret
    exact ⟨rfl, rfl⟩
  · have c0 : w.cell? ⟨b, 0, none⟩ = some (.pointer q) := (cell_of_row w b 0 _ _ (0, 0) h1).trans rfl
    go_enter Try.func62, Try.ntmps62
    go_wp2
    go_ret
    exact ⟨rfl, rfl⟩

/-- what of the old blocks a consumer may write: none of a tree's -/
def Far (w : World) (A : Nat → Prop) : Prop := ∀ k, A k → k < w.heap.size ∧ ∀ cs, w.heap[k]? ≠ some (.cells cs 100 (0, 0))
theorem cx_nodes {w W : World} {A C0 : Nat → Prop} (hA : Far w A) (hW : Below w.heap.size w W) (hC : ∀ k, C0 k → (A k ∨ w.heap.size ≤ k) ∧ k < W.heap.size) (b : Nat) (cs : Array Value)
    (h : w.heap[b]? = some (.cells cs 100 (0, 0))) : ¬ C0 b ∧ W.heap[b]? = some (.cells cs 100 (0, 0)) := by
  refine ⟨fun hc => ?_, (hW.block b (lt_of_block h)).trans h⟩
  rcases (hC _ hc).1 with a | a
  · exact (hA _ a).2 cs h
  · have := lt_of_block h; omega

/-- how going through the nodes ends, in one piece -/
def RiseB (W : World) (C0 : Nat → Prop) (J Jx : List Nd → (Nat → Prop) → World → Prop) (xs : List Nd) (b : Bool) (W' : World) : Prop := ∃ C', It C0 W C' W' ∧ ((b = true ∧ J xs C' W') ∨ (b = false ∧ ∃ pre, Jx pre C' W'))
theorem rise_b {W : World} {C0 : Nat → Prop} {J Jx : List Nd → (Nat → Prop) → World → Prop} {xs : List Nd} {e : Ending} {W' : World} (h : RiseP W C0 J Jx xs e W') : ∃ b, e = .returned (.bool b) ∧ RiseB W C0 J Jx xs b W' := by
  obtain ⟨C', hI, ⟨rfl, h⟩ | ⟨rfl, h⟩⟩ := h
  · exact ⟨true, rfl, C', hI, .inl ⟨rfl, h⟩⟩
  · exact ⟨false, rfl, C', hI, .inr ⟨rfl, h⟩⟩
theorem RiseB.cell {W : World} {C0 : Nat → Prop} {J Jx : List Nd → (Nat → Prop) → World → Prop} {xs : List Nd} {b : Bool} {W' : World} (h : RiseB W C0 J Jx xs b W') {k : Nat} {v : Value} (hk : ¬ C0 k) (hc : W.cell? ⟨k, 0, none⟩ = some v) : W'.cell? ⟨k, 0, none⟩ = some v := by
  obtain ⟨C', hI, _⟩ := h
  exact hI.kept.cell hk hc
theorem RiseB.done {W : World} {C0 : Nat → Prop} {J Jx : List Nd → (Nat → Prop) → World → Prop} {xs : List Nd} {b : Bool} {W' : World} (h : RiseB W C0 J Jx xs b W') : ∃ C', J xs C' W' ∨ ∃ pre, Jx pre C' W' := by
  obtain ⟨C', _, ⟨_, h⟩ | ⟨_, h⟩⟩ := h
  · exact ⟨C', .inl h⟩
  · exact ⟨C', .inr h⟩

set_option maxRecDepth 100000 in
set_option maxHeartbeats 4000000 in
theorem from1_seq {w : World} {p q : Option Addr} {t : T} {key : Int} {LN : List Nd} {bt bk : Nat} {A : Nat → Prop} (hr : RootOf w p q) (hg : Goes w key q t LN)
    (ht : w.cell? ⟨bt, 0, none⟩ = some (.pointer p)) (hk : w.cell? ⟨bk, 0, none⟩ = some (.int .i64 key)) (hA : Far w A) (hat : ¬ A bt) (hak : ¬ A bk) :
    SeqOf Try.prog 89 #[.pointer (some ⟨bt, 0, none⟩), .pointer (some ⟨bk, 0, none⟩)] ndE LN A w := by
  intro l J Jx C0 W hW hC hJ hJx hY h0
  have r2 := hr.later (hW.trans ((Below.refl W.heap.size W).drew.mono hW.size))
  have hx : Cx w W C0 l J Jx LN := ⟨cx_nodes hA hW hC, hY⟩
  have c1 := ck hW ht
  have c2 := ck hW hk
  have j2 := hJ _ _ _ _ h0 (Nat.le_refl _) (Steps.drew _ W)
  have i2 : It C0 W C0 W.drew := (It.refl (fun k hk => (hC k hk).2)).own (Steps.drew _ W)
  have nt : ¬ C0 bt := fun e => by
    rcases (hC _ e).1 with a | a
    · exact hat a
    · have := World.block_lt_of_cell? w _ ht; simp only at this; omega
  have nk : ¬ C0 bk := fun e => by
    rcases (hC _ e).1 with a | a
    · exact hak a
    · have := World.block_lt_of_cell? w _ hk; simp only at this; omega
  have HR := Lib.hid (rise_any hx key t hg (List.prefix_refl _) j2 i2)
  rw [List.nil_append] at HR
  clear hr hg hx j2 i2 hJ hJx hY h0 hC hW ht hk hA
  show Calls Try.prog 89 #[.func (.yield l) #[] #[], .pointer (some ⟨bt, 0, none⟩), .pointer (some ⟨bk, 0, none⟩)] W _
  go_enter Try.func89, Try.ntmps89
  go_wp2
  have k0 : W.drew.cell? ⟨bt, 0, none⟩ = some (.pointer p) ∧ W.drew.cell? ⟨bk, 0, none⟩ = some (.int .i64 key) := ⟨c1, c2⟩
  go_region_held3 (fun w' => w'.cell? ⟨bt, 0, none⟩ = some (.pointer p) ∧ w'.cell? ⟨bk, 0, none⟩ = some (.int .i64 key)) (with_reducible first | exact k0 | exact k1 | go_keep) (first
    | (go_at_call 62; (with_reducible refine (top_at r2).mono ?_); rintro e w2 ⟨rfl, rfl⟩)
    | (go_at_call 90; (with_reducible refine HR.out.mono ?_); rintro e w3 hrp; obtain ⟨b, rfl, hb⟩ := rise_b hrp; have k1 := And.intro (hb.cell nt c1) (hb.cell nk c2); clear hrp))
  all_goals
    go_wp2
    go_end0
    exact ⟨⟨_, rfl⟩, hb.done⟩

end Go.Proofs.Ytdoedcfmhdnbgaa.bv
