/-
  Package runs: Gaps.
-/
import Derived.Test.YtdoedcfmhdnbgaaRunQ
import Derived.Test.YtdoedcfmhdnbgaaRngP
namespace Go.Proofs.Ytdoedcfmhdnbgaa.rn
open Go.RowKit Go.Shelf aid mem rng sp
attribute [local go_sem] Oper.semAt_some
set_option linter.unusedVariables false
set_option linter.unusedSimpArgs false

/-- what is left of a span behind some parts, and the gaps ahead of that -/
def restA (pre : List Sp) (s : Sp) : Sp := pre.foldl (fun r p => fromP r p.2) s
def doneL : List Sp → Sp → List Sp
  | [], _ => []
  | p :: ps, r => ne (belowP r p.1) ++ doneL ps (fromP r p.2)
theorem restA_snoc (pre : List Sp) (s p : Sp) : restA (pre ++ [p]) s = fromP (restA pre s) p.2 := by unfold restA; rw [List.foldl_append]; rfl
theorem doneL_snoc : ∀ (pre : List Sp) (s p : Sp), doneL (pre ++ [p]) s = doneL pre s ++ ne (belowP (restA pre s) p.1) := by
  intro pre
  induction pre with
  | nil => intro s p; simp [doneL, restA]
  | cons x pre ih =>
    intro s p
    rw [List.cons_append, doneL, ih, doneL, List.append_assoc]
    rfl
theorem gaps_cut : ∀ (pre post : List Sp) (s : Sp), gapsC (pre ++ post) s = doneL pre s ++ gapsC post (restA pre s) := by
  intro pre
  induction pre with
  | nil => intro post s; rfl
  | cons x pre ih =>
    intro post s
    rw [List.cons_append, gapsC, ih, doneL, List.append_assoc]
    rfl
/-- what Gaps' iterator knows between two rounds -/
structure GIc (W : World) (C0 : Nat → Prop) (F l : Nat) (s : Sp) (J : List Sp → (Nat → Prop) → World → Prop) (pre : List Sp) (Co C : Nat → Prop) (X : World) : Prop where
  sub : ∀ k, Co k → C k
  cF : C F
  j : J (doneL pre s) Co X
  it : It C0 W Co X
  nF : ¬ Co F
  nX : ¬ Co W.heap.size
  rest : SpAt X F (restA pre s)
  yd : X.cell? ⟨W.heap.size, 0, none⟩ = some (.func (.yield l) #[] #[])
def GI (W : World) (C0 : Nat → Prop) (F l : Nat) (s : Sp) (J : List Sp → (Nat → Prop) → World → Prop) (pre : List Sp) (C : Nat → Prop) (X : World) : Prop := ∃ Co, GIc W C0 F l s J pre Co C X
def GX (W : World) (Jx : List Sp → (Nat → Prop) → World → Prop) (c : Code) (pre : List Sp) (C : Nat → Prop) (X : World) : Prop := c = .ret ∧ ∃ Co told, (∀ k, Co k → C k) ∧ Jx told Co X
/-- a part's box beside it -/
def GB (W : World) (C0 : Nat → Prop) (F l : Nat) (s : Sp) (J : List Sp → (Nat → Prop) → World → Prop) (D : Nat) (pre : List Sp) (b : Nat) (y : Sp) (C : Nat → Prop) (X : World) : Prop :=
  ∃ Co, GIc W C0 F l s J pre Co C X ∧ SpAt X b y ∧ C b ∧ ¬ Co b ∧ D ≤ b
theorem gic_own {W : World} {C0 : Nat → Prop} {F l D : Nat} {s : Sp} {J : List Sp → (Nat → Prop) → World → Prop} {pre : List Sp} {Co C : Nat → Prop} {X Y : World} (hJ : Bears W.heap.size J) (hD : W.heap.size < D) (h : GIc W C0 F l s J pre Co C X) (hs : rng.Steps (fun k => k < D ∨ C k) X Y) : GIc W C0 F l s J pre Co C Y := by
  have hs' : rng.Steps (fun k => k < W.heap.size ∨ Co k) X Y := hs.mono (fun k _ hk => by
    rcases hk with hk | hk
    · exact .inl (by omega)
    · exact .inr (h.sub k hk))
  exact ⟨h.sub, h.cF, hJ _ _ _ _ h.j h.it.kept.size hs', h.it.own hs', h.nF, h.nX, hs.heap (.inr h.cF) h.rest, hs.cell (.inl (by simpa using hD)) h.yd⟩
theorem gaps_prefix {L pre : List Sp} {y s : Sp} (hp : pre ++ [y] <+: L) : doneL pre s ++ ne (belowP (restA pre s) y.1) <+: gapsC L s := by
  obtain ⟨t, rfl⟩ := hp
  rw [gaps_cut, doneL_snoc]
  exact List.prefix_append _ _
theorem gi_end {W : World} {C0 : Nat → Prop} {F l' : Nat} {s y r2 : Sp} {J : List Sp → (Nat → Prop) → World → Prop} {pre told : List Sp} {Co Co2 C : Nat → Prop} {X V V1 : World} (hJ : Bears W.heap.size J) (hWF : W.heap.size < F) (hI : GIc W C0 F l' s J pre Co C X) (hFX : F < X.heap.size) (hWX : W.heap.size ≤ X.heap.size)
    (e2 : restA (pre ++ [y]) s = r2) (e3 : doneL (pre ++ [y]) s = told) (hxv : Round C X (fun k => C k ∨ Co2 k) V) (hj : J told Co2 V) (hit : It C0 W Co2 V) (nF : ¬ Co2 F) (nX : ¬ Co2 W.heap.size) {q : Sp} (hrF : SpAt V F q) (hyd : V.cell? ⟨W.heap.size, 0, none⟩ = some (.func (.yield l') #[] #[]))
    (h1 : Below V.heap.size V V1) :
    ∃ C', Round C X C' ((V1.setCell ⟨F, 0, none⟩ (.int .i64 r2.1)).setCell ⟨F, 1, none⟩ (.int .i64 r2.2)) ∧ GI W C0 F l' s J (pre ++ [y]) C' ((V1.setCell ⟨F, 0, none⟩ (.int .i64 r2.1)).setCell ⟨F, 1, none⟩ (.int .i64 r2.2)) := by
  have hF1 := hrF.later h1
  have hput := hF1.put r2.1 r2.2
  have hst : ∀ K : Nat → Prop, ¬ K F → rng.Steps K V ((V1.setCell ⟨F, 0, none⟩ (.int .i64 r2.1)).setCell ⟨F, 1, none⟩ (.int .i64 r2.2)) := fun K hK =>
    ((Steps.of_below h1 K).trans (rng.Steps.setCell K V1 ⟨F, 0, none⟩ _ hK)).trans (rng.Steps.setCell K _ ⟨F, 1, none⟩ _ hK)
  generalize (V1.setCell ⟨F, 0, none⟩ (.int .i64 r2.1)).setCell ⟨F, 1, none⟩ (.int .i64 r2.2) = Y at *
  have s1 := hst (fun k => k < W.heap.size ∨ Co2 k) (by rintro (e | e); omega; exact nF e)
  refine ⟨fun k => C k ∨ Co2 k, hxv.trans ⟨hst _ (fun e => e (.inl hI.cF)), fun k hk => .inl hk⟩, Co2, ⟨fun k hk => .inr hk, .inl hI.cF, ?_, hit.own s1, nF, nX, by rw [e2]; exact hput, ?_⟩⟩
  · rw [e3]; exact hJ _ _ _ _ hj hit.kept.size s1
  · exact (hst (fun k => k = W.heap.size) (by omega)).cell rfl hyd
end Go.Proofs.Ytdoedcfmhdnbgaa.rn
