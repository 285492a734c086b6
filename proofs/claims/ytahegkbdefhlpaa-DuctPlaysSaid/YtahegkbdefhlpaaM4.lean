/-
  Several texts in one: Rng RngM DctN DctI Held RngMB DctH DctP
-/
import Derived.RangeFuncNested
import Derived.RangeFuncBound
import Derived.RangeFuncCalls
import Derived.RangeFuncLeaves
import Derived.OrdersIn
import Derived.RangeFuncWrites
import Derived.Shelf.Abstract
import Derived.Shelf.RegionOpen
import Derived.WalkKit
import Derived.OwnWalkIn
import Derived.TacticsInMore
import Derived.LoopNIn
import Derived.LoopIn
import Derived.Sort.QuietIn
import Derived.Sort.CutIn
import Derived.Deep.RegionHeld
import Derived.Test.YtahegkbdefhlpaaM3
/-!   Ranges over functions, iterators within iterators among them: what a round writes and what an iterator writes are told apart by a set of blocks. Imports nothing of the program.
-/
namespace Go.Proofs.Ytahegkbdefhlpaa.rng
open Go.RowKit mem
set_option linter.unusedVariables false

/-- a step that leaves some blocks as they lay -/
structure Steps (K : Nat → Prop) (W W' : World) : Prop where
  os : W'.os = W.os
  tape : W'.tape = W.tape
  output : W'.output = W.output
  size : W.heap.size ≤ W'.heap.size
  same : ∀ k, k < W.heap.size → K k → W'.heap[k]? = W.heap[k]?
theorem Steps.refl (K : Nat → Prop) (W : World) : Steps K W W := ⟨rfl, rfl, rfl, Nat.le_refl _, fun _ _ _ => rfl⟩
theorem Steps.trans {K : Nat → Prop} {A B C : World} (h : Steps K A B) (k : Steps K B C) : Steps K A C :=
  ⟨k.os.trans h.os, k.tape.trans h.tape, k.output.trans h.output, Nat.le_trans h.size k.size, fun x hx hk => (k.same x (Nat.lt_of_lt_of_le hx h.size) hk).trans (h.same x hx hk)⟩
theorem Steps.mono {K K' : Nat → Prop} {A B : World} (h : Steps K A B) (hk : ∀ k, k < A.heap.size → K' k → K k) : Steps K' A B :=
  ⟨h.os, h.tape, h.output, h.size, fun x hx q => h.same x hx (hk x hx q)⟩
theorem Steps.of_below {w w' : World} (h : Below w.heap.size w w') (K : Nat → Prop) : Steps K w w' := ⟨h.os, h.tape, h.output, h.size, fun k hk _ => h.block k hk⟩
theorem Steps.of_kept {S : List Nat} {w w' : World} (h : Kept S w w') (K : Nat → Prop) (hK : ∀ k ∈ S, ¬ K k) : Steps K w w' :=
  ⟨h.os, h.tape, h.output, h.size, fun k hk q => h.block k hk (fun e => hK k e q)⟩
theorem Steps.below {K : Nat → Prop} {w w' : World} {n : Nat} (h : Steps K w w') (hn : n ≤ w.heap.size) (hK : ∀ k, k < n → K k) : Below n w w' :=
  ⟨h.os, h.tape, h.output, h.size, fun k hk => h.same k (by omega) (hK k hk)⟩
theorem Steps.drew (K : Nat → Prop) (W : World) : Steps K W W.drew := ⟨rfl, rfl, rfl, Nat.le_refl _, fun _ _ _ => rfl⟩
theorem Steps.drewN (K : Nat → Prop) (W : World) (n : Nat) : Steps K W (W.drewN n) := ⟨rfl, rfl, rfl, Nat.le_refl _, fun _ _ _ => rfl⟩
theorem Steps.alloc (K : Nat → Prop) (W : World) (o : Obj) : Steps K W (W.alloc o) := .of_below ((Below.refl _ _).alloc (Nat.le_refl _) _) K
theorem Steps.setCell (K : Nat → Prop) (W : World) (p : Addr) (v : Value) (hp : ¬ K p.block) : Steps K W (W.setCell p v) :=
  .of_kept ((Kept.refl [p.block] W).setCell (.inl (by simp)) v) K (by simpa using hp)
theorem Steps.putObj (K : Nat → Prop) (W : World) (l : Nat) (o : Obj) (hl : ¬ K l) : Steps K W (W.putObj l o) :=
  ⟨rfl, rfl, rfl, by simp, fun k hk q => World.putObj_heap_other (fun e => hl (e ▸ q))⟩
theorem Steps.cell {K : Nat → Prop} {w w' : World} (h : Steps K w w') {p : Addr} {v : Value} (hp : K p.block) (hc : w.cell? p = some v) : w'.cell? p = some v :=
  (World.cell?_of_block (h.same p.block (World.block_lt_of_cell? w p hc) hp)).trans hc
theorem Steps.heap {K : Nat → Prop} {w w' : World} (h : Steps K w w') {k : Nat} {o : Obj} (hp : K k) (hc : w.heap[k]? = some o) : w'.heap[k]? = some o :=
  (h.same k (lt_of_block hc) hp).trans hc

/-- a call of yield -/
def Yd (P : Program) (l : Nat) (args : Array Value) (W : World) (R : Ending → World → Prop) : Prop := YieldAt Fence.wide 0 P l args W R
theorem Yd.at {P : Program} {l : Nat} {args : Array Value} {W : World} {R : Ending → World → Prop} (h : Yd P l args W R) (m : Nat) : YieldAt Fence.wide m P l args W R := by
  obtain ⟨fn, tmps, assign, body, hy, h1, h2⟩ := h
  exact ⟨fn, tmps, assign, body, hy, h1, fun c cs _ => h2 c cs (room_wide _)⟩
theorem Yd.inRound {P : Program} {l : Nat} {args : Array Value} {W : World} {R : Ending → World → Prop} (h : Yd P l args W R) (l' m : Nat) : YieldAt (Fence.wide.inRound l') m P l args W R := h.at m
theorem Yd.mono {P : Program} {l : Nat} {args : Array Value} {W : World} {R R' : Ending → World → Prop} (h : Yd P l args W R) (hr : ∀ e w, R e w → R' e w) : Yd P l args W R' := YieldAt.mono h hr
theorem Yd.of {P : Program} {l : Nat} {args : Array Value} {W : World} {R : Ending → World → Prop} {m : Nat} (h : YieldAt Fence.wide m P l args W R) : Yd P l args W R := by
  obtain ⟨fn, tmps, assign, body, hy, h1, h2⟩ := h
  exact ⟨fn, tmps, assign, body, hy, h1, fun c cs _ => h2 c cs (room_wide _)⟩

/-- the consumer's invariant bears the iterator's steps, from block n on -/
def Bears {β : Type} (n : Nat) (J : β → (Nat → Prop) → World → Prop) : Prop :=
  ∀ s C W1 W2, J s C W1 → n ≤ W1.heap.size → Steps (fun k => k < n ∨ C k) W1 W2 → J s C W2
/-- a round: what the consumer may write has grown by new blocks alone; all else lies as it lay -/
def Round (C : Nat → Prop) (W : World) (C' : Nat → Prop) (W' : World) : Prop :=
  Steps (fun k => ¬ C k) W W' ∧ ∀ k, C' k → C k ∨ (W.heap.size ≤ k ∧ k < W'.heap.size)
theorem Round.refl (C : Nat → Prop) (W : World) : Round C W C W := ⟨Steps.refl _ _, fun _ h => .inl h⟩
theorem Round.trans {C C' C'' : Nat → Prop} {A B D : World} (h : Round C A C' B) (k : Round C' B C'' D) : Round C A C'' D := by
  refine ⟨⟨k.1.os.trans h.1.os, k.1.tape.trans h.1.tape, k.1.output.trans h.1.output, Nat.le_trans h.1.size k.1.size, fun x hx hn => ?_⟩, fun x hx => ?_⟩
  · refine (k.1.same x (Nat.lt_of_lt_of_le hx h.1.size) (fun e => ?_)).trans (h.1.same x hx hn)
    rcases h.2 x e with e | e
    · exact hn e
    · omega
  · have a := h.1.size
    have b := k.1.size
    rcases k.2 x hx with e | e
    · rcases h.2 x e with e | e
      · exact .inl e
      · exact .inr ⟨e.1, by omega⟩
    · exact .inr ⟨by omega, e.2⟩
/-- new blocks may be taken in -/
theorem Round.take {C C' : Nat → Prop} {W W' : World} (h : Round C W C' W') : Round C W (fun k => C' k ∨ (W.heap.size ≤ k ∧ k < W'.heap.size)) W' :=
  ⟨h.1, fun k hk => by rcases hk with hk | hk; exact h.2 k hk; exact .inr hk⟩
theorem Round.of_below {w w' : World} (h : Below w.heap.size w w') (C : Nat → Prop) : Round C w C w' := ⟨Steps.of_below h _, fun _ h => .inl h⟩
theorem Round.of_kept {S : List Nat} {w w' : World} {C : Nat → Prop} (h : Kept S w w') (hS : ∀ k ∈ S, C k) : Round C w C w' := ⟨Steps.of_kept h _ (fun k hk q => q (hS k hk)), fun _ h => .inl h⟩

/-- a region in a round whose operations defer nothing is walked as anywhere -/
theorem wpOpIn_round {n : Nat} {P : Program} {ops : Array Oper} {Q : Exit → Act → World → Prop} {l i : Nat} {K : Act → World → Prop} {a : Act} {w : World} (hd : ∀ (i : Nat) (o : Oper), ops[i]? = some o → ∀ c, o.op ≠ .defer c)
    (h : wpOpIn Fence.wide n P ops Q i K a w) : wpOpIn (Fence.wide.inRound l) n P ops Q i K a w := by
  unfold wpOpIn at *
  cases ho : ops[i]? with
  | none => rw [ho] at h; exact h
  | some o =>
    rw [ho] at h
    simp only at h ⊢
    split
    · rename_i hw
      rw [if_pos hw] at h
      unfold Oper.wpIn at *
      refine ⟨h.1, ?_⟩
      have h2 := h.2
      rw [show Fence.wide.round = none from rfl, Oper.semAt_none] at h2
      rw [Oper.semAt_eq _ _ _ (hd i o ho)]
      exact h2
    · rename_i hw
      rw [if_neg hw] at h
      exact h
theorem wpAnyIn_round {n : Nat} {P : Program} {ops : Array Oper} {Q : Exit → Act → World → Prop} {md : Region.Mode} {l : Nat} (hd : ∀ (i : Nat) (o : Oper), ops[i]? = some o → ∀ c, o.op ≠ .defer c) :
    ∀ {fuel : Nat} {listed : Array Bool} {a : Act} {w : World}, wpAnyIn Fence.wide n P md ops Q fuel listed a w → wpAnyIn (Fence.wide.inRound l) n P md ops Q fuel listed a w := by
  intro fuel
  induction fuel with
  | zero => intro listed a w h; exact h
  | succ fuel ih => intro listed a w h; exact ⟨h.1, fun i hi => wpOpIn_mono (fun a w h => ih h) (wpOpIn_round hd (h.2 i hi))⟩
def noDefer (ops : Array Oper) : Bool := ops.all (fun o => match o.op with | .defer _ => false | _ => true)
theorem noDefer_spec {ops : Array Oper} (h : noDefer ops = true) : ∀ (i : Nat) (o : Oper), ops[i]? = some o → ∀ c, o.op ≠ .defer c := by
  intro i o ho c hc
  unfold noDefer at h
  rw [Array.all_eq_true] at h
  obtain ⟨hlt, he⟩ := Array.getElem?_eq_some_iff.1 ho
  have := h i hlt
  rw [he, hc] at this
  simp at this
theorem wpIn_region_round {P : Program} {n l id : Nat} {ops : Array Oper} {Q : Exit → Act → World → Prop} {a : Act} {w : World} (hm : P.follows .mixedOrders = true) (hd : noDefer ops = true)
    (h : wpAnyIn Fence.wide n P .any ops Q ops.size (Array.replicate ops.size false) a w.drew) : (Code.region id ops true).wpIn (Fence.wide.inRound l) n P Q a w :=
  wpIn_region_any hm (wpAnyIn_round (noDefer_spec hd) h)

/-- the end of a round, in one piece -/
theorem one_way {C : Nat → Prop} {W W' : World} {e : Ending} {X Y : (Nat → Prop) → Prop} (h : ∃ C', Round C W C' W' ∧ ((e = .returned (.bool true) ∧ X C') ∨ (e = .returned (.bool false) ∧ Y C'))) :
    ∃ b, e = .returned (.bool b) ∧ ∃ C', Round C W C' W' ∧ ((b = true ∧ X C') ∨ (b = false ∧ Y C')) := by
  obtain ⟨C', hr, ⟨rfl, h⟩ | ⟨rfl, h⟩⟩ := h
  · exact ⟨true, rfl, C', hr, .inl ⟨rfl, h⟩⟩
  · exact ⟨false, rfl, C', hr, .inr ⟨rfl, h⟩⟩
/-- the contract of an iterator that tells the list L; A: what of the old blocks the consumer may write -/
def SeqOf {α : Type} (P : Program) (g : Nat) (lb : Array Value) (encs : α → Array Value) (L : List α) (A : Nat → Prop) (w : World) : Prop :=
  ∀ (l : Nat) (J Jx : List α → (Nat → Prop) → World → Prop) (C0 : Nat → Prop) (W : World),
    Below w.heap.size w W → (∀ k, C0 k → (A k ∨ w.heap.size ≤ k) ∧ k < W.heap.size) → Bears W.heap.size J → Bears W.heap.size Jx →
    (∀ pre x C W1, J pre C W1 → W.heap.size ≤ W1.heap.size → pre ++ [x] <+: L → Yd P l (encs x) W1 fun e W' =>
      ∃ C', Round C W1 C' W' ∧ ((e = .returned (.bool true) ∧ J (pre ++ [x]) C' W') ∨ (e = .returned (.bool false) ∧ Jx (pre ++ [x]) C' W'))) →
    J [] C0 W →
    Calls P g (#[.func (.yield l) #[] #[]] ++ lb) W fun e W' => (∃ v, e = .returned v) ∧ ∃ C', J L C' W' ∨ ∃ pre, Jx pre C' W'
theorem SeqOf.later {α : Type} {P : Program} {g : Nat} {lb : Array Value} {encs : α → Array Value} {L : List α} {A : Nat → Prop} {w w' : World} (h : SeqOf P g lb encs L A w) (hb : Below w.heap.size w w') {A' : Nat → Prop} (hA : ∀ k, A' k → A k ∨ w.heap.size ≤ k) : SeqOf P g lb encs L A' w' :=
  fun l J Jx C0 W hW hC hJ hJx hY h0 => h l J Jx C0 W (hb.trans (hW.mono hb.size)) (fun k hk => by
    have := hb.size
    obtain ⟨a, b⟩ := hC k hk
    refine ⟨?_, b⟩
    rcases a with a | a
    · exact hA k a
    · exact .inr (by omega)) hJ hJx hY h0

/-- what an iterator knows while it runs: W: the world when it was called -/
structure It (C0 : Nat → Prop) (W : World) (C : Nat → Prop) (W1 : World) : Prop where
  grow : ∀ k, C k → (C0 k ∨ W.heap.size ≤ k) ∧ k < W1.heap.size
  kept : Steps (fun k => ¬ C0 k) W W1
theorem It.refl {C0 : Nat → Prop} {W : World} (h : ∀ k, C0 k → k < W.heap.size) : It C0 W C0 W := ⟨fun k hk => ⟨.inl hk, h k hk⟩, Steps.refl _ _⟩
theorem It.round {C0 C C' : Nat → Prop} {W W1 W' : World} (h : It C0 W C W1) (hr : Round C W1 C' W') : It C0 W C' W' := by
  have s := h.kept.size
  refine ⟨fun k hk => ?_, ⟨hr.1.os.trans h.kept.os, hr.1.tape.trans h.kept.tape, hr.1.output.trans h.kept.output, Nat.le_trans s hr.1.size, fun k hk hn => ?_⟩⟩
  · rcases hr.2 k hk with a | a
    · exact ⟨(h.grow k a).1, Nat.lt_of_lt_of_le (h.grow k a).2 hr.1.size⟩
    · exact ⟨.inr (by omega), a.2⟩
  · refine (hr.1.same k (Nat.lt_of_lt_of_le hk s) (fun e => ?_)).trans (h.kept.same k hk hn)
    rcases (h.grow k e).1 with a | a
    · exact hn a
    · omega
theorem It.own {C0 C : Nat → Prop} {W W1 W2 : World} (h : It C0 W C W1) (hs : Steps (fun k => k < W.heap.size ∨ C k) W1 W2) : It C0 W C W2 :=
  ⟨fun k hk => ⟨(h.grow k hk).1, Nat.lt_of_lt_of_le (h.grow k hk).2 hs.size⟩, ⟨hs.os.trans h.kept.os, hs.tape.trans h.kept.tape, hs.output.trans h.kept.output, Nat.le_trans h.kept.size hs.size, fun k hk hn =>
    (hs.same k (Nat.lt_of_lt_of_le hk h.kept.size) (.inl hk)).trans (h.kept.same k hk hn)⟩⟩

theorem It.block {C0 C : Nat → Prop} {W W1 : World} (h : It C0 W C W1) {b : Nat} {o : Obj} (hb : W.heap[b]? = some o) (hn : ¬ C0 b) : W1.heap[b]? = some o := h.kept.heap hn hb

/-- how the body of a round may be left -/
def rPost {α : Type} (I : List α → (Nat → Prop) → World → Prop) (Ix : Code → List α → (Nat → Prop) → World → Prop) (xs : List α) (C : Nat → Prop) (W : World) : Exit → Act → World → Prop
  | .normal, _, W' => ∃ C', Round C W C' W' ∧ I xs C' W'
  | .ret, _, W' => ∃ C', Round C W C' W' ∧ Ix .ret xs C' W'
  | .exit id, _, W' => ∃ C', Round C W C' W' ∧ Ix (.exit id) xs C' W'
  | .goto t, _, W' => ∃ C', Round C W C' W' ∧ Ix (.goto t) xs C' W'
  | .panic _, _, _ => False
  | .outgrown, _, _ => False

/-- **a range over a function**, in a function's body (not within a round) -/
theorem wpIn_range {P : Program} {n : Nat} {α : Type} {g : Operand} {ps : Array Tmp} {assign body : Code} {Q : Exit → Act → World → Prop} {a : Act} {w : World}
    {gf : Nat} {lb : Array Value} (hg : a.eval g = .func (.func gf) #[] lb) (eg : ∀ args w, (callFunc gf args).run P w = .ok (.enter gf args) w)
    {encs : α → Array Value} {L : List α} {A : Nat → Prop} {w0 : World} (hseq : SeqOf P gf lb encs L A w0) (hb0 : Below w0.heap.size w0 w) (hps : ∀ x, (encs x).size = ps.size)
    (I : List α → (Nat → Prop) → World → Prop) (Ix : Code → List α → (Nat → Prop) → World → Prop) (C0 : Nat → Prop) (hC0 : ∀ k, C0 k → (A k ∨ w0.heap.size ≤ k) ∧ k < w.heap.size)
    (hI : Bears w.heap.size I) (hIx : ∀ c, Bears w.heap.size (Ix c)) (h0 : I [] C0 w) (Ax : α → Act → (Nat → Prop) → World → Prop) (hAx : ∀ x a', Bears w.heap.size (fun (_ : Unit) C W => Ax x a' C W))
    (hassign : ∀ (l : Nat) (pre : List α) (x : α) (C : Nat → Prop) (W : World) (K : Act → World → Prop), I pre C W → pre ++ [x] <+: L → (∀ k, C k → k < W.heap.size) → w.heap.size ≤ W.heap.size →
      (∀ a' C' W', Round C W C' W' → I pre C' W' → Ax x a' C' W' → K a' W') →
      assign.wpIn (Fence.wide.inRound l) (n - 1 - 1) P (Exit.then K (fun _ _ _ => False)) { tmps := (ps.zip (encs x)).foldl (fun t (p, v) => t.setIfInBounds p v) a.tmps, defers := [] } W)
    (hbody : ∀ (l : Nat) (pre : List α) (x : α) (a' : Act) (C : Nat → Prop) (W : World), I pre C W → Ax x a' C W → pre ++ [x] <+: L → (∀ k, C k → k < W.heap.size) → w.heap.size ≤ W.heap.size →
      body.wpIn (Fence.wide.inRound l) (n - 1 - 1) P (rPost I Ix (pre ++ [x]) C W) a' W)
    (hdone : ∀ (D : Nat) (C : Nat → Prop) (W : World), w.heap.size ≤ D → ¬ C D → I L C W → W.heap[D]? = some (.deferred (some [])) → Q .normal { a with defers := { target := .collected D, args := #[] } :: a.defers } W)
    (hstop : ∀ (D : Nat) (c : Code) (pre : List α) (C : Nat → Prop) (W : World), w.heap.size ≤ D → ¬ C D → Ix c pre C W → W.heap[D]? = some (.deferred (some [])) → c.wpIn Fence.wide n P Q { a with defers := { target := .collected D, args := #[] } :: a.defers } W) :
    (Code.rangeFunc g ps assign body).wpIn Fence.wide n P Q a w := by
  refine wpIn_rangeFunc ?_
  intro fn hfn
  obtain ⟨rec, hrec⟩ : ∃ rec : LoopState → Option Code → Loop, rec = fun st pe => { state := st, pending := pe, fn, tmps := a.tmps, params := ps, assign, body, defers := w.heap.size } := ⟨_, rfl⟩
  obtain ⟨W1, hW1⟩ : ∃ W1, (w.alloc (.deferred (some []))).alloc (.loop (rec .ready none)) = W1 := ⟨_, rfl⟩
  have hL1 : W1.heap[w.heap.size + 1]? = some (.loop (rec .ready none)) := by
    rw [← hW1]; have := World.alloc_heap_new (w.alloc (.deferred (some []))) (.loop (rec .ready none)); rwa [World.size_alloc] at this
  have hK1 : W1.heap[w.heap.size]? = some (.deferred (some [])) := by
    rw [← hW1]; exact (Below.heap_alloc _ _ _ (by simp)).trans (World.alloc_heap_new w _)
  have hz : W1.heap.size = w.heap.size + 1 + 1 := by rw [← hW1]; simp
  have bw1 : Below w.heap.size w W1 := by rw [← hW1]; exact ((Below.refl _ w).alloc (Nat.le_refl _) _).alloc (by simp) _
  have hI1 : I [] C0 W1 := hI _ _ _ _ h0 (Nat.le_refl _) (Steps.of_below bw1 _)
  refine ⟨w.heap.size + 1, [{ target := .collected w.heap.size, args := #[] }], W1, { target := .fn (.func gf) lb, args := #[.func (.yield (w.heap.size + 1)) #[] #[]] }, W1, gf,
    #[.func (.yield (w.heap.size + 1)) #[] #[]] ++ lb, W1, ?_, ?_, ?_, ?_, (fun h => by simp [Fence.wide] at h), ?_⟩
  · rw [← hW1, hrec]; exact run_enterLoop_outer _ _ _ _ _
  · simp only [resolve, hg]
    simp [go_sem]
  · intro f' hf'; trivial
  · simp [invoke, go_sem, eg]
  · refine callsIn_wide.2 ?_
    -- the two blocks of book-keeping are the consumer's, beside the user's own
    let Cj : (Nat → Prop) → Nat → Prop := fun C k => C k ∨ k = w.heap.size ∨ k = w.heap.size + 1
    let J : List α → (Nat → Prop) → World → Prop := fun pre C' W => ∃ C, C' = Cj C ∧ I pre C W ∧ (¬ C w.heap.size ∧ ¬ C (w.heap.size + 1) ∧ ∀ k, C k → k < W.heap.size) ∧ W.heap[w.heap.size + 1]? = some (.loop (rec .ready none)) ∧ W.heap[w.heap.size]? = some (.deferred (some []))
    let Jx : List α → (Nat → Prop) → World → Prop := fun pre C' W => ∃ C c, C' = Cj C ∧ Ix c pre C W ∧ (¬ C w.heap.size ∧ ¬ C (w.heap.size + 1) ∧ ∀ k, C k → k < W.heap.size) ∧ W.heap[w.heap.size + 1]? = some (.loop (rec .done (some c))) ∧ W.heap[w.heap.size]? = some (.deferred (some []))
    have hsm : ∀ {C : Nat → Prop} {X Y : World}, Steps (fun k => k < W1.heap.size ∨ Cj C k) X Y → Steps (fun k => k < w.heap.size ∨ C k) X Y := fun h => h.mono (fun k _ hk => by
      rcases hk with hk | hk
      · exact .inl (by omega)
      · exact .inr (.inl hk))
    refine (hseq (w.heap.size + 1) J Jx (Cj C0) W1 (hb0.trans (bw1.mono hb0.size)) ?_ ?_ ?_ ?_ ?_).mono ?_
    · intro k hk
      have h1 := hb0.size
      rcases hk with hk | hk | hk
      · exact ⟨(hC0 k hk).1, by have := (hC0 k hk).2; omega⟩
      · exact ⟨.inr (by omega), by omega⟩
      · exact ⟨.inr (by omega), by omega⟩
    · rintro s C' X Y ⟨C, rfl, hi, ⟨h1, h2, h3⟩, hl, hk⟩ hn hs
      exact ⟨C, rfl, hI _ _ _ _ hi (by omega) (hsm hs), ⟨h1, h2, fun k hk => Nat.lt_of_lt_of_le (h3 k hk) hs.size⟩, hs.heap (.inr (.inr (.inr rfl))) hl, hs.heap (.inr (.inr (.inl rfl))) hk⟩
    · rintro s C' X Y ⟨C, c, rfl, hi, ⟨h1, h2, h3⟩, hl, hk⟩ hn hs
      exact ⟨C, c, rfl, hIx c _ _ _ _ hi (by omega) (hsm hs), ⟨h1, h2, fun k hk => Nat.lt_of_lt_of_le (h3 k hk) hs.size⟩, hs.heap (.inr (.inr (.inr rfl))) hl, hs.heap (.inr (.inr (.inl rfl))) hk⟩
    · -- one round
      rintro pre x C' W ⟨C, rfl, hi, ⟨h1, h2, h3⟩, hl, hk⟩ hWs hpre
      have hlt : w.heap.size + 1 < W.heap.size := (Array.getElem?_eq_some_iff.1 hl).1
      have hy := run_yield (P := P) (args := encs x) hl (by rw [hrec]; exact hps x)
      rw [hrec] at hy
      refine Yd.of (m := n - 1 - 1) ⟨fn, _, assign, body, hy, roundIn_of_wpIn hfn (hassign _ pre x C W _ hi hpre h3 (by omega) ?_)⟩
      clear hy
      intro a' Ca Wa hra hia hax
      have h1a : ¬ Ca w.heap.size := fun e => by rcases hra.2 _ e with e | e; exact h1 e; omega
      have h2a : ¬ Ca (w.heap.size + 1) := fun e => by rcases hra.2 _ e with e | e; exact h2 e; omega
      have h3a : ∀ k, Ca k → k < Wa.heap.size := fun k hk => by rcases hra.2 k hk with e | e; exact Nat.lt_of_lt_of_le (h3 k e) hra.1.size; exact e.2
      have hla := hra.1.heap h2 hl
      have hka := hra.1.heap h1 hk
      have hlta : w.heap.size + 1 < Wa.heap.size := (Array.getElem?_eq_some_iff.1 hla).1
      refine ⟨_, run_beginRound hla (by rw [hrec]), ?_⟩
      obtain ⟨Wb, hWb⟩ : ∃ Wb, Wb = Wa.putObj (w.heap.size + 1) (.loop { rec .ready none with state := .busy }) := ⟨_, rfl⟩
      rw [← hWb]
      have hlb : Wb.heap[w.heap.size + 1]? = some (.loop { rec .ready none with state := .busy }) := by rw [hWb]; exact World.putObj_heap_same hlta
      have hkb : Wb.heap[w.heap.size]? = some (.deferred (some [])) := by rw [hWb]; exact (World.putObj_heap_other (by omega)).trans hka
      have sb : Steps (fun k => k < w.heap.size ∨ Ca k) Wa Wb := by rw [hWb]; exact Steps.putObj _ _ _ _ (by rintro (e | e); omega; exact h2a e)
      have rb : Round (Cj Ca) Wa (Cj Ca) Wb := ⟨by rw [hWb]; exact Steps.putObj _ _ _ _ (fun e => e (.inr (.inr rfl))), fun k hk => .inl hk⟩
      have hib := hI _ _ _ _ hia (by omega) sb
      have haxb := hAx x a' () _ _ _ hax (by omega) sb
      have hzb : Wb.heap.size = Wa.heap.size := by rw [hWb]; simp
      have ra : Round (Cj C) W (Cj Ca) Wa := ⟨hra.1.mono (fun k _ hk e => hk (.inl e)), fun k hk => by
        rcases hk with hk | hk
        · rcases hra.2 k hk with e | e; exact .inl (.inl e); exact .inr e
        · exact .inl (.inr hk)⟩
      have rab := ra.trans rb
      refine wpIn_mono (hbody _ pre x a' Ca Wb hib haxb hpre (fun k hk => by rw [hzb]; exact h3a k hk) (by omega)) ?_
      have fin : ∀ (jump : Option Code) (C3 : Nat → Prop) (W3 : World), Round Ca Wb C3 W3 →
          (Instr.endRound (w.heap.size + 1) jump).run P W3 = .ok (.bool jump.isNone) (W3.putObj (w.heap.size + 1) (.loop (rec (if jump.isNone then .ready else .done) jump))) ∧
          (W3.putObj (w.heap.size + 1) (.loop (rec (if jump.isNone then .ready else .done) jump))).heap[w.heap.size + 1]? = some (.loop (rec (if jump.isNone then .ready else .done) jump)) ∧
          (W3.putObj (w.heap.size + 1) (.loop (rec (if jump.isNone then .ready else .done) jump))).heap[w.heap.size]? = some (.deferred (some [])) ∧
          Steps (fun k => k < w.heap.size ∨ C3 k) W3 (W3.putObj (w.heap.size + 1) (.loop (rec (if jump.isNone then .ready else .done) jump))) ∧
          Round (Cj C) W (Cj C3) (W3.putObj (w.heap.size + 1) (.loop (rec (if jump.isNone then .ready else .done) jump))) ∧
          (¬ C3 w.heap.size ∧ ¬ C3 (w.heap.size + 1) ∧ ∀ k, C3 k → k < W3.heap.size) ∧ w.heap.size ≤ W3.heap.size := fun jump C3 W3 hr3 => by
        have h13 : ¬ C3 w.heap.size := fun e => by rcases hr3.2 _ e with e | e; exact h1a e; omega
        have h23 : ¬ C3 (w.heap.size + 1) := fun e => by rcases hr3.2 _ e with e | e; exact h2a e; omega
        have hl3 := hr3.1.heap h2a hlb
        have hk3 := hr3.1.heap h1a hkb
        have := run_endRound (P := P) jump hl3
        have hlt3 := (Array.getElem?_eq_some_iff.1 hl3).1
        rw [hrec] at this ⊢
        refine ⟨this, World.putObj_heap_same hlt3, (World.putObj_heap_other (by omega)).trans hk3, Steps.putObj _ _ _ _ (by rintro (e | e); omega; exact h23 e), ?_, ⟨h13, h23, fun k hk => by rcases hr3.2 k hk with e | e; exact Nat.lt_of_lt_of_le (by rw [hzb]; exact h3a k e) hr3.1.size; exact e.2⟩, by omega⟩
        refine (rab.trans (C'' := Cj C3) (D := W3) ⟨hr3.1.mono (fun k _ hk e => hk (.inl e)), fun k hk => ?_⟩).trans ⟨Steps.putObj _ _ _ _ (fun e => e (.inr (.inr rfl))), fun k hk => .inl hk⟩
        rcases hk with hk | hk
        · rcases hr3.2 k hk with e | e; exact .inl (.inl e); exact .inr e
        · exact .inl (.inr hk)
      rintro e a3 W3 hp
      cases e with
      | normal =>
        obtain ⟨C3, hr3, hi3⟩ := hp
        obtain ⟨hr, hl4, hk4, s4, r4, ⟨b1, b2, b3⟩, b4⟩ := fin none C3 W3 hr3
        exact ⟨_, _, hr, Cj C3, r4, .inl ⟨rfl, C3, rfl, hI _ _ _ _ hi3 b4 s4, ⟨b1, b2, fun k hk => by simpa using b3 k hk⟩, hl4, hk4⟩⟩
      | ret =>
        obtain ⟨C3, hr3, hi3⟩ := hp
        obtain ⟨hr, hl4, hk4, s4, r4, ⟨b1, b2, b3⟩, b4⟩ := fin (some .ret) C3 W3 hr3
        exact ⟨_, _, hr, Cj C3, r4, .inr ⟨rfl, C3, .ret, rfl, hIx _ _ _ _ _ hi3 b4 s4, ⟨b1, b2, fun k hk => by simpa using b3 k hk⟩, hl4, hk4⟩⟩
      | exit id =>
        obtain ⟨C3, hr3, hi3⟩ := hp
        obtain ⟨hr, hl4, hk4, s4, r4, ⟨b1, b2, b3⟩, b4⟩ := fin (some (.exit id)) C3 W3 hr3
        exact ⟨_, _, hr, Cj C3, r4, .inr ⟨rfl, C3, .exit id, rfl, hIx _ _ _ _ _ hi3 b4 s4, ⟨b1, b2, fun k hk => by simpa using b3 k hk⟩, hl4, hk4⟩⟩
      | goto t =>
        obtain ⟨C3, hr3, hi3⟩ := hp
        obtain ⟨hr, hl4, hk4, s4, r4, ⟨b1, b2, b3⟩, b4⟩ := fin (some (.goto t)) C3 W3 hr3
        exact ⟨_, _, hr, Cj C3, r4, .inr ⟨rfl, C3, .goto t, rfl, hIx _ _ _ _ _ hi3 b4 s4, ⟨b1, b2, fun k hk => by simpa using b3 k hk⟩, hl4, hk4⟩⟩
      | panic ch => exact hp.elim
      | outgrown => exact hp.elim
    · exact ⟨C0, rfl, hI1, ⟨fun e => by have := (hC0 _ e).2; omega, fun e => by have := (hC0 _ e).2; omega, fun k hk => by have := (hC0 _ hk).2; omega⟩, hL1, hK1⟩
    · -- behind the iterator
      rintro e W2 ⟨⟨v, rfl⟩, _, (⟨C, rfl, hi, ⟨h1, h2, h3⟩, hl, hk⟩ | ⟨pre, C, c, rfl, hi, ⟨h1, h2, h3⟩, hl, hk⟩)⟩
      · have hlt := (Array.getElem?_eq_some_iff.1 hl).1
        have sp : ∀ o, Steps (fun k => k < w.heap.size ∨ C k) W2 (W2.putObj (w.heap.size + 1) o) := fun o => Steps.putObj _ _ _ _ (by rintro (e | e); omega; exact h2 e)
        exact ⟨none, _, by have := run_endLoop (P := P) hl (by rw [hrec]; simp); rw [hrec] at this; exact this, hdone _ C _ (Nat.le_refl _) h1 (hI _ _ _ _ hi (by omega) (sp _)) ((World.putObj_heap_other (by omega)).trans hk)⟩
      · have hlt := (Array.getElem?_eq_some_iff.1 hl).1
        have sp : ∀ o, Steps (fun k => k < w.heap.size ∨ C k) W2 (W2.putObj (w.heap.size + 1) o) := fun o => Steps.putObj _ _ _ _ (by rintro (e | e); omega; exact h2 e)
        exact ⟨some c, _, by have := run_endLoop (P := P) hl (by rw [hrec]; simp); rw [hrec] at this; exact this, hstop _ c pre C _ (Nat.le_refl _) h1 (hIx _ _ _ _ _ hi (by omega) (sp _)) ((World.putObj_heap_other (by omega)).trans hk)⟩

/-- the same, where the assignment to the loop's variables makes no memory -/
theorem wpIn_range' {P : Program} {n : Nat} {α : Type} {g : Operand} {ps : Array Tmp} {assign body : Code} {Q : Exit → Act → World → Prop} {a : Act} {w : World}
    {gf : Nat} {lb : Array Value} (hg : a.eval g = .func (.func gf) #[] lb) (eg : ∀ args w, (callFunc gf args).run P w = .ok (.enter gf args) w)
    {encs : α → Array Value} {L : List α} {A : Nat → Prop} {w0 : World} (hseq : SeqOf P gf lb encs L A w0) (hb0 : Below w0.heap.size w0 w) (hps : ∀ x, (encs x).size = ps.size)
    (I : List α → (Nat → Prop) → World → Prop) (Ix : Code → List α → (Nat → Prop) → World → Prop) (C0 : Nat → Prop) (hC0 : ∀ k, C0 k → (A k ∨ w0.heap.size ≤ k) ∧ k < w.heap.size)
    (hI : Bears w.heap.size I) (hIx : ∀ c, Bears w.heap.size (Ix c)) (h0 : I [] C0 w) (a₁ : α → Act)
    (hassign : ∀ (l : Nat) (x : α) (W : World) (K : Act → World → Prop), K (a₁ x) W →
      assign.wpIn (Fence.wide.inRound l) (n - 1 - 1) P (Exit.then K (fun _ _ _ => False)) { tmps := (ps.zip (encs x)).foldl (fun t (p, v) => t.setIfInBounds p v) a.tmps, defers := [] } W)
    (hbody : ∀ (l : Nat) (pre : List α) (x : α) (C : Nat → Prop) (W : World), I pre C W → pre ++ [x] <+: L → (∀ k, C k → k < W.heap.size) → w.heap.size ≤ W.heap.size →
      body.wpIn (Fence.wide.inRound l) (n - 1 - 1) P (rPost I Ix (pre ++ [x]) C W) (a₁ x) W)
    (hdone : ∀ (D : Nat) (C : Nat → Prop) (W : World), w.heap.size ≤ D → ¬ C D → I L C W → W.heap[D]? = some (.deferred (some [])) → Q .normal { a with defers := { target := .collected D, args := #[] } :: a.defers } W)
    (hstop : ∀ (D : Nat) (c : Code) (pre : List α) (C : Nat → Prop) (W : World), w.heap.size ≤ D → ¬ C D → Ix c pre C W → W.heap[D]? = some (.deferred (some [])) → c.wpIn Fence.wide n P Q { a with defers := { target := .collected D, args := #[] } :: a.defers } W) :
    (Code.rangeFunc g ps assign body).wpIn Fence.wide n P Q a w :=
  wpIn_range hg eg hseq hb0 hps I Ix C0 hC0 hI hIx h0 (fun x a' _ _ => a' = a₁ x) (fun _ _ _ _ _ _ h _ _ => h)
    (fun l pre x C W K hi _ _ _ hK => hassign l x W K (hK _ C W (Round.refl C W) hi rfl))
    (fun l pre x a' C W hi ha hp hc hz => by subst ha; exact hbody l pre x C W hi hp hc hz) hdone hstop
/-- the same, the frame of a round told by what is laid into the frame at hand -/
theorem wpIn_rangeF {P : Program} {n : Nat} {α : Type} {g : Operand} {ps : Array Tmp} {assign body : Code} {Q : Exit → Act → World → Prop} {a : Act} {w : World} (f : α → Array Value → Array Value)
    {gf : Nat} {lb : Array Value} (hg : a.eval g = .func (.func gf) #[] lb) (eg : ∀ args w, (callFunc gf args).run P w = .ok (.enter gf args) w)
    {encs : α → Array Value} {L : List α} {A : Nat → Prop} {w0 : World} (hseq : SeqOf P gf lb encs L A w0) (hb0 : Below w0.heap.size w0 w) (hps : ∀ x, (encs x).size = ps.size)
    (I : List α → (Nat → Prop) → World → Prop) (Ix : Code → List α → (Nat → Prop) → World → Prop) (C0 : Nat → Prop) (hC0 : ∀ k, C0 k → (A k ∨ w0.heap.size ≤ k) ∧ k < w.heap.size)
    (hI : Bears w.heap.size I) (hIx : ∀ c, Bears w.heap.size (Ix c)) (h0 : I [] C0 w)
    (hassign : ∀ (l : Nat) (x : α) (W : World) (K : Act → World → Prop), K { tmps := f x a.tmps, defers := [] } W →
      assign.wpIn (Fence.wide.inRound l) (n - 1 - 1) P (Exit.then K (fun _ _ _ => False)) { tmps := (ps.zip (encs x)).foldl (fun t (p, v) => t.setIfInBounds p v) a.tmps, defers := [] } W)
    (hbody : ∀ (l : Nat) (pre : List α) (x : α) (C : Nat → Prop) (W : World), I pre C W → pre ++ [x] <+: L → (∀ k, C k → k < W.heap.size) → w.heap.size ≤ W.heap.size →
      body.wpIn (Fence.wide.inRound l) (n - 1 - 1) P (rPost I Ix (pre ++ [x]) C W) { tmps := f x a.tmps, defers := [] } W)
    (hdone : ∀ (D : Nat) (C : Nat → Prop) (W : World), w.heap.size ≤ D → ¬ C D → I L C W → W.heap[D]? = some (.deferred (some [])) → Q .normal { a with defers := { target := .collected D, args := #[] } :: a.defers } W)
    (hstop : ∀ (D : Nat) (c : Code) (pre : List α) (C : Nat → Prop) (W : World), w.heap.size ≤ D → ¬ C D → Ix c pre C W → W.heap[D]? = some (.deferred (some [])) → c.wpIn Fence.wide n P Q { a with defers := { target := .collected D, args := #[] } :: a.defers } W) :
    (Code.rangeFunc g ps assign body).wpIn Fence.wide n P Q a w :=
  wpIn_range' hg eg hseq hb0 hps I Ix C0 hC0 hI hIx h0 (fun x => { tmps := f x a.tmps, defers := [] }) hassign hbody hdone hstop
#print axioms wpIn_rangeF
end Go.Proofs.Ytahegkbdefhlpaa.rng
/-!   Ranges over functions that tell what lies in memory of their own making: what is told is known by a relation. (Written by gen_rngm.py out of XRng.) Imports nothing of the program.
-/
namespace Go.Proofs.Ytahegkbdefhlpaa.rng
open Go.RowKit mem
set_option linter.unusedVariables false

/-- as SeqOf; what is told of an element is any arguments that are its by R -/
def SeqOfM {α : Type} (R : α → World → Array Value → Prop) (P : Program) (g : Nat) (lb : Array Value) (L : List α) (A : Nat → Prop) (w : World) : Prop :=
  ∀ (l : Nat) (J Jx : List α → (Nat → Prop) → World → Prop) (C0 : Nat → Prop) (W : World),
    Below w.heap.size w W → (∀ k, C0 k → (A k ∨ w.heap.size ≤ k) ∧ k < W.heap.size) → Bears W.heap.size J → Bears W.heap.size Jx →
    (∀ pre x C W1 args, J pre C W1 → W.heap.size ≤ W1.heap.size → pre ++ [x] <+: L → R x W1 args → Yd P l args W1 fun e W' =>
      ∃ C', Round C W1 C' W' ∧ ((e = .returned (.bool true) ∧ J (pre ++ [x]) C' W') ∨ (e = .returned (.bool false) ∧ Jx (pre ++ [x]) C' W'))) →
    J [] C0 W →
    Calls P g (#[.func (.yield l) #[] #[]] ++ lb) W fun e W' => (∃ v, e = .returned v) ∧ ∃ C', J L C' W' ∨ ∃ pre, Jx pre C' W'
/-- **a range over a function**, in a function's body (not within a round) -/
theorem wpIn_rangeM {P : Program} {n : Nat} {α : Type} {g : Operand} {ps : Array Tmp} {assign body : Code} {Q : Exit → Act → World → Prop} {a : Act} {w : World}
    {gf : Nat} {lb : Array Value} (hg : a.eval g = .func (.func gf) #[] lb) (eg : ∀ args w, (callFunc gf args).run P w = .ok (.enter gf args) w)
    {R : α → World → Array Value → Prop} {L : List α} {A : Nat → Prop} {w0 : World} (hseq : SeqOfM R P gf lb L A w0) (hb0 : Below w0.heap.size w0 w) (hps : ∀ x W args, R x W args → args.size = ps.size)
    (I : List α → (Nat → Prop) → World → Prop) (Ix : Code → List α → (Nat → Prop) → World → Prop) (C0 : Nat → Prop) (hC0 : ∀ k, C0 k → (A k ∨ w0.heap.size ≤ k) ∧ k < w.heap.size)
    (hI : Bears w.heap.size I) (hIx : ∀ c, Bears w.heap.size (Ix c)) (h0 : I [] C0 w) (Ax : α → Act → (Nat → Prop) → World → Prop) (hAx : ∀ x a' C W W', Ax x a' C W → (∀ (k : Nat) (o : Obj), W.heap[k]? = some o → (∀ r, o ≠ Obj.loop r) → W'.heap[k]? = some o) → W.heap.size ≤ W'.heap.size → Ax x a' C W')
    (hassign : ∀ (l : Nat) (pre : List α) (x : α) (args : Array Value) (C : Nat → Prop) (W : World) (K : Act → World → Prop), R x W args → I pre C W → pre ++ [x] <+: L → (∀ k, C k → k < W.heap.size) → w.heap.size ≤ W.heap.size →
      (∀ a' C' W', Round C W C' W' → I pre C' W' → Ax x a' C' W' → K a' W') →
      assign.wpIn (Fence.wide.inRound l) (n - 1 - 1) P (Exit.then K (fun _ _ _ => False)) { tmps := (ps.zip args).foldl (fun t (p, v) => t.setIfInBounds p v) a.tmps, defers := [] } W)
    (hbody : ∀ (l : Nat) (pre : List α) (x : α) (a' : Act) (C : Nat → Prop) (W : World), I pre C W → Ax x a' C W → pre ++ [x] <+: L → (∀ k, C k → k < W.heap.size) → w.heap.size ≤ W.heap.size →
      body.wpIn (Fence.wide.inRound l) (n - 1 - 1) P (rPost I Ix (pre ++ [x]) C W) a' W)
    (hdone : ∀ (D : Nat) (C : Nat → Prop) (W : World), w.heap.size ≤ D → ¬ C D → I L C W → W.heap[D]? = some (.deferred (some [])) → Q .normal { a with defers := { target := .collected D, args := #[] } :: a.defers } W)
    (hstop : ∀ (D : Nat) (c : Code) (pre : List α) (C : Nat → Prop) (W : World), w.heap.size ≤ D → ¬ C D → Ix c pre C W → W.heap[D]? = some (.deferred (some [])) → c.wpIn Fence.wide n P Q { a with defers := { target := .collected D, args := #[] } :: a.defers } W) :
    (Code.rangeFunc g ps assign body).wpIn Fence.wide n P Q a w := by
  refine wpIn_rangeFunc ?_
  intro fn hfn
  obtain ⟨rec, hrec⟩ : ∃ rec : LoopState → Option Code → Loop, rec = fun st pe => { state := st, pending := pe, fn, tmps := a.tmps, params := ps, assign, body, defers := w.heap.size } := ⟨_, rfl⟩
  obtain ⟨W1, hW1⟩ : ∃ W1, (w.alloc (.deferred (some []))).alloc (.loop (rec .ready none)) = W1 := ⟨_, rfl⟩
  have hL1 : W1.heap[w.heap.size + 1]? = some (.loop (rec .ready none)) := by
    rw [← hW1]; have := World.alloc_heap_new (w.alloc (.deferred (some []))) (.loop (rec .ready none)); rwa [World.size_alloc] at this
  have hK1 : W1.heap[w.heap.size]? = some (.deferred (some [])) := by
    rw [← hW1]; exact (Below.heap_alloc _ _ _ (by simp)).trans (World.alloc_heap_new w _)
  have hz : W1.heap.size = w.heap.size + 1 + 1 := by rw [← hW1]; simp
  have bw1 : Below w.heap.size w W1 := by rw [← hW1]; exact ((Below.refl _ w).alloc (Nat.le_refl _) _).alloc (by simp) _
  have hI1 : I [] C0 W1 := hI _ _ _ _ h0 (Nat.le_refl _) (Steps.of_below bw1 _)
  refine ⟨w.heap.size + 1, [{ target := .collected w.heap.size, args := #[] }], W1, { target := .fn (.func gf) lb, args := #[.func (.yield (w.heap.size + 1)) #[] #[]] }, W1, gf,
    #[.func (.yield (w.heap.size + 1)) #[] #[]] ++ lb, W1, ?_, ?_, ?_, ?_, (fun h => by simp [Fence.wide] at h), ?_⟩
  · rw [← hW1, hrec]; exact run_enterLoop_outer _ _ _ _ _
  · simp only [resolve, hg]
    simp [go_sem]
  · intro f' hf'; trivial
  · simp [invoke, go_sem, eg]
  · refine callsIn_wide.2 ?_
    -- the two blocks of book-keeping are the consumer's, beside the user's own
    let Cj : (Nat → Prop) → Nat → Prop := fun C k => C k ∨ k = w.heap.size ∨ k = w.heap.size + 1
    let J : List α → (Nat → Prop) → World → Prop := fun pre C' W => ∃ C, C' = Cj C ∧ I pre C W ∧ (¬ C w.heap.size ∧ ¬ C (w.heap.size + 1) ∧ ∀ k, C k → k < W.heap.size) ∧ W.heap[w.heap.size + 1]? = some (.loop (rec .ready none)) ∧ W.heap[w.heap.size]? = some (.deferred (some []))
    let Jx : List α → (Nat → Prop) → World → Prop := fun pre C' W => ∃ C c, C' = Cj C ∧ Ix c pre C W ∧ (¬ C w.heap.size ∧ ¬ C (w.heap.size + 1) ∧ ∀ k, C k → k < W.heap.size) ∧ W.heap[w.heap.size + 1]? = some (.loop (rec .done (some c))) ∧ W.heap[w.heap.size]? = some (.deferred (some []))
    have hsm : ∀ {C : Nat → Prop} {X Y : World}, Steps (fun k => k < W1.heap.size ∨ Cj C k) X Y → Steps (fun k => k < w.heap.size ∨ C k) X Y := fun h => h.mono (fun k _ hk => by
      rcases hk with hk | hk
      · exact .inl (by omega)
      · exact .inr (.inl hk))
    refine (hseq (w.heap.size + 1) J Jx (Cj C0) W1 (hb0.trans (bw1.mono hb0.size)) ?_ ?_ ?_ ?_ ?_).mono ?_
    · intro k hk
      have h1 := hb0.size
      rcases hk with hk | hk | hk
      · exact ⟨(hC0 k hk).1, by have := (hC0 k hk).2; omega⟩
      · exact ⟨.inr (by omega), by omega⟩
      · exact ⟨.inr (by omega), by omega⟩
    · rintro s C' X Y ⟨C, rfl, hi, ⟨h1, h2, h3⟩, hl, hk⟩ hn hs
      exact ⟨C, rfl, hI _ _ _ _ hi (by omega) (hsm hs), ⟨h1, h2, fun k hk => Nat.lt_of_lt_of_le (h3 k hk) hs.size⟩, hs.heap (.inr (.inr (.inr rfl))) hl, hs.heap (.inr (.inr (.inl rfl))) hk⟩
    · rintro s C' X Y ⟨C, c, rfl, hi, ⟨h1, h2, h3⟩, hl, hk⟩ hn hs
      exact ⟨C, c, rfl, hIx c _ _ _ _ hi (by omega) (hsm hs), ⟨h1, h2, fun k hk => Nat.lt_of_lt_of_le (h3 k hk) hs.size⟩, hs.heap (.inr (.inr (.inr rfl))) hl, hs.heap (.inr (.inr (.inl rfl))) hk⟩
    · -- one round
      rintro pre x C' W args ⟨C, rfl, hi, ⟨h1, h2, h3⟩, hl, hk⟩ hWs hpre hR
      have hlt : w.heap.size + 1 < W.heap.size := (Array.getElem?_eq_some_iff.1 hl).1
      have hy := run_yield (P := P) (args := args) hl (by rw [hrec]; exact hps x W args hR)
      rw [hrec] at hy
      refine Yd.of (m := n - 1 - 1) ⟨fn, _, assign, body, hy, roundIn_of_wpIn hfn (hassign _ pre x args C W _ hR hi hpre h3 (by omega) ?_)⟩
      clear hy
      intro a' Ca Wa hra hia hax
      have h1a : ¬ Ca w.heap.size := fun e => by rcases hra.2 _ e with e | e; exact h1 e; omega
      have h2a : ¬ Ca (w.heap.size + 1) := fun e => by rcases hra.2 _ e with e | e; exact h2 e; omega
      have h3a : ∀ k, Ca k → k < Wa.heap.size := fun k hk => by rcases hra.2 k hk with e | e; exact Nat.lt_of_lt_of_le (h3 k e) hra.1.size; exact e.2
      have hla := hra.1.heap h2 hl
      have hka := hra.1.heap h1 hk
      have hlta : w.heap.size + 1 < Wa.heap.size := (Array.getElem?_eq_some_iff.1 hla).1
      refine ⟨_, run_beginRound hla (by rw [hrec]), ?_⟩
      obtain ⟨Wb, hWb⟩ : ∃ Wb, Wb = Wa.putObj (w.heap.size + 1) (.loop { rec .ready none with state := .busy }) := ⟨_, rfl⟩
      rw [← hWb]
      have hlb : Wb.heap[w.heap.size + 1]? = some (.loop { rec .ready none with state := .busy }) := by rw [hWb]; exact World.putObj_heap_same hlta
      have hkb : Wb.heap[w.heap.size]? = some (.deferred (some [])) := by rw [hWb]; exact (World.putObj_heap_other (by omega)).trans hka
      have sb : Steps (fun k => k < w.heap.size ∨ Ca k) Wa Wb := by rw [hWb]; exact Steps.putObj _ _ _ _ (by rintro (e | e); omega; exact h2a e)
      have rb : Round (Cj Ca) Wa (Cj Ca) Wb := ⟨by rw [hWb]; exact Steps.putObj _ _ _ _ (fun e => e (.inr (.inr rfl))), fun k hk => .inl hk⟩
      have hib := hI _ _ _ _ hia (by omega) sb
      have haxb : Ax x a' Ca Wb := hAx x a' Ca Wa Wb hax (fun k o ho hno => by
        have hne : k ≠ w.heap.size + 1 := fun e => by
          subst e
          rw [hla] at ho
          injection ho with ho
          exact hno _ ho.symm
        rw [hWb]; exact (World.putObj_heap_other (by omega)).trans ho) (by rw [hWb]; simp)
      have hzb : Wb.heap.size = Wa.heap.size := by rw [hWb]; simp
      have ra : Round (Cj C) W (Cj Ca) Wa := ⟨hra.1.mono (fun k _ hk e => hk (.inl e)), fun k hk => by
        rcases hk with hk | hk
        · rcases hra.2 k hk with e | e; exact .inl (.inl e); exact .inr e
        · exact .inl (.inr hk)⟩
      have rab := ra.trans rb
      refine wpIn_mono (hbody _ pre x a' Ca Wb hib haxb hpre (fun k hk => by rw [hzb]; exact h3a k hk) (by omega)) ?_
      have fin : ∀ (jump : Option Code) (C3 : Nat → Prop) (W3 : World), Round Ca Wb C3 W3 →
          (Instr.endRound (w.heap.size + 1) jump).run P W3 = .ok (.bool jump.isNone) (W3.putObj (w.heap.size + 1) (.loop (rec (if jump.isNone then .ready else .done) jump))) ∧
          (W3.putObj (w.heap.size + 1) (.loop (rec (if jump.isNone then .ready else .done) jump))).heap[w.heap.size + 1]? = some (.loop (rec (if jump.isNone then .ready else .done) jump)) ∧
          (W3.putObj (w.heap.size + 1) (.loop (rec (if jump.isNone then .ready else .done) jump))).heap[w.heap.size]? = some (.deferred (some [])) ∧
          Steps (fun k => k < w.heap.size ∨ C3 k) W3 (W3.putObj (w.heap.size + 1) (.loop (rec (if jump.isNone then .ready else .done) jump))) ∧
          Round (Cj C) W (Cj C3) (W3.putObj (w.heap.size + 1) (.loop (rec (if jump.isNone then .ready else .done) jump))) ∧
          (¬ C3 w.heap.size ∧ ¬ C3 (w.heap.size + 1) ∧ ∀ k, C3 k → k < W3.heap.size) ∧ w.heap.size ≤ W3.heap.size := fun jump C3 W3 hr3 => by
        have h13 : ¬ C3 w.heap.size := fun e => by rcases hr3.2 _ e with e | e; exact h1a e; omega
        have h23 : ¬ C3 (w.heap.size + 1) := fun e => by rcases hr3.2 _ e with e | e; exact h2a e; omega
        have hl3 := hr3.1.heap h2a hlb
        have hk3 := hr3.1.heap h1a hkb
        have := run_endRound (P := P) jump hl3
        have hlt3 := (Array.getElem?_eq_some_iff.1 hl3).1
        rw [hrec] at this ⊢
        refine ⟨this, World.putObj_heap_same hlt3, (World.putObj_heap_other (by omega)).trans hk3, Steps.putObj _ _ _ _ (by rintro (e | e); omega; exact h23 e), ?_, ⟨h13, h23, fun k hk => by rcases hr3.2 k hk with e | e; exact Nat.lt_of_lt_of_le (by rw [hzb]; exact h3a k e) hr3.1.size; exact e.2⟩, by omega⟩
        refine (rab.trans (C'' := Cj C3) (D := W3) ⟨hr3.1.mono (fun k _ hk e => hk (.inl e)), fun k hk => ?_⟩).trans ⟨Steps.putObj _ _ _ _ (fun e => e (.inr (.inr rfl))), fun k hk => .inl hk⟩
        rcases hk with hk | hk
        · rcases hr3.2 k hk with e | e; exact .inl (.inl e); exact .inr e
        · exact .inl (.inr hk)
      rintro e a3 W3 hp
      cases e with
      | normal =>
        obtain ⟨C3, hr3, hi3⟩ := hp
        obtain ⟨hr, hl4, hk4, s4, r4, ⟨b1, b2, b3⟩, b4⟩ := fin none C3 W3 hr3
        exact ⟨_, _, hr, Cj C3, r4, .inl ⟨rfl, C3, rfl, hI _ _ _ _ hi3 b4 s4, ⟨b1, b2, fun k hk => by simpa using b3 k hk⟩, hl4, hk4⟩⟩
      | ret =>
        obtain ⟨C3, hr3, hi3⟩ := hp
        obtain ⟨hr, hl4, hk4, s4, r4, ⟨b1, b2, b3⟩, b4⟩ := fin (some .ret) C3 W3 hr3
        exact ⟨_, _, hr, Cj C3, r4, .inr ⟨rfl, C3, .ret, rfl, hIx _ _ _ _ _ hi3 b4 s4, ⟨b1, b2, fun k hk => by simpa using b3 k hk⟩, hl4, hk4⟩⟩
      | exit id =>
        obtain ⟨C3, hr3, hi3⟩ := hp
        obtain ⟨hr, hl4, hk4, s4, r4, ⟨b1, b2, b3⟩, b4⟩ := fin (some (.exit id)) C3 W3 hr3
        exact ⟨_, _, hr, Cj C3, r4, .inr ⟨rfl, C3, .exit id, rfl, hIx _ _ _ _ _ hi3 b4 s4, ⟨b1, b2, fun k hk => by simpa using b3 k hk⟩, hl4, hk4⟩⟩
      | goto t =>
        obtain ⟨C3, hr3, hi3⟩ := hp
        obtain ⟨hr, hl4, hk4, s4, r4, ⟨b1, b2, b3⟩, b4⟩ := fin (some (.goto t)) C3 W3 hr3
        exact ⟨_, _, hr, Cj C3, r4, .inr ⟨rfl, C3, .goto t, rfl, hIx _ _ _ _ _ hi3 b4 s4, ⟨b1, b2, fun k hk => by simpa using b3 k hk⟩, hl4, hk4⟩⟩
      | panic ch => exact hp.elim
      | outgrown => exact hp.elim
    · exact ⟨C0, rfl, hI1, ⟨fun e => by have := (hC0 _ e).2; omega, fun e => by have := (hC0 _ e).2; omega, fun k hk => by have := (hC0 _ hk).2; omega⟩, hL1, hK1⟩
    · -- behind the iterator
      rintro e W2 ⟨⟨v, rfl⟩, _, (⟨C, rfl, hi, ⟨h1, h2, h3⟩, hl, hk⟩ | ⟨pre, C, c, rfl, hi, ⟨h1, h2, h3⟩, hl, hk⟩)⟩
      · have hlt := (Array.getElem?_eq_some_iff.1 hl).1
        have sp : ∀ o, Steps (fun k => k < w.heap.size ∨ C k) W2 (W2.putObj (w.heap.size + 1) o) := fun o => Steps.putObj _ _ _ _ (by rintro (e | e); omega; exact h2 e)
        exact ⟨none, _, by have := run_endLoop (P := P) hl (by rw [hrec]; simp); rw [hrec] at this; exact this, hdone _ C _ (Nat.le_refl _) h1 (hI _ _ _ _ hi (by omega) (sp _)) ((World.putObj_heap_other (by omega)).trans hk)⟩
      · have hlt := (Array.getElem?_eq_some_iff.1 hl).1
        have sp : ∀ o, Steps (fun k => k < w.heap.size ∨ C k) W2 (W2.putObj (w.heap.size + 1) o) := fun o => Steps.putObj _ _ _ _ (by rintro (e | e); omega; exact h2 e)
        exact ⟨some c, _, by have := run_endLoop (P := P) hl (by rw [hrec]; simp); rw [hrec] at this; exact this, hstop _ c pre C _ (Nat.le_refl _) h1 (hIx _ _ _ _ _ hi (by omega) (sp _)) ((World.putObj_heap_other (by omega)).trans hk)⟩

#print axioms wpIn_rangeM
end Go.Proofs.Ytahegkbdefhlpaa.rng
/-!   Package duct: what is told of none; DuctNone.
-/
namespace Go.Proofs.Ytahegkbdefhlpaa.dc
open Go.RowKit Go.Maps aid mem rng
attribute [local go_sem ↓] Go.wp_at_zero Go.wp_at_succ
set_option linter.unusedVariables false
set_option linter.unusedSimpArgs false

/-- what is told of a copy under way -/
def RC (x : Dk) (i : Nat) (W : World) (args : Array Value) : Prop := ∃ a cap, args = #[.agg #[.int .i64 (i : Nat), .int .i64 (cpAt x.l i).f, .int .i64 (cpAt x.l i).a, .slice a (cpAt x.l i).raw.length cap]] ∧ BRow W a (cpAt x.l i).raw.length cap (cpAt x.l i).raw
theorem eg_fly : ∀ args w, (callFunc 36 args).run Try.prog w = .ok (.enter 36 args) w := enters_of Try.func36 (by kernel_rfl) rfl
def RetFl (p : Value) (w : World) (e : Ending) (w' : World) : Prop := ∃ bx, e = .returned (.func (.func 36) #[] #[.pointer (some ⟨bx, 0, none⟩)]) ∧ w'.cell? ⟨bx, 0, none⟩ = some p ∧ Below w.heap.size w w' ∧ w.heap.size ≤ bx
theorem flying_any (p : Option Addr) (w : World) : Calls Try.prog 21 #[.pointer p] w (RetFl (.pointer p) w) := by
  have hx := heap_alloc_new w (.cells #[.pointer p] 27)
  have hb := bal (w := w) (.cells #[.pointer p] 27)
  have HF := Lib.hid (show RetFl (.pointer p) w (.returned (.func (.func 36) #[] #[.pointer (some ⟨w.heap.size, 0, none⟩)])) (w.alloc (.cells #[.pointer p] 27)) from ⟨_, rfl, cofr hx 0 _ rfl, hb, Nat.le_refl _⟩)
  clear hx hb
  go_enter Try.func21, Try.ntmps21
  go_wp2
  go_ret
  exact HF.out
theorem fly_none {R : Nat → World → Array Value → Prop} {w : World} {bx : Nat} (h : w.cell? ⟨bx, 0, none⟩ = some (.pointer none)) (A : Nat → Prop) (hA : ¬ A bx) : SeqOfM R Try.prog 36 #[.pointer (some ⟨bx, 0, none⟩)] [] A w := by
  intro l J Jx C0 W hW hC hJ hJx hY h0
  have cx := (hW.cell (World.block_lt_of_cell? w _ h)).trans h
  show Calls Try.prog 36 #[.func (.yield l) #[] #[], .pointer (some ⟨bx, 0, none⟩)] W _
  have HJ := Lib.hid h0
  clear h hC hJ hJx hY h0 hW
  go_enter Try.func36, Try.ntmps36
  go_wp2
  exact bodyPost_ret (v := .tuple #[]) (by simp [results, Try.results36, go_sem]) rfl ⟨⟨_, rfl⟩, C0, .inl HJ.out⟩

theorem nth_nil (n : Int) (w : World) : Calls Try.prog 20 #[.pointer none, .int .i64 n] w fun e w' => e = .returned (.tuple #[.agg #[.int .i64 0, .int .i64 0, .int .i64 0, .slice none 0 0], .bool false]) ∧ Below w.heap.size w w' := by
  have hb := bal (w := w) (.cells #[.int .i64 0, .int .i64 0, .int .i64 0, .slice none 0 0] 53)
  have hx := heap_alloc_new w (.cells #[.int .i64 0, .int .i64 0, .int .i64 0, .slice none 0 0] 53)
  have e0 := cofr hx 0 _ rfl
  have e1 := cofr hx 1 _ rfl
  have e2 := cofr hx 2 _ rfl
  have e3 := cofr hx 3 _ rfl
  have f0 := fofr hx 0
  have f1 := fofr hx 1
  have f2 := fofr hx 2
  have f3 := fofr hx 3
  go_enter Try.func20, Try.ntmps20
  go_wp2_with fail
  exact bodyPost_ret (v := .tuple #[.agg #[.int .i64 0, .int .i64 0, .int .i64 0, .slice none 0 0], .bool false]) (by simp [results, Try.results20, go_sem, e0, e1, e2, e3]) rfl ⟨rfl, hb⟩
theorem fate_nil (id : Int) (w : World) : Calls Try.prog 13 #[.pointer none, .int .i64 id] w fun e w' => e = .returned (.tuple #[.agg #[.int .i64 0, .int .i64 0, .int .i64 0, .int .i64 0], .bool false]) ∧ Below w.heap.size w w' := by
  have hb := bal (w := w) (.cells #[.int .i64 0, .int .i64 0, .int .i64 0, .int .i64 0] 41)
  have HT := Lib.hid (total_nil (w.alloc (.cells #[.int .i64 0, .int .i64 0, .int .i64 0, .int .i64 0] 41)))
  have hx := heap_alloc_new w (.cells #[.int .i64 0, .int .i64 0, .int .i64 0, .int .i64 0] 41)
  have HX := Lib.hid (fun q => show ((w.alloc (.cells #[.int .i64 0, .int .i64 0, .int .i64 0, .int .i64 0] 41)).drewN q).heap[w.heap.size]? = some (.cells #[.int .i64 0, .int .i64 0, .int .i64 0, .int .i64 0] 41 (0, 0)) from hx)
  have HBB := Lib.hid (fun q => bdn hb q)
  by_cases h1 : id < 0
  · have hd : decide (id < 0) = true := by simpa using h1
    clear HT HX
    have e0 := cofr hx 0 _ rfl
    have e1 := cofr hx 1 _ rfl
    have e2 := cofr hx 2 _ rfl
    have e3 := cofr hx 3 _ rfl
    have f0 := fofr hx 0
    have f1 := fofr hx 1
    have f2 := fofr hx 2
    have f3 := fofr hx 3
    go_enter Try.func13, Try.ntmps13
    go_wp2_with fail
    exact bodyPost_ret (v := .tuple #[.agg #[.int .i64 0, .int .i64 0, .int .i64 0, .int .i64 0], .bool false]) (by simp [results, Try.results13, go_sem, e0, e1, e2, e3]) rfl ⟨rfl, hb⟩
  · have hd : decide (id < 0) = false := by simpa using h1
    have h3 : (0 : Int) ≤ id := by omega
    have h4 : decide ((0 : Int) ≤ id) = true := by simpa using h3
    clear hx
    go_enter Try.func13, Try.ntmps13
    go_wp2_with (go_at_call 18; (with_reducible refine HT.out.at.mono ?_); rintro e w1 ⟨rfl, q, rfl⟩; have hx := HX.out q; have hb := HBB.out q; have e0 := cofr hx 0 _ rfl; have e1 := cofr hx 1 _ rfl; have e2 := cofr hx 2 _ rfl; have e3 := cofr hx 3 _ rfl; have f0 := fofr hx 0; have f1 := fofr hx 1; have f2 := fofr hx 2; have f3 := fofr hx 3)
    have hq := put4_box hx (.int .i64 0) (.int .i64 0) (.int .i64 0) (.int .i64 0)
    have hbq := put4_below hb (Nat.le_refl _) (.int .i64 0) (.int .i64 0) (.int .i64 0) (.int .i64 0)
    have r0 := cofr hq 0 _ rfl
    have r1 := cofr hq 1 _ rfl
    have r2 := cofr hq 2 _ rfl
    have r3 := cofr hq 3 _ rfl
    exact bodyPost_ret (v := .tuple #[.agg #[.int .i64 0, .int .i64 0, .int .i64 0, .int .i64 0], .bool false]) (by simp [results, Try.results13, go_sem, r0, r1, r2, r3]) rfl ⟨rfl, hbq⟩
end Go.Proofs.Ytahegkbdefhlpaa.dc
/-!   Package duct: Flying goes through the copies under way.
-/
namespace Go.Proofs.Ytahegkbdefhlpaa.dc
open Go.RowKit Go.Shelf Go.Maps aid mem rng
attribute [local go_sem] Oper.semAt_some
set_option linter.unusedVariables false
set_option linter.unusedSimpArgs false

/-- a duct behind an iterator's steps: nobody wrote its blocks or its copies' bytes -/
theorem DAt.it {w X : World} {B : Nat} {h : Hm} {x : Dk} {C0 : Nat → Prop} (H : DAt w B h x) (hs : rng.Steps (fun k => ¬ C0 k) w X) (hB : ∀ b ∈ blks B h, ¬ C0 b) (hr : ∀ i ∈ fly x.l, ∀ b ∈ blk (h.rv i).1 (h.rv i).2, ¬ C0 b) : DAt X B h x := by
  obtain ⟨⟨n, D, d, q⟩, r⟩ := H
  have keepR : ∀ {e : TypeId} {sz : Nat} {a : Option Addr} {n cap : Nat} {xs : List Value}, SlR w e sz a n cap xs → (∀ b ∈ blk a cap, ¬ C0 b) → SlR X e sz a n cap xs := fun s hb =>
    ⟨s.len, s.le, s.most, fun h0 => by
      obtain ⟨g, off, cur, rfl, hg, h1, h2⟩ := s.rest h0
      exact ⟨g, off, cur, rfl, hs.heap (hb g (by rw [blk_some _ _ _ h0]; simp)) hg, h1, h2⟩⟩
  refine ⟨⟨n, D, ⟨hs.heap (hB B (by simp)) d.hdr, keepR d.fates (fun b hb => hB b (by simp [hb])), keepR d.order (fun b hb => hB b (by simp [hb])), map_block d.map (fun o ho => hs.heap (hB h.m (by simp)) ho)⟩, q⟩, fun i hi => keepR (r i hi) (hr i hi)⟩
theorem blks_raw {w : World} {B : Nat} {h : Hm} {x : Dk} (H : DAt w B h x) {C0 A : Nat → Prop} (hA : ∀ k, C0 k → A k ∨ w.heap.size ≤ k) (h1 : ∀ b, A b → ∀ cs, w.heap[b]? ≠ some (.cells cs 5 (0, 0))) (h2 : ∀ b ∈ blks B h, ¬ A b) :
    (∀ b ∈ blks B h, ¬ C0 b) ∧ ∀ i ∈ fly x.l, ∀ b ∈ blk (h.rv i).1 (h.rv i).2, ¬ C0 b := by
  refine ⟨fun b hb e => ?_, fun i hi b hb e => ?_⟩
  · rcases hA b e with q | q
    · exact h2 b hb q
    · have := H.lt b hb; omega
  · obtain ⟨q1, cs, hc⟩ := (H.raws i hi).lt b hb
    rcases hA b e with q | q
    · exact h1 b q cs hc
    · omega
set_option maxRecDepth 100000 in
set_option maxHeartbeats 8000000 in
theorem fly_seq {w : World} {B : Nat} {h : Hm} {x : Dk} {bx : Nat} {A : Nat → Prop} (H : DAt w B h x) (hx : w.cell? ⟨bx, 0, none⟩ = some (.pointer (some ⟨B, 0, none⟩))) (hax : ¬ A bx) (h1 : ∀ b, A b → ∀ cs, w.heap[b]? ≠ some (.cells cs 5 (0, 0))) (h2 : ∀ b ∈ blks B h, ¬ A b)
    (hn : x.l.length ≤ 1000000) (hr : ∀ i ∈ fly x.l, (cpAt x.l i).raw.length ≤ 1000000) : SeqOfM (RC x) Try.prog 36 #[.pointer (some ⟨bx, 0, none⟩)] (fly x.l) A w := by
  intro l J Jx C0 W hW hC hJ hJx hY h0
  have cx := (hW.cell (World.block_lt_of_cell? w _ hx)).trans hx
  have hxlt := World.block_lt_of_cell? w _ hx
  show Calls Try.prog 36 #[.func (.yield l) #[] #[], .pointer (some ⟨bx, 0, none⟩)] W _
  obtain ⟨hCB, hCR⟩ := blks_raw H (C0 := C0) (A := A) (fun k hk => (hC k hk).1) h1 h2
  have hCx : ¬ C0 bx := fun e => by
    rcases (hC _ e).1 with q | q
    · exact hax q
    · simp at hxlt; omega
  have HW := H.later hW
  have hfl := fly_len x.l
  -- what is told beside: the duct, the box
  have HT := Lib.hid (fun (C : Nat → Prop) X (it : It C0 W C X) => And.intro (HW.it it.kept hCB hCR) (it.kept.cell (p := ⟨bx, 0, none⟩) hCx cx))
  have HCN := Lib.hid (show Calls Try.prog 29 #[.slice h.oa (fly x.l).length h.oc] W (RetR 3 1 (fly x.l).length (ints .i64 (nms (fly x.l))) W) from by
    obtain ⟨⟨n, D, d, _⟩, _⟩ := HW
    exact nclone_any d.order (ints_one _ _) (by omega))
  unfold RetR at HCN
  have HTL := Lib.hid (fun X (d : DAt X B h x) i hi => tell_any d hn i hi (hr i hi))
  unfold RetTl at HTL
  have HLK := Lib.hid (fun X (d : DAt X B h x) (i : Nat) (hi : i ∈ fly x.l) => show (Instr.lookup 60 (.map (some h.m)) (.int .i64 (i : Nat)) true).run Try.prog X = .ok (.tuple #[.slice (h.rv i).1 (cpAt x.l i).raw.length (h.rv i).2, .bool true]) X from by
    have hlt := (mem_fly.1 hi).1
    have hF : isF x ((i : Nat) : Int) := ⟨by omega, by simpa using hi⟩
    have := (d.look ((i : Nat) : Int) (by omega)).1
    rw [tbl_yes hF, decide_eq_true hF] at this
    exact this)
  have HYY := Lib.hid hY
  have HJ := Lib.hid hJ
  have HJ0 := Lib.hid h0
  have HIT := Lib.hid (It.refl (C0 := C0) (W := W) (fun k hk => (hC k hk).2))
  have HCL := Lib.hid (fun k hk => (hC k hk).2)
  obtain ⟨c0, c1, c2, c3⟩ := HW.cs
  clear H HW hY hJ hJx h0 hx hC hCB hCR h1 h2 hax hxlt hr
  have hMO : Try.prog.follows .mixedOrders = true := by kernel_rfl
  have hfn : ∀ f, Fence.wide.fn f := fun _ => trivial
  refine (callsIn_wide (n := 6)).1 ?_
  refine callsIn_of_wp Try.func36 rfl trivial ?_ rfl
  simp only [Try.ntmps36, List.size_toArray, List.length_cons, List.length_nil, Nat.reduceAdd, Nat.reduceSub, Array.replicate_succ, Array.replicate_zero, List.push_toArray, List.append_toArray, List.nil_append, List.cons_append]
  gi_wp2_with (gi_at_call 29; refine (callsIn_wide.2 HCN.out).mono ?_; rintro e w2 ⟨a', cap', rfl, hr2, hb2, hn2⟩)
  -- the loop
  have HR2 := Lib.hid (And.intro hr2 (And.intro hb2 hn2))
  have I2 : It C0 W C0 w2 := HIT.out.own (Steps.of_below hb2 _)
  have J2 : J [] C0 w2 := HJ.out _ _ _ _ HJ0.out (Nat.le_refl _) (Steps.of_below hb2 _)
  have hlc := hr2.le
  have hmo := hr2.most
  unfold maxLen at hmo
  clear hr2 hb2 hn2 c0 c1 c2 c3 cx HCN
  gi_loopw [15] (fun s15 wr => ∃ (k : Nat) (C : Nat → Prop), s15 = .int .i64 k ∧ k ≤ (fly x.l).length ∧ J ((fly x.l).take k) C wr ∧ It C0 W C wr ∧ SlR wr 3 1 a' (fly x.l).length cap' (ints .i64 (nms (fly x.l))) ∧ (∀ b ∈ blk a' cap', W.heap.size ≤ b ∧ ¬ C b) ∧ W.heap.size ≤ wr.heap.size) (fun i _ => (fly x.l).length - (intOf i).toNat)
  case atStart => exact ⟨0, C0, rfl, by omega, J2, I2, HR2.out.1, fun b hb => ⟨HR2.out.2.2 b hb, fun e => by have := HCL.out b e; have := HR2.out.2.2 b hb; omega⟩, HR2.out.2.1.size⟩
  case round =>
    clear J2 I2 HR2
    obtain ⟨k, C, rfl, hk, hj, it, hrow, hbk, hzW⟩ := hrel
    obtain ⟨D0, cx⟩ := HT.out C wr it
    by_cases hlt : k < (fly x.l).length
    · obtain ⟨i, hi⟩ : ∃ i, i = (fly x.l)[k] := ⟨_, rfl⟩
      have hmem : i ∈ fly x.l := by rw [hi]; exact List.getElem_mem hlt
      obtain ⟨g, off, hga, hcell⟩ := hrow.cell (by omega)
      have ck : wr.cell? ⟨g, off + k, none⟩ = some (.int .i64 (i : Nat)) := by rw [hcell k (by omega), hi]; simp [ints, nms, hlt]
      have hpre : (fly x.l).take k ++ [i] = (fly x.l).take (k + 1) := by rw [hi, List.take_append_getElem]
      have hpp : (fly x.l).take k ++ [i] <+: fly x.l := by rw [hpre]; exact List.take_prefix _ _
      obtain ⟨c0, c1, c2, c3⟩ := D0.cs
      have hlk := HLK.out wr D0 i hmem
      have HTE := Lib.hid (HTL.out wr D0 i hmem)
      have HRW := Lib.hid (And.intro hrow hbk)
      have HIt := Lib.hid it
      have HJJ := Lib.hid hj
      have HPP := Lib.hid (And.intro hpre hpp)
      subst hga
      clear hi hcell hrow hbk it hj hpre hpp D0
      generalize h.rv i = rr at *
      obtain ⟨ra, rc⟩ := rr
      dsimp only at *
      gi_wp2_with (gi_at_call 35; refine (callsIn_wide.2 HTE.out).mono ?_; rintro e w3 ⟨ta, tc, rfl, htr, htb, htn⟩; obtain ⟨fn, tmps, assign, body, hyy, hYQ⟩ := (HYY.out ((fly x.l).take k) i C w3 _ (HJ.out _ _ _ _ HJJ.out hzW (Steps.of_below htb _)) (Nat.le_trans hzW htb.size) HPP.out.2 ⟨ta, tc, rfl, htr⟩).at 5)
      refine hYQ.mono ?_
      have HB3 := Lib.hid htb
      clear hyy hYQ htr htb htn hlk c0 c1 c2 c3 cx ck
      rintro e w4 ⟨C2, hr, ⟨rfl, hj2⟩ | ⟨rfl, hj2⟩⟩
      · have HE := Lib.hid (show J ((fly x.l).take (k + 1)) C2 w4 ∧ It C0 W C2 w4 ∧ SlR w4 3 1 (some ⟨g, off, none⟩) (fly x.l).length cap' (ints .i64 (nms (fly x.l))) ∧ (∀ b ∈ blk (some ⟨g, off, none⟩) cap', W.heap.size ≤ b ∧ ¬ C2 b) ∧ W.heap.size ≤ w4.heap.size from by
          obtain ⟨row, hb⟩ := HRW.out
          have row3 := row.later HB3.out
          refine ⟨by rw [← HPP.out.1]; exact hj2, (HIt.out.own (Steps.of_below HB3.out _)).round hr, ⟨row3.len, row3.le, row3.most, fun h0 => ?_⟩, fun b hb' => ⟨(hb b hb').1, fun e => ?_⟩, Nat.le_trans hzW (Nat.le_trans HB3.out.size hr.1.size)⟩
          · obtain ⟨g', off', cur, hx, hg, h1, h2⟩ := row3.rest h0
            exact ⟨g', off', cur, hx, hr.1.heap ((hb g' (by rw [hx, blk_some _ _ _ h0]; simp)).2) hg, h1, h2⟩
          · rcases hr.2 b e with q | q
            · exact (hb b hb').2 q
            · have := (row.lt b hb').1; have := HB3.out.size; omega)
        clear hr hj2
        gi_wp2
        go_roundw
        case measure => simp [intOf]; omega
        case rel => exact ⟨k + 1, C2, by first | rfl | simp, by omega, HE.out.1, HE.out.2.1, HE.out.2.2.1, HE.out.2.2.2.1, HE.out.2.2.2.2⟩
      · clear hr
        gi_wp2
        exact bodyPost_ret (v := .tuple #[]) (results_none rfl _ _ _) rfl ⟨⟨_, rfl⟩, C2, .inr ⟨_, hj2⟩⟩
    · have hk2 : k = (fly x.l).length := by omega
      have HE := Lib.hid (show J (fly x.l) C wr from by rw [hk2, List.take_length] at hj; exact hj)
      clear hj it hrow hbk D0 cx hk2
      gi_wp2
      exact bodyPost_end (v := .tuple #[]) (results_none rfl _ _ _) rfl ⟨⟨_, rfl⟩, C, .inl HE.out⟩
end Go.Proofs.Ytahegkbdefhlpaa.dc
/-!   A drawn region in a round that holds no yield: walked outside of fences, by the kit's laws that take loads first. Imports nothing of the program.
-/
namespace Go.Proofs.Ytahegkbdefhlpaa.rng
open Go.RowKit mem
set_option linter.unusedVariables false

theorem wpOpIn_of_plain {n : Nat} {P : Program} {ops : Array Oper} {Q : Exit → Act → World → Prop} {i : Nat} {K : Act → World → Prop} {a : Act} {w : World} (hL : ¬ LetsOut Q)
    (h : wpOp P ops Q i K a w) : wpOpIn Fence.wide n P ops Q i K a w := by
  unfold wpOp at h
  unfold wpOpIn
  cases ho : ops[i]? with
  | none => rw [ho] at h; exact h
  | some o =>
    rw [ho] at h
    simp only at h ⊢
    split
    · rename_i hw
      rw [if_pos hw] at h
      rcases h with h | ⟨_, h⟩
      · refine ⟨fun _ _ => trivial, ?_⟩
        rw [show Fence.wide.round = none from rfl, Oper.semAt_none]
        unfold Oper.wp at h
        generalize (execOp a.eval o).run P w = r at *
        cases r with
        | ok x w' =>
          cases x <;> simp only [Oper.upon, Oper.uponIn] at h ⊢
          case value => exact h
          case skip => exact h
          case defer => exact h
          case enter f args => exact ⟨fun h => by simp [Fence.wide] at h, callsIn_wide.2 (Calls.mono h (fun e w'' he => by cases e <;> exact he))⟩
          case row row args => exact ⟨fun h => by simp [Fence.wide] at h, fun c cs _ => by
            obtain ⟨v, w', r, s⟩ := h c cs
            exact ⟨v, w', r, stepsIn_wide.2 s⟩⟩
        | halt x w' =>
          cases x <;> simp only [Oper.upon, Oper.uponIn] at h ⊢
          all_goals first | exact h | exact h.elim
      · exact absurd h hL
    · rename_i hw
      rw [if_neg hw] at h
      exact ⟨fun _ _ => trivial, h⟩
theorem wpAnyIn_of_plain {n : Nat} {P : Program} {ops : Array Oper} {Q : Exit → Act → World → Prop} {md : Region.Mode} (hL : ¬ LetsOut Q) :
    ∀ {fuel : Nat} {listed : Array Bool} {a : Act} {w : World}, wpAny P md ops Q fuel listed a w → wpAnyIn Fence.wide n P md ops Q fuel listed a w := by
  intro fuel
  induction fuel with
  | zero => intro listed a w h; exact h
  | succ fuel ih => intro listed a w h; exact ⟨h.1, fun i hi => wpOpIn_of_plain hL (wpOp_mono (fun a' w' h' => ih h') (h.2 i hi))⟩
/-- **a drawn region in a round, no yield in it**: the kit's 'wpAnyH' is what is walked: loads are taken first (wpAnyH_take), calls by AllReadyH.cons -/
theorem wpIn_region_held {P : Program} {n l id : Nat} {ops : Array Oper} {Q : Exit → Act → World → Prop} {a : Act} {w : World} (S : World → Prop) (hm : P.follows .mixedOrders = true) (hd : noDefer ops = true) (hL : ¬ LetsOut Q)
    (h : wpAnyH P .any ops Q S ops.size (Array.replicate ops.size false) a w.drew) : (Code.region id ops true).wpIn (Fence.wide.inRound l) n P Q a w :=
  wpIn_region_round hm hd (wpAnyIn_of_plain hL (wpAny_of_held _ _ _ _ h))
/-- the same in a function's body -/
theorem wpIn_region_held' {P : Program} {n id : Nat} {ops : Array Oper} {Q : Exit → Act → World → Prop} {a : Act} {w : World} (S : World → Prop) (hm : P.follows .mixedOrders = true) (hL : ¬ LetsOut Q)
    (h : wpAnyH P .any ops Q S ops.size (Array.replicate ops.size false) a w.drew) : (Code.region id ops true).wpIn Fence.wide n P Q a w :=
  wpIn_region_any hm (wpAnyIn_of_plain hL (wpAny_of_held _ _ _ _ h))
#print axioms wpIn_region_held
end Go.Proofs.Ytahegkbdefhlpaa.rng
/-!   A range over a function that tells new memory, whose variable lies in a box. Imports nothing of the program.
-/
namespace Go.Proofs.Ytahegkbdefhlpaa.rng
open Go.RowKit mem
set_option linter.unusedVariables false

/-- a range whose assignment makes a box; b: where it lies, and what was told beside -/
theorem wpIn_rangeMB {P : Program} {n : Nat} {α β : Type} {g : Operand} {ps : Array Tmp} {assign body : Code} {Q : Exit → Act → World → Prop} {a : Act} {w : World} (fr : β → α → Array Value → Array Value)
    {gf : Nat} {lb : Array Value} (hg : a.eval g = .func (.func gf) #[] lb) (eg : ∀ args w, (callFunc gf args).run P w = .ok (.enter gf args) w)
    {R : α → World → Array Value → Prop} {L : List α} {A : Nat → Prop} {w0 : World} (hseq : SeqOfM R P gf lb L A w0) (hb0 : Below w0.heap.size w0 w) (hps : ∀ x W args, R x W args → args.size = ps.size)
    (I : List α → (Nat → Prop) → World → Prop) (Ix : Code → List α → (Nat → Prop) → World → Prop) (C0 : Nat → Prop) (hC0 : ∀ k, C0 k → (A k ∨ w0.heap.size ≤ k) ∧ k < w.heap.size)
    (hI : Bears w.heap.size I) (hIx : ∀ c, Bears w.heap.size (Ix c)) (h0 : I [] C0 w) (Bx : β → α → (Nat → Prop) → World → Prop)
    (hBx : ∀ b x C W W', Bx b x C W → (∀ (k : Nat) (o : Obj), W.heap[k]? = some o → (∀ r, o ≠ Obj.loop r) → W'.heap[k]? = some o) → W.heap.size ≤ W'.heap.size → Bx b x C W')
    (hassign : ∀ (l : Nat) (pre : List α) (x : α) (args : Array Value) (C : Nat → Prop) (W : World) (K : Act → World → Prop), R x W args → I pre C W → pre ++ [x] <+: L → (∀ k, C k → k < W.heap.size) → w.heap.size ≤ W.heap.size →
      (∀ b C' W', Round C W C' W' → I pre C' W' → Bx b x C' W' → K { tmps := fr b x a.tmps, defers := [] } W') →
      assign.wpIn (Fence.wide.inRound l) (n - 1 - 1) P (Exit.then K (fun _ _ _ => False)) { tmps := (ps.zip args).foldl (fun t (p, v) => t.setIfInBounds p v) a.tmps, defers := [] } W)
    (hbody : ∀ (l : Nat) (pre : List α) (x : α) (b : β) (C : Nat → Prop) (W : World), I pre C W → Bx b x C W → pre ++ [x] <+: L → (∀ k, C k → k < W.heap.size) → w.heap.size ≤ W.heap.size →
      body.wpIn (Fence.wide.inRound l) (n - 1 - 1) P (rPost I Ix (pre ++ [x]) C W) { tmps := fr b x a.tmps, defers := [] } W)
    (hdone : ∀ (D : Nat) (C : Nat → Prop) (W : World), w.heap.size ≤ D → ¬ C D → I L C W → W.heap[D]? = some (.deferred (some [])) → Q .normal { a with defers := { target := .collected D, args := #[] } :: a.defers } W)
    (hstop : ∀ (D : Nat) (c : Code) (pre : List α) (C : Nat → Prop) (W : World), w.heap.size ≤ D → ¬ C D → Ix c pre C W → W.heap[D]? = some (.deferred (some [])) → c.wpIn Fence.wide n P Q { a with defers := { target := .collected D, args := #[] } :: a.defers } W) :
    (Code.rangeFunc g ps assign body).wpIn Fence.wide n P Q a w :=
  wpIn_rangeM hg eg hseq hb0 hps I Ix C0 hC0 hI hIx h0 (fun x a' C W => ∃ b, a' = { tmps := fr b x a.tmps, defers := [] } ∧ Bx b x C W)
    (fun x a' C W W' h hk hs => by obtain ⟨b, h1, h2⟩ := h; exact ⟨b, h1, hBx b x C W W' h2 hk hs⟩)
    (fun l pre x args C W K hr hi hp hc hz hK => hassign l pre x args C W K hr hi hp hc hz (fun b C' W' hro hi' hb => hK _ C' W' hro hi' ⟨b, rfl, hb⟩))
    (fun l pre x a' C W hi ha hp hc hz => by obtain ⟨b, rfl, hb⟩ := ha; exact hbody l pre x b C W hi hb hp hc hz) hdone hstop
end Go.Proofs.Ytahegkbdefhlpaa.rng
/-!   Layer 25's law: equal.
-/
namespace Go.Proofs.Ytahegkbdefhlpaa.dc
open Go.RowKit Go.Shelf Go.Maps aid mem rng
attribute [local go_sem] Oper.semAt_some
set_option linter.unusedVariables false
set_option linter.unusedSimpArgs false

/-- the boxes of a comparison, the duct, the document's rows -/
structure ES (w0 w : World) (B : Nat) (h : Hm) (x : Dk) (a : Option Addr) (cap : Nat) (L : List Rc) (W : World) : Prop where
  d : DAt W B h x
  r : RfA w0 W a cap L x
  b0 : W.heap[w.heap.size]? = some (.cells #[.pointer (some ⟨B, 0, none⟩)] 27 (0, 0))
  b1 : W.heap[w.heap.size + 1]? = some (rfO x a cap)
  bt : W.heap[w.heap.size + 1 + 1]? = some (.cells #[.bool false] 4 (0, 0))
  below : Below w.heap.size w W
section
variable {w0 w W W' : World} {B : Nat} {h : Hm} {x : Dk} {a : Option Addr} {cap : Nat} {L : List Rc} (E : ES w0 w B h x a cap L W)
include E
theorem ES.later (hb : Below W.heap.size W W') : ES w0 w B h x a cap L W' :=
  ⟨E.d.later hb, E.r.later hb, (hb.block _ (lt_of_block E.b0)).trans E.b0, (hb.block _ (lt_of_block E.b1)).trans E.b1, (hb.block _ (lt_of_block E.bt)).trans E.bt, E.below.trans (hb.mono E.below.size)⟩
theorem ES.cs : W.cell? ⟨w.heap.size, 0, none⟩ = some (.pointer (some ⟨B, 0, none⟩)) ∧ W.cell? ⟨w.heap.size + 1, 0, none⟩ = some (.int .i64 x.now) ∧ W.cell? ⟨w.heap.size + 1, 1, none⟩ = some (.slice a x.l.length cap) := ⟨cofr E.b0 0 _ rfl, cofr E.b1 0 _ rfl, cofr E.b1 1 _ rfl⟩
end
theorem es_new {w0 w : World} {B : Nat} {h : Hm} {x : Dk} {a : Option Addr} {cap : Nat} {L : List Rc} (d : DAt w B h x) (r : RfA w0 w a cap L x) :
    ES w0 w B h x a cap L (((w.alloc (.cells #[.pointer (some ⟨B, 0, none⟩)] 27)).alloc (rfO x a cap)).alloc (.cells #[.bool false] 4)) := by
  have b1 := bal (w := w) (.cells #[.pointer (some ⟨B, 0, none⟩)] 27)
  have y1 := heap_alloc_new w (.cells #[.pointer (some ⟨B, 0, none⟩)] 27)
  have z1 : (w.alloc (.cells #[.pointer (some ⟨B, 0, none⟩)] 27)).heap.size = w.heap.size + 1 := by simp
  generalize w.alloc (.cells #[.pointer (some ⟨B, 0, none⟩)] 27) = w1 at *
  have b2 := bal (w := w1) (rfO x a cap)
  have y2 := heap_alloc_new w1 (rfO x a cap)
  have z2 : (w1.alloc (rfO x a cap)).heap.size = w.heap.size + 1 + 1 := by simp [z1]
  rw [z1] at y2
  have y12 := (b2.block _ (lt_of_block y1)).trans y1
  have bb := b1.trans (b2.mono b1.size)
  generalize w1.alloc (rfO x a cap) = w2 at *
  have b3 := bal (w := w2) (.cells #[.bool false] 4)
  have y3 := heap_alloc_new w2 (.cells #[.bool false] 4)
  rw [z2] at y3
  have bbb := bb.trans (b3.mono bb.size)
  exact ⟨d.later bbb, r.later bbb, (b3.block _ (lt_of_block y12)).trans y12, (b3.block _ (lt_of_block y2)).trans y2, y3, bbb⟩
/-- a region that is shown to end as it should -/
def OnlyN (Q : Exit → Act → World → Prop) : Exit → Act → World → Prop
  | .normal, a, w => Q .normal a w
  | _, _, _ => False
theorem OnlyN.normal {Q : Exit → Act → World → Prop} {a : Act} {w : World} (h : Q .normal a w) : OnlyN Q .normal a w := h
theorem OnlyN.imp {Q : Exit → Act → World → Prop} : ∀ (e : Exit) (a : Act) (w : World), OnlyN Q e a w → Q e a w := fun e a w h => by
  cases e <;> first | exact h | exact (h : False).elim
theorem wpIn_region_in {P : Program} {n id : Nat} {ops : Array Oper} {Q : Exit → Act → World → Prop} {a : Act} {w : World} (S : World → Prop) (hm : P.follows .mixedOrders = true)
    (h : wpAnyH P .any ops (OnlyN Q) S ops.size (Array.replicate ops.size false) a w.drew) : (Code.region id ops true).wpIn Fence.wide n P Q a w :=
  Code.wpIn_mono OnlyN.imp (wpIn_region_held' S hm (fun ⟨_, _, h⟩ => h) h)
theorem wpIn_region_inR {P : Program} {n l id : Nat} {ops : Array Oper} {Q : Exit → Act → World → Prop} {a : Act} {w : World} (S : World → Prop) (hm : P.follows .mixedOrders = true) (hd : noDefer ops = true)
    (h : wpAnyH P .any ops (OnlyN Q) S ops.size (Array.replicate ops.size false) a w.drew) : (Code.region id ops true).wpIn (Fence.wide.inRound l) n P Q a w :=
  Code.wpIn_mono OnlyN.imp (wpIn_region_held S hm hd (fun ⟨_, _, h⟩ => h) h)
/-- one walk serves every order, in a round too -/
theorem wpIn_region_quietR {P : Program} {n l' id : Nat} {Q : Exit → Act → World → Prop} {a : Act} {w : World} {l : List Oper} (hd : noDefer l.toArray = true) (hm : P.follows .mixedOrders = true) (hB : Region.lexB .any l.toArray = true)
    (h : wpQuietIn Fence.wide n P l.toArray (fun w' => ∃ n, w' = w.drewN n) (fun a' => ∀ w', (∃ n, w' = w.drewN n) → Q .normal a' w') l a) : (Code.region id l.toArray true).wpIn (Fence.wide.inRound l') n P Q a w := by
  simp only [Region.lexB, Bool.and_eq_true] at hB
  refine wpIn_region_round hm hd (wpAnyIn_of_quiet (C := fun w' => ∃ n, w' = w.drewN n) (Q := fun a' => ∀ w', (∃ n, w' = w.drewN n) → Q .normal a' w') rfl (fun _ w' hw' h => h w' hw') _ _ _ _ ⟨1, rfl⟩ ?_)
  have := wpAnyQIn_lex (F := Fence.wide) (n := n) (C := fun w' => ∃ n, w' = w.drewN n) (md := .any) hB.1 l 0 (Array.replicate l.toArray.size false) a (by simp) (by simpa using hB.2) h
  simpa using this
theorem neq_fate (w : World) (f a e k : Int) : (binOp .neq 41 (.agg #[.int .i64 f, .int .i64 a, .int .i64 e, .int .i64 k]) (.agg #[.int .i64 f, .int .i64 a, .int .i64 e, .int .i64 k])).run Try.prog w = .ok (.bool false) w := by
  have hS : Try.prog.underlying 41 = some (.struct (Try.prog.fieldsOf 41)) := by kernel_rfl
  rw [run_neq_struct]
  rw [show (10000 : Nat) = 9999 + 1 from rfl, run_equalIn_agg w 9999 41 _ _ hS (by kernel_rfl)]
  simp only [Program.fieldsOf, Try.underlying41]
  have u3 := Try.underlying3
  have a3 := Try.isAgg3
  have z3 := Try.sizeOf3
  go_simp
/-- behind so many rounds: the counter's box alone was written -/
structure KI (w9 : World) (nb n : Nat) (C : Nat → Prop) (X : World) : Prop where
  kp : Kept [nb] w9 X
  nv : X.heap[nb]? = some (.cells #[.int .i64 (n : Nat)] 3 (0, 0))
  cn : C nb
theorem KI.later {w9 X Y : World} {nb n : Nat} {C : Nat → Prop} (K : KI w9 nb n C X) (hb : Below X.heap.size X Y) : KI w9 nb n C Y := ⟨K.kp.trans (Kept.of_below hb (Nat.le_refl _) [nb]) (fun _ h => .inl h), (hb.block _ (lt_of_block K.nv)).trans K.nv, K.cn⟩
theorem KI.es {w0 w w9 X : World} {B nb n : Nat} {h : Hm} {x : Dk} {a : Option Addr} {cap : Nat} {L : List Rc} {C : Nat → Prop} (K : KI w9 nb n C X) (E : ES w0 w B h x a cap L w9) (h9 : w9.heap[nb]? = some (.cells #[.int .i64 0] 3 (0, 0))) (hB : nb ∉ blks B h) (hw : w.heap.size ≤ nb) : ES w0 w B h x a cap L X := by
  have hne : ∀ {k : Nat} {o : Obj}, w9.heap[k]? = some o → o ≠ .cells #[.int .i64 0] 3 (0, 0) → k ∉ [nb] := fun hk ho e => by
    simp at e; subst e; rw [h9] at hk; injection hk with hk; exact ho hk.symm
  refine ⟨E.d.keep K.kp (fun b hb e => by simp at e; subst e; exact hB hb) (fun b hb cs hc => by simp at hb; subst hb; exact typ_ne h9 hc (by decide) rfl), E.r.keep K.kp (fun b hb cs hc => by simp at hb; subst hb; exact typ_ne h9 hc (by decide) rfl), K.kp.heap (hne E.b0 (by simp)) E.b0, K.kp.heap (hne E.b1 (by simp)) E.b1, K.kp.heap (hne E.bt (by simp)) E.bt, E.below.trans (K.kp.below (by simpa using hw) E.below.size)⟩
theorem KI.bears {w9 : World} {nb : Nat} : rng.Bears w9.heap.size (fun (pre : List Nat) C X => KI w9 nb pre.length C X) := by
  rintro pre C X Y K hz hs
  have hb := hs.below hz (fun k hk => .inl hk)
  exact ⟨⟨hb.os.trans K.kp.os, hb.tape.trans K.kp.tape, hb.output.trans K.kp.output, Nat.le_trans K.kp.size hs.size, fun k hk hn => (hb.block k hk).trans (K.kp.block k hk hn)⟩, hs.heap (.inr K.cn) K.nv, K.cn⟩
abbrev cpA (x : Dk) (i : Nat) (q : Option Addr × Nat) : Array Value := #[.int .i64 (i : Nat), .int .i64 (cpAt x.l i).f, .int .i64 (cpAt x.l i).a, .slice q.1 (cpAt x.l i).raw.length q.2]
/-- the round's variable in its box -/
def BxC (x : Dk) (b : Nat × Option Addr × Nat) (i : Nat) (W : World) : Prop := W.heap[b.1]? = some (.cells (cpA x i b.2) 53 (0, 0)) ∧ BRow W b.2.1 (cpAt x.l i).raw.length b.2.2 (cpAt x.l i).raw
theorem BxC.held {x : Dk} {b : Nat × Option Addr × Nat} {i : Nat} {W W' : World} (h : BxC x b i W) (hk : ∀ (k : Nat) (o : Obj), W.heap[k]? = some o → (∀ r, o ≠ Obj.loop r) → W'.heap[k]? = some o) : BxC x b i W' :=
  ⟨hk _ _ h.1 (fun r => by simp), ⟨h.2.len, h.2.le, h.2.most, fun h0 => by
    obtain ⟨g, off, cur, e, hg, h1, h2⟩ := h.2.rest h0
    exact ⟨g, off, cur, e, hk _ _ hg (fun r => by simp), h1, h2⟩⟩⟩
theorem BxC.later {x : Dk} {b : Nat × Option Addr × Nat} {i : Nat} {W W' : World} (h : BxC x b i W) (hb : Below W.heap.size W W') : BxC x b i W' := ⟨(hb.block _ (lt_of_block h.1)).trans h.1, h.2.later hb⟩
/-- behind the range -/
structure EE (w0 w : World) (B : Nat) (h : Hm) (x : Dk) (a : Option Addr) (cap : Nat) (L : List Rc) (nb D : Nat) (W : World) : Prop where
  es : ES w0 w B h x a cap L W
  nv : W.heap[nb]? = some (.cells #[.int .i64 ((fly x.l).length : Nat)] 3 (0, 0))
  dd : W.heap[D]? = some (.deferred (some []))
theorem EE.later {w0 w W W' : World} {B nb D : Nat} {h : Hm} {x : Dk} {a : Option Addr} {cap : Nat} {L : List Rc} (E : EE w0 w B h x a cap L nb D W) (hb : Below W.heap.size W W') : EE w0 w B h x a cap L nb D W' :=
  ⟨E.es.later hb, (hb.block _ (lt_of_block E.nv)).trans E.nv, (hb.block _ (lt_of_block E.dd)).trans E.dd⟩
theorem EE.cs {w0 w W : World} {B nb D : Nat} {h : Hm} {x : Dk} {a : Option Addr} {cap : Nat} {L : List Rc} (E : EE w0 w B h x a cap L nb D W) : W.cell? ⟨nb, 0, none⟩ = some (.int .i64 ((fly x.l).length : Nat)) ∧ W.cell? ⟨w.heap.size + 1, 0, none⟩ = some (.int .i64 x.now) ∧ W.cell? ⟨w.heap.size + 1, 1, none⟩ = some (.slice a x.l.length cap) := ⟨cofr E.nv 0 _ rfl, E.es.cs.2⟩
theorem EE.st {w0 w W : World} {B nb D : Nat} {h : Hm} {x : Dk} {a : Option Addr} {cap : Nat} {L : List Rc} (E : EE w0 w B h x a cap L nb D W) : (W.setCell ⟨w.heap.size + 1 + 1, 0, none⟩ (.bool true)).cell? ⟨nb, 0, none⟩ = some (.int .i64 ((fly x.l).length : Nat)) ∧ (W.setCell ⟨w.heap.size + 1 + 1, 0, none⟩ (.bool true)).cell? ⟨w.heap.size + 1, 0, none⟩ = some (.int .i64 x.now) ∧ (W.setCell ⟨w.heap.size + 1 + 1, 0, none⟩ (.bool true)).cell? ⟨w.heap.size + 1, 1, none⟩ = some (.slice a x.l.length cap) := by
  have hk : Kept [w.heap.size + 1 + 1] W (W.setCell ⟨w.heap.size + 1 + 1, 0, none⟩ (.bool true)) := (Kept.refl _ W).setCell (.inl (by simp)) _
  have h1 := typ_ne E.nv E.es.bt (by decide)
  exact ⟨cofr (hk.heap (by simpa using h1) E.nv) 0 _ rfl, cofr (hk.heap (by simp) E.es.b1) 0 _ rfl, cofr (hk.heap (by simp) E.es.b1) 1 _ rfl⟩
theorem below_put {n : Nat} {w : World} {D : Nat} (o : Obj) (h : n ≤ D) (hn : n ≤ w.heap.size) : Below n w (w.putObj D o) :=
  (rng.Steps.putObj (fun k => k < n) w D o (by omega)).below hn (fun k hk => hk)
theorem EE.fin {w0 w W : World} {B nb D : Nat} {h : Hm} {x : Dk} {a : Option Addr} {cap : Nat} {L : List Rc} (E : EE w0 w B h x a cap L nb D W) (hD : w.heap.size ≤ D) :
    (W.setCell ⟨w.heap.size + 1 + 1, 0, none⟩ (.bool true)).heap[D]? = some (.deferred (some [])) ∧ ((W.setCell ⟨w.heap.size + 1 + 1, 0, none⟩ (.bool true)).putObj D (.deferred none)).cell? ⟨w.heap.size + 1 + 1, 0, none⟩ = some (.bool true) ∧ Below w.heap.size w ((W.setCell ⟨w.heap.size + 1 + 1, 0, none⟩ (.bool true)).putObj D (.deferred none)) := by
  have hk : Kept [w.heap.size + 1 + 1] W (W.setCell ⟨w.heap.size + 1 + 1, 0, none⟩ (.bool true)) := (Kept.refl _ W).setCell (.inl (by simp)) _
  have hne : D ≠ w.heap.size + 1 + 1 := fun e => by have h1 := E.dd; rw [e, E.es.bt] at h1; simp at h1
  have hx2 := heap_setCell_same W (w.heap.size + 1 + 1) 0 _ _ (.bool true) E.es.bt
  have hx3 := (World.putObj_heap_other (w := W.setCell ⟨w.heap.size + 1 + 1, 0, none⟩ (.bool true)) (r := D) (o := .deferred none) (k := w.heap.size + 1 + 1) (fun e => hne e.symm)).trans hx2
  have hb := hk.below (B := w.heap.size) (by simp <;> omega) E.es.below.size
  exact ⟨hk.heap (by simpa using hne) E.dd, cofr hx3 0 _ rfl, (E.es.below.trans hb).trans (below_put _ hD (by have := E.es.below.size; simpa using this))⟩
set_option maxRecDepth 1000000 in
set_option maxHeartbeats 8000000 in
theorem equal_any {w0 w : World} {B : Nat} {h : Hm} {x : Dk} {a : Option Addr} {cap : Nat} {L : List Rc} (d : DAt w B h x) (r : RfA w0 w a cap L x) (hw0 : Below w0.heap.size w0 w) (hj : JOk 1000 x) :
    Calls Try.prog 10 #[.pointer (some ⟨B, 0, none⟩), rfV x a cap] w fun e w' => e = .returned (.bool true) ∧ Below w.heap.size w w' := by
  have hn : x.l.length ≤ 1000000 := by have := hj.len; omega
  have hr : ∀ i ∈ fly x.l, (cpAt x.l i).raw.length ≤ 1000000 := fun i hi => by have := hj.raw i (mem_fly.1 hi).1; omega
  have hMO : Try.prog.follows .mixedOrders = true := by kernel_rfl
  have hfn : ∀ f, Fence.wide.fn f := fun _ => trivial
  have E0 := es_new d r
  clear d r
  refine (callsIn_wide (n := 6)).1 ?_
  refine callsIn_of_wp_marks Try.func10 rfl trivial ?_ rfl
  simp only [Try.ntmps10, List.size_toArray, List.length_cons, List.length_nil, Nat.reduceAdd, Nat.reduceSub, Array.replicate_succ, Array.replicate_zero, List.push_toArray, List.append_toArray, List.nil_append, List.cons_append]
  have HLA := Lib.hid (fun W (E : ES w0 w B h x a cap L W) => E.cs)
  have HST := Lib.hid (fun W W' (E : ES w0 w B h x a cap L W) (hb : Below W.heap.size W W') => E.later hb)
  have HL := Lib.hid (fun W (E : ES w0 w B h x a cap L W) => show Calls Try.prog 17 #[.pointer (some ⟨B, 0, none⟩)] W fun e w' => e = .returned (.int .i64 ((fly x.l).length : Nat)) ∧ Below W.heap.size W w' from (len_q E.d).below)
  have HRL := Lib.hid (fun W (E : ES w0 w B h x a cap L W) => show Calls Try.prog 25 #[rfV x a cap] W fun e w' => e = .returned (.int .i64 ((fly x.l).length : Nat)) ∧ Below W.heap.size W w' from rlen_any E.r hn)
  have HTO := Lib.hid (fun W (E : ES w0 w B h x a cap L W) => show Calls Try.prog 18 #[.pointer (some ⟨B, 0, none⟩)] W fun e w' => e = .returned (.int .i64 (x.l.length : Nat)) ∧ Below W.heap.size W w' from (total_q E.d).below)
  have HDR := Lib.hid (fun W (E : ES w0 w B h x a cap L W) => show ES w0 w B h x a cap L W.drew from E.later (Below.refl _ _).drew)
  gi_wp2
  generalize ((w.alloc (.cells #[.pointer (some ⟨B, 0, none⟩)] 27)).alloc (rfO x a cap)).alloc (.cells #[.bool false] 4) = V0 at *
  have K0 := HDR.out _ E0
  clear E0
  have hHeld : (fun w' : World => w'.cell? ⟨w.heap.size, 0, none⟩ = some (.pointer (some ⟨B, 0, none⟩)) ∧ w'.cell? ⟨w.heap.size + 1, 0, none⟩ = some (.int .i64 x.now) ∧ w'.cell? ⟨w.heap.size + 1, 1, none⟩ = some (.slice a x.l.length cap)) V0.drew := HLA.out _ K0
  refine wpIn_region_in (S := (fun w' => w'.cell? ⟨w.heap.size, 0, none⟩ = some (.pointer (some ⟨B, 0, none⟩)) ∧ w'.cell? ⟨w.heap.size + 1, 0, none⟩ = some (.int .i64 x.now) ∧ w'.cell? ⟨w.heap.size + 1, 1, none⟩ = some (.slice a x.l.length cap))) hMO ?_
  refine wpAnyH_take (i := 0) (oi := _) (v := ?_) rfl (by kernel_rfl) (by kernel_rfl) (by kernel_rfl) (fun _ _ _ h => h) (Or.inl ⟨by kernel_rfl, ?_⟩) (by assumption) ?_
  rotate_left
  · (first | (intro v hSw; (try dsimp only at hSw); go_simp; done) | (intro v hSw; (try dsimp only at hSw); go_simp; with_reducible rfl))
  (try simp only [List.getElem_toArray, List.getElem_cons_succ, List.getElem_cons_zero, Act.put, List.setIfInBounds_toArray, List.set_cons_zero, List.set_cons_succ])
  refine wpAnyH_take (i := 2) (oi := _) (v := ?_) rfl (by kernel_rfl) (by kernel_rfl) (by kernel_rfl) (fun _ _ _ h => h) (Or.inl ⟨by kernel_rfl, ?_⟩) (by assumption) ?_
  rotate_left
  · (first | (intro v hSw; (try dsimp only at hSw); go_simp; done) | (intro v hSw; (try dsimp only at hSw); go_simp; with_reducible rfl))
  (try simp only [List.getElem_toArray, List.getElem_cons_succ, List.getElem_cons_zero, Act.put, List.setIfInBounds_toArray, List.set_cons_zero, List.set_cons_succ])
  refine wpAnyH_ready (rs := [1]) (by kernel_rfl) (by simp) ?_
  refine AllReadyH.cons (o := _) rfl (fun K hK => ?_) AllReadyH.nil
  go_simp
  (refine (HL.out _ K0).mono ?_)
  rintro e v1 ⟨rfl, h1⟩
  have K1 := HST.out _ _ K0 h1
  clear K0 h1 hHeld
  refine hK.out _ _ ?_ (fun hHeld => ?_)
  · ((try dsimp only); exact HLA.out _ K1)
  clear hK K
  (try simp only [List.getElem_toArray, List.getElem_cons_succ, List.getElem_cons_zero, Act.put, List.setIfInBounds_toArray, List.set_cons_zero, List.set_cons_succ])
  refine wpAnyH_ready (rs := [3]) (by kernel_rfl) (by simp) ?_
  refine AllReadyH.cons (o := _) rfl (fun K hK => ?_) AllReadyH.nil
  go_simp
  (refine (HRL.out _ K1).mono ?_)
  rintro e v3 ⟨rfl, h3⟩
  have K2 := HST.out _ _ K1 h3
  clear K1 h3 hHeld
  refine hK.out _ _ ?_ (fun hHeld => ?_)
  · ((try dsimp only); exact HLA.out _ K2)
  clear hK K
  (try simp only [List.getElem_toArray, List.getElem_cons_succ, List.getElem_cons_zero, Act.put, List.setIfInBounds_toArray, List.set_cons_zero, List.set_cons_succ])
  refine wpAnyH_take (i := 4) (oi := _) (v := ?_) rfl (by kernel_rfl) (by kernel_rfl) (by kernel_rfl) (fun _ _ _ h => h) (Or.inl ⟨by kernel_rfl, ?_⟩) (by assumption) ?_
  rotate_left
  · (first | (intro v hSw; (try dsimp only at hSw); go_simp; done) | (intro v hSw; (try dsimp only at hSw); go_simp; with_reducible rfl))
  (try simp only [List.getElem_toArray, List.getElem_cons_succ, List.getElem_cons_zero, Act.put, List.setIfInBounds_toArray, List.set_cons_zero, List.set_cons_succ])
  refine wpAnyH_take (i := 5) (oi := _) (v := ?_) rfl (by kernel_rfl) (by kernel_rfl) (by kernel_rfl) (fun _ _ _ h => h) (Or.inl ⟨by kernel_rfl, ?_⟩) (by assumption) ?_
  rotate_left
  · (first | (intro v hSw; (try dsimp only at hSw); go_simp; done) | (intro v hSw; (try dsimp only at hSw); go_simp; with_reducible rfl))
  (try simp only [List.getElem_toArray, List.getElem_cons_succ, List.getElem_cons_zero, Act.put, List.setIfInBounds_toArray, List.set_cons_zero, List.set_cons_succ])
  refine wpAnyH_take (i := 6) (oi := _) (v := ?_) rfl (by kernel_rfl) (by kernel_rfl) (by kernel_rfl) (fun _ _ _ h => h) (Or.inl ⟨by kernel_rfl, ?_⟩) (by assumption) ?_
  rotate_left
  · (first | (intro v hSw; (try dsimp only at hSw); go_simp; done) | (intro v hSw; (try dsimp only at hSw); go_simp; with_reducible rfl))
  (try simp only [List.getElem_toArray, List.getElem_cons_succ, List.getElem_cons_zero, Act.put, List.setIfInBounds_toArray, List.set_cons_zero, List.set_cons_succ])
  refine wpAnyH_take (i := 8) (oi := _) (v := ?_) rfl (by kernel_rfl) (by kernel_rfl) (by kernel_rfl) (fun _ _ _ h => h) (Or.inl ⟨by kernel_rfl, ?_⟩) (by assumption) ?_
  rotate_left
  · (first | (intro v hSw; (try dsimp only at hSw); go_simp; done) | (intro v hSw; (try dsimp only at hSw); go_simp; with_reducible rfl))
  (try simp only [List.getElem_toArray, List.getElem_cons_succ, List.getElem_cons_zero, Act.put, List.setIfInBounds_toArray, List.set_cons_zero, List.set_cons_succ])
  refine wpAnyH_take (i := 9) (oi := _) (v := ?_) rfl (by kernel_rfl) (by kernel_rfl) (by kernel_rfl) (fun _ _ _ h => h) (Or.inl ⟨by kernel_rfl, ?_⟩) (by assumption) ?_
  rotate_left
  · (first | (intro v hSw; (try dsimp only at hSw); go_simp; done) | (intro v hSw; (try dsimp only at hSw); go_simp; with_reducible rfl))
  (try simp only [List.getElem_toArray, List.getElem_cons_succ, List.getElem_cons_zero, Act.put, List.setIfInBounds_toArray, List.set_cons_zero, List.set_cons_succ])
  refine wpAnyH_take (i := 10) (oi := _) (v := ?_) rfl (by kernel_rfl) (by kernel_rfl) (by kernel_rfl) (fun _ _ _ h => h) (Or.inl ⟨by kernel_rfl, ?_⟩) (by assumption) ?_
  rotate_left
  · (first | (intro v hSw; (try dsimp only at hSw); go_simp; done) | (intro v hSw; (try dsimp only at hSw); go_simp; with_reducible rfl))
  (try simp only [List.getElem_toArray, List.getElem_cons_succ, List.getElem_cons_zero, Act.put, List.setIfInBounds_toArray, List.set_cons_zero, List.set_cons_succ])
  refine wpAnyH_ready (rs := [7]) (by kernel_rfl) (by simp) ?_
  refine AllReadyH.cons (o := _) rfl (fun K hK => ?_) AllReadyH.nil
  go_simp
  (refine (HTO.out _ K2).mono ?_)
  rintro e v7 ⟨rfl, h7⟩
  have K3 := HST.out _ _ K2 h7
  clear K2 h7 hHeld
  refine hK.out _ _ ?_ (fun hHeld => ?_)
  · ((try dsimp only); exact HLA.out _ K3)
  clear hK K
  (try simp only [List.getElem_toArray, List.getElem_cons_succ, List.getElem_cons_zero, Act.put, List.setIfInBounds_toArray, List.set_cons_zero, List.set_cons_succ])
  refine wpAnyH_take (i := 11) (oi := _) (v := ?_) rfl (by kernel_rfl) (by kernel_rfl) (by kernel_rfl) (fun _ _ _ h => h) (Or.inl ⟨by kernel_rfl, ?_⟩) (by assumption) ?_
  rotate_left
  · (first | (intro v hSw; (try dsimp only at hSw); go_simp; done) | (intro v hSw; (try dsimp only at hSw); go_simp; with_reducible rfl))
  (try simp only [List.getElem_toArray, List.getElem_cons_succ, List.getElem_cons_zero, Act.put, List.setIfInBounds_toArray, List.set_cons_zero, List.set_cons_succ])
  refine wpAnyH_take (i := 12) (oi := _) (v := ?_) rfl (by kernel_rfl) (by kernel_rfl) (by kernel_rfl) (fun _ _ _ h => h) (Or.inl ⟨by kernel_rfl, ?_⟩) (by assumption) ?_
  rotate_left
  · (first | (intro v hSw; (try dsimp only at hSw); go_simp; done) | (intro v hSw; (try dsimp only at hSw); go_simp; with_reducible rfl))
  (try simp only [List.getElem_toArray, List.getElem_cons_succ, List.getElem_cons_zero, Act.put, List.setIfInBounds_toArray, List.set_cons_zero, List.set_cons_succ])
  refine wpAnyH_done (by kernel_rfl) ?_ _
  refine OnlyN.normal ?_
  gi_wp2
  have E0 := K3
  clear K3 hHeld
  gi_loopw [5] (fun s5 wr => ∃ i : Int, -1 ≤ i ∧ i ≤ (x.l.length : Int) + 1 ∧ s5 = .int .i64 i ∧ ES w0 w B h x a cap L wr) (fun s _ => ((x.l.length : Int) + 2 - intOf s).toNat)
  case atStart => exact ⟨-1, by omega, by omega, rfl, E0⟩
  case round =>
    clear E0
    obtain ⟨i, hi1, hi2, rfl, E⟩ := hrel
    obtain ⟨c0, c1, c2⟩ := E.cs
    have HFT := Lib.hid (fate_any E.d i hn)
    unfold RetF at HFT
    have HE := Lib.hid (fun V (hb : Below wr.heap.size wr V) => E.later hb)
    have hneq := neq_fate
    by_cases hlt : 0 ≤ i ∧ i < (x.l.length : Int)
    · obtain ⟨k, rfl⟩ : ∃ k : Nat, i = (k : Int) := ⟨i.toNat, by omega⟩
      have hk : k < x.l.length := by omega
      have e1 : ftI x (k : Int) = cpAt x.l k := by unfold ftI; rw [if_pos (by unfold fdI; omega), Int.toNat_natCast]
      have e2 : decide (fdI x (k : Int)) = true := decide_eq_true (by unfold fdI; omega)
      rw [e1, e2] at HFT
      have HCE := Lib.hid (fun V (hb : Below wr.heap.size wr V) => (E.later hb).r.cells hk)
      clear e1 e2 E
      generalize hcc : cpAt x.l k = c at *
      have hle : ((k : Nat) : Int) ≤ (x.l.length : Int) := by omega
      have hlt2 : ((k : Nat) : Int) < (x.l.length : Int) := by omega
      have hge : (0 : Int) ≤ ((k : Nat) : Int) := by omega
      gi_wp2_with (gi_at_call 13; refine (callsIn_wide.2 HFT.out).mono ?_; rintro e w2 ⟨rfl, hb2⟩)
      have hb3 := hb2.trans ((bal (w := w2) (ftO c.f c.a c.e c.k)).mono hb2.size)
      have E3 := HE.out _ hb3
      obtain ⟨g, off, hg, hlc, hcm, k0, k1, k2, k3, k4⟩ := HCE.out _ hb3
      have hx := heap_alloc_new w2 (ftO c.f c.a c.e c.k)
      generalize w2.alloc (ftO c.f c.a c.e c.k) = V3 at *
      obtain ⟨d0, d1, d2⟩ := E3.cs
      obtain ⟨q0, q1, q2, q3⟩ := ft_cs hx
      subst hg
      unfold maxLen at hcm
      clear c0 c1 c2 hx k4
      gi_quiet (fail)
      gi_wp2
      go_roundw
      case rel => exact ⟨(k : Int) + 1, by omega, by omega, by go_num, E3.later (bdn (Below.refl _ _) _)⟩
      case measure => simp [intOf]; omega
    · by_cases hle : i ≤ (x.l.length : Int)
      · have hnf : ¬ fdI x i := by unfold fdI; exact hlt
        have HF0 := Lib.hid (show Calls Try.prog 13 #[.pointer (some ⟨B, 0, none⟩), .int .i64 i] wr fun e w' => e = .returned (.tuple #[.agg #[.int .i64 0, .int .i64 0, .int .i64 0, .int .i64 0], .bool false]) ∧ Below wr.heap.size wr w' from by
          have := HFT.out
          rw [decide_eq_false hnf, show ftI x i = ftC0 from by unfold ftI; rw [if_neg hnf]] at this
          exact this)
        clear HFT hnf E
        gi_wp2_with (gi_at_call 13; refine (callsIn_wide.2 HF0.out).mono ?_; rintro e w2 ⟨rfl, hb2⟩)
        have hb3 := hb2.trans ((bal (w := w2) (ftO 0 0 0 0)).mono hb2.size)
        have E3 := HE.out _ hb3
        have hx := heap_alloc_new w2 (ftO 0 0 0 0)
        generalize w2.alloc (ftO 0 0 0 0) = V3 at *
        obtain ⟨d0, d1, d2⟩ := E3.cs
        obtain ⟨q0, q1, q2, q3⟩ := ft_cs hx
        clear c0 c1 c2 hx
        by_cases h0 : 0 ≤ i
        · have hnl : ¬ i < (x.l.length : Int) := by omega
          gi_quiet (fail)
          gi_wp2
          go_roundw
          case rel => exact ⟨i + 1, by omega, by omega, by go_num, E3.later (bdn (Below.refl _ _) _)⟩
          case measure => simp [intOf]; omega
        · gi_quiet (fail)
          gi_wp2
          go_roundw
          case rel => exact ⟨i + 1, by omega, by omega, by go_num, E3.later (bdn (Below.refl _ _) _)⟩
          case measure => simp [intOf]; omega
      · clear HFT hneq
        have hb1 := bal (w := wr) (.cells #[.int .i64 0] 3)
        have E1 := HE.out _ hb1
        have hnv := heap_alloc_new wr (.cells #[.int .i64 0] 3)
        obtain ⟨d0, d1, d2⟩ := E1.cs
        have hBn : wr.heap.size ∉ blks B h := fun e => by have := E.d.lt _ e; omega
        have hwn := E.below.size
        have HFL := Lib.hid (fun V => flying_any (some ⟨B, 0, none⟩) V)
        unfold RetFl at HFL
        clear E HE
        generalize hnb : wr.heap.size = nb at *
        gi_wp2_with (gi_at_call 21; refine (callsIn_wide.2 (HFL.out _)).mono ?_; rintro e w9 ⟨bx, rfl, hcx, hb9, hbx⟩)
        have E9 := E1.later hb9
        have hnv9 := (hb9.block _ (lt_of_block hnv)).trans hnv
        clear hnv d0 d1 d2 E1 hb1 c0 c1 c2
        have hbn : bx ≠ nb := by simp at hbx; omega
        have hsq := fly_seq (A := fun k => k = nb) E9.d hcx hbn (fun b hb cs hc => by subst hb; exact typ_ne hnv9 hc (by decide) rfl) (fun b hb e => by subst e; exact hBn hb) hn hr
        have HSEQ := Lib.hid hsq
        have hnlt := lt_of_block hnv9
        have HEK := Lib.hid (fun (n : Nat) C X (K : KI w9 nb n C X) => K.es E9 hnv9 hBn hwn)
        have HNT := Lib.hid (fun V (E : ES w0 w B h x a cap L V) (j i : Nat) (hj : (fly x.l)[j]? = some i) (hj2 : j ≤ 1000000) => show Calls Try.prog 26 #[rfV x a cap, .int .i64 (j : Nat)] V (RetI (.int .i64 (i : Nat)) V) from by
          have := rnth_any E.r hn j hj2
          rwa [nthV_yes hj] at this)
        have HND := Lib.hid (fun V (E : ES w0 w B h x a cap L V) (j i : Nat) (hj : (fly x.l)[j]? = some i) => show Calls Try.prog 20 #[.pointer (some ⟨B, 0, none⟩), .int .i64 (j : Nat)] V fun e w' => ∃ a cap, e = .returned (.tuple #[.agg #[.int .i64 (i : Nat), .int .i64 (cpAt x.l i).f, .int .i64 (cpAt x.l i).a, .slice a (cpAt x.l i).raw.length cap], .bool true]) ∧ BRow w' a (cpAt x.l i).raw.length cap (cpAt x.l i).raw ∧ Below V.heap.size V w' from by
          obtain ⟨h1, h2⟩ := List.getElem?_eq_some_iff.1 hj
          have := nth_yes E.d hn hr j h1
          rwa [h2] at this)
        have HN9 := Lib.hid hnv9
        have HWZ := Lib.hid hwn
        clear hsq hcx hbx hbn hBn hb9 hnb hwn
        refine wpIn_rangeMB (fun (b : Nat × Option Addr × Nat) (i : Nat) (t : Array Value) => (t.setIfInBounds 95 (.agg (cpA x i b.2))).setIfInBounds 9 (.pointer (some ⟨b.1, 0, none⟩))) (gf := 36) (lb := #[.pointer (some ⟨bx, 0, none⟩)]) (L := fly x.l) (A := fun k => k = nb) (w0 := w9) (R := RC x) rfl eg_fly HSEQ.out (Below.refl _ _) (fun _ _ _ h => by obtain ⟨_, _, rfl, _⟩ := h; rfl)
          (fun pre C X => KI w9 nb pre.length C X) (fun _ _ _ _ => False) (fun k => k = nb) ?hc0 KI.bears (fun _ _ _ _ _ h => h.elim) ?h0 (fun b i _ X => BxC x b i X) (fun b i C W W' h hk _ => h.held hk) ?assign ?body ?done (fun _ _ _ _ _ _ _ h => h.elim)
        case hc0 => rintro k rfl; exact ⟨.inl rfl, hnlt⟩
        case h0 => exact ⟨Kept.refl _ _, by simpa using hnv9, rfl⟩
        case assign =>
          rintro l' pre i args C X K ⟨ta, tc, rfl, hrow⟩ hI hp hc hz hK
          have b1 := bal (w := X) (.cells (cpA x i (ta, tc)) 53)
          have HK := Lib.hid (hK (X.heap.size, ta, tc) C _ (Round.of_below b1 _) (hI.later b1) ⟨heap_alloc_new X _, hrow.later b1⟩)
          clear hK hI hp hc hz hrow b1
          gi_wp2
          exact HK.out
        case body =>
          rintro l' pre i ⟨b, ta, tc⟩ C X hI hbx hp hcc hz
          obtain ⟨suf, hs⟩ := hp
          have hget : (fly x.l)[pre.length]? = some i := by rw [← hs]; simp
          have hlen : pre.length ≤ 1000000 := by have := (List.getElem?_eq_some_iff.1 hget).1; have := fly_len x.l; omega
          have hil : i < x.l.length := by have := List.mem_of_getElem? hget; exact (mem_fly.1 this).1
          have E := HEK.out _ _ _ hI
          obtain ⟨c0, c1, c2⟩ := E.cs
          have cn := cofr hI.nv 0 _ rfl
          have HN1 := Lib.hid (HNT.out _ E _ i hget hlen)
          have HN2 := Lib.hid (fun V (hb : Below X.heap.size X V) => HND.out V (E.later hb) _ i hget)
          have HALL := Lib.hid (fun V (hb : Below X.heap.size X V) => show V.cell? ⟨w.heap.size, 0, none⟩ = some (.pointer (some ⟨B, 0, none⟩)) ∧ V.cell? ⟨nb, 0, none⟩ = some (.int .i64 (pre.length : Nat)) from ⟨(E.later hb).cs.1, cofr (hI.later hb).nv 0 _ rfl⟩)
          have HEL := Lib.hid (fun V (hb : Below X.heap.size X V) => And.intro (E.later hb) (And.intro (hI.later hb) (And.intro (hbx.later hb) (Kept.of_below hb (Nat.le_refl _) [nb]))))
          simp only [List.setIfInBounds_toArray, List.set_cons_zero, List.set_cons_succ]
          clear hs hget hcc hz HSEQ HN9 HEK HNT HND hI hbx E
          gi_wp2_with (first
            | (gi_at_call 26; refine (callsIn_wide.2 HN1.out).mono ?_; rintro e w1 ⟨rfl, hb1⟩; clear c0 c1 c2 cn; obtain ⟨c0, cn⟩ := HALL.out _ hb1)
            | (gi_at_call 20; refine (callsIn_wide.2 (HN2.out _ hb1)).mono ?_; rintro e w2 ⟨ya, yc, rfl, hyr, hb2⟩))
          have hb3 := hb1.trans (hb2.mono hb1.size)
          have hx2 := heap_alloc_new w2 (.cells #[.int .i64 (i : Nat), .int .i64 (cpAt x.l i).f, .int .i64 (cpAt x.l i).a, .slice ya (cpAt x.l i).raw.length yc] 53)
          have hb5 := bal (w := w2) (.cells #[.int .i64 (i : Nat), .int .i64 (cpAt x.l i).f, .int .i64 (cpAt x.l i).a, .slice ya (cpAt x.l i).raw.length yc] 53)
          have hb4 := hb3.trans (hb5.mono hb3.size)
          have hyr4 := hyr.later hb5
          obtain ⟨E4, I4, B4, P4⟩ := HEL.out _ hb4
          generalize w2.alloc (.cells #[.int .i64 (i : Nat), .int .i64 (cpAt x.l i).f, .int .i64 (cpAt x.l i).a, .slice ya (cpAt x.l i).raw.length yc] 53) = V at *
          have hraw := (E4.r.raw hil).later (hw0.trans (E4.below.mono hw0.size))
          obtain ⟨g, off, hg, hlc, hcm, k0, k1, k2, k3, k4⟩ := E4.r.cells hil
          have HS1 := Lib.hid (fun q => (oc.same_true ta (rcAt L i).a (cpAt x.l i).raw.length tc (rcAt L i).n (cpAt x.l i).raw _ ((SlA.of_r B4.2).drewN q) (hraw.drewN q)).mono (fun e w'' h => show e = .returned (.bool true) ∧ ∃ m, w'' = V.drewN m from by obtain ⟨h1, m, h2⟩ := h; exact ⟨h1, q + m, by rw [h2, World.drewN_drewN]⟩))
          have HS2 := Lib.hid (fun q => (oc.same_true ya ta (cpAt x.l i).raw.length yc tc (cpAt x.l i).raw _ ((SlA.of_r hyr4).drewN q) ((SlA.of_r B4.2).drewN q)).mono (fun e w'' h => show e = .returned (.bool true) ∧ ∃ m, w'' = V.drewN m from by obtain ⟨h1, m, h2⟩ := h; exact ⟨h1, q + m, by rw [h2, World.drewN_drewN]⟩))
          obtain ⟨e0, e1, e2⟩ := E4.cs
          have b0 : V.cell? ⟨b, 0, none⟩ = some (.int .i64 (i : Nat)) := cofr B4.1 0 _ rfl
          have b1 : V.cell? ⟨b, 1, none⟩ = some (.int .i64 (cpAt x.l i).f) := cofr B4.1 1 _ rfl
          have b2 : V.cell? ⟨b, 2, none⟩ = some (.int .i64 (cpAt x.l i).a) := cofr B4.1 2 _ rfl
          have b3 : V.cell? ⟨b, 3, none⟩ = some (.slice ta (cpAt x.l i).raw.length tc) := cofr B4.1 3 _ rfl
          have y0 : V.cell? ⟨w2.heap.size, 0, none⟩ = some (.int .i64 (i : Nat)) := cofr hx2 0 _ rfl
          have y3 : V.cell? ⟨w2.heap.size, 3, none⟩ = some (.slice ya (cpAt x.l i).raw.length yc) := cofr hx2 3 _ rfl
          have n0 : V.cell? ⟨nb, 0, none⟩ = some (.int .i64 (pre.length : Nat)) := cofr I4.nv 0 _ rfl
          have fn0 := fofr I4.nv 0
          have HFI := Lib.hid (And.intro I4 P4)
          clear hraw k2 k3 E4 I4 B4 P4 hx2 hyr4 hyr hb3 hb4 hb5 hb1 hb2 HEL HALL HN1 HN2 c0 cn
          generalize cpAt x.l i = c at *
          generalize rcAt L i = rq at *
          subst hg
          unfold maxLen at hcm
          have hi0 : ¬ ((i : Nat) : Int) < 0 := by omega
          have hilt : ((i : Nat) : Int) < (x.l.length : Int) := by omega
          refine wpIn_region_quietR (by kernel_rfl) hMO (by kernel_rfl) ?_
          repeat (gi_big_quiet_step (first
            | (gi_at_call 16; with_reducible exact callsIn_wide.2 (HS1.out _))
            | (gi_at_call 16; with_reducible exact callsIn_wide.2 (HS2.out _))))
          refine wpQuietIn_nil ?_
          rintro _ ⟨nq, rfl⟩
          have HFQ := Lib.hid (fun (aa : Act) => show rPost (fun pre C X => KI w9 nb pre.length C X) (fun _ _ _ _ => False) (pre ++ [i]) C X .normal aa ((V.drewN nq).setCell ⟨nb, 0, none⟩ (.int .i64 (((pre.length : Nat) : Int) + 1))) from by
            obtain ⟨I4, P4⟩ := HFI.out
            refine ⟨C, Round.of_kept ((P4.drewN nq).setCell (.inl (by simp)) _) (fun k hk => by simp at hk; subst hk; exact I4.cn), ⟨(I4.kp.drewN nq).setCell (.inl (by simp)) _, ?_, I4.cn⟩⟩
            rw [heap_setCell_same (V.drewN nq) nb 0 _ _ _ I4.nv]
            simp)
          have hwr : IntKind.i64.wrap (((pre.length : Nat) : Int) + 1) = ((pre.length : Nat) : Int) + 1 := IntWalk.i64_in _ (by omega)
          gi_wp2
          exact HFQ.out _
        case done =>
          rintro D C X hD hCD hI hK
          have hDw : w.heap.size ≤ D := by have := HWZ.out; omega
          have M0 : EE w0 w B h x a cap L nb D X := ⟨HEK.out _ _ _ hI, hI.nv, hK⟩
          have HM := Lib.hid (fun W W' (E : EE w0 w B h x a cap L nb D W) (hb : Below W.heap.size W W') => E.later hb)
          have HMC := Lib.hid (fun W (E : EE w0 w B h x a cap L nb D W) => E.cs)
          have HMS := Lib.hid (fun W (E : EE w0 w B h x a cap L nb D W) => E.st)
          have HML := Lib.hid (fun W (E : EE w0 w B h x a cap L nb D W) => HRL.out W E.es)
          have HMF := Lib.hid (fun W (E : EE w0 w B h x a cap L nb D W) => E.fin hDw)
          have HNN := Lib.hid (nth_no M0.es.d)
          obtain ⟨c0, _, _⟩ := M0.es.cs
          obtain ⟨cn, _, _⟩ := M0.cs
          clear hI hK hCD HEK HNT HND HSEQ HN9 hnv9 E9 HL HTO HRL HLA HST HDR
          gi_wp2_with (gi_at_call 20; refine (callsIn_wide.2 HNN.out).mono ?_; rintro e w2 ⟨rfl, hb2⟩)
          have hb3 := hb2.trans ((bal (w := w2) cpZ).mono hb2.size)
          have M1 := HM.out _ _ M0 hb3
          clear M0 c0 cn hb2 hb3 HNN
          generalize w2.alloc cpZ = V3 at *
          have K0 := HM.out _ _ M1 (Below.refl _ _).drew
          clear M1
          have hHeld : (fun w' : World => w'.cell? ⟨nb, 0, none⟩ = some (.int .i64 ((fly x.l).length : Nat)) ∧ w'.cell? ⟨w.heap.size + 1, 0, none⟩ = some (.int .i64 x.now) ∧ w'.cell? ⟨w.heap.size + 1, 1, none⟩ = some (.slice a x.l.length cap)) V3.drew := HMC.out _ K0
          refine wpIn_region_in (S := (fun w' => w'.cell? ⟨nb, 0, none⟩ = some (.int .i64 ((fly x.l).length : Nat)) ∧ w'.cell? ⟨w.heap.size + 1, 0, none⟩ = some (.int .i64 x.now) ∧ w'.cell? ⟨w.heap.size + 1, 1, none⟩ = some (.slice a x.l.length cap))) hMO ?_
          refine wpAnyH_take (i := 0) (oi := _) (v := ?_) rfl (by kernel_rfl) (by kernel_rfl) (by kernel_rfl) (fun _ _ _ h => h) (Or.inl ⟨by kernel_rfl, ?_⟩) (by assumption) ?_
          rotate_left
          · (first | (intro v hSw; (try dsimp only at hSw); go_simp; done) | (intro v hSw; (try dsimp only at hSw); go_simp; with_reducible rfl))
          (try simp only [List.getElem_toArray, List.getElem_cons_succ, List.getElem_cons_zero, Act.put, List.setIfInBounds_toArray, List.set_cons_zero, List.set_cons_succ])
          refine wpAnyH_take (i := 1) (oi := _) (v := ?_) rfl (by kernel_rfl) (by kernel_rfl) (by kernel_rfl) (fun _ _ _ h => h) (Or.inl ⟨by kernel_rfl, ?_⟩) (by assumption) ?_
          rotate_left
          · (first | (intro v hSw; (try dsimp only at hSw); go_simp; done) | (intro v hSw; (try dsimp only at hSw); go_simp; with_reducible rfl))
          (try simp only [List.getElem_toArray, List.getElem_cons_succ, List.getElem_cons_zero, Act.put, List.setIfInBounds_toArray, List.set_cons_zero, List.set_cons_succ])
          refine wpAnyH_ready (rs := [2]) (by kernel_rfl) (by simp) ?_
          refine AllReadyH.cons (o := _) rfl (fun K hK => ?_) AllReadyH.nil
          go_simp
          (refine (HML.out _ K0).mono ?_)
          rintro e v2 ⟨rfl, h2⟩
          have K1 := HM.out _ _ K0 h2
          clear K0 h2 hHeld
          have bc := cofr K1.es.bt 0 _ rfl
          have bf := fofr K1.es.bt 0
          refine hK.out _ _ ?_ (fun hHeld => ?_)
          · ((try dsimp only); exact HMC.out _ K1)
          clear hK K
          (try simp only [List.getElem_toArray, List.getElem_cons_succ, List.getElem_cons_zero, Act.put, List.setIfInBounds_toArray, List.set_cons_zero, List.set_cons_succ])
          refine wpAnyH_take (i := 3) (oi := _) (v := ?_) rfl (by kernel_rfl) (by kernel_rfl) (by kernel_rfl) (fun _ _ _ h => h) (Or.inl ⟨by kernel_rfl, ?_⟩) (by assumption) ?_
          rotate_left
          · (first | (intro v hSw; (try dsimp only at hSw); go_simp; done) | (intro v hSw; (try dsimp only at hSw); go_simp; with_reducible rfl))
          (try simp only [List.getElem_toArray, List.getElem_cons_succ, List.getElem_cons_zero, Act.put, List.setIfInBounds_toArray, List.set_cons_zero, List.set_cons_succ])
          refine wpAnyH_take (i := 4) (oi := _) (v := ?_) rfl (by kernel_rfl) (by kernel_rfl) (by kernel_rfl) (fun _ _ _ h => h) (Or.inl ⟨by kernel_rfl, ?_⟩) (by assumption) ?_
          rotate_left
          · (first | (intro v hSw; (try dsimp only at hSw); go_simp; done) | (intro v hSw; (try dsimp only at hSw); go_simp; with_reducible rfl))
          (try simp only [List.getElem_toArray, List.getElem_cons_succ, List.getElem_cons_zero, Act.put, List.setIfInBounds_toArray, List.set_cons_zero, List.set_cons_succ])
          refine wpAnyH_take (i := 5) (oi := _) (v := ?_) rfl (by kernel_rfl) (by kernel_rfl) (by kernel_rfl) (fun _ _ _ h => h) (Or.inl ⟨by kernel_rfl, ?_⟩) (by assumption) ?_
          rotate_left
          · (first | (intro v hSw; (try dsimp only at hSw); go_simp; done) | (intro v hSw; (try dsimp only at hSw); go_simp; with_reducible rfl))
          (try simp only [List.getElem_toArray, List.getElem_cons_succ, List.getElem_cons_zero, Act.put, List.setIfInBounds_toArray, List.set_cons_zero, List.set_cons_succ])
          refine wpAnyH_take (i := 6) (oi := _) (v := ?_) rfl (by kernel_rfl) (by kernel_rfl) (by kernel_rfl) (fun _ _ _ h => h) (Or.inl ⟨by kernel_rfl, ?_⟩) (by assumption) ?_
          rotate_left
          · (first | (intro v hSw; (try dsimp only at hSw); go_simp; done) | (intro v hSw; (try dsimp only at hSw); go_simp; with_reducible rfl))
          (try simp only [List.getElem_toArray, List.getElem_cons_succ, List.getElem_cons_zero, Act.put, List.setIfInBounds_toArray, List.set_cons_zero, List.set_cons_succ])
          refine wpAnyH_take (i := 7) (oi := _) (v := ?_) rfl (by kernel_rfl) (by kernel_rfl) (by kernel_rfl) (fun _ _ _ h => h) (Or.inl ⟨by kernel_rfl, ?_⟩) (by assumption) ?_
          rotate_left
          · (first | (intro v hSw; (try dsimp only at hSw); go_simp; done) | (intro v hSw; (try dsimp only at hSw); go_simp; with_reducible rfl))
          (try simp only [List.getElem_toArray, List.getElem_cons_succ, List.getElem_cons_zero, Act.put, List.setIfInBounds_toArray, List.set_cons_zero, List.set_cons_succ])
          refine wpAnyH_ready (rs := [8]) (by kernel_rfl) (by simp) ?_
          refine AllReadyH.cons (o := _) rfl (fun K hK => ?_) AllReadyH.nil
          go_simp
          refine hK.out _ _ ?_ (fun hHeld => ?_)
          · ((try dsimp only); exact HMS.out _ K1)
          clear hK K
          (try simp only [List.getElem_toArray, List.getElem_cons_succ, List.getElem_cons_zero, Act.put, List.setIfInBounds_toArray, List.set_cons_zero, List.set_cons_succ])
          refine wpAnyH_done (by kernel_rfl) ?_ _
          refine OnlyN.normal ?_
          gi_wp2
          obtain ⟨dd2, cF, hbF⟩ := HMF.out _ K1
          refine ⟨by simp, .inl ⟨_, _, rfl, run_takeDeferred dd2, ?_⟩⟩
          refine ⟨.bool true, by simp [results, Try.results10, go_sem, cF], rfl, ?_⟩
          exact hbF
end Go.Proofs.Ytahegkbdefhlpaa.dc
/-!   Layer 25's law DuctPlays.
-/
namespace Go.Proofs.Ytahegkbdefhlpaa.dc
open Go.RowKit Go.Shelf Go.Maps aid mem
attribute [local go_sem ↓] Go.wp_at_zero Go.wp_at_succ
set_option linter.unusedVariables false
set_option linter.unusedSimpArgs false

/-- a duct of one's own, the document's in a box (what it was), its rows, the last operation's box -/
structure PS (w : World) (B : Nat) (h : Hm) (X : Nat) (x z : Dk) (a1 : Option Addr) (c1 : Nat) (a : Option Addr) (cap : Nat) (L : List Rc) (o : OpV) (W : World) : Prop where
  ds : DS w B h x W
  xb : W.heap[X]? = some (rfO z a1 c1)
  rf : RfA w W a cap L x
  ob : W.heap[w.heap.size]? = some (opO o)
  xl : w.heap.size ≤ X
theorem DAt.noref {w : World} {B b : Nat} {h : Hm} {x : Dk} {cs : Array Value} {T : TypeId} (H : DAt w B h x) (hb : w.heap[b]? = some (.cells cs T (0, 0))) (n1 : T ≠ 64) (n2 : T ≠ 41) (n3 : T ≠ 3) : b ∉ blks B h := by
  obtain ⟨⟨n, D, d, _⟩, _⟩ := H
  exact d.typ hb n1 n2 n3
section
variable {w W W' : World} {B X Z : Nat} {h h' : Hm} {x y z v : Dk} {a1 a a' va : Option Addr} {c1 cap cap' vc : Nat} {L L' : List Rc} {o : OpV}
theorem PS.later (p : PS w B h X x z a1 c1 a cap L o W) (hb : Below W.heap.size W W') : PS w B h X x z a1 c1 a cap L o W' :=
  ⟨p.ds.later hb, (hb.block _ (lt_of_block p.xb)).trans p.xb, p.rf.later hb, (hb.block _ (lt_of_block p.ob)).trans p.ob, p.xl⟩
theorem PS.drew (p : PS w B h X x z a1 c1 a cap L o W) : PS w B h X x z a1 c1 a cap L o W.drew := p.later (Below.refl _ _).drew
theorem PS.does (p : PS w B h X x z a1 c1 a cap L o W) (d : DS w B h' y W') (r : RfA w W' a' cap' L' y) (k : Kept (blks B h) W W') : PS w B h' X y z a1 c1 a' cap' L' o W' :=
  ⟨d, k.heap (p.ds.d.noref p.xb (by decide) (by decide) (by decide)) p.xb, r, k.heap (p.ds.d.noref p.ob (by decide) (by decide) (by decide)) p.ob, p.xl⟩
theorem put2_kept (b : Nat) (x : Dk) (a : Option Addr) (cap : Nat) (W : World) : Kept [b] W (put2 b x a cap W) := ((Kept.refl [b] W).setCell (.inl (by simp)) _).setCell (.inl (by simp)) _
theorem put2_at {W : World} {b : Nat} {z : Dk} {a1 : Option Addr} {c1 : Nat} (hb : W.heap[b]? = some (rfO z a1 c1)) (x : Dk) (a : Option Addr) (cap : Nat) : (put2 b x a cap W).heap[b]? = some (rfO x a cap) :=
  heap_setCell_same _ b 1 _ _ (.slice a x.l.length cap) (heap_setCell_same W b 0 _ _ (.int .i64 x.now) hb)
theorem PS.put (p : PS w B h X x z a1 c1 a cap L o W) (hz : W.heap[Z]? = some (rfO v va vc)) (hZ : w.heap.size ≤ Z) (hXZ : X ≠ Z) (v' : Dk) (va' : Option Addr) (vc' : Nat) : PS w B h X x z a1 c1 a cap L o (put2 Z v' va' vc' W) := by
  have kk := put2_kept Z v' va' vc' W
  have t := p.ds.d.noref hz (by decide) (by decide) (by decide)
  have hO : w.heap.size ≠ Z := fun e => by subst e; have := p.ob; rw [hz] at this; simp at this
  exact ⟨⟨p.ds.d.keep kk (fun c hc e => by simp at e; subst e; exact t hc) (fun c hc cs q => by simp at hc; subst hc; exact typ_ne hz q (by decide) rfl), p.ds.below.trans (kk.below (by simpa using hZ) p.ds.below.size), p.ds.own⟩, kk.heap (by simpa using hXZ) p.xb, p.rf.keep kk (fun c hc cs q => by simp at hc; subst hc; exact typ_ne hz q (by decide) rfl), kk.heap (by simpa using hO) p.ob, p.xl⟩
theorem PS.set (p : PS w B h X x z a1 c1 a cap L o W) : PS w B h X x x a cap a cap L o (put2 X x a cap W) := by
  have kk := put2_kept X x a cap W
  have t := p.ds.d.noref p.xb (by decide) (by decide) (by decide)
  have hO : w.heap.size ≠ X := fun e => by have h1 := p.ob; rw [e, p.xb] at h1; simp at h1
  exact ⟨⟨p.ds.d.keep kk (fun c hc e => by simp at e; subst e; exact t hc) (fun c hc cs q => by simp at hc; subst hc; exact typ_ne p.xb q (by decide) rfl), p.ds.below.trans (kk.below (by simpa using p.xl) p.ds.below.size), p.ds.own⟩, put2_at p.xb x a cap, p.rf.keep kk (fun c hc cs q => by simp at hc; subst hc; exact typ_ne p.xb q (by decide) rfl), kk.heap (by simpa using hO) p.ob, p.xl⟩
end
theorem st_of {W : World} {b : Nat} {x : Dk} {a : Option Addr} {cap : Nat} (h : W.heap[b]? = some (rfO x a cap)) : W.cell? ⟨b, 0, none⟩ = some (.int .i64 x.now) ∧ W.cell? ⟨b, 1, none⟩ = some (.slice a x.l.length cap) := ⟨cofr h 0 _ rfl, cofr h 1 _ rfl⟩
theorem fz_of {W : World} {b : Nat} {x : Dk} {a : Option Addr} {cap : Nat} (h : W.heap[b]? = some (rfO x a cap)) : W.frozen? ⟨b, 0, none⟩ = false ∧ W.frozen? ⟨b, 1, none⟩ = false := ⟨fofr h 0, fofr h 1⟩
theorem op_cs {W : World} {b : Nat} {o : OpV} (h : W.heap[b]? = some (opO o)) : W.cell? ⟨b, 0, none⟩ = some (.int .u8 o.kind) ∧ W.cell? ⟨b, 1, none⟩ = some (.int .i64 o.id) ∧ W.cell? ⟨b, 2, none⟩ = some (.slice o.b.1 o.b.2.1 o.b.2.2.1) ∧ W.cell? ⟨b, 3, none⟩ = some (.int .i64 o.dt) := ⟨cofr h 0 _ rfl, cofr h 1 _ rfl, cofr h 2 _ rfl, cofr h 3 _ rfl⟩
abbrev S6 (X : Nat) (x : Dk) (a : Option Addr) (cap : Nat) (Bo off k : Nat) (s : OpV) (W : World) : Prop := W.cell? ⟨X, 0, none⟩ = some (.int .i64 x.now) ∧ W.cell? ⟨X, 1, none⟩ = some (.slice a x.l.length cap) ∧
  W.cell? ⟨Bo, off + k * 4, none⟩ = some (.int .u8 s.kind) ∧ W.cell? ⟨Bo, off + k * 4 + 1, none⟩ = some (.int .i64 s.id) ∧ W.cell? ⟨Bo, off + k * 4 + 2, none⟩ = some (.slice s.b.1 s.b.2.1 s.b.2.2.1) ∧ W.cell? ⟨Bo, off + k * 4 + 3, none⟩ = some (.int .i64 s.dt)
theorem JOk.up {n m : Nat} {x : Dk} (h : JOk n x) (hm : n ≤ m) : JOk m x := ⟨by have := h.len; omega, h.raw⟩
theorem equal_b {w W : World} {B : Nat} {h : Hm} {x : Dk} {a : Option Addr} {cap : Nat} {L : List Rc} (d : DS w B h x W) (r : RfA w W a cap L x) (hj : JOk 1000 x) :
    Calls Try.prog 10 #[.pointer (some ⟨B, 0, none⟩), rfV x a cap] W fun e w' => e = .returned (.bool true) ∧ Below W.heap.size W w' := equal_any d.d r d.below hj
set_option maxRecDepth 100000 in
set_option maxHeartbeats 8000000 in
theorem walk_DuctPlays (w : World) (oa : Option Addr) (on oc : Nat) (ops : List OpV) (hops : OpA w oa on oc ops) (s : {q : OpV // OpOk w q}) :
    Calls Try.prog 3 #[.slice oa on oc, opVal s.1] w fun x w' => x = .returned (.bool true) ∧ Below w.heap.size w w' := by
  obtain ⟨s, hs⟩ := s
  dsimp only at *
  have HO := Lib.hid (heap_alloc_new w (opO s))
  have hb := bal (w := w) (opO s)
  have hle := hops.le
  have hmost := hops.most
  unfold maxLen at hmost
  have HC := Lib.hid hops.cells
  have HSO := Lib.hid hs
  have HNW := Lib.hid (fun W (hb : Below w.heap.size w W) => ds_new (w0 := w) hb)
  clear hops hs
  go_enter Try.func3, Try.ntmps3
  go_upto_region 4 with (first
    | (go_at_call 7; (with_reducible refine (known_any _).mono ?_); rintro e w1 ⟨rfl, hb1⟩; have HOB := Lib.hid ((hb1.block _ (lt_of_block HO.out)).trans HO.out); replace hb := hb.trans (hb1.mono hb.size))
    | (go_at_call 8; (with_reducible refine (new_any _).mono ?_); rintro e w2 ⟨B, h, rfl, hA, hb2, hnew⟩))
  have P0 : PS w B h w2.heap.size ⟨0, []⟩ ⟨0, []⟩ none 0 none 0 [] s (w2.alloc (rfO ⟨0, []⟩ none 0)) :=
    have hb3 := hb.trans (hb2.mono hb.size)
    have ho2 := (hb2.block _ (lt_of_block HOB.out)).trans HOB.out
    ⟨⟨hA.later (bal _), hb3.trans ((bal _).mono hb3.size), fun b hb' => Nat.le_trans hb.size (hnew b hb')⟩, heap_alloc_new w2 _, ⟨SlR.nil _ _ _, fun q hq => by simp at hq, rfl⟩, ((bal (w := w2) _).block _ (lt_of_block ho2)).trans ho2, hb3.size⟩
  clear hA hb2 hnew hb HOB hb1 HO HNW
  go_upto_region 5 with fail
  generalize w2.heap.size = X at *
  generalize w2.alloc (rfO ⟨0, []⟩ none 0) = V0 at *
  go_wp2_with fail
  go_loopw [7, 8] (fun t i wr => ∃ (k : Nat) (now : Int) (h : Hm) (x : Dk) (a : Option Addr) (cap : Nat) (L : List Rc), t = .int .i64 now ∧ i = .int .i64 k ∧ k ≤ on ∧ k ≤ 80 ∧ (-(9 * (k : Int)) ≤ now ∧ now ≤ 1099511627776 * (k : Int)) ∧ JOk k x ∧ PS w B h X x x a cap a cap L s wr) (fun _ i _ => 80 - (intOf i).toNat)
  case atStart => exact ⟨0, 0, h, _, _, _, _, rfl, rfl, by omega, by omega, by omega, ⟨Nat.le_refl _, fun i hi => by simp at hi⟩, P0⟩
  case round =>
    clear P0
    obtain ⟨k, now, h, x, a, cap, L, rfl, rfl, hk, hk3, hnow, J, P⟩ := hrel
    by_cases hlt : k < on ∧ k < 80
    case neg =>
      have HP := Lib.hid P
      have HCL := Lib.hid (clone_any P.ds.d (show x.l.length ≤ 1000000 by have := J.len; omega))
      unfold RetCl at HCL
      have HTAIL := Lib.hid (fun W C (c : Hm) (q : DAt W C c x) (hb : Below wr.heap.size wr W) (hn : ∀ b ∈ blks C c, wr.heap.size ≤ b) => show Calls Try.prog 9 #[.pointer (some ⟨C, 0, none⟩), rfV x a cap, opVal s, .int .i64 now] W (RetD w W C c (opX x s now)) from
        does_any (w0 := w) ⟨q, HP.out.ds.below.trans (hb.mono HP.out.ds.below.size), fun b hb' => Nat.le_trans HP.out.ds.below.size (hn b hb')⟩ (HP.out.rf.later hb) (J.up (by omega)) s HSO.out now)
      have HJ2 := Lib.hid ((J.op s now).up (show k + 1 ≤ 1000 by omega))
      have HJ1 := Lib.hid (J.up (show k ≤ 1000 by omega))
      unfold RetD at HTAIL
      generalize opX x s now = y at *
      clear HC P J
      have HE : Hid (∀ W, PS w B h X x x a cap a cap L s W → (W.cell? ⟨X, 0, none⟩ = some (.int .i64 x.now) ∧ W.cell? ⟨X, 1, none⟩ = some (.slice a x.l.length cap)) ∧ (W.cell? ⟨w.heap.size, 0, none⟩ = some (.int .u8 s.kind) ∧ W.cell? ⟨w.heap.size, 1, none⟩ = some (.int .i64 s.id) ∧ W.cell? ⟨w.heap.size, 2, none⟩ = some (.slice s.b.1 s.b.2.1 s.b.2.2.1) ∧ W.cell? ⟨w.heap.size, 3, none⟩ = some (.int .i64 s.dt))) := Lib.hid (fun W q => ⟨st_of q.xb, op_cs q.ob⟩)
      obtain ⟨⟨x0, x1⟩, ⟨o0, o1, o2, o3⟩⟩ := HE.out _ HP.out
      rcases (show (k < on ∧ ¬ k < 80) ∨ ¬ k < on by omega) with ⟨h1, h2⟩ | h1
      all_goals
        go_upto_region 16 with (go_at_call 11; (with_reducible refine HCL.out.mono ?_); rintro e w3 ⟨C, c, rfl, hcl, hb3, hnew⟩)
        have P3 := HP.out.later hb3
        clear x0 x1 o0 o1 o2 o3
        obtain ⟨⟨x0, x1⟩, ⟨o0, o1, o2, o3⟩⟩ := HE.out _ P3
        go_upto_region 17 with (go_at_call 9; (with_reducible refine (HTAIL.out _ C c hcl hb3 hnew).mono ?_); rintro e w4 ⟨c', a', cap', L', rfl, f1, f2, f3⟩)
        have P4 := HP.out.later ((hb3.trans (f3.below hnew hb3.size)).trans ((bal (w := w4) (rfO y a' cap')).mono (Nat.le_trans hb3.size f3.size)))
        have hc4 := f1.later (bal (rfO y a' cap'))
        have hr4 := f2.later (bal (rfO y a' cap'))
        have hy4 := heap_alloc_new w4 (rfO y a' cap')
        clear x0 x1 o0 o1 o2 o3 f1 f2 f3 hcl P3
        generalize w4.alloc (rfO y a' cap') = W4 at *
        generalize w4.heap.size = Y at *
        obtain ⟨y0, y1⟩ := st_of hy4
        have HE4 := Lib.hid (equal_b hc4 hr4 HJ2.out)
        go_wp2_with (first
          | (go_at_call 10; first
            | ((with_reducible refine HE4.out.mono ?_); rintro e w6 ⟨rfl, hb6⟩; have P6 := P4.later hb6; clear P4 hb6 hc4 hr4 y0 y1 hy4; have HE6 := Lib.hid (equal_b P6.ds P6.rf HJ1.out); obtain ⟨⟨x0, x1⟩, _⟩ := HE.out _ P6)
            | ((with_reducible refine HE6.out.mono ?_); rintro e w7 ⟨rfl, hb7⟩; have P7 := P6.later hb7; clear P6 hb7 x0 x1))
          | (go_at_call 7; (with_reducible refine (known_b P7.ds.below).mono ?_); rintro e w8 ⟨rfl, P8⟩))
        go_ret
        exact ⟨rfl, P8⟩
    case pos =>
    obtain ⟨h1, h2⟩ := hlt
    obtain ⟨Bo, off, rfl, hc⟩ := HC.out (by omega)
    obtain ⟨c0, c1, c2, c3, hok⟩ := hc k h1
    have HOP := Lib.hid (fun W (hb : Below w.heap.size w W) => show W.cell? ⟨Bo, off + k * 4, none⟩ = some (.int .u8 (ops.getD k default).kind) ∧ W.cell? ⟨Bo, off + k * 4 + 1, none⟩ = some (.int .i64 (ops.getD k default).id) ∧ W.cell? ⟨Bo, off + k * 4 + 2, none⟩ = some (.slice (ops.getD k default).b.1 (ops.getD k default).b.2.1 (ops.getD k default).b.2.2.1) ∧ W.cell? ⟨Bo, off + k * 4 + 3, none⟩ = some (.int .i64 (ops.getD k default).dt) from
      ⟨(hb.cell (p := ⟨Bo, off + k * 4, none⟩) (World.block_lt_of_cell? w _ c0)).trans c0, (hb.cell (p := ⟨Bo, off + k * 4 + 1, none⟩) (World.block_lt_of_cell? w _ c1)).trans c1, (hb.cell (p := ⟨Bo, off + k * 4 + 2, none⟩) (World.block_lt_of_cell? w _ c2)).trans c2, (hb.cell (p := ⟨Bo, off + k * 4 + 3, none⟩) (World.block_lt_of_cell? w _ c3)).trans c3⟩)
    have HOK := Lib.hid hok
    clear hc c0 c1 c2 c3 hok
    generalize ops.getD k default = q at *
    have hqd := HOK.out.2.2.1
    obtain ⟨now2, hn2⟩ : ∃ now2 : Int, now2 = if -9 ≤ q.dt ∧ q.dt ≤ 1099511627776 then now + q.dt else now := ⟨_, rfl⟩
    have hnow2 : -(9 * ((k + 1 : Nat) : Int)) ≤ now2 ∧ now2 ≤ 1099511627776 * ((k + 1 : Nat) : Int) := by
      rw [hn2]
      split <;> omega
    obtain ⟨o0, o1, o2, o3⟩ := HOP.out _ P.ds.below
    have HXZ := Lib.hid (show X ≠ wr.heap.size ∧ w.heap.size ≤ wr.heap.size from ⟨Nat.ne_of_lt (lt_of_block P.xb), P.ds.below.size⟩)
    have HDO := Lib.hid (fun V (p : PS w B h X x x a cap a cap L s V) => does_any p.ds p.rf (J.up (by omega)) q HOK.out now2)
    have HJ2 := Lib.hid (J.op q now2)
    unfold RetD at HDO
    generalize opX x q now2 = y at *
    have HSO2 := Lib.hid (fun V (z : Dk) h' a' cap' L' (p : PS w B h' X z x a cap a' cap' L' s V) => show S6 X x a cap Bo off k q V from by
      obtain ⟨x0, x1⟩ := st_of p.xb
      obtain ⟨o0, o1, o2, o3⟩ := HOP.out _ p.ds.below
      exact ⟨x0, x1, o0, o1, o2, o3⟩)
    rcases (show (-9 ≤ q.dt ∧ q.dt ≤ 1099511627776) ∨ (-9 ≤ q.dt ∧ ¬ q.dt ≤ 1099511627776) ∨ ¬ -9 ≤ q.dt by omega) with ⟨hd1, hd2⟩ | ⟨hd1, hd2⟩ | hd1
    all_goals first
      | (have e : now2 = now + q.dt := by rw [hn2, if_pos ⟨hd1, hd2⟩]
         have hw2 : IntKind.i64.wrap (now + q.dt) = now2 := by rw [IntWalk.i64_in _ (by omega), e]
         clear e hn2
         go_upto_region 11 with fail
         clear hnow hw2)
      | (have e : now2 = now := by rw [hn2, if_neg (fun h => hd2 h.2)]
         clear hn2
         subst e
         go_upto_region 11 with fail
         clear hnow)
      | (have e : now2 = now := by rw [hn2, if_neg (fun h => hd1 h.1)]
         clear hn2
         subst e
         go_upto_region 11 with fail
         clear hnow)
    all_goals
      clear o0 o1 o2 o3
      go_cut [9, 10] (fun s8 s9 wx => ∃ Z, s8 = .pointer (some ⟨Z, 0, none⟩) ∧ s9 = .bool true ∧ Hid (∃ h' a' cap' L', PS w B h' X y x a cap a' cap' L' s wx ∧ wx.heap[Z]? = some (rfO y a' cap')))
      case first =>
        have HGD := Lib.hid P.drew
        have HGA := Lib.hid ((P.later (bal rfZ)).drew)
        have HY := Lib.hid (heap_alloc_new wr rfZ)
        have P1 := HSO2.out _ _ _ _ _ _ HGD.out
        have P2 := HSO2.out _ _ _ _ _ _ HGA.out
        obtain ⟨x0, x1, o0, o1, o2, o3⟩ := HSO2.out _ _ _ _ _ _ P
        clear P
        go_wp2_with fail
        go_region_held3 (fun W => S6 X x a cap Bo off k q W) (first | with_reducible exact P5 | with_reducible exact P4 | with_reducible exact P3 | with_reducible exact P2 | with_reducible exact P1 | go_keep)
          ((go_at_call 9; first
            | ((with_reducible refine (HDO.out _ HGD.out).mono ?_); rintro e w5 ⟨h', a', cap', L', rfl, f1, f2, f3⟩; have R := HGD.out.does f1 f2 f3; have P3 := HSO2.out _ _ _ _ _ _ R; have RA := R.later (bal (rfO y a' cap')); have P4 := HSO2.out _ _ _ _ _ _ RA; have P5 := HSO2.out _ _ _ _ _ _ (R.later (bal rfZ)); have HR := Lib.hid (And.intro RA (heap_alloc_new w5 (rfO y a' cap'))); clear f1 f2 f3 R RA)
            | ((with_reducible refine (HDO.out _ HGA.out).mono ?_); rintro e w5 ⟨h', a', cap', L', rfl, f1, f2, f3⟩; have R := HGA.out.does f1 f2 f3; have P3 := HSO2.out _ _ _ _ _ _ R; have hy5 : w5.heap[wr.heap.size]? = some (rfO ⟨0, []⟩ none 0) := f3.heap (HGA.out.ds.d.noref HY.out (by decide) (by decide) (by decide)) HY.out; obtain ⟨g0, g1⟩ := st_of hy5; obtain ⟨f0, f4⟩ := fz_of hy5; have RA := R.put hy5 HXZ.out.2 HXZ.out.1 y a' cap'; have P4 := HSO2.out _ _ _ _ _ _ RA; have HR := Lib.hid (And.intro RA (put2_at hy5 y a' cap')); clear f1 f2 f3 R RA hy5)))
        · clear P1 P2 P3 P4 P5 x0 x1 o0 o1 o2 o3 HGD HGA HY HXZ HSO2 HDO
          generalize w5.alloc (rfO y a' cap') = W5 at *
          go_wp2_with fail
          go_meet
          exact ⟨_, rfl, rfl, Lib.hid ⟨_, _, _, _, HR.out⟩⟩
        · clear P1 P2 P3 P4 x0 x1 o0 o1 o2 o3 g0 g1 f0 f4 HGD HGA HY HXZ HSO2 HDO
          unfold put2 at HR
          generalize (w5.setCell ⟨wr.heap.size, 0, none⟩ (.int .i64 y.now)).setCell ⟨wr.heap.size, 1, none⟩ (.slice a' y.l.length cap') = W5 at *
          go_wp2_with fail
          go_meet
          exact ⟨_, rfl, rfl, Lib.hid ⟨_, _, _, _, HR.out⟩⟩
      case rest =>
        clear P HSO2 HDO HXZ
        obtain ⟨Z, rfl, rfl, HR⟩ := hcut
        obtain ⟨h', a', cap', L', G, hz⟩ := HR.out
        clear HR
        generalize wc = V at *
        obtain ⟨z0, z1⟩ := st_of hz
        obtain ⟨x0, x1⟩ := st_of G.xb
        obtain ⟨f0, f1⟩ := fz_of G.xb
        go_upto_region 13 with fail
        replace G := G.set
        unfold put2 at G
        clear z0 z1 x0 x1 f0 f1 hz
        generalize (V.setCell ⟨X, 0, none⟩ (.int .i64 y.now)).setCell ⟨X, 1, none⟩ (.slice a' y.l.length cap') = V2 at *
        obtain ⟨x0, x1⟩ := st_of G.xb
        have HEQ := Lib.hid (equal_b G.ds G.rf (HJ2.out.up (by omega)))
        go_wp2_with (go_at_call 10; (with_reducible refine HEQ.out.mono ?_); rintro e w6 ⟨rfl, hb6⟩; have G6 := G.later hb6; clear G hb6)
        go_roundw
        case rel => exact ⟨k + 1, now2, h', y, a', cap', L', rfl, by go_num, by omega, by omega, hnow2, HJ2.out, G6⟩
        case measure => simp [intOf]; omega
end Go.Proofs.Ytahegkbdefhlpaa.dc
