/-
  For every input the call of undertowlaw25.DuctNone returns true, and each argument reads behind the call as it read before. No condition.
-/
import Derived.RangeFuncNested
import Derived.RangeFuncBound
import Derived.RangeFuncCalls
import Derived.RangeFuncLeaves
import Derived.OrdersIn
import Derived.Sort.QuietIn
import Derived.Sort.CutIn
import Derived.Test.YtahegkbdefhlpaaRows
import Derived.WalkKit
import Derived.ProofKit
import Derived.OpenShut
import Derived.ShutString
import Derived.ChangeOld
import Derived.Below
import Derived.Test.YtahegkbdefhlpaaM3
/-!   Ranges over functions, iterators within iterators among them: what a round writes and what an iterator writes are told apart by a set of blocks. Imports nothing of the program.
-/
namespace Go.Proofs.Ytahegkbdefhlpaa.rng
open Go.RowKit mem
set_option linter.unusedVariables false

/-- a step that leaves some blocks as they lay -/
structure Steps (K : Nat → Prop) (W W' : World) : Prop where
  os : W'.os = W.os
  tape : W'.tape = W.tape
  output : W'.output = W.output
  size : W.heap.size ≤ W'.heap.size
  same : ∀ k, k < W.heap.size → K k → W'.heap[k]? = W.heap[k]?
theorem Steps.refl (K : Nat → Prop) (W : World) : Steps K W W := ⟨rfl, rfl, rfl, Nat.le_refl _, fun _ _ _ => rfl⟩
theorem Steps.trans {K : Nat → Prop} {A B C : World} (h : Steps K A B) (k : Steps K B C) : Steps K A C :=
  ⟨k.os.trans h.os, k.tape.trans h.tape, k.output.trans h.output, Nat.le_trans h.size k.size, fun x hx hk => (k.same x (Nat.lt_of_lt_of_le hx h.size) hk).trans (h.same x hx hk)⟩
theorem Steps.mono {K K' : Nat → Prop} {A B : World} (h : Steps K A B) (hk : ∀ k, k < A.heap.size → K' k → K k) : Steps K' A B :=
  ⟨h.os, h.tape, h.output, h.size, fun x hx q => h.same x hx (hk x hx q)⟩
theorem Steps.of_below {w w' : World} (h : Below w.heap.size w w') (K : Nat → Prop) : Steps K w w' := ⟨h.os, h.tape, h.output, h.size, fun k hk _ => h.block k hk⟩
theorem Steps.of_kept {S : List Nat} {w w' : World} (h : Kept S w w') (K : Nat → Prop) (hK : ∀ k ∈ S, ¬ K k) : Steps K w w' :=
  ⟨h.os, h.tape, h.output, h.size, fun k hk q => h.block k hk (fun e => hK k e q)⟩
theorem Steps.below {K : Nat → Prop} {w w' : World} {n : Nat} (h : Steps K w w') (hn : n ≤ w.heap.size) (hK : ∀ k, k < n → K k) : Below n w w' :=
  ⟨h.os, h.tape, h.output, h.size, fun k hk => h.same k (by omega) (hK k hk)⟩
theorem Steps.drew (K : Nat → Prop) (W : World) : Steps K W W.drew := ⟨rfl, rfl, rfl, Nat.le_refl _, fun _ _ _ => rfl⟩
theorem Steps.drewN (K : Nat → Prop) (W : World) (n : Nat) : Steps K W (W.drewN n) := ⟨rfl, rfl, rfl, Nat.le_refl _, fun _ _ _ => rfl⟩
theorem Steps.alloc (K : Nat → Prop) (W : World) (o : Obj) : Steps K W (W.alloc o) := .of_below ((Below.refl _ _).alloc (Nat.le_refl _) _) K
theorem Steps.setCell (K : Nat → Prop) (W : World) (p : Addr) (v : Value) (hp : ¬ K p.block) : Steps K W (W.setCell p v) :=
  .of_kept ((Kept.refl [p.block] W).setCell (.inl (by simp)) v) K (by simpa using hp)
theorem Steps.putObj (K : Nat → Prop) (W : World) (l : Nat) (o : Obj) (hl : ¬ K l) : Steps K W (W.putObj l o) :=
  ⟨rfl, rfl, rfl, by simp, fun k hk q => World.putObj_heap_other (fun e => hl (e ▸ q))⟩
theorem Steps.cell {K : Nat → Prop} {w w' : World} (h : Steps K w w') {p : Addr} {v : Value} (hp : K p.block) (hc : w.cell? p = some v) : w'.cell? p = some v :=
  (World.cell?_of_block (h.same p.block (World.block_lt_of_cell? w p hc) hp)).trans hc
theorem Steps.heap {K : Nat → Prop} {w w' : World} (h : Steps K w w') {k : Nat} {o : Obj} (hp : K k) (hc : w.heap[k]? = some o) : w'.heap[k]? = some o :=
  (h.same k (lt_of_block hc) hp).trans hc

/-- a call of yield -/
def Yd (P : Program) (l : Nat) (args : Array Value) (W : World) (R : Ending → World → Prop) : Prop := YieldAt Fence.wide 0 P l args W R
theorem Yd.at {P : Program} {l : Nat} {args : Array Value} {W : World} {R : Ending → World → Prop} (h : Yd P l args W R) (m : Nat) : YieldAt Fence.wide m P l args W R := by
  obtain ⟨fn, tmps, assign, body, hy, h1, h2⟩ := h
  exact ⟨fn, tmps, assign, body, hy, h1, fun c cs _ => h2 c cs (room_wide _)⟩
theorem Yd.inRound {P : Program} {l : Nat} {args : Array Value} {W : World} {R : Ending → World → Prop} (h : Yd P l args W R) (l' m : Nat) : YieldAt (Fence.wide.inRound l') m P l args W R := h.at m
theorem Yd.mono {P : Program} {l : Nat} {args : Array Value} {W : World} {R R' : Ending → World → Prop} (h : Yd P l args W R) (hr : ∀ e w, R e w → R' e w) : Yd P l args W R' := YieldAt.mono h hr
theorem Yd.of {P : Program} {l : Nat} {args : Array Value} {W : World} {R : Ending → World → Prop} {m : Nat} (h : YieldAt Fence.wide m P l args W R) : Yd P l args W R := by
  obtain ⟨fn, tmps, assign, body, hy, h1, h2⟩ := h
  exact ⟨fn, tmps, assign, body, hy, h1, fun c cs _ => h2 c cs (room_wide _)⟩

/-- the consumer's invariant bears the iterator's steps, from block n on -/
def Bears {β : Type} (n : Nat) (J : β → (Nat → Prop) → World → Prop) : Prop :=
  ∀ s C W1 W2, J s C W1 → n ≤ W1.heap.size → Steps (fun k => k < n ∨ C k) W1 W2 → J s C W2
/-- a round: what the consumer may write has grown by new blocks alone; all else lies as it lay -/
def Round (C : Nat → Prop) (W : World) (C' : Nat → Prop) (W' : World) : Prop :=
  Steps (fun k => ¬ C k) W W' ∧ ∀ k, C' k → C k ∨ (W.heap.size ≤ k ∧ k < W'.heap.size)
theorem Round.refl (C : Nat → Prop) (W : World) : Round C W C W := ⟨Steps.refl _ _, fun _ h => .inl h⟩
theorem Round.trans {C C' C'' : Nat → Prop} {A B D : World} (h : Round C A C' B) (k : Round C' B C'' D) : Round C A C'' D := by
  refine ⟨⟨k.1.os.trans h.1.os, k.1.tape.trans h.1.tape, k.1.output.trans h.1.output, Nat.le_trans h.1.size k.1.size, fun x hx hn => ?_⟩, fun x hx => ?_⟩
  · refine (k.1.same x (Nat.lt_of_lt_of_le hx h.1.size) (fun e => ?_)).trans (h.1.same x hx hn)
    rcases h.2 x e with e | e
    · exact hn e
    · omega
  · have a := h.1.size
    have b := k.1.size
    rcases k.2 x hx with e | e
    · rcases h.2 x e with e | e
      · exact .inl e
      · exact .inr ⟨e.1, by omega⟩
    · exact .inr ⟨by omega, e.2⟩
/-- new blocks may be taken in -/
theorem Round.take {C C' : Nat → Prop} {W W' : World} (h : Round C W C' W') : Round C W (fun k => C' k ∨ (W.heap.size ≤ k ∧ k < W'.heap.size)) W' :=
  ⟨h.1, fun k hk => by rcases hk with hk | hk; exact h.2 k hk; exact .inr hk⟩
theorem Round.of_below {w w' : World} (h : Below w.heap.size w w') (C : Nat → Prop) : Round C w C w' := ⟨Steps.of_below h _, fun _ h => .inl h⟩
theorem Round.of_kept {S : List Nat} {w w' : World} {C : Nat → Prop} (h : Kept S w w') (hS : ∀ k ∈ S, C k) : Round C w C w' := ⟨Steps.of_kept h _ (fun k hk q => q (hS k hk)), fun _ h => .inl h⟩

/-- a region in a round whose operations defer nothing is walked as anywhere -/
theorem wpOpIn_round {n : Nat} {P : Program} {ops : Array Oper} {Q : Exit → Act → World → Prop} {l i : Nat} {K : Act → World → Prop} {a : Act} {w : World} (hd : ∀ (i : Nat) (o : Oper), ops[i]? = some o → ∀ c, o.op ≠ .defer c)
    (h : wpOpIn Fence.wide n P ops Q i K a w) : wpOpIn (Fence.wide.inRound l) n P ops Q i K a w := by
  unfold wpOpIn at *
  cases ho : ops[i]? with
  | none => rw [ho] at h; exact h
  | some o =>
    rw [ho] at h
    simp only at h ⊢
    split
    · rename_i hw
      rw [if_pos hw] at h
      unfold Oper.wpIn at *
      refine ⟨h.1, ?_⟩
      have h2 := h.2
      rw [show Fence.wide.round = none from rfl, Oper.semAt_none] at h2
      rw [Oper.semAt_eq _ _ _ (hd i o ho)]
      exact h2
    · rename_i hw
      rw [if_neg hw] at h
      exact h
theorem wpAnyIn_round {n : Nat} {P : Program} {ops : Array Oper} {Q : Exit → Act → World → Prop} {md : Region.Mode} {l : Nat} (hd : ∀ (i : Nat) (o : Oper), ops[i]? = some o → ∀ c, o.op ≠ .defer c) :
    ∀ {fuel : Nat} {listed : Array Bool} {a : Act} {w : World}, wpAnyIn Fence.wide n P md ops Q fuel listed a w → wpAnyIn (Fence.wide.inRound l) n P md ops Q fuel listed a w := by
  intro fuel
  induction fuel with
  | zero => intro listed a w h; exact h
  | succ fuel ih => intro listed a w h; exact ⟨h.1, fun i hi => wpOpIn_mono (fun a w h => ih h) (wpOpIn_round hd (h.2 i hi))⟩
def noDefer (ops : Array Oper) : Bool := ops.all (fun o => match o.op with | .defer _ => false | _ => true)
theorem noDefer_spec {ops : Array Oper} (h : noDefer ops = true) : ∀ (i : Nat) (o : Oper), ops[i]? = some o → ∀ c, o.op ≠ .defer c := by
  intro i o ho c hc
  unfold noDefer at h
  rw [Array.all_eq_true] at h
  obtain ⟨hlt, he⟩ := Array.getElem?_eq_some_iff.1 ho
  have := h i hlt
  rw [he, hc] at this
  simp at this
theorem wpIn_region_round {P : Program} {n l id : Nat} {ops : Array Oper} {Q : Exit → Act → World → Prop} {a : Act} {w : World} (hm : P.follows .mixedOrders = true) (hd : noDefer ops = true)
    (h : wpAnyIn Fence.wide n P .any ops Q ops.size (Array.replicate ops.size false) a w.drew) : (Code.region id ops true).wpIn (Fence.wide.inRound l) n P Q a w :=
  wpIn_region_any hm (wpAnyIn_round (noDefer_spec hd) h)

/-- the end of a round, in one piece -/
theorem one_way {C : Nat → Prop} {W W' : World} {e : Ending} {X Y : (Nat → Prop) → Prop} (h : ∃ C', Round C W C' W' ∧ ((e = .returned (.bool true) ∧ X C') ∨ (e = .returned (.bool false) ∧ Y C'))) :
    ∃ b, e = .returned (.bool b) ∧ ∃ C', Round C W C' W' ∧ ((b = true ∧ X C') ∨ (b = false ∧ Y C')) := by
  obtain ⟨C', hr, ⟨rfl, h⟩ | ⟨rfl, h⟩⟩ := h
  · exact ⟨true, rfl, C', hr, .inl ⟨rfl, h⟩⟩
  · exact ⟨false, rfl, C', hr, .inr ⟨rfl, h⟩⟩
/-- the contract of an iterator that tells the list L; A: what of the old blocks the consumer may write -/
def SeqOf {α : Type} (P : Program) (g : Nat) (lb : Array Value) (encs : α → Array Value) (L : List α) (A : Nat → Prop) (w : World) : Prop :=
  ∀ (l : Nat) (J Jx : List α → (Nat → Prop) → World → Prop) (C0 : Nat → Prop) (W : World),
    Below w.heap.size w W → (∀ k, C0 k → (A k ∨ w.heap.size ≤ k) ∧ k < W.heap.size) → Bears W.heap.size J → Bears W.heap.size Jx →
    (∀ pre x C W1, J pre C W1 → W.heap.size ≤ W1.heap.size → pre ++ [x] <+: L → Yd P l (encs x) W1 fun e W' =>
      ∃ C', Round C W1 C' W' ∧ ((e = .returned (.bool true) ∧ J (pre ++ [x]) C' W') ∨ (e = .returned (.bool false) ∧ Jx (pre ++ [x]) C' W'))) →
    J [] C0 W →
    Calls P g (#[.func (.yield l) #[] #[]] ++ lb) W fun e W' => (∃ v, e = .returned v) ∧ ∃ C', J L C' W' ∨ ∃ pre, Jx pre C' W'
theorem SeqOf.later {α : Type} {P : Program} {g : Nat} {lb : Array Value} {encs : α → Array Value} {L : List α} {A : Nat → Prop} {w w' : World} (h : SeqOf P g lb encs L A w) (hb : Below w.heap.size w w') {A' : Nat → Prop} (hA : ∀ k, A' k → A k ∨ w.heap.size ≤ k) : SeqOf P g lb encs L A' w' :=
  fun l J Jx C0 W hW hC hJ hJx hY h0 => h l J Jx C0 W (hb.trans (hW.mono hb.size)) (fun k hk => by
    have := hb.size
    obtain ⟨a, b⟩ := hC k hk
    refine ⟨?_, b⟩
    rcases a with a | a
    · exact hA k a
    · exact .inr (by omega)) hJ hJx hY h0

/-- what an iterator knows while it runs: W: the world when it was called -/
structure It (C0 : Nat → Prop) (W : World) (C : Nat → Prop) (W1 : World) : Prop where
  grow : ∀ k, C k → (C0 k ∨ W.heap.size ≤ k) ∧ k < W1.heap.size
  kept : Steps (fun k => ¬ C0 k) W W1
theorem It.refl {C0 : Nat → Prop} {W : World} (h : ∀ k, C0 k → k < W.heap.size) : It C0 W C0 W := ⟨fun k hk => ⟨.inl hk, h k hk⟩, Steps.refl _ _⟩
theorem It.round {C0 C C' : Nat → Prop} {W W1 W' : World} (h : It C0 W C W1) (hr : Round C W1 C' W') : It C0 W C' W' := by
  have s := h.kept.size
  refine ⟨fun k hk => ?_, ⟨hr.1.os.trans h.kept.os, hr.1.tape.trans h.kept.tape, hr.1.output.trans h.kept.output, Nat.le_trans s hr.1.size, fun k hk hn => ?_⟩⟩
  · rcases hr.2 k hk with a | a
    · exact ⟨(h.grow k a).1, Nat.lt_of_lt_of_le (h.grow k a).2 hr.1.size⟩
    · exact ⟨.inr (by omega), a.2⟩
  · refine (hr.1.same k (Nat.lt_of_lt_of_le hk s) (fun e => ?_)).trans (h.kept.same k hk hn)
    rcases (h.grow k e).1 with a | a
    · exact hn a
    · omega
theorem It.own {C0 C : Nat → Prop} {W W1 W2 : World} (h : It C0 W C W1) (hs : Steps (fun k => k < W.heap.size ∨ C k) W1 W2) : It C0 W C W2 :=
  ⟨fun k hk => ⟨(h.grow k hk).1, Nat.lt_of_lt_of_le (h.grow k hk).2 hs.size⟩, ⟨hs.os.trans h.kept.os, hs.tape.trans h.kept.tape, hs.output.trans h.kept.output, Nat.le_trans h.kept.size hs.size, fun k hk hn =>
    (hs.same k (Nat.lt_of_lt_of_le hk h.kept.size) (.inl hk)).trans (h.kept.same k hk hn)⟩⟩

theorem It.block {C0 C : Nat → Prop} {W W1 : World} (h : It C0 W C W1) {b : Nat} {o : Obj} (hb : W.heap[b]? = some o) (hn : ¬ C0 b) : W1.heap[b]? = some o := h.kept.heap hn hb

/-- how the body of a round may be left -/
def rPost {α : Type} (I : List α → (Nat → Prop) → World → Prop) (Ix : Code → List α → (Nat → Prop) → World → Prop) (xs : List α) (C : Nat → Prop) (W : World) : Exit → Act → World → Prop
  | .normal, _, W' => ∃ C', Round C W C' W' ∧ I xs C' W'
  | .ret, _, W' => ∃ C', Round C W C' W' ∧ Ix .ret xs C' W'
  | .exit id, _, W' => ∃ C', Round C W C' W' ∧ Ix (.exit id) xs C' W'
  | .goto t, _, W' => ∃ C', Round C W C' W' ∧ Ix (.goto t) xs C' W'
  | .panic _, _, _ => False
  | .outgrown, _, _ => False

/-- **a range over a function**, in a function's body (not within a round) -/
theorem wpIn_range {P : Program} {n : Nat} {α : Type} {g : Operand} {ps : Array Tmp} {assign body : Code} {Q : Exit → Act → World → Prop} {a : Act} {w : World}
    {gf : Nat} {lb : Array Value} (hg : a.eval g = .func (.func gf) #[] lb) (eg : ∀ args w, (callFunc gf args).run P w = .ok (.enter gf args) w)
    {encs : α → Array Value} {L : List α} {A : Nat → Prop} {w0 : World} (hseq : SeqOf P gf lb encs L A w0) (hb0 : Below w0.heap.size w0 w) (hps : ∀ x, (encs x).size = ps.size)
    (I : List α → (Nat → Prop) → World → Prop) (Ix : Code → List α → (Nat → Prop) → World → Prop) (C0 : Nat → Prop) (hC0 : ∀ k, C0 k → (A k ∨ w0.heap.size ≤ k) ∧ k < w.heap.size)
    (hI : Bears w.heap.size I) (hIx : ∀ c, Bears w.heap.size (Ix c)) (h0 : I [] C0 w) (Ax : α → Act → (Nat → Prop) → World → Prop) (hAx : ∀ x a', Bears w.heap.size (fun (_ : Unit) C W => Ax x a' C W))
    (hassign : ∀ (l : Nat) (pre : List α) (x : α) (C : Nat → Prop) (W : World) (K : Act → World → Prop), I pre C W → pre ++ [x] <+: L → (∀ k, C k → k < W.heap.size) → w.heap.size ≤ W.heap.size →
      (∀ a' C' W', Round C W C' W' → I pre C' W' → Ax x a' C' W' → K a' W') →
      assign.wpIn (Fence.wide.inRound l) (n - 1 - 1) P (Exit.then K (fun _ _ _ => False)) { tmps := (ps.zip (encs x)).foldl (fun t (p, v) => t.setIfInBounds p v) a.tmps, defers := [] } W)
    (hbody : ∀ (l : Nat) (pre : List α) (x : α) (a' : Act) (C : Nat → Prop) (W : World), I pre C W → Ax x a' C W → pre ++ [x] <+: L → (∀ k, C k → k < W.heap.size) → w.heap.size ≤ W.heap.size →
      body.wpIn (Fence.wide.inRound l) (n - 1 - 1) P (rPost I Ix (pre ++ [x]) C W) a' W)
    (hdone : ∀ (D : Nat) (C : Nat → Prop) (W : World), w.heap.size ≤ D → ¬ C D → I L C W → W.heap[D]? = some (.deferred (some [])) → Q .normal { a with defers := { target := .collected D, args := #[] } :: a.defers } W)
    (hstop : ∀ (D : Nat) (c : Code) (pre : List α) (C : Nat → Prop) (W : World), w.heap.size ≤ D → ¬ C D → Ix c pre C W → W.heap[D]? = some (.deferred (some [])) → c.wpIn Fence.wide n P Q { a with defers := { target := .collected D, args := #[] } :: a.defers } W) :
    (Code.rangeFunc g ps assign body).wpIn Fence.wide n P Q a w := by
  refine wpIn_rangeFunc ?_
  intro fn hfn
  obtain ⟨rec, hrec⟩ : ∃ rec : LoopState → Option Code → Loop, rec = fun st pe => { state := st, pending := pe, fn, tmps := a.tmps, params := ps, assign, body, defers := w.heap.size } := ⟨_, rfl⟩
  obtain ⟨W1, hW1⟩ : ∃ W1, (w.alloc (.deferred (some []))).alloc (.loop (rec .ready none)) = W1 := ⟨_, rfl⟩
  have hL1 : W1.heap[w.heap.size + 1]? = some (.loop (rec .ready none)) := by
    rw [← hW1]; have := World.alloc_heap_new (w.alloc (.deferred (some []))) (.loop (rec .ready none)); rwa [World.size_alloc] at this
  have hK1 : W1.heap[w.heap.size]? = some (.deferred (some [])) := by
    rw [← hW1]; exact (Below.heap_alloc _ _ _ (by simp)).trans (World.alloc_heap_new w _)
  have hz : W1.heap.size = w.heap.size + 1 + 1 := by rw [← hW1]; simp
  have bw1 : Below w.heap.size w W1 := by rw [← hW1]; exact ((Below.refl _ w).alloc (Nat.le_refl _) _).alloc (by simp) _
  have hI1 : I [] C0 W1 := hI _ _ _ _ h0 (Nat.le_refl _) (Steps.of_below bw1 _)
  refine ⟨w.heap.size + 1, [{ target := .collected w.heap.size, args := #[] }], W1, { target := .fn (.func gf) lb, args := #[.func (.yield (w.heap.size + 1)) #[] #[]] }, W1, gf,
    #[.func (.yield (w.heap.size + 1)) #[] #[]] ++ lb, W1, ?_, ?_, ?_, ?_, (fun h => by simp [Fence.wide] at h), ?_⟩
  · rw [← hW1, hrec]; exact run_enterLoop_outer _ _ _ _ _
  · simp only [resolve, hg]
    simp [go_sem]
  · intro f' hf'; trivial
  · simp [invoke, go_sem, eg]
  · refine callsIn_wide.2 ?_
    -- the two blocks of book-keeping are the consumer's, beside the user's own
    let Cj : (Nat → Prop) → Nat → Prop := fun C k => C k ∨ k = w.heap.size ∨ k = w.heap.size + 1
    let J : List α → (Nat → Prop) → World → Prop := fun pre C' W => ∃ C, C' = Cj C ∧ I pre C W ∧ (¬ C w.heap.size ∧ ¬ C (w.heap.size + 1) ∧ ∀ k, C k → k < W.heap.size) ∧ W.heap[w.heap.size + 1]? = some (.loop (rec .ready none)) ∧ W.heap[w.heap.size]? = some (.deferred (some []))
    let Jx : List α → (Nat → Prop) → World → Prop := fun pre C' W => ∃ C c, C' = Cj C ∧ Ix c pre C W ∧ (¬ C w.heap.size ∧ ¬ C (w.heap.size + 1) ∧ ∀ k, C k → k < W.heap.size) ∧ W.heap[w.heap.size + 1]? = some (.loop (rec .done (some c))) ∧ W.heap[w.heap.size]? = some (.deferred (some []))
    have hsm : ∀ {C : Nat → Prop} {X Y : World}, Steps (fun k => k < W1.heap.size ∨ Cj C k) X Y → Steps (fun k => k < w.heap.size ∨ C k) X Y := fun h => h.mono (fun k _ hk => by
      rcases hk with hk | hk
      · exact .inl (by omega)
      · exact .inr (.inl hk))
    refine (hseq (w.heap.size + 1) J Jx (Cj C0) W1 (hb0.trans (bw1.mono hb0.size)) ?_ ?_ ?_ ?_ ?_).mono ?_
    · intro k hk
      have h1 := hb0.size
      rcases hk with hk | hk | hk
      · exact ⟨(hC0 k hk).1, by have := (hC0 k hk).2; omega⟩
      · exact ⟨.inr (by omega), by omega⟩
      · exact ⟨.inr (by omega), by omega⟩
    · rintro s C' X Y ⟨C, rfl, hi, ⟨h1, h2, h3⟩, hl, hk⟩ hn hs
      exact ⟨C, rfl, hI _ _ _ _ hi (by omega) (hsm hs), ⟨h1, h2, fun k hk => Nat.lt_of_lt_of_le (h3 k hk) hs.size⟩, hs.heap (.inr (.inr (.inr rfl))) hl, hs.heap (.inr (.inr (.inl rfl))) hk⟩
    · rintro s C' X Y ⟨C, c, rfl, hi, ⟨h1, h2, h3⟩, hl, hk⟩ hn hs
      exact ⟨C, c, rfl, hIx c _ _ _ _ hi (by omega) (hsm hs), ⟨h1, h2, fun k hk => Nat.lt_of_lt_of_le (h3 k hk) hs.size⟩, hs.heap (.inr (.inr (.inr rfl))) hl, hs.heap (.inr (.inr (.inl rfl))) hk⟩
    · -- one round
      rintro pre x C' W ⟨C, rfl, hi, ⟨h1, h2, h3⟩, hl, hk⟩ hWs hpre
      have hlt : w.heap.size + 1 < W.heap.size := (Array.getElem?_eq_some_iff.1 hl).1
      have hy := run_yield (P := P) (args := encs x) hl (by rw [hrec]; exact hps x)
      rw [hrec] at hy
      refine Yd.of (m := n - 1 - 1) ⟨fn, _, assign, body, hy, roundIn_of_wpIn hfn (hassign _ pre x C W _ hi hpre h3 (by omega) ?_)⟩
      clear hy
      intro a' Ca Wa hra hia hax
      have h1a : ¬ Ca w.heap.size := fun e => by rcases hra.2 _ e with e | e; exact h1 e; omega
      have h2a : ¬ Ca (w.heap.size + 1) := fun e => by rcases hra.2 _ e with e | e; exact h2 e; omega
      have h3a : ∀ k, Ca k → k < Wa.heap.size := fun k hk => by rcases hra.2 k hk with e | e; exact Nat.lt_of_lt_of_le (h3 k e) hra.1.size; exact e.2
      have hla := hra.1.heap h2 hl
      have hka := hra.1.heap h1 hk
      have hlta : w.heap.size + 1 < Wa.heap.size := (Array.getElem?_eq_some_iff.1 hla).1
      refine ⟨_, run_beginRound hla (by rw [hrec]), ?_⟩
      obtain ⟨Wb, hWb⟩ : ∃ Wb, Wb = Wa.putObj (w.heap.size + 1) (.loop { rec .ready none with state := .busy }) := ⟨_, rfl⟩
      rw [← hWb]
      have hlb : Wb.heap[w.heap.size + 1]? = some (.loop { rec .ready none with state := .busy }) := by rw [hWb]; exact World.putObj_heap_same hlta
      have hkb : Wb.heap[w.heap.size]? = some (.deferred (some [])) := by rw [hWb]; exact (World.putObj_heap_other (by omega)).trans hka
      have sb : Steps (fun k => k < w.heap.size ∨ Ca k) Wa Wb := by rw [hWb]; exact Steps.putObj _ _ _ _ (by rintro (e | e); omega; exact h2a e)
      have rb : Round (Cj Ca) Wa (Cj Ca) Wb := ⟨by rw [hWb]; exact Steps.putObj _ _ _ _ (fun e => e (.inr (.inr rfl))), fun k hk => .inl hk⟩
      have hib := hI _ _ _ _ hia (by omega) sb
      have haxb := hAx x a' () _ _ _ hax (by omega) sb
      have hzb : Wb.heap.size = Wa.heap.size := by rw [hWb]; simp
      have ra : Round (Cj C) W (Cj Ca) Wa := ⟨hra.1.mono (fun k _ hk e => hk (.inl e)), fun k hk => by
        rcases hk with hk | hk
        · rcases hra.2 k hk with e | e; exact .inl (.inl e); exact .inr e
        · exact .inl (.inr hk)⟩
      have rab := ra.trans rb
      refine wpIn_mono (hbody _ pre x a' Ca Wb hib haxb hpre (fun k hk => by rw [hzb]; exact h3a k hk) (by omega)) ?_
      have fin : ∀ (jump : Option Code) (C3 : Nat → Prop) (W3 : World), Round Ca Wb C3 W3 →
          (Instr.endRound (w.heap.size + 1) jump).run P W3 = .ok (.bool jump.isNone) (W3.putObj (w.heap.size + 1) (.loop (rec (if jump.isNone then .ready else .done) jump))) ∧
          (W3.putObj (w.heap.size + 1) (.loop (rec (if jump.isNone then .ready else .done) jump))).heap[w.heap.size + 1]? = some (.loop (rec (if jump.isNone then .ready else .done) jump)) ∧
          (W3.putObj (w.heap.size + 1) (.loop (rec (if jump.isNone then .ready else .done) jump))).heap[w.heap.size]? = some (.deferred (some [])) ∧
          Steps (fun k => k < w.heap.size ∨ C3 k) W3 (W3.putObj (w.heap.size + 1) (.loop (rec (if jump.isNone then .ready else .done) jump))) ∧
          Round (Cj C) W (Cj C3) (W3.putObj (w.heap.size + 1) (.loop (rec (if jump.isNone then .ready else .done) jump))) ∧
          (¬ C3 w.heap.size ∧ ¬ C3 (w.heap.size + 1) ∧ ∀ k, C3 k → k < W3.heap.size) ∧ w.heap.size ≤ W3.heap.size := fun jump C3 W3 hr3 => by
        have h13 : ¬ C3 w.heap.size := fun e => by rcases hr3.2 _ e with e | e; exact h1a e; omega
        have h23 : ¬ C3 (w.heap.size + 1) := fun e => by rcases hr3.2 _ e with e | e; exact h2a e; omega
        have hl3 := hr3.1.heap h2a hlb
        have hk3 := hr3.1.heap h1a hkb
        have := run_endRound (P := P) jump hl3
        have hlt3 := (Array.getElem?_eq_some_iff.1 hl3).1
        rw [hrec] at this ⊢
        refine ⟨this, World.putObj_heap_same hlt3, (World.putObj_heap_other (by omega)).trans hk3, Steps.putObj _ _ _ _ (by rintro (e | e); omega; exact h23 e), ?_, ⟨h13, h23, fun k hk => by rcases hr3.2 k hk with e | e; exact Nat.lt_of_lt_of_le (by rw [hzb]; exact h3a k e) hr3.1.size; exact e.2⟩, by omega⟩
        refine (rab.trans (C'' := Cj C3) (D := W3) ⟨hr3.1.mono (fun k _ hk e => hk (.inl e)), fun k hk => ?_⟩).trans ⟨Steps.putObj _ _ _ _ (fun e => e (.inr (.inr rfl))), fun k hk => .inl hk⟩
        rcases hk with hk | hk
        · rcases hr3.2 k hk with e | e; exact .inl (.inl e); exact .inr e
        · exact .inl (.inr hk)
      rintro e a3 W3 hp
      cases e with
      | normal =>
        obtain ⟨C3, hr3, hi3⟩ := hp
        obtain ⟨hr, hl4, hk4, s4, r4, ⟨b1, b2, b3⟩, b4⟩ := fin none C3 W3 hr3
        exact ⟨_, _, hr, Cj C3, r4, .inl ⟨rfl, C3, rfl, hI _ _ _ _ hi3 b4 s4, ⟨b1, b2, fun k hk => by simpa using b3 k hk⟩, hl4, hk4⟩⟩
      | ret =>
        obtain ⟨C3, hr3, hi3⟩ := hp
        obtain ⟨hr, hl4, hk4, s4, r4, ⟨b1, b2, b3⟩, b4⟩ := fin (some .ret) C3 W3 hr3
        exact ⟨_, _, hr, Cj C3, r4, .inr ⟨rfl, C3, .ret, rfl, hIx _ _ _ _ _ hi3 b4 s4, ⟨b1, b2, fun k hk => by simpa using b3 k hk⟩, hl4, hk4⟩⟩
      | exit id =>
        obtain ⟨C3, hr3, hi3⟩ := hp
        obtain ⟨hr, hl4, hk4, s4, r4, ⟨b1, b2, b3⟩, b4⟩ := fin (some (.exit id)) C3 W3 hr3
        exact ⟨_, _, hr, Cj C3, r4, .inr ⟨rfl, C3, .exit id, rfl, hIx _ _ _ _ _ hi3 b4 s4, ⟨b1, b2, fun k hk => by simpa using b3 k hk⟩, hl4, hk4⟩⟩
      | goto t =>
        obtain ⟨C3, hr3, hi3⟩ := hp
        obtain ⟨hr, hl4, hk4, s4, r4, ⟨b1, b2, b3⟩, b4⟩ := fin (some (.goto t)) C3 W3 hr3
        exact ⟨_, _, hr, Cj C3, r4, .inr ⟨rfl, C3, .goto t, rfl, hIx _ _ _ _ _ hi3 b4 s4, ⟨b1, b2, fun k hk => by simpa using b3 k hk⟩, hl4, hk4⟩⟩
      | panic ch => exact hp.elim
      | outgrown => exact hp.elim
    · exact ⟨C0, rfl, hI1, ⟨fun e => by have := (hC0 _ e).2; omega, fun e => by have := (hC0 _ e).2; omega, fun k hk => by have := (hC0 _ hk).2; omega⟩, hL1, hK1⟩
    · -- behind the iterator
      rintro e W2 ⟨⟨v, rfl⟩, _, (⟨C, rfl, hi, ⟨h1, h2, h3⟩, hl, hk⟩ | ⟨pre, C, c, rfl, hi, ⟨h1, h2, h3⟩, hl, hk⟩)⟩
      · have hlt := (Array.getElem?_eq_some_iff.1 hl).1
        have sp : ∀ o, Steps (fun k => k < w.heap.size ∨ C k) W2 (W2.putObj (w.heap.size + 1) o) := fun o => Steps.putObj _ _ _ _ (by rintro (e | e); omega; exact h2 e)
        exact ⟨none, _, by have := run_endLoop (P := P) hl (by rw [hrec]; simp); rw [hrec] at this; exact this, hdone _ C _ (Nat.le_refl _) h1 (hI _ _ _ _ hi (by omega) (sp _)) ((World.putObj_heap_other (by omega)).trans hk)⟩
      · have hlt := (Array.getElem?_eq_some_iff.1 hl).1
        have sp : ∀ o, Steps (fun k => k < w.heap.size ∨ C k) W2 (W2.putObj (w.heap.size + 1) o) := fun o => Steps.putObj _ _ _ _ (by rintro (e | e); omega; exact h2 e)
        exact ⟨some c, _, by have := run_endLoop (P := P) hl (by rw [hrec]; simp); rw [hrec] at this; exact this, hstop _ c pre C _ (Nat.le_refl _) h1 (hIx _ _ _ _ _ hi (by omega) (sp _)) ((World.putObj_heap_other (by omega)).trans hk)⟩

/-- the same, where the assignment to the loop's variables makes no memory -/
theorem wpIn_range' {P : Program} {n : Nat} {α : Type} {g : Operand} {ps : Array Tmp} {assign body : Code} {Q : Exit → Act → World → Prop} {a : Act} {w : World}
    {gf : Nat} {lb : Array Value} (hg : a.eval g = .func (.func gf) #[] lb) (eg : ∀ args w, (callFunc gf args).run P w = .ok (.enter gf args) w)
    {encs : α → Array Value} {L : List α} {A : Nat → Prop} {w0 : World} (hseq : SeqOf P gf lb encs L A w0) (hb0 : Below w0.heap.size w0 w) (hps : ∀ x, (encs x).size = ps.size)
    (I : List α → (Nat → Prop) → World → Prop) (Ix : Code → List α → (Nat → Prop) → World → Prop) (C0 : Nat → Prop) (hC0 : ∀ k, C0 k → (A k ∨ w0.heap.size ≤ k) ∧ k < w.heap.size)
    (hI : Bears w.heap.size I) (hIx : ∀ c, Bears w.heap.size (Ix c)) (h0 : I [] C0 w) (a₁ : α → Act)
    (hassign : ∀ (l : Nat) (x : α) (W : World) (K : Act → World → Prop), K (a₁ x) W →
      assign.wpIn (Fence.wide.inRound l) (n - 1 - 1) P (Exit.then K (fun _ _ _ => False)) { tmps := (ps.zip (encs x)).foldl (fun t (p, v) => t.setIfInBounds p v) a.tmps, defers := [] } W)
    (hbody : ∀ (l : Nat) (pre : List α) (x : α) (C : Nat → Prop) (W : World), I pre C W → pre ++ [x] <+: L → (∀ k, C k → k < W.heap.size) → w.heap.size ≤ W.heap.size →
      body.wpIn (Fence.wide.inRound l) (n - 1 - 1) P (rPost I Ix (pre ++ [x]) C W) (a₁ x) W)
    (hdone : ∀ (D : Nat) (C : Nat → Prop) (W : World), w.heap.size ≤ D → ¬ C D → I L C W → W.heap[D]? = some (.deferred (some [])) → Q .normal { a with defers := { target := .collected D, args := #[] } :: a.defers } W)
    (hstop : ∀ (D : Nat) (c : Code) (pre : List α) (C : Nat → Prop) (W : World), w.heap.size ≤ D → ¬ C D → Ix c pre C W → W.heap[D]? = some (.deferred (some [])) → c.wpIn Fence.wide n P Q { a with defers := { target := .collected D, args := #[] } :: a.defers } W) :
    (Code.rangeFunc g ps assign body).wpIn Fence.wide n P Q a w :=
  wpIn_range hg eg hseq hb0 hps I Ix C0 hC0 hI hIx h0 (fun x a' _ _ => a' = a₁ x) (fun _ _ _ _ _ _ h _ _ => h)
    (fun l pre x C W K hi _ _ _ hK => hassign l x W K (hK _ C W (Round.refl C W) hi rfl))
    (fun l pre x a' C W hi ha hp hc hz => by subst ha; exact hbody l pre x C W hi hp hc hz) hdone hstop
/-- the same, the frame of a round told by what is laid into the frame at hand -/
theorem wpIn_rangeF {P : Program} {n : Nat} {α : Type} {g : Operand} {ps : Array Tmp} {assign body : Code} {Q : Exit → Act → World → Prop} {a : Act} {w : World} (f : α → Array Value → Array Value)
    {gf : Nat} {lb : Array Value} (hg : a.eval g = .func (.func gf) #[] lb) (eg : ∀ args w, (callFunc gf args).run P w = .ok (.enter gf args) w)
    {encs : α → Array Value} {L : List α} {A : Nat → Prop} {w0 : World} (hseq : SeqOf P gf lb encs L A w0) (hb0 : Below w0.heap.size w0 w) (hps : ∀ x, (encs x).size = ps.size)
    (I : List α → (Nat → Prop) → World → Prop) (Ix : Code → List α → (Nat → Prop) → World → Prop) (C0 : Nat → Prop) (hC0 : ∀ k, C0 k → (A k ∨ w0.heap.size ≤ k) ∧ k < w.heap.size)
    (hI : Bears w.heap.size I) (hIx : ∀ c, Bears w.heap.size (Ix c)) (h0 : I [] C0 w)
    (hassign : ∀ (l : Nat) (x : α) (W : World) (K : Act → World → Prop), K { tmps := f x a.tmps, defers := [] } W →
      assign.wpIn (Fence.wide.inRound l) (n - 1 - 1) P (Exit.then K (fun _ _ _ => False)) { tmps := (ps.zip (encs x)).foldl (fun t (p, v) => t.setIfInBounds p v) a.tmps, defers := [] } W)
    (hbody : ∀ (l : Nat) (pre : List α) (x : α) (C : Nat → Prop) (W : World), I pre C W → pre ++ [x] <+: L → (∀ k, C k → k < W.heap.size) → w.heap.size ≤ W.heap.size →
      body.wpIn (Fence.wide.inRound l) (n - 1 - 1) P (rPost I Ix (pre ++ [x]) C W) { tmps := f x a.tmps, defers := [] } W)
    (hdone : ∀ (D : Nat) (C : Nat → Prop) (W : World), w.heap.size ≤ D → ¬ C D → I L C W → W.heap[D]? = some (.deferred (some [])) → Q .normal { a with defers := { target := .collected D, args := #[] } :: a.defers } W)
    (hstop : ∀ (D : Nat) (c : Code) (pre : List α) (C : Nat → Prop) (W : World), w.heap.size ≤ D → ¬ C D → Ix c pre C W → W.heap[D]? = some (.deferred (some [])) → c.wpIn Fence.wide n P Q { a with defers := { target := .collected D, args := #[] } :: a.defers } W) :
    (Code.rangeFunc g ps assign body).wpIn Fence.wide n P Q a w :=
  wpIn_range' hg eg hseq hb0 hps I Ix C0 hC0 hI hIx h0 (fun x => { tmps := f x a.tmps, defers := [] }) hassign hbody hdone hstop
#print axioms wpIn_rangeF
end Go.Proofs.Ytahegkbdefhlpaa.rng
/-!   Ranges over functions that tell what lies in memory of their own making: what is told is known by a relation. (Written by gen_rngm.py out of XRng.) Imports nothing of the program.
-/
namespace Go.Proofs.Ytahegkbdefhlpaa.rng
open Go.RowKit mem
set_option linter.unusedVariables false

/-- as SeqOf; what is told of an element is any arguments that are its by R -/
def SeqOfM {α : Type} (R : α → World → Array Value → Prop) (P : Program) (g : Nat) (lb : Array Value) (L : List α) (A : Nat → Prop) (w : World) : Prop :=
  ∀ (l : Nat) (J Jx : List α → (Nat → Prop) → World → Prop) (C0 : Nat → Prop) (W : World),
    Below w.heap.size w W → (∀ k, C0 k → (A k ∨ w.heap.size ≤ k) ∧ k < W.heap.size) → Bears W.heap.size J → Bears W.heap.size Jx →
    (∀ pre x C W1 args, J pre C W1 → W.heap.size ≤ W1.heap.size → pre ++ [x] <+: L → R x W1 args → Yd P l args W1 fun e W' =>
      ∃ C', Round C W1 C' W' ∧ ((e = .returned (.bool true) ∧ J (pre ++ [x]) C' W') ∨ (e = .returned (.bool false) ∧ Jx (pre ++ [x]) C' W'))) →
    J [] C0 W →
    Calls P g (#[.func (.yield l) #[] #[]] ++ lb) W fun e W' => (∃ v, e = .returned v) ∧ ∃ C', J L C' W' ∨ ∃ pre, Jx pre C' W'
/-- **a range over a function**, in a function's body (not within a round) -/
theorem wpIn_rangeM {P : Program} {n : Nat} {α : Type} {g : Operand} {ps : Array Tmp} {assign body : Code} {Q : Exit → Act → World → Prop} {a : Act} {w : World}
    {gf : Nat} {lb : Array Value} (hg : a.eval g = .func (.func gf) #[] lb) (eg : ∀ args w, (callFunc gf args).run P w = .ok (.enter gf args) w)
    {R : α → World → Array Value → Prop} {L : List α} {A : Nat → Prop} {w0 : World} (hseq : SeqOfM R P gf lb L A w0) (hb0 : Below w0.heap.size w0 w) (hps : ∀ x W args, R x W args → args.size = ps.size)
    (I : List α → (Nat → Prop) → World → Prop) (Ix : Code → List α → (Nat → Prop) → World → Prop) (C0 : Nat → Prop) (hC0 : ∀ k, C0 k → (A k ∨ w0.heap.size ≤ k) ∧ k < w.heap.size)
    (hI : Bears w.heap.size I) (hIx : ∀ c, Bears w.heap.size (Ix c)) (h0 : I [] C0 w) (Ax : α → Act → (Nat → Prop) → World → Prop) (hAx : ∀ x a' C W W', Ax x a' C W → (∀ (k : Nat) (o : Obj), W.heap[k]? = some o → (∀ r, o ≠ Obj.loop r) → W'.heap[k]? = some o) → W.heap.size ≤ W'.heap.size → Ax x a' C W')
    (hassign : ∀ (l : Nat) (pre : List α) (x : α) (args : Array Value) (C : Nat → Prop) (W : World) (K : Act → World → Prop), R x W args → I pre C W → pre ++ [x] <+: L → (∀ k, C k → k < W.heap.size) → w.heap.size ≤ W.heap.size →
      (∀ a' C' W', Round C W C' W' → I pre C' W' → Ax x a' C' W' → K a' W') →
      assign.wpIn (Fence.wide.inRound l) (n - 1 - 1) P (Exit.then K (fun _ _ _ => False)) { tmps := (ps.zip args).foldl (fun t (p, v) => t.setIfInBounds p v) a.tmps, defers := [] } W)
    (hbody : ∀ (l : Nat) (pre : List α) (x : α) (a' : Act) (C : Nat → Prop) (W : World), I pre C W → Ax x a' C W → pre ++ [x] <+: L → (∀ k, C k → k < W.heap.size) → w.heap.size ≤ W.heap.size →
      body.wpIn (Fence.wide.inRound l) (n - 1 - 1) P (rPost I Ix (pre ++ [x]) C W) a' W)
    (hdone : ∀ (D : Nat) (C : Nat → Prop) (W : World), w.heap.size ≤ D → ¬ C D → I L C W → W.heap[D]? = some (.deferred (some [])) → Q .normal { a with defers := { target := .collected D, args := #[] } :: a.defers } W)
    (hstop : ∀ (D : Nat) (c : Code) (pre : List α) (C : Nat → Prop) (W : World), w.heap.size ≤ D → ¬ C D → Ix c pre C W → W.heap[D]? = some (.deferred (some [])) → c.wpIn Fence.wide n P Q { a with defers := { target := .collected D, args := #[] } :: a.defers } W) :
    (Code.rangeFunc g ps assign body).wpIn Fence.wide n P Q a w := by
  refine wpIn_rangeFunc ?_
  intro fn hfn
  obtain ⟨rec, hrec⟩ : ∃ rec : LoopState → Option Code → Loop, rec = fun st pe => { state := st, pending := pe, fn, tmps := a.tmps, params := ps, assign, body, defers := w.heap.size } := ⟨_, rfl⟩
  obtain ⟨W1, hW1⟩ : ∃ W1, (w.alloc (.deferred (some []))).alloc (.loop (rec .ready none)) = W1 := ⟨_, rfl⟩
  have hL1 : W1.heap[w.heap.size + 1]? = some (.loop (rec .ready none)) := by
    rw [← hW1]; have := World.alloc_heap_new (w.alloc (.deferred (some []))) (.loop (rec .ready none)); rwa [World.size_alloc] at this
  have hK1 : W1.heap[w.heap.size]? = some (.deferred (some [])) := by
    rw [← hW1]; exact (Below.heap_alloc _ _ _ (by simp)).trans (World.alloc_heap_new w _)
  have hz : W1.heap.size = w.heap.size + 1 + 1 := by rw [← hW1]; simp
  have bw1 : Below w.heap.size w W1 := by rw [← hW1]; exact ((Below.refl _ w).alloc (Nat.le_refl _) _).alloc (by simp) _
  have hI1 : I [] C0 W1 := hI _ _ _ _ h0 (Nat.le_refl _) (Steps.of_below bw1 _)
  refine ⟨w.heap.size + 1, [{ target := .collected w.heap.size, args := #[] }], W1, { target := .fn (.func gf) lb, args := #[.func (.yield (w.heap.size + 1)) #[] #[]] }, W1, gf,
    #[.func (.yield (w.heap.size + 1)) #[] #[]] ++ lb, W1, ?_, ?_, ?_, ?_, (fun h => by simp [Fence.wide] at h), ?_⟩
  · rw [← hW1, hrec]; exact run_enterLoop_outer _ _ _ _ _
  · simp only [resolve, hg]
    simp [go_sem]
  · intro f' hf'; trivial
  · simp [invoke, go_sem, eg]
  · refine callsIn_wide.2 ?_
    -- the two blocks of book-keeping are the consumer's, beside the user's own
    let Cj : (Nat → Prop) → Nat → Prop := fun C k => C k ∨ k = w.heap.size ∨ k = w.heap.size + 1
    let J : List α → (Nat → Prop) → World → Prop := fun pre C' W => ∃ C, C' = Cj C ∧ I pre C W ∧ (¬ C w.heap.size ∧ ¬ C (w.heap.size + 1) ∧ ∀ k, C k → k < W.heap.size) ∧ W.heap[w.heap.size + 1]? = some (.loop (rec .ready none)) ∧ W.heap[w.heap.size]? = some (.deferred (some []))
    let Jx : List α → (Nat → Prop) → World → Prop := fun pre C' W => ∃ C c, C' = Cj C ∧ Ix c pre C W ∧ (¬ C w.heap.size ∧ ¬ C (w.heap.size + 1) ∧ ∀ k, C k → k < W.heap.size) ∧ W.heap[w.heap.size + 1]? = some (.loop (rec .done (some c))) ∧ W.heap[w.heap.size]? = some (.deferred (some []))
    have hsm : ∀ {C : Nat → Prop} {X Y : World}, Steps (fun k => k < W1.heap.size ∨ Cj C k) X Y → Steps (fun k => k < w.heap.size ∨ C k) X Y := fun h => h.mono (fun k _ hk => by
      rcases hk with hk | hk
      · exact .inl (by omega)
      · exact .inr (.inl hk))
    refine (hseq (w.heap.size + 1) J Jx (Cj C0) W1 (hb0.trans (bw1.mono hb0.size)) ?_ ?_ ?_ ?_ ?_).mono ?_
    · intro k hk
      have h1 := hb0.size
      rcases hk with hk | hk | hk
      · exact ⟨(hC0 k hk).1, by have := (hC0 k hk).2; omega⟩
      · exact ⟨.inr (by omega), by omega⟩
      · exact ⟨.inr (by omega), by omega⟩
    · rintro s C' X Y ⟨C, rfl, hi, ⟨h1, h2, h3⟩, hl, hk⟩ hn hs
      exact ⟨C, rfl, hI _ _ _ _ hi (by omega) (hsm hs), ⟨h1, h2, fun k hk => Nat.lt_of_lt_of_le (h3 k hk) hs.size⟩, hs.heap (.inr (.inr (.inr rfl))) hl, hs.heap (.inr (.inr (.inl rfl))) hk⟩
    · rintro s C' X Y ⟨C, c, rfl, hi, ⟨h1, h2, h3⟩, hl, hk⟩ hn hs
      exact ⟨C, c, rfl, hIx c _ _ _ _ hi (by omega) (hsm hs), ⟨h1, h2, fun k hk => Nat.lt_of_lt_of_le (h3 k hk) hs.size⟩, hs.heap (.inr (.inr (.inr rfl))) hl, hs.heap (.inr (.inr (.inl rfl))) hk⟩
    · -- one round
      rintro pre x C' W args ⟨C, rfl, hi, ⟨h1, h2, h3⟩, hl, hk⟩ hWs hpre hR
      have hlt : w.heap.size + 1 < W.heap.size := (Array.getElem?_eq_some_iff.1 hl).1
      have hy := run_yield (P := P) (args := args) hl (by rw [hrec]; exact hps x W args hR)
      rw [hrec] at hy
      refine Yd.of (m := n - 1 - 1) ⟨fn, _, assign, body, hy, roundIn_of_wpIn hfn (hassign _ pre x args C W _ hR hi hpre h3 (by omega) ?_)⟩
      clear hy
      intro a' Ca Wa hra hia hax
      have h1a : ¬ Ca w.heap.size := fun e => by rcases hra.2 _ e with e | e; exact h1 e; omega
      have h2a : ¬ Ca (w.heap.size + 1) := fun e => by rcases hra.2 _ e with e | e; exact h2 e; omega
      have h3a : ∀ k, Ca k → k < Wa.heap.size := fun k hk => by rcases hra.2 k hk with e | e; exact Nat.lt_of_lt_of_le (h3 k e) hra.1.size; exact e.2
      have hla := hra.1.heap h2 hl
      have hka := hra.1.heap h1 hk
      have hlta : w.heap.size + 1 < Wa.heap.size := (Array.getElem?_eq_some_iff.1 hla).1
      refine ⟨_, run_beginRound hla (by rw [hrec]), ?_⟩
      obtain ⟨Wb, hWb⟩ : ∃ Wb, Wb = Wa.putObj (w.heap.size + 1) (.loop { rec .ready none with state := .busy }) := ⟨_, rfl⟩
      rw [← hWb]
      have hlb : Wb.heap[w.heap.size + 1]? = some (.loop { rec .ready none with state := .busy }) := by rw [hWb]; exact World.putObj_heap_same hlta
      have hkb : Wb.heap[w.heap.size]? = some (.deferred (some [])) := by rw [hWb]; exact (World.putObj_heap_other (by omega)).trans hka
      have sb : Steps (fun k => k < w.heap.size ∨ Ca k) Wa Wb := by rw [hWb]; exact Steps.putObj _ _ _ _ (by rintro (e | e); omega; exact h2a e)
      have rb : Round (Cj Ca) Wa (Cj Ca) Wb := ⟨by rw [hWb]; exact Steps.putObj _ _ _ _ (fun e => e (.inr (.inr rfl))), fun k hk => .inl hk⟩
      have hib := hI _ _ _ _ hia (by omega) sb
      have haxb : Ax x a' Ca Wb := hAx x a' Ca Wa Wb hax (fun k o ho hno => by
        have hne : k ≠ w.heap.size + 1 := fun e => by
          subst e
          rw [hla] at ho
          injection ho with ho
          exact hno _ ho.symm
        rw [hWb]; exact (World.putObj_heap_other (by omega)).trans ho) (by rw [hWb]; simp)
      have hzb : Wb.heap.size = Wa.heap.size := by rw [hWb]; simp
      have ra : Round (Cj C) W (Cj Ca) Wa := ⟨hra.1.mono (fun k _ hk e => hk (.inl e)), fun k hk => by
        rcases hk with hk | hk
        · rcases hra.2 k hk with e | e; exact .inl (.inl e); exact .inr e
        · exact .inl (.inr hk)⟩
      have rab := ra.trans rb
      refine wpIn_mono (hbody _ pre x a' Ca Wb hib haxb hpre (fun k hk => by rw [hzb]; exact h3a k hk) (by omega)) ?_
      have fin : ∀ (jump : Option Code) (C3 : Nat → Prop) (W3 : World), Round Ca Wb C3 W3 →
          (Instr.endRound (w.heap.size + 1) jump).run P W3 = .ok (.bool jump.isNone) (W3.putObj (w.heap.size + 1) (.loop (rec (if jump.isNone then .ready else .done) jump))) ∧
          (W3.putObj (w.heap.size + 1) (.loop (rec (if jump.isNone then .ready else .done) jump))).heap[w.heap.size + 1]? = some (.loop (rec (if jump.isNone then .ready else .done) jump)) ∧
          (W3.putObj (w.heap.size + 1) (.loop (rec (if jump.isNone then .ready else .done) jump))).heap[w.heap.size]? = some (.deferred (some [])) ∧
          Steps (fun k => k < w.heap.size ∨ C3 k) W3 (W3.putObj (w.heap.size + 1) (.loop (rec (if jump.isNone then .ready else .done) jump))) ∧
          Round (Cj C) W (Cj C3) (W3.putObj (w.heap.size + 1) (.loop (rec (if jump.isNone then .ready else .done) jump))) ∧
          (¬ C3 w.heap.size ∧ ¬ C3 (w.heap.size + 1) ∧ ∀ k, C3 k → k < W3.heap.size) ∧ w.heap.size ≤ W3.heap.size := fun jump C3 W3 hr3 => by
        have h13 : ¬ C3 w.heap.size := fun e => by rcases hr3.2 _ e with e | e; exact h1a e; omega
        have h23 : ¬ C3 (w.heap.size + 1) := fun e => by rcases hr3.2 _ e with e | e; exact h2a e; omega
        have hl3 := hr3.1.heap h2a hlb
        have hk3 := hr3.1.heap h1a hkb
        have := run_endRound (P := P) jump hl3
        have hlt3 := (Array.getElem?_eq_some_iff.1 hl3).1
        rw [hrec] at this ⊢
        refine ⟨this, World.putObj_heap_same hlt3, (World.putObj_heap_other (by omega)).trans hk3, Steps.putObj _ _ _ _ (by rintro (e | e); omega; exact h23 e), ?_, ⟨h13, h23, fun k hk => by rcases hr3.2 k hk with e | e; exact Nat.lt_of_lt_of_le (by rw [hzb]; exact h3a k e) hr3.1.size; exact e.2⟩, by omega⟩
        refine (rab.trans (C'' := Cj C3) (D := W3) ⟨hr3.1.mono (fun k _ hk e => hk (.inl e)), fun k hk => ?_⟩).trans ⟨Steps.putObj _ _ _ _ (fun e => e (.inr (.inr rfl))), fun k hk => .inl hk⟩
        rcases hk with hk | hk
        · rcases hr3.2 k hk with e | e; exact .inl (.inl e); exact .inr e
        · exact .inl (.inr hk)
      rintro e a3 W3 hp
      cases e with
      | normal =>
        obtain ⟨C3, hr3, hi3⟩ := hp
        obtain ⟨hr, hl4, hk4, s4, r4, ⟨b1, b2, b3⟩, b4⟩ := fin none C3 W3 hr3
        exact ⟨_, _, hr, Cj C3, r4, .inl ⟨rfl, C3, rfl, hI _ _ _ _ hi3 b4 s4, ⟨b1, b2, fun k hk => by simpa using b3 k hk⟩, hl4, hk4⟩⟩
      | ret =>
        obtain ⟨C3, hr3, hi3⟩ := hp
        obtain ⟨hr, hl4, hk4, s4, r4, ⟨b1, b2, b3⟩, b4⟩ := fin (some .ret) C3 W3 hr3
        exact ⟨_, _, hr, Cj C3, r4, .inr ⟨rfl, C3, .ret, rfl, hIx _ _ _ _ _ hi3 b4 s4, ⟨b1, b2, fun k hk => by simpa using b3 k hk⟩, hl4, hk4⟩⟩
      | exit id =>
        obtain ⟨C3, hr3, hi3⟩ := hp
        obtain ⟨hr, hl4, hk4, s4, r4, ⟨b1, b2, b3⟩, b4⟩ := fin (some (.exit id)) C3 W3 hr3
        exact ⟨_, _, hr, Cj C3, r4, .inr ⟨rfl, C3, .exit id, rfl, hIx _ _ _ _ _ hi3 b4 s4, ⟨b1, b2, fun k hk => by simpa using b3 k hk⟩, hl4, hk4⟩⟩
      | goto t =>
        obtain ⟨C3, hr3, hi3⟩ := hp
        obtain ⟨hr, hl4, hk4, s4, r4, ⟨b1, b2, b3⟩, b4⟩ := fin (some (.goto t)) C3 W3 hr3
        exact ⟨_, _, hr, Cj C3, r4, .inr ⟨rfl, C3, .goto t, rfl, hIx _ _ _ _ _ hi3 b4 s4, ⟨b1, b2, fun k hk => by simpa using b3 k hk⟩, hl4, hk4⟩⟩
      | panic ch => exact hp.elim
      | outgrown => exact hp.elim
    · exact ⟨C0, rfl, hI1, ⟨fun e => by have := (hC0 _ e).2; omega, fun e => by have := (hC0 _ e).2; omega, fun k hk => by have := (hC0 _ hk).2; omega⟩, hL1, hK1⟩
    · -- behind the iterator
      rintro e W2 ⟨⟨v, rfl⟩, _, (⟨C, rfl, hi, ⟨h1, h2, h3⟩, hl, hk⟩ | ⟨pre, C, c, rfl, hi, ⟨h1, h2, h3⟩, hl, hk⟩)⟩
      · have hlt := (Array.getElem?_eq_some_iff.1 hl).1
        have sp : ∀ o, Steps (fun k => k < w.heap.size ∨ C k) W2 (W2.putObj (w.heap.size + 1) o) := fun o => Steps.putObj _ _ _ _ (by rintro (e | e); omega; exact h2 e)
        exact ⟨none, _, by have := run_endLoop (P := P) hl (by rw [hrec]; simp); rw [hrec] at this; exact this, hdone _ C _ (Nat.le_refl _) h1 (hI _ _ _ _ hi (by omega) (sp _)) ((World.putObj_heap_other (by omega)).trans hk)⟩
      · have hlt := (Array.getElem?_eq_some_iff.1 hl).1
        have sp : ∀ o, Steps (fun k => k < w.heap.size ∨ C k) W2 (W2.putObj (w.heap.size + 1) o) := fun o => Steps.putObj _ _ _ _ (by rintro (e | e); omega; exact h2 e)
        exact ⟨some c, _, by have := run_endLoop (P := P) hl (by rw [hrec]; simp); rw [hrec] at this; exact this, hstop _ c pre C _ (Nat.le_refl _) h1 (hIx _ _ _ _ _ hi (by omega) (sp _)) ((World.putObj_heap_other (by omega)).trans hk)⟩

#print axioms wpIn_rangeM
end Go.Proofs.Ytahegkbdefhlpaa.rng
/-!   Package duct: what is told of none; DuctNone.
-/
namespace Go.Proofs.Ytahegkbdefhlpaa.dc
open Go.RowKit Go.Maps aid mem rng
attribute [local go_sem ↓] Go.wp_at_zero Go.wp_at_succ
set_option linter.unusedVariables false
set_option linter.unusedSimpArgs false

/-- what is told of a copy under way -/
def RC (x : Dk) (i : Nat) (W : World) (args : Array Value) : Prop := ∃ a cap, args = #[.agg #[.int .i64 (i : Nat), .int .i64 (cpAt x.l i).f, .int .i64 (cpAt x.l i).a, .slice a (cpAt x.l i).raw.length cap]] ∧ BRow W a (cpAt x.l i).raw.length cap (cpAt x.l i).raw
theorem eg_fly : ∀ args w, (callFunc 36 args).run Try.prog w = .ok (.enter 36 args) w := enters_of Try.func36 (by kernel_rfl) rfl
def RetFl (p : Value) (w : World) (e : Ending) (w' : World) : Prop := ∃ bx, e = .returned (.func (.func 36) #[] #[.pointer (some ⟨bx, 0, none⟩)]) ∧ w'.cell? ⟨bx, 0, none⟩ = some p ∧ Below w.heap.size w w' ∧ w.heap.size ≤ bx
theorem flying_any (p : Option Addr) (w : World) : Calls Try.prog 21 #[.pointer p] w (RetFl (.pointer p) w) := by
  have hx := heap_alloc_new w (.cells #[.pointer p] 27)
  have hb := bal (w := w) (.cells #[.pointer p] 27)
  have HF := Lib.hid (show RetFl (.pointer p) w (.returned (.func (.func 36) #[] #[.pointer (some ⟨w.heap.size, 0, none⟩)])) (w.alloc (.cells #[.pointer p] 27)) from ⟨_, rfl, cofr hx 0 _ rfl, hb, Nat.le_refl _⟩)
  clear hx hb
  go_enter Try.func21, Try.ntmps21
  go_wp2
  go_ret
  exact HF.out
theorem fly_none {R : Nat → World → Array Value → Prop} {w : World} {bx : Nat} (h : w.cell? ⟨bx, 0, none⟩ = some (.pointer none)) (A : Nat → Prop) (hA : ¬ A bx) : SeqOfM R Try.prog 36 #[.pointer (some ⟨bx, 0, none⟩)] [] A w := by
  intro l J Jx C0 W hW hC hJ hJx hY h0
  have cx := (hW.cell (World.block_lt_of_cell? w _ h)).trans h
  show Calls Try.prog 36 #[.func (.yield l) #[] #[], .pointer (some ⟨bx, 0, none⟩)] W _
  have HJ := Lib.hid h0
  clear h hC hJ hJx hY h0 hW
  go_enter Try.func36, Try.ntmps36
  go_wp2
  exact bodyPost_ret (v := .tuple #[]) (by simp [results, Try.results36, go_sem]) rfl ⟨⟨_, rfl⟩, C0, .inl HJ.out⟩
abbrev cpZ : Array Value := #[.int .i64 0, .int .i64 0, .int .i64 0, .slice none 0 0]
theorem nth_nil (n : Int) (w : World) : Calls Try.prog 20 #[.pointer none, .int .i64 n] w fun e w' => e = .returned (.tuple #[.agg #[.int .i64 0, .int .i64 0, .int .i64 0, .slice none 0 0], .bool false]) ∧ Below w.heap.size w w' := by
  have hb := bal (w := w) (.cells #[.int .i64 0, .int .i64 0, .int .i64 0, .slice none 0 0] 53)
  have hx := heap_alloc_new w (.cells #[.int .i64 0, .int .i64 0, .int .i64 0, .slice none 0 0] 53)
  have e0 := cofr hx 0 _ rfl
  have e1 := cofr hx 1 _ rfl
  have e2 := cofr hx 2 _ rfl
  have e3 := cofr hx 3 _ rfl
  have f0 := fofr hx 0
  have f1 := fofr hx 1
  have f2 := fofr hx 2
  have f3 := fofr hx 3
  go_enter Try.func20, Try.ntmps20
  go_wp2_with fail
  exact bodyPost_ret (v := .tuple #[.agg #[.int .i64 0, .int .i64 0, .int .i64 0, .slice none 0 0], .bool false]) (by simp [results, Try.results20, go_sem, e0, e1, e2, e3]) rfl ⟨rfl, hb⟩
theorem fate_nil (id : Int) (w : World) : Calls Try.prog 13 #[.pointer none, .int .i64 id] w fun e w' => e = .returned (.tuple #[.agg #[.int .i64 0, .int .i64 0, .int .i64 0, .int .i64 0], .bool false]) ∧ Below w.heap.size w w' := by
  have hb := bal (w := w) (.cells #[.int .i64 0, .int .i64 0, .int .i64 0, .int .i64 0] 41)
  have HT := Lib.hid (total_nil (w.alloc (.cells #[.int .i64 0, .int .i64 0, .int .i64 0, .int .i64 0] 41)))
  have hx := heap_alloc_new w (.cells #[.int .i64 0, .int .i64 0, .int .i64 0, .int .i64 0] 41)
  have HX := Lib.hid (fun q => show ((w.alloc (.cells #[.int .i64 0, .int .i64 0, .int .i64 0, .int .i64 0] 41)).drewN q).heap[w.heap.size]? = some (.cells #[.int .i64 0, .int .i64 0, .int .i64 0, .int .i64 0] 41 (0, 0)) from hx)
  have HBB := Lib.hid (fun q => bdn hb q)
  by_cases h1 : id < 0
  · have hd : decide (id < 0) = true := by simpa using h1
    clear HT HX
    have e0 := cofr hx 0 _ rfl
    have e1 := cofr hx 1 _ rfl
    have e2 := cofr hx 2 _ rfl
    have e3 := cofr hx 3 _ rfl
    have f0 := fofr hx 0
    have f1 := fofr hx 1
    have f2 := fofr hx 2
    have f3 := fofr hx 3
    go_enter Try.func13, Try.ntmps13
    go_wp2_with fail
    exact bodyPost_ret (v := .tuple #[.agg #[.int .i64 0, .int .i64 0, .int .i64 0, .int .i64 0], .bool false]) (by simp [results, Try.results13, go_sem, e0, e1, e2, e3]) rfl ⟨rfl, hb⟩
  · have hd : decide (id < 0) = false := by simpa using h1
    have h3 : (0 : Int) ≤ id := by omega
    have h4 : decide ((0 : Int) ≤ id) = true := by simpa using h3
    clear hx
    go_enter Try.func13, Try.ntmps13
    go_wp2_with (go_at_call 18; (with_reducible refine HT.out.at.mono ?_); rintro e w1 ⟨rfl, q, rfl⟩; have hx := HX.out q; have hb := HBB.out q; have e0 := cofr hx 0 _ rfl; have e1 := cofr hx 1 _ rfl; have e2 := cofr hx 2 _ rfl; have e3 := cofr hx 3 _ rfl; have f0 := fofr hx 0; have f1 := fofr hx 1; have f2 := fofr hx 2; have f3 := fofr hx 3)
    have hq := put4_box hx (.int .i64 0) (.int .i64 0) (.int .i64 0) (.int .i64 0)
    have hbq := put4_below hb (Nat.le_refl _) (.int .i64 0) (.int .i64 0) (.int .i64 0) (.int .i64 0)
    have r0 := cofr hq 0 _ rfl
    have r1 := cofr hq 1 _ rfl
    have r2 := cofr hq 2 _ rfl
    have r3 := cofr hq 3 _ rfl
    exact bodyPost_ret (v := .tuple #[.agg #[.int .i64 0, .int .i64 0, .int .i64 0, .int .i64 0], .bool false]) (by simp [results, Try.results13, go_sem, r0, r1, r2, r3]) rfl ⟨rfl, hbq⟩
end Go.Proofs.Ytahegkbdefhlpaa.dc
/-!   DuctNone.
-/
namespace Go.Proofs.Ytahegkbdefhlpaa.dc
open Go.RowKit Go.Shelf Go.Maps aid mem rng
attribute [local go_sem] Oper.semAt_some
set_option linter.unusedVariables false
set_option linter.unusedSimpArgs false

/-- the box of the law's answer, in a later world -/
structure NB (w X : World) : Prop where
  hx : X.heap[w.heap.size]? = some (.cells #[.bool false] 4 (0, 0))
  below : Below w.heap.size w X
theorem NB.later {w X Y : World} (h : NB w X) (hb : Below X.heap.size X Y) : NB w Y := ⟨(hb.block _ (lt_of_block h.hx)).trans h.hx, h.below.trans (hb.mono h.below.size)⟩
structure ND (w : World) (D : Nat) (X : World) : Prop where
  nb : NB w X
  dd : X.heap[D]? = some (.deferred (some []))
  ne : w.heap.size < D
theorem ND.later {w X Y : World} {D : Nat} (h : ND w D X) (hb : Below X.heap.size X Y) : ND w D Y := ⟨h.nb.later hb, (hb.block _ (lt_of_block h.dd)).trans h.dd, h.ne⟩
theorem below_put {n : Nat} {w : World} {D : Nat} (o : Obj) (h : n ≤ D) (hn : n ≤ w.heap.size) : Below n w (w.putObj D o) :=
  (rng.Steps.putObj (fun k => k < n) w D o (by omega)).below hn (fun k hk => hk)
set_option maxRecDepth 1000000 in
set_option maxHeartbeats 8000000 in
theorem walk_DuctNone (w : World) (a : Option Addr) (len cap : Nat) (zs : List Int) (hrow : IsRow .u8 w a len cap zs) (n : Int) (hn : -9223372036854775808 ≤ n ∧ n ≤ 9223372036854775807) :
    Calls Try.prog 6 #[.slice a len cap, .int .i64 n] w fun x w' => x = .returned (.bool true) ∧ Below w.heap.size w w' := by
  have hMO : Try.prog.follows .mixedOrders = true := by kernel_rfl
  clear hrow
  refine (callsIn_wide (n := 6)).1 ?_
  refine callsIn_of_wp_marks Try.func6 rfl trivial ?_ rfl
  simp only [Try.ntmps6, List.size_toArray, List.length_cons, List.length_nil, Nat.reduceAdd, Nat.reduceSub, Array.replicate_succ, Array.replicate_zero, List.push_toArray, List.append_toArray, List.nil_append, List.cons_append]
  have N0 : NB w (w.alloc (.cells #[.bool false] 4)) := ⟨heap_alloc_new w _, bal _⟩
  have HFL := Lib.hid (fun X => flying_any none X)
  unfold RetFl at HFL
  have hfn : ∀ f, Fence.wide.fn f := fun _ => trivial
  gi_wp2_with (first
    | (gi_at_call 7; refine (callsIn_wide.2 (known_any _)).mono ?_; rintro e w1 ⟨rfl, h1⟩; replace N0 := N0.later h1; clear h1)
    | (gi_at_call 12; refine (callsIn_wide.2 (put_nil _ n _).below).mono ?_; rintro e w2 ⟨rfl, h1⟩; replace N0 := N0.later h1; clear h1)
    | (gi_at_call 19; refine (callsIn_wide.2 (double_nil n n _).below).mono ?_; rintro e w3 ⟨rfl, h1⟩; replace N0 := N0.later h1; clear h1)
    | (gi_at_call 15; refine (callsIn_wide.2 (take_nil n n _).below).mono ?_; rintro e w4 ⟨rfl, h1⟩; replace N0 := N0.later h1; clear h1)
    | (gi_at_call 20; refine (callsIn_wide.2 (nth_nil n _)).mono ?_; rintro e w5 ⟨rfl, h1⟩; replace N0 := N0.later (h1.trans ((bal (w := w5) (.cells #[.int .i64 0, .int .i64 0, .int .i64 0, .slice none 0 0] 53)).mono h1.size)); clear h1)
    | (gi_at_call 13; refine (callsIn_wide.2 (fate_nil n _)).mono ?_; rintro e w6 ⟨rfl, h1⟩; replace N0 := N0.later (h1.trans ((bal (w := w6) (.cells #[.int .i64 0, .int .i64 0, .int .i64 0, .int .i64 0] 41)).mono h1.size)); clear h1)
    | (gi_at_call 21; refine (callsIn_wide.2 (HFL.out _)).mono ?_; rintro e w7 ⟨bx, rfl, hcx, h1, hbx⟩; replace N0 := N0.later h1; clear h1))
  obtain ⟨N1, hsq⟩ : NB w w7 ∧ SeqOfM (fun (_ : Nat) _ _ => False) Try.prog 36 #[.pointer (some ⟨bx, 0, none⟩)] [] (fun _ => False) w7 := ⟨N0, fly_none hcx _ (fun h => h)⟩
  have HSEQ := Lib.hid hsq
  clear hsq N0 hcx hbx
  have hw7 : w.heap.size < w7.heap.size := lt_of_block N1.hx
  refine wpIn_rangeM (gf := 36) (lb := #[.pointer (some ⟨bx, 0, none⟩)]) (L := []) (A := fun _ => False) (w0 := w7) (R := fun (_ : Nat) _ _ => False) rfl eg_fly HSEQ.out (Below.refl _ _) (fun _ _ _ h => h.elim)
    (fun _ _ X => NB w X) (fun _ _ _ _ => False) (fun _ => False) (fun _ h => h.elim) ?hI (fun _ _ _ _ _ h => h.elim) N1 (fun _ _ _ _ => False) (fun _ _ _ _ _ h => h.elim) (fun _ _ _ _ _ _ _ h => h.elim) (fun _ _ _ _ _ _ _ h => h.elim) ?done (fun _ _ _ _ _ _ _ h => h.elim)
  case hI =>
    rintro pre C X Y h hz hs
    exact ⟨hs.heap (.inl hw7) h.hx, h.below.trans (hs.below (Nat.le_of_lt (Nat.lt_of_lt_of_le hw7 hz)) (fun k hk => .inl (by omega)))⟩
  case done =>
    rintro D C X hD _ N2 hK
    have hDX := lt_of_block hK
    clear HSEQ N1
    have N3 : ND w D X := ⟨N2, hK, by omega⟩
    clear N2 hK hD hDX
    gi_wp2_with (first
      | (gi_at_call 14; refine (callsIn_wide.2 (drop_nil n n _).below).mono ?_; rintro e w8 ⟨rfl, h1⟩; replace N3 := N3.later h1; clear h1)
      | (gi_at_call 17; refine (callsIn_wide.2 (len_nil _).below).mono ?_; rintro e w9 ⟨rfl, h1⟩; replace N3 := N3.later h1; clear h1)
      | (gi_at_call 18; refine (callsIn_wide.2 (total_nil _).below).mono ?_; rintro e w10 ⟨rfl, h1⟩; replace N3 := N3.later h1; clear h1)
      | (gi_at_call 11; refine (callsIn_wide.2 (clone_nil _).below).mono ?_; rintro e w11 ⟨rfl, h1⟩; replace N3 := N3.later h1; clear h1)
      | (gi_at_call 7; refine (callsIn_wide.2 (known_any _)).mono ?_; rintro e w12 ⟨rfl, h1⟩; replace N3 := N3.later h1; clear h1; have cR := cofr N3.nb.hx 0 _ rfl; have fR := fofr N3.nb.hx 0))
    obtain ⟨nb, dd, hne⟩ := N3
    have ks : Kept [w.heap.size] w12 (w12.setCell ⟨w.heap.size, 0, none⟩ (.bool true)) := (Kept.refl [w.heap.size] w12).setCell (.inl (by simp)) _
    have dd2 := ks.heap (by simp; omega) dd
    have hx2 := heap_setCell_same w12 w.heap.size 0 _ _ (.bool true) nb.hx
    have hx3 := (World.putObj_heap_other (w := w12.setCell ⟨w.heap.size, 0, none⟩ (.bool true)) (r := D) (o := .deferred none) (k := w.heap.size) (by omega)).trans hx2
    have cF := cofr hx3 0 _ rfl
    refine ⟨by simp, .inl ⟨_, _, rfl, run_takeDeferred dd2, ?_⟩⟩
    refine ⟨.bool true, by simp [results, Try.results6, go_sem, cF], rfl, ?_⟩
    exact (nb.below.trans (ks.below (B := w.heap.size) (by simp) nb.below.size)).trans (below_put _ (by omega) (by have := nb.below.size; simpa using this))
end Go.Proofs.Ytahegkbdefhlpaa.dc
namespace Go.Proofs.Ytahegkbdefhlpaa.ductNone
open Go.ChangeShapes Go.WideShapes Go.ChangeAt Go.RowKit
open Go.ChangeMaps (open_string shut_string)
set_option linter.unusedVariables false

theorem own : ownKnob Try.prog.godebug = none := by kernel_rfl
theorem laidOut : laidOutB Try.prog = true := by kernel_rfl

set_option maxRecDepth 100000 in
theorem contract (H : Type) (enc : TypeId × Value → H) (W : World) (base : Nat) (args : Array Value) (ds gs : List (DataW H)) (before : List MemPlace)
    (hval0 : ∀ (j : Nat) t v, Try.f6.params[j]? = some t → args[j]? = some v → Value.okWide Try.prog W .any base t v)
    (hW : DataW.Whole enc Try.prog Try.f6.params.toList Rows.ductNoneSpec.vars false W args.toList ds gs before) :
    Calls Try.prog 6 args W fun e W' => ∃ v, e = .returned v ∧ Rows.ductNoneSpec.post enc Try.prog Try.f6 false true false false W args v W' := by
  have hval : ∀ (j : Nat) t v, Try.f6.params[j]? = some t → args[j]? = some v → Value.okWide Try.prog W .any base t v := hval0
  have hW' := hW
  obtain ⟨p, q, hA0, hV, rfl, hfz, hnd⟩ := hW
  have hA : DataW.TrodAll enc Try.prog W 0 (fun _ => true) true Try.f6.params.toList args.toList ds p := hA0
  rw [Try.params6] at hA hval
  obtain ⟨v0, vs0, d0, ds0, p0, q0, hargs, rfl, rfl, h0, r0⟩ := trodAll_cons hA
  obtain ⟨v1, vs1, d1, ds1, p1, q1, rfl, rfl, rfl, h1, r1⟩ := trodAll_cons r0
  obtain ⟨rfl, rfl, rfl⟩ := trodAll_nil r1
  obtain rfl : args = #[v0, v1] := by cases args; simp_all
  obtain ⟨rfl, rfl⟩ := trodVars_none hV
  obtain ⟨a0, len0, cap0, rfl⟩ := okWide_slice Try.underlying23 (hval 0 23 v0 rfl rfl)
  have k0 := h0
  have lt0 : ∀ x ∈ p0, x.block < W.heap.size := by obtain ⟨m, hm⟩ := k0; exact DataW.trod_lt m _ _ _ hm
  obtain ⟨z0, w0⟩ : ∃ zs, aid.IsRow .u8 W a0 len0 cap0 zs := by
    obtain ⟨fuel, hf⟩ := h0
    rcases open_ints Try.underlying23 Try.underlying5 (by kernel_rfl) hf with ⟨hcs, _⟩ | ⟨x, l, c, zs, hcs, _, hl, hm, hz, hx, hcell, hwz⟩
    · simp [Value.cells] at hcs
      obtain ⟨rfl, rfl, rfl⟩ := hcs
      exact ⟨[], .inl ⟨rfl, rfl, rfl, rfl⟩⟩
    · simp [Value.cells] at hcs
      obtain ⟨rfl, rfl, rfl⟩ := hcs
      exact ⟨zs, .inr ⟨_, rfl, hl, hm, by simpa using hz, hcell, hwz⟩⟩
  obtain ⟨a1, rfl, rfl, rfl, w1⟩ := open_int Try.underlying3 (hval 1 3 v1 rfl rfl) h1
  clear hA0 hval0
  refine (dc.walk_DuctNone (w := W) a0 len0 cap0 z0 w0 a1 (bounds_i64 w1)).mono fun e W' ⟨he, bel⟩ => ?_
  subst he
  exact ⟨_, rfl, _, _, _, [], _, [], hW', trodAll_mk1 (shut_bool Try.underlying4 _), (trodAll_cons_mk (Below.trod laidOut (by kernel_rfl) (of_decide_eq_true (by kernel_rfl)) k0 bel lt0) (trodAll_cons_mk (shut_int Try.underlying3 w1) trodAll_mk0)), rfl, bel.frame _, fun h => by cases h⟩

set_option maxRecDepth 100000 in
theorem lifted (os : Os) (started : os.Started) (H : Type) (enc : TypeId × Value → H) :
    ReturnsInHanded {} Try.checked os 6 .any (Rows.ductNoneSpec.pre6 enc Try.prog Try.f6 Rows.ductNoneRow.domain false) (Rows.ductNoneSpec.post enc Try.prog Try.f6 false true false false) := by
  refine returnsInHanded_of_change (C := Try.checked) own started (by kernel_rfl) Try.func6
    (ChangeSpec.witness6 (enc := enc) (C := Try.checked) false ⟨#[], #[.slice none 0 0, .int .i64 0], []⟩ 8 (by kernel_rfl) (by kernel_rfl) (by kernel_rfl) (by kernel_rfl)) ?_
  intro W base args ds gs before hval0 hW hcnd _
  exact contract H enc W base args ds gs before hval0 hW

theorem over : Rows.ductNoneRow.holds Try.pinned (OpenSpec.ofChange Rows.ductNoneSpec) :=
  OpenClaim.holds_of_wide 6 Try.f6 rfl rfl rfl rfl rfl rfl rfl ⟨rfl, rfl, rfl, rfl, rfl⟩ rfl rfl rfl rfl rfl (by kernel_rfl) Try.func6 (by kernel_rfl)
    (of_decide_eq_true (by kernel_rfl)) (by unfold Func.isWrapper; first | (rw [if_pos (by decide +kernel)]; kernel_rfl) | (rw [if_neg (by decide +kernel)]; exact ⟨rfl, rfl⟩))
    (fun os started H enc _ => lifted os started H enc)

theorem proved : Rows.DuctNoneSaid := over
#print axioms proved
end Go.Proofs.Ytahegkbdefhlpaa.ductNone
