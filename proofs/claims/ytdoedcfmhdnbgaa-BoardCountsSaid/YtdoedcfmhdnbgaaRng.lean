/-
  Ranges over functions, iterators within iterators among them: what a round writes and what an iterator writes are told apart by a set of blocks. Imports nothing of the program.
-/
import Derived.RangeFuncNested
import Derived.RangeFuncBound
import Derived.RangeFuncCalls
import Derived.RangeFuncLeaves
import Derived.OrdersIn
import Derived.Test.YtdoedcfmhdnbgaaMem
namespace Go.Proofs.Ytdoedcfmhdnbgaa.rng
open Go.RowKit mem
set_option linter.unusedVariables false

/-- a step that leaves some blocks as they lay -/
structure Steps (K : Nat → Prop) (W W' : World) : Prop where
  os : W'.os = W.os
  tape : W'.tape = W.tape
  output : W'.output = W.output
  size : W.heap.size ≤ W'.heap.size
  same : ∀ k, k < W.heap.size → K k → W'.heap[k]? = W.heap[k]?
theorem Steps.refl (K : Nat → Prop) (W : World) : Steps K W W := ⟨rfl, rfl, rfl, Nat.le_refl _, fun _ _ _ => rfl⟩
theorem Steps.trans {K : Nat → Prop} {A B C : World} (h : Steps K A B) (k : Steps K B C) : Steps K A C :=
  ⟨k.os.trans h.os, k.tape.trans h.tape, k.output.trans h.output, Nat.le_trans h.size k.size, fun x hx hk => (k.same x (Nat.lt_of_lt_of_le hx h.size) hk).trans (h.same x hx hk)⟩
theorem Steps.mono {K K' : Nat → Prop} {A B : World} (h : Steps K A B) (hk : ∀ k, k < A.heap.size → K' k → K k) : Steps K' A B :=
  ⟨h.os, h.tape, h.output, h.size, fun x hx q => h.same x hx (hk x hx q)⟩
theorem Steps.of_below {w w' : World} (h : Below w.heap.size w w') (K : Nat → Prop) : Steps K w w' := ⟨h.os, h.tape, h.output, h.size, fun k hk _ => h.block k hk⟩
theorem Steps.of_kept {S : List Nat} {w w' : World} (h : Kept S w w') (K : Nat → Prop) (hK : ∀ k ∈ S, ¬ K k) : Steps K w w' :=
  ⟨h.os, h.tape, h.output, h.size, fun k hk q => h.block k hk (fun e => hK k e q)⟩
theorem Steps.below {K : Nat → Prop} {w w' : World} {n : Nat} (h : Steps K w w') (hn : n ≤ w.heap.size) (hK : ∀ k, k < n → K k) : Below n w w' :=
  ⟨h.os, h.tape, h.output, h.size, fun k hk => h.same k (by omega) (hK k hk)⟩
theorem Steps.drew (K : Nat → Prop) (W : World) : Steps K W W.drew := ⟨rfl, rfl, rfl, Nat.le_refl _, fun _ _ _ => rfl⟩
theorem Steps.drewN (K : Nat → Prop) (W : World) (n : Nat) : Steps K W (W.drewN n) := ⟨rfl, rfl, rfl, Nat.le_refl _, fun _ _ _ => rfl⟩
theorem Steps.alloc (K : Nat → Prop) (W : World) (o : Obj) : Steps K W (W.alloc o) := .of_below ((Below.refl _ _).alloc (Nat.le_refl _) _) K
theorem Steps.setCell (K : Nat → Prop) (W : World) (p : Addr) (v : Value) (hp : ¬ K p.block) : Steps K W (W.setCell p v) :=
  .of_kept ((Kept.refl [p.block] W).setCell (.inl (by simp)) v) K (by simpa using hp)
theorem Steps.putObj (K : Nat → Prop) (W : World) (l : Nat) (o : Obj) (hl : ¬ K l) : Steps K W (W.putObj l o) :=
  ⟨rfl, rfl, rfl, by simp, fun k hk q => World.putObj_heap_other (fun e => hl (e ▸ q))⟩
theorem Steps.cell {K : Nat → Prop} {w w' : World} (h : Steps K w w') {p : Addr} {v : Value} (hp : K p.block) (hc : w.cell? p = some v) : w'.cell? p = some v :=
  (World.cell?_of_block (h.same p.block (World.block_lt_of_cell? w p hc) hp)).trans hc
theorem Steps.heap {K : Nat → Prop} {w w' : World} (h : Steps K w w') {k : Nat} {o : Obj} (hp : K k) (hc : w.heap[k]? = some o) : w'.heap[k]? = some o :=
  (h.same k (lt_of_block hc) hp).trans hc

/-- a call of yield -/
def Yd (P : Program) (l : Nat) (args : Array Value) (W : World) (R : Ending → World → Prop) : Prop := YieldAt Fence.wide 0 P l args W R
theorem Yd.at {P : Program} {l : Nat} {args : Array Value} {W : World} {R : Ending → World → Prop} (h : Yd P l args W R) (m : Nat) : YieldAt Fence.wide m P l args W R := by
  obtain ⟨fn, tmps, assign, body, hy, h1, h2⟩ := h
  exact ⟨fn, tmps, assign, body, hy, h1, fun c cs _ => h2 c cs (room_wide _)⟩
theorem Yd.inRound {P : Program} {l : Nat} {args : Array Value} {W : World} {R : Ending → World → Prop} (h : Yd P l args W R) (l' m : Nat) : YieldAt (Fence.wide.inRound l') m P l args W R := h.at m
theorem Yd.mono {P : Program} {l : Nat} {args : Array Value} {W : World} {R R' : Ending → World → Prop} (h : Yd P l args W R) (hr : ∀ e w, R e w → R' e w) : Yd P l args W R' := YieldAt.mono h hr
theorem Yd.of {P : Program} {l : Nat} {args : Array Value} {W : World} {R : Ending → World → Prop} {m : Nat} (h : YieldAt Fence.wide m P l args W R) : Yd P l args W R := by
  obtain ⟨fn, tmps, assign, body, hy, h1, h2⟩ := h
  exact ⟨fn, tmps, assign, body, hy, h1, fun c cs _ => h2 c cs (room_wide _)⟩

/-- the consumer's invariant bears the iterator's steps, from block n on -/
def Bears {β : Type} (n : Nat) (J : β → (Nat → Prop) → World → Prop) : Prop :=
  ∀ s C W1 W2, J s C W1 → n ≤ W1.heap.size → Steps (fun k => k < n ∨ C k) W1 W2 → J s C W2
/-- a round: what the consumer may write has grown by new blocks alone; all else lies as it lay -/
def Round (C : Nat → Prop) (W : World) (C' : Nat → Prop) (W' : World) : Prop :=
  Steps (fun k => ¬ C k) W W' ∧ ∀ k, C' k → C k ∨ (W.heap.size ≤ k ∧ k < W'.heap.size)
theorem Round.refl (C : Nat → Prop) (W : World) : Round C W C W := ⟨Steps.refl _ _, fun _ h => .inl h⟩
theorem Round.trans {C C' C'' : Nat → Prop} {A B D : World} (h : Round C A C' B) (k : Round C' B C'' D) : Round C A C'' D := by
  refine ⟨⟨k.1.os.trans h.1.os, k.1.tape.trans h.1.tape, k.1.output.trans h.1.output, Nat.le_trans h.1.size k.1.size, fun x hx hn => ?_⟩, fun x hx => ?_⟩
  · refine (k.1.same x (Nat.lt_of_lt_of_le hx h.1.size) (fun e => ?_)).trans (h.1.same x hx hn)
    rcases h.2 x e with e | e
    · exact hn e
    · omega
  · have a := h.1.size
    have b := k.1.size
    rcases k.2 x hx with e | e
    · rcases h.2 x e with e | e
      · exact .inl e
      · exact .inr ⟨e.1, by omega⟩
    · exact .inr ⟨by omega, e.2⟩
/-- new blocks may be taken in -/
theorem Round.take {C C' : Nat → Prop} {W W' : World} (h : Round C W C' W') : Round C W (fun k => C' k ∨ (W.heap.size ≤ k ∧ k < W'.heap.size)) W' :=
  ⟨h.1, fun k hk => by rcases hk with hk | hk; exact h.2 k hk; exact .inr hk⟩
theorem Round.of_below {w w' : World} (h : Below w.heap.size w w') (C : Nat → Prop) : Round C w C w' := ⟨Steps.of_below h _, fun _ h => .inl h⟩
theorem Round.of_kept {S : List Nat} {w w' : World} {C : Nat → Prop} (h : Kept S w w') (hS : ∀ k ∈ S, C k) : Round C w C w' := ⟨Steps.of_kept h _ (fun k hk q => q (hS k hk)), fun _ h => .inl h⟩

/-- a region in a round whose operations defer nothing is walked as anywhere -/
theorem wpOpIn_round {n : Nat} {P : Program} {ops : Array Oper} {Q : Exit → Act → World → Prop} {l i : Nat} {K : Act → World → Prop} {a : Act} {w : World} (hd : ∀ (i : Nat) (o : Oper), ops[i]? = some o → ∀ c, o.op ≠ .defer c)
    (h : wpOpIn Fence.wide n P ops Q i K a w) : wpOpIn (Fence.wide.inRound l) n P ops Q i K a w := by
  unfold wpOpIn at *
  cases ho : ops[i]? with
  | none => rw [ho] at h; exact h
  | some o =>
    rw [ho] at h
    simp only at h ⊢
    split
    · rename_i hw
      rw [if_pos hw] at h
      unfold Oper.wpIn at *
      refine ⟨h.1, ?_⟩
      have h2 := h.2
      rw [show Fence.wide.round = none from rfl, Oper.semAt_none] at h2
      rw [Oper.semAt_eq _ _ _ (hd i o ho)]
      exact h2
    · rename_i hw
      rw [if_neg hw] at h
      exact h
theorem wpAnyIn_round {n : Nat} {P : Program} {ops : Array Oper} {Q : Exit → Act → World → Prop} {md : Region.Mode} {l : Nat} (hd : ∀ (i : Nat) (o : Oper), ops[i]? = some o → ∀ c, o.op ≠ .defer c) :
    ∀ {fuel : Nat} {listed : Array Bool} {a : Act} {w : World}, wpAnyIn Fence.wide n P md ops Q fuel listed a w → wpAnyIn (Fence.wide.inRound l) n P md ops Q fuel listed a w := by
  intro fuel
  induction fuel with
  | zero => intro listed a w h; exact h
  | succ fuel ih => intro listed a w h; exact ⟨h.1, fun i hi => wpOpIn_mono (fun a w h => ih h) (wpOpIn_round hd (h.2 i hi))⟩
def noDefer (ops : Array Oper) : Bool := ops.all (fun o => match o.op with | .defer _ => false | _ => true)
theorem noDefer_spec {ops : Array Oper} (h : noDefer ops = true) : ∀ (i : Nat) (o : Oper), ops[i]? = some o → ∀ c, o.op ≠ .defer c := by
  intro i o ho c hc
  unfold noDefer at h
  rw [Array.all_eq_true] at h
  obtain ⟨hlt, he⟩ := Array.getElem?_eq_some_iff.1 ho
  have := h i hlt
  rw [he, hc] at this
  simp at this
theorem wpIn_region_round {P : Program} {n l id : Nat} {ops : Array Oper} {Q : Exit → Act → World → Prop} {a : Act} {w : World} (hm : P.follows .mixedOrders = true) (hd : noDefer ops = true)
    (h : wpAnyIn Fence.wide n P .any ops Q ops.size (Array.replicate ops.size false) a w.drew) : (Code.region id ops true).wpIn (Fence.wide.inRound l) n P Q a w :=
  wpIn_region_any hm (wpAnyIn_round (noDefer_spec hd) h)

/-- the end of a round, in one piece -/
theorem one_way {C : Nat → Prop} {W W' : World} {e : Ending} {X Y : (Nat → Prop) → Prop} (h : ∃ C', Round C W C' W' ∧ ((e = .returned (.bool true) ∧ X C') ∨ (e = .returned (.bool false) ∧ Y C'))) :
    ∃ b, e = .returned (.bool b) ∧ ∃ C', Round C W C' W' ∧ ((b = true ∧ X C') ∨ (b = false ∧ Y C')) := by
  obtain ⟨C', hr, ⟨rfl, h⟩ | ⟨rfl, h⟩⟩ := h
  · exact ⟨true, rfl, C', hr, .inl ⟨rfl, h⟩⟩
  · exact ⟨false, rfl, C', hr, .inr ⟨rfl, h⟩⟩
/-- the contract of an iterator that tells the list L; A: what of the old blocks the consumer may write -/
def SeqOf {α : Type} (P : Program) (g : Nat) (lb : Array Value) (encs : α → Array Value) (L : List α) (A : Nat → Prop) (w : World) : Prop :=
  ∀ (l : Nat) (J Jx : List α → (Nat → Prop) → World → Prop) (C0 : Nat → Prop) (W : World),
    Below w.heap.size w W → (∀ k, C0 k → (A k ∨ w.heap.size ≤ k) ∧ k < W.heap.size) → Bears W.heap.size J → Bears W.heap.size Jx →
    (∀ pre x C W1, J pre C W1 → W.heap.size ≤ W1.heap.size → pre ++ [x] <+: L → Yd P l (encs x) W1 fun e W' =>
      ∃ C', Round C W1 C' W' ∧ ((e = .returned (.bool true) ∧ J (pre ++ [x]) C' W') ∨ (e = .returned (.bool false) ∧ Jx (pre ++ [x]) C' W'))) →
    J [] C0 W →
    Calls P g (#[.func (.yield l) #[] #[]] ++ lb) W fun e W' => (∃ v, e = .returned v) ∧ ∃ C', J L C' W' ∨ ∃ pre, Jx pre C' W'
theorem SeqOf.later {α : Type} {P : Program} {g : Nat} {lb : Array Value} {encs : α → Array Value} {L : List α} {A : Nat → Prop} {w w' : World} (h : SeqOf P g lb encs L A w) (hb : Below w.heap.size w w') {A' : Nat → Prop} (hA : ∀ k, A' k → A k ∨ w.heap.size ≤ k) : SeqOf P g lb encs L A' w' :=
  fun l J Jx C0 W hW hC hJ hJx hY h0 => h l J Jx C0 W (hb.trans (hW.mono hb.size)) (fun k hk => by
    have := hb.size
    obtain ⟨a, b⟩ := hC k hk
    refine ⟨?_, b⟩
    rcases a with a | a
    · exact hA k a
    · exact .inr (by omega)) hJ hJx hY h0

/-- what an iterator knows while it runs: W: the world when it was called -/
structure It (C0 : Nat → Prop) (W : World) (C : Nat → Prop) (W1 : World) : Prop where
  grow : ∀ k, C k → (C0 k ∨ W.heap.size ≤ k) ∧ k < W1.heap.size
  kept : Steps (fun k => ¬ C0 k) W W1
theorem It.refl {C0 : Nat → Prop} {W : World} (h : ∀ k, C0 k → k < W.heap.size) : It C0 W C0 W := ⟨fun k hk => ⟨.inl hk, h k hk⟩, Steps.refl _ _⟩
theorem It.round {C0 C C' : Nat → Prop} {W W1 W' : World} (h : It C0 W C W1) (hr : Round C W1 C' W') : It C0 W C' W' := by
  have s := h.kept.size
  refine ⟨fun k hk => ?_, ⟨hr.1.os.trans h.kept.os, hr.1.tape.trans h.kept.tape, hr.1.output.trans h.kept.output, Nat.le_trans s hr.1.size, fun k hk hn => ?_⟩⟩
  · rcases hr.2 k hk with a | a
    · exact ⟨(h.grow k a).1, Nat.lt_of_lt_of_le (h.grow k a).2 hr.1.size⟩
    · exact ⟨.inr (by omega), a.2⟩
  · refine (hr.1.same k (Nat.lt_of_lt_of_le hk s) (fun e => ?_)).trans (h.kept.same k hk hn)
    rcases (h.grow k e).1 with a | a
    · exact hn a
    · omega
theorem It.own {C0 C : Nat → Prop} {W W1 W2 : World} (h : It C0 W C W1) (hs : Steps (fun k => k < W.heap.size ∨ C k) W1 W2) : It C0 W C W2 :=
  ⟨fun k hk => ⟨(h.grow k hk).1, Nat.lt_of_lt_of_le (h.grow k hk).2 hs.size⟩, ⟨hs.os.trans h.kept.os, hs.tape.trans h.kept.tape, hs.output.trans h.kept.output, Nat.le_trans h.kept.size hs.size, fun k hk hn =>
    (hs.same k (Nat.lt_of_lt_of_le hk h.kept.size) (.inl hk)).trans (h.kept.same k hk hn)⟩⟩

theorem It.block {C0 C : Nat → Prop} {W W1 : World} (h : It C0 W C W1) {b : Nat} {o : Obj} (hb : W.heap[b]? = some o) (hn : ¬ C0 b) : W1.heap[b]? = some o := h.kept.heap hn hb

/-- how the body of a round may be left -/
def rPost {α : Type} (I : List α → (Nat → Prop) → World → Prop) (Ix : Code → List α → (Nat → Prop) → World → Prop) (xs : List α) (C : Nat → Prop) (W : World) : Exit → Act → World → Prop
  | .normal, _, W' => ∃ C', Round C W C' W' ∧ I xs C' W'
  | .ret, _, W' => ∃ C', Round C W C' W' ∧ Ix .ret xs C' W'
  | .exit id, _, W' => ∃ C', Round C W C' W' ∧ Ix (.exit id) xs C' W'
  | .goto t, _, W' => ∃ C', Round C W C' W' ∧ Ix (.goto t) xs C' W'
  | .panic _, _, _ => False
  | .outgrown, _, _ => False

/-- **a range over a function**, in a function's body (not within a round) -/
theorem wpIn_range {P : Program} {n : Nat} {α : Type} {g : Operand} {ps : Array Tmp} {assign body : Code} {Q : Exit → Act → World → Prop} {a : Act} {w : World}
    {gf : Nat} {lb : Array Value} (hg : a.eval g = .func (.func gf) #[] lb) (eg : ∀ args w, (callFunc gf args).run P w = .ok (.enter gf args) w)
    {encs : α → Array Value} {L : List α} {A : Nat → Prop} {w0 : World} (hseq : SeqOf P gf lb encs L A w0) (hb0 : Below w0.heap.size w0 w) (hps : ∀ x, (encs x).size = ps.size)
    (I : List α → (Nat → Prop) → World → Prop) (Ix : Code → List α → (Nat → Prop) → World → Prop) (C0 : Nat → Prop) (hC0 : ∀ k, C0 k → (A k ∨ w0.heap.size ≤ k) ∧ k < w.heap.size)
    (hI : Bears w.heap.size I) (hIx : ∀ c, Bears w.heap.size (Ix c)) (h0 : I [] C0 w) (Ax : α → Act → (Nat → Prop) → World → Prop) (hAx : ∀ x a', Bears w.heap.size (fun (_ : Unit) C W => Ax x a' C W))
    (hassign : ∀ (l : Nat) (pre : List α) (x : α) (C : Nat → Prop) (W : World) (K : Act → World → Prop), I pre C W → pre ++ [x] <+: L → (∀ k, C k → k < W.heap.size) → w.heap.size ≤ W.heap.size →
      (∀ a' C' W', Round C W C' W' → I pre C' W' → Ax x a' C' W' → K a' W') →
      assign.wpIn (Fence.wide.inRound l) (n - 1 - 1) P (Exit.then K (fun _ _ _ => False)) { tmps := (ps.zip (encs x)).foldl (fun t (p, v) => t.setIfInBounds p v) a.tmps, defers := [] } W)
    (hbody : ∀ (l : Nat) (pre : List α) (x : α) (a' : Act) (C : Nat → Prop) (W : World), I pre C W → Ax x a' C W → pre ++ [x] <+: L → (∀ k, C k → k < W.heap.size) → w.heap.size ≤ W.heap.size →
      body.wpIn (Fence.wide.inRound l) (n - 1 - 1) P (rPost I Ix (pre ++ [x]) C W) a' W)
    (hdone : ∀ (D : Nat) (C : Nat → Prop) (W : World), w.heap.size ≤ D → ¬ C D → I L C W → W.heap[D]? = some (.deferred (some [])) → Q .normal { a with defers := { target := .collected D, args := #[] } :: a.defers } W)
    (hstop : ∀ (D : Nat) (c : Code) (pre : List α) (C : Nat → Prop) (W : World), w.heap.size ≤ D → ¬ C D → Ix c pre C W → W.heap[D]? = some (.deferred (some [])) → c.wpIn Fence.wide n P Q { a with defers := { target := .collected D, args := #[] } :: a.defers } W) :
    (Code.rangeFunc g ps assign body).wpIn Fence.wide n P Q a w := by
  refine wpIn_rangeFunc ?_
  intro fn hfn
  obtain ⟨rec, hrec⟩ : ∃ rec : LoopState → Option Code → Loop, rec = fun st pe => { state := st, pending := pe, fn, tmps := a.tmps, params := ps, assign, body, defers := w.heap.size } := ⟨_, rfl⟩
  obtain ⟨W1, hW1⟩ : ∃ W1, (w.alloc (.deferred (some []))).alloc (.loop (rec .ready none)) = W1 := ⟨_, rfl⟩
  have hL1 : W1.heap[w.heap.size + 1]? = some (.loop (rec .ready none)) := by
    rw [← hW1]; have := World.alloc_heap_new (w.alloc (.deferred (some []))) (.loop (rec .ready none)); rwa [World.size_alloc] at this
  have hK1 : W1.heap[w.heap.size]? = some (.deferred (some [])) := by
    rw [← hW1]; exact (Below.heap_alloc _ _ _ (by simp)).trans (World.alloc_heap_new w _)
  have hz : W1.heap.size = w.heap.size + 1 + 1 := by rw [← hW1]; simp
  have bw1 : Below w.heap.size w W1 := by rw [← hW1]; exact ((Below.refl _ w).alloc (Nat.le_refl _) _).alloc (by simp) _
  have hI1 : I [] C0 W1 := hI _ _ _ _ h0 (Nat.le_refl _) (Steps.of_below bw1 _)
  refine ⟨w.heap.size + 1, [{ target := .collected w.heap.size, args := #[] }], W1, { target := .fn (.func gf) lb, args := #[.func (.yield (w.heap.size + 1)) #[] #[]] }, W1, gf,
    #[.func (.yield (w.heap.size + 1)) #[] #[]] ++ lb, W1, ?_, ?_, ?_, ?_, (fun h => by simp [Fence.wide] at h), ?_⟩
  · rw [← hW1, hrec]; exact run_enterLoop_outer _ _ _ _ _
  · simp only [resolve, hg]
    simp [go_sem]
  · intro f' hf'; trivial
  · simp [invoke, go_sem, eg]
  · refine callsIn_wide.2 ?_
    -- the two blocks of book-keeping are the consumer's, beside the user's own
    let Cj : (Nat → Prop) → Nat → Prop := fun C k => C k ∨ k = w.heap.size ∨ k = w.heap.size + 1
    let J : List α → (Nat → Prop) → World → Prop := fun pre C' W => ∃ C, C' = Cj C ∧ I pre C W ∧ (¬ C w.heap.size ∧ ¬ C (w.heap.size + 1) ∧ ∀ k, C k → k < W.heap.size) ∧ W.heap[w.heap.size + 1]? = some (.loop (rec .ready none)) ∧ W.heap[w.heap.size]? = some (.deferred (some []))
    let Jx : List α → (Nat → Prop) → World → Prop := fun pre C' W => ∃ C c, C' = Cj C ∧ Ix c pre C W ∧ (¬ C w.heap.size ∧ ¬ C (w.heap.size + 1) ∧ ∀ k, C k → k < W.heap.size) ∧ W.heap[w.heap.size + 1]? = some (.loop (rec .done (some c))) ∧ W.heap[w.heap.size]? = some (.deferred (some []))
    have hsm : ∀ {C : Nat → Prop} {X Y : World}, Steps (fun k => k < W1.heap.size ∨ Cj C k) X Y → Steps (fun k => k < w.heap.size ∨ C k) X Y := fun h => h.mono (fun k _ hk => by
      rcases hk with hk | hk
      · exact .inl (by omega)
      · exact .inr (.inl hk))
    refine (hseq (w.heap.size + 1) J Jx (Cj C0) W1 (hb0.trans (bw1.mono hb0.size)) ?_ ?_ ?_ ?_ ?_).mono ?_
    · intro k hk
      have h1 := hb0.size
      rcases hk with hk | hk | hk
      · exact ⟨(hC0 k hk).1, by have := (hC0 k hk).2; omega⟩
      · exact ⟨.inr (by omega), by omega⟩
      · exact ⟨.inr (by omega), by omega⟩
    · rintro s C' X Y ⟨C, rfl, hi, ⟨h1, h2, h3⟩, hl, hk⟩ hn hs
      exact ⟨C, rfl, hI _ _ _ _ hi (by omega) (hsm hs), ⟨h1, h2, fun k hk => Nat.lt_of_lt_of_le (h3 k hk) hs.size⟩, hs.heap (.inr (.inr (.inr rfl))) hl, hs.heap (.inr (.inr (.inl rfl))) hk⟩
    · rintro s C' X Y ⟨C, c, rfl, hi, ⟨h1, h2, h3⟩, hl, hk⟩ hn hs
      exact ⟨C, c, rfl, hIx c _ _ _ _ hi (by omega) (hsm hs), ⟨h1, h2, fun k hk => Nat.lt_of_lt_of_le (h3 k hk) hs.size⟩, hs.heap (.inr (.inr (.inr rfl))) hl, hs.heap (.inr (.inr (.inl rfl))) hk⟩
    · -- one round
      rintro pre x C' W ⟨C, rfl, hi, ⟨h1, h2, h3⟩, hl, hk⟩ hWs hpre
      have hlt : w.heap.size + 1 < W.heap.size := (Array.getElem?_eq_some_iff.1 hl).1
      have hy := run_yield (P := P) (args := encs x) hl (by rw [hrec]; exact hps x)
      rw [hrec] at hy
      refine Yd.of (m := n - 1 - 1) ⟨fn, _, assign, body, hy, roundIn_of_wpIn hfn (hassign _ pre x C W _ hi hpre h3 (by omega) ?_)⟩
      clear hy
      intro a' Ca Wa hra hia hax
      have h1a : ¬ Ca w.heap.size := fun e => by rcases hra.2 _ e with e | e; exact h1 e; omega
      have h2a : ¬ Ca (w.heap.size + 1) := fun e => by rcases hra.2 _ e with e | e; exact h2 e; omega
      have h3a : ∀ k, Ca k → k < Wa.heap.size := fun k hk => by rcases hra.2 k hk with e | e; exact Nat.lt_of_lt_of_le (h3 k e) hra.1.size; exact e.2
      have hla := hra.1.heap h2 hl
      have hka := hra.1.heap h1 hk
      have hlta : w.heap.size + 1 < Wa.heap.size := (Array.getElem?_eq_some_iff.1 hla).1
      refine ⟨_, run_beginRound hla (by rw [hrec]), ?_⟩
      obtain ⟨Wb, hWb⟩ : ∃ Wb, Wb = Wa.putObj (w.heap.size + 1) (.loop { rec .ready none with state := .busy }) := ⟨_, rfl⟩
      rw [← hWb]
      have hlb : Wb.heap[w.heap.size + 1]? = some (.loop { rec .ready none with state := .busy }) := by rw [hWb]; exact World.putObj_heap_same hlta
      have hkb : Wb.heap[w.heap.size]? = some (.deferred (some [])) := by rw [hWb]; exact (World.putObj_heap_other (by omega)).trans hka
      have sb : Steps (fun k => k < w.heap.size ∨ Ca k) Wa Wb := by rw [hWb]; exact Steps.putObj _ _ _ _ (by rintro (e | e); omega; exact h2a e)
      have rb : Round (Cj Ca) Wa (Cj Ca) Wb := ⟨by rw [hWb]; exact Steps.putObj _ _ _ _ (fun e => e (.inr (.inr rfl))), fun k hk => .inl hk⟩
      have hib := hI _ _ _ _ hia (by omega) sb
      have haxb := hAx x a' () _ _ _ hax (by omega) sb
      have hzb : Wb.heap.size = Wa.heap.size := by rw [hWb]; simp
      have ra : Round (Cj C) W (Cj Ca) Wa := ⟨hra.1.mono (fun k _ hk e => hk (.inl e)), fun k hk => by
        rcases hk with hk | hk
        · rcases hra.2 k hk with e | e; exact .inl (.inl e); exact .inr e
        · exact .inl (.inr hk)⟩
      have rab := ra.trans rb
      refine wpIn_mono (hbody _ pre x a' Ca Wb hib haxb hpre (fun k hk => by rw [hzb]; exact h3a k hk) (by omega)) ?_
      have fin : ∀ (jump : Option Code) (C3 : Nat → Prop) (W3 : World), Round Ca Wb C3 W3 →
          (Instr.endRound (w.heap.size + 1) jump).run P W3 = .ok (.bool jump.isNone) (W3.putObj (w.heap.size + 1) (.loop (rec (if jump.isNone then .ready else .done) jump))) ∧
          (W3.putObj (w.heap.size + 1) (.loop (rec (if jump.isNone then .ready else .done) jump))).heap[w.heap.size + 1]? = some (.loop (rec (if jump.isNone then .ready else .done) jump)) ∧
          (W3.putObj (w.heap.size + 1) (.loop (rec (if jump.isNone then .ready else .done) jump))).heap[w.heap.size]? = some (.deferred (some [])) ∧
          Steps (fun k => k < w.heap.size ∨ C3 k) W3 (W3.putObj (w.heap.size + 1) (.loop (rec (if jump.isNone then .ready else .done) jump))) ∧
          Round (Cj C) W (Cj C3) (W3.putObj (w.heap.size + 1) (.loop (rec (if jump.isNone then .ready else .done) jump))) ∧
          (¬ C3 w.heap.size ∧ ¬ C3 (w.heap.size + 1) ∧ ∀ k, C3 k → k < W3.heap.size) ∧ w.heap.size ≤ W3.heap.size := fun jump C3 W3 hr3 => by
        have h13 : ¬ C3 w.heap.size := fun e => by rcases hr3.2 _ e with e | e; exact h1a e; omega
        have h23 : ¬ C3 (w.heap.size + 1) := fun e => by rcases hr3.2 _ e with e | e; exact h2a e; omega
        have hl3 := hr3.1.heap h2a hlb
        have hk3 := hr3.1.heap h1a hkb
        have := run_endRound (P := P) jump hl3
        have hlt3 := (Array.getElem?_eq_some_iff.1 hl3).1
        rw [hrec] at this ⊢
        refine ⟨this, World.putObj_heap_same hlt3, (World.putObj_heap_other (by omega)).trans hk3, Steps.putObj _ _ _ _ (by rintro (e | e); omega; exact h23 e), ?_, ⟨h13, h23, fun k hk => by rcases hr3.2 k hk with e | e; exact Nat.lt_of_lt_of_le (by rw [hzb]; exact h3a k e) hr3.1.size; exact e.2⟩, by omega⟩
        refine (rab.trans (C'' := Cj C3) (D := W3) ⟨hr3.1.mono (fun k _ hk e => hk (.inl e)), fun k hk => ?_⟩).trans ⟨Steps.putObj _ _ _ _ (fun e => e (.inr (.inr rfl))), fun k hk => .inl hk⟩
        rcases hk with hk | hk
        · rcases hr3.2 k hk with e | e; exact .inl (.inl e); exact .inr e
        · exact .inl (.inr hk)
      rintro e a3 W3 hp
      cases e with
      | normal =>
        obtain ⟨C3, hr3, hi3⟩ := hp
        obtain ⟨hr, hl4, hk4, s4, r4, ⟨b1, b2, b3⟩, b4⟩ := fin none C3 W3 hr3
        exact ⟨_, _, hr, Cj C3, r4, .inl ⟨rfl, C3, rfl, hI _ _ _ _ hi3 b4 s4, ⟨b1, b2, fun k hk => by simpa using b3 k hk⟩, hl4, hk4⟩⟩
      | ret =>
        obtain ⟨C3, hr3, hi3⟩ := hp
        obtain ⟨hr, hl4, hk4, s4, r4, ⟨b1, b2, b3⟩, b4⟩ := fin (some .ret) C3 W3 hr3
        exact ⟨_, _, hr, Cj C3, r4, .inr ⟨rfl, C3, .ret, rfl, hIx _ _ _ _ _ hi3 b4 s4, ⟨b1, b2, fun k hk => by simpa using b3 k hk⟩, hl4, hk4⟩⟩
      | exit id =>
        obtain ⟨C3, hr3, hi3⟩ := hp
        obtain ⟨hr, hl4, hk4, s4, r4, ⟨b1, b2, b3⟩, b4⟩ := fin (some (.exit id)) C3 W3 hr3
        exact ⟨_, _, hr, Cj C3, r4, .inr ⟨rfl, C3, .exit id, rfl, hIx _ _ _ _ _ hi3 b4 s4, ⟨b1, b2, fun k hk => by simpa using b3 k hk⟩, hl4, hk4⟩⟩
      | goto t =>
        obtain ⟨C3, hr3, hi3⟩ := hp
        obtain ⟨hr, hl4, hk4, s4, r4, ⟨b1, b2, b3⟩, b4⟩ := fin (some (.goto t)) C3 W3 hr3
        exact ⟨_, _, hr, Cj C3, r4, .inr ⟨rfl, C3, .goto t, rfl, hIx _ _ _ _ _ hi3 b4 s4, ⟨b1, b2, fun k hk => by simpa using b3 k hk⟩, hl4, hk4⟩⟩
      | panic ch => exact hp.elim
      | outgrown => exact hp.elim
    · exact ⟨C0, rfl, hI1, ⟨fun e => by have := (hC0 _ e).2; omega, fun e => by have := (hC0 _ e).2; omega, fun k hk => by have := (hC0 _ hk).2; omega⟩, hL1, hK1⟩
    · -- behind the iterator
      rintro e W2 ⟨⟨v, rfl⟩, _, (⟨C, rfl, hi, ⟨h1, h2, h3⟩, hl, hk⟩ | ⟨pre, C, c, rfl, hi, ⟨h1, h2, h3⟩, hl, hk⟩)⟩
      · have hlt := (Array.getElem?_eq_some_iff.1 hl).1
        have sp : ∀ o, Steps (fun k => k < w.heap.size ∨ C k) W2 (W2.putObj (w.heap.size + 1) o) := fun o => Steps.putObj _ _ _ _ (by rintro (e | e); omega; exact h2 e)
        exact ⟨none, _, by have := run_endLoop (P := P) hl (by rw [hrec]; simp); rw [hrec] at this; exact this, hdone _ C _ (Nat.le_refl _) h1 (hI _ _ _ _ hi (by omega) (sp _)) ((World.putObj_heap_other (by omega)).trans hk)⟩
      · have hlt := (Array.getElem?_eq_some_iff.1 hl).1
        have sp : ∀ o, Steps (fun k => k < w.heap.size ∨ C k) W2 (W2.putObj (w.heap.size + 1) o) := fun o => Steps.putObj _ _ _ _ (by rintro (e | e); omega; exact h2 e)
        exact ⟨some c, _, by have := run_endLoop (P := P) hl (by rw [hrec]; simp); rw [hrec] at this; exact this, hstop _ c pre C _ (Nat.le_refl _) h1 (hIx _ _ _ _ _ hi (by omega) (sp _)) ((World.putObj_heap_other (by omega)).trans hk)⟩

/-- the same, where the assignment to the loop's variables makes no memory -/
theorem wpIn_range' {P : Program} {n : Nat} {α : Type} {g : Operand} {ps : Array Tmp} {assign body : Code} {Q : Exit → Act → World → Prop} {a : Act} {w : World}
    {gf : Nat} {lb : Array Value} (hg : a.eval g = .func (.func gf) #[] lb) (eg : ∀ args w, (callFunc gf args).run P w = .ok (.enter gf args) w)
    {encs : α → Array Value} {L : List α} {A : Nat → Prop} {w0 : World} (hseq : SeqOf P gf lb encs L A w0) (hb0 : Below w0.heap.size w0 w) (hps : ∀ x, (encs x).size = ps.size)
    (I : List α → (Nat → Prop) → World → Prop) (Ix : Code → List α → (Nat → Prop) → World → Prop) (C0 : Nat → Prop) (hC0 : ∀ k, C0 k → (A k ∨ w0.heap.size ≤ k) ∧ k < w.heap.size)
    (hI : Bears w.heap.size I) (hIx : ∀ c, Bears w.heap.size (Ix c)) (h0 : I [] C0 w) (a₁ : α → Act)
    (hassign : ∀ (l : Nat) (x : α) (W : World) (K : Act → World → Prop), K (a₁ x) W →
      assign.wpIn (Fence.wide.inRound l) (n - 1 - 1) P (Exit.then K (fun _ _ _ => False)) { tmps := (ps.zip (encs x)).foldl (fun t (p, v) => t.setIfInBounds p v) a.tmps, defers := [] } W)
    (hbody : ∀ (l : Nat) (pre : List α) (x : α) (C : Nat → Prop) (W : World), I pre C W → pre ++ [x] <+: L → (∀ k, C k → k < W.heap.size) → w.heap.size ≤ W.heap.size →
      body.wpIn (Fence.wide.inRound l) (n - 1 - 1) P (rPost I Ix (pre ++ [x]) C W) (a₁ x) W)
    (hdone : ∀ (D : Nat) (C : Nat → Prop) (W : World), w.heap.size ≤ D → ¬ C D → I L C W → W.heap[D]? = some (.deferred (some [])) → Q .normal { a with defers := { target := .collected D, args := #[] } :: a.defers } W)
    (hstop : ∀ (D : Nat) (c : Code) (pre : List α) (C : Nat → Prop) (W : World), w.heap.size ≤ D → ¬ C D → Ix c pre C W → W.heap[D]? = some (.deferred (some [])) → c.wpIn Fence.wide n P Q { a with defers := { target := .collected D, args := #[] } :: a.defers } W) :
    (Code.rangeFunc g ps assign body).wpIn Fence.wide n P Q a w :=
  wpIn_range hg eg hseq hb0 hps I Ix C0 hC0 hI hIx h0 (fun x a' _ _ => a' = a₁ x) (fun _ _ _ _ _ _ h _ _ => h)
    (fun l pre x C W K hi _ _ _ hK => hassign l x W K (hK _ C W (Round.refl C W) hi rfl))
    (fun l pre x a' C W hi ha hp hc hz => by subst ha; exact hbody l pre x C W hi hp hc hz) hdone hstop
/-- the same, the frame of a round told by what is laid into the frame at hand -/
theorem wpIn_rangeF {P : Program} {n : Nat} {α : Type} {g : Operand} {ps : Array Tmp} {assign body : Code} {Q : Exit → Act → World → Prop} {a : Act} {w : World} (f : α → Array Value → Array Value)
    {gf : Nat} {lb : Array Value} (hg : a.eval g = .func (.func gf) #[] lb) (eg : ∀ args w, (callFunc gf args).run P w = .ok (.enter gf args) w)
    {encs : α → Array Value} {L : List α} {A : Nat → Prop} {w0 : World} (hseq : SeqOf P gf lb encs L A w0) (hb0 : Below w0.heap.size w0 w) (hps : ∀ x, (encs x).size = ps.size)
    (I : List α → (Nat → Prop) → World → Prop) (Ix : Code → List α → (Nat → Prop) → World → Prop) (C0 : Nat → Prop) (hC0 : ∀ k, C0 k → (A k ∨ w0.heap.size ≤ k) ∧ k < w.heap.size)
    (hI : Bears w.heap.size I) (hIx : ∀ c, Bears w.heap.size (Ix c)) (h0 : I [] C0 w)
    (hassign : ∀ (l : Nat) (x : α) (W : World) (K : Act → World → Prop), K { tmps := f x a.tmps, defers := [] } W →
      assign.wpIn (Fence.wide.inRound l) (n - 1 - 1) P (Exit.then K (fun _ _ _ => False)) { tmps := (ps.zip (encs x)).foldl (fun t (p, v) => t.setIfInBounds p v) a.tmps, defers := [] } W)
    (hbody : ∀ (l : Nat) (pre : List α) (x : α) (C : Nat → Prop) (W : World), I pre C W → pre ++ [x] <+: L → (∀ k, C k → k < W.heap.size) → w.heap.size ≤ W.heap.size →
      body.wpIn (Fence.wide.inRound l) (n - 1 - 1) P (rPost I Ix (pre ++ [x]) C W) { tmps := f x a.tmps, defers := [] } W)
    (hdone : ∀ (D : Nat) (C : Nat → Prop) (W : World), w.heap.size ≤ D → ¬ C D → I L C W → W.heap[D]? = some (.deferred (some [])) → Q .normal { a with defers := { target := .collected D, args := #[] } :: a.defers } W)
    (hstop : ∀ (D : Nat) (c : Code) (pre : List α) (C : Nat → Prop) (W : World), w.heap.size ≤ D → ¬ C D → Ix c pre C W → W.heap[D]? = some (.deferred (some [])) → c.wpIn Fence.wide n P Q { a with defers := { target := .collected D, args := #[] } :: a.defers } W) :
    (Code.rangeFunc g ps assign body).wpIn Fence.wide n P Q a w :=
  wpIn_range' hg eg hseq hb0 hps I Ix C0 hC0 hI hIx h0 (fun x => { tmps := f x a.tmps, defers := [] }) hassign hbody hdone hstop
#print axioms wpIn_rangeF
end Go.Proofs.Ytdoedcfmhdnbgaa.rng
