/-
  Alarms: the law's does.
-/
import Derived.Test.YtnioaaahkhephaaAlmB
namespace Go.Proofs.Ytnioaaahkhephaa.al
open Go.RowKit Go.Maps aid mem
attribute [local go_sem ↓] Go.wp_at_zero Go.wp_at_succ
set_option linter.unusedVariables false
set_option linter.unusedSimpArgs false

abbrev opV (k z N : Int) : Value := .agg #[.int .u8 k, .int .i64 z, .int .i64 N]
abbrev opO (k z N : Int) : Obj := .cells #[.int .u8 k, .int .i64 z, .int .i64 N] 36
/-- the boxes -/
structure DB (w : World) (now : Int) (a : Option Addr) (n cap : Nat) (k z N : Int) (W : World) : Prop where
  box : W.heap[w.heap.size]? = some (rcO now a n cap)
  op : W.heap[w.heap.size + 1]? = some (opO k z N)
  res : W.heap[w.heap.size + 1 + 1]? = some (rcO 0 none 0 0)
  below : Below w.heap.size w W
theorem db_new (w : World) (now : Int) (a : Option Addr) (n cap : Nat) (k z N : Int) : DB w now a n cap k z N (((w.alloc (rcO now a n cap)).alloc (opO k z N)).alloc (rcO 0 none 0 0)) := by
  have h1 := bal (w := w) (rcO now a n cap)
  have x1 := heap_alloc_new w (rcO now a n cap)
  have z1 : (w.alloc (rcO now a n cap)).heap.size = w.heap.size + 1 := by simp
  generalize w.alloc (rcO now a n cap) = w1 at *
  have h2 := bal (w := w1) (opO k z N)
  have x2 := heap_alloc_new w1 (opO k z N)
  have z2 : (w1.alloc (opO k z N)).heap.size = w.heap.size + 1 + 1 := by simp [z1]
  generalize w1.alloc (opO k z N) = w2 at *
  have h3 := bal (w := w2) (rcO 0 none 0 0)
  have x3 := heap_alloc_new w2 (rcO 0 none 0 0)
  rw [z1] at x2
  rw [z2] at x3
  exact ⟨(h3.block _ (by omega)).trans ((h2.block _ (by omega)).trans x1), (h3.block _ (by omega)).trans x2, x3, (h1.trans (h2.mono h1.size)).trans (h3.mono (by omega))⟩
section
variable {w W X : World} {now : Int} {a : Option Addr} {n cap : Nat} {k z N : Int}
theorem DB.keep {S : List Nat} (h : DB w now a n cap k z N W) (hk : Kept S W X) (hs : ∀ b ∈ S, b < w.heap.size) (hb : W.heap.size ≤ X.heap.size) : X.heap[w.heap.size + 1 + 1]? = some (rcO 0 none 0 0) :=
  hk.heap (fun e => by have := hs _ e; omega) h.res
theorem DB.later (h : DB w now a n cap k z N W) (hb : Below W.heap.size W X) : DB w now a n cap k z N X :=
  ⟨(hb.block _ (lt_of_block h.box)).trans h.box, (hb.block _ (lt_of_block h.op)).trans h.op, (hb.block _ (lt_of_block h.res)).trans h.res, h.below.trans (hb.mono h.below.size)⟩
theorem DB.c0 (h : DB w now a n cap k z N W) : W.cell? ⟨w.heap.size, 0, none⟩ = some (.int .i64 now) := cofr h.box 0 _ rfl
theorem DB.c1 (h : DB w now a n cap k z N W) : W.cell? ⟨w.heap.size, 1, none⟩ = some (.slice a n cap) := cofr h.box 1 _ rfl
theorem DB.o0 (h : DB w now a n cap k z N W) : W.cell? ⟨w.heap.size + 1, 0, none⟩ = some (.int .u8 k) := cofr h.op 0 _ rfl
theorem DB.o1 (h : DB w now a n cap k z N W) : W.cell? ⟨w.heap.size + 1, 1, none⟩ = some (.int .i64 z) := cofr h.op 1 _ rfl
theorem DB.o2 (h : DB w now a n cap k z N W) : W.cell? ⟨w.heap.size + 1, 2, none⟩ = some (.int .i64 N) := cofr h.op 2 _ rfl
theorem DB.r0 (h : DB w now a n cap k z N W) : W.cell? ⟨w.heap.size + 1 + 1, 0, none⟩ = some (.int .i64 0) := cofr h.res 0 _ rfl
theorem DB.r1 (h : DB w now a n cap k z N W) : W.cell? ⟨w.heap.size + 1 + 1, 1, none⟩ = some (.slice none 0 0) := cofr h.res 1 _ rfl
theorem DB.f0 (h : DB w now a n cap k z N W) : W.frozen? ⟨w.heap.size + 1 + 1, 0, none⟩ = false := fofr h.res 0
theorem DB.f1 (h : DB w now a n cap k z N W) : W.frozen? ⟨w.heap.size + 1 + 1, 1, none⟩ = false := fofr h.res 1
end
/-- one operation: what the clock shows then, and the times -/
def opNow (now k N : Int) : Int := if k % 3 = 0 ∨ k % 3 = 1 then now else if N < 0 ∨ 4611686018427387904 - now < N then now else now + N
def opAt (now N : Int) : Int := if 0 ≤ N ∧ N ≤ 4611686018427387904 - now then now + N else N
def opL (now k z N : Int) (L : List Int) : List Int := if k % 3 = 0 then rsetL now L z (opAt now N) else if k % 3 = 1 then rstopL L z else if N < 0 ∨ 4611686018427387904 - now < N then L else (ring (now + N) L.length L).2
theorem opL_len (now k z N : Int) (L : List Int) : (opL now k z N L).length = L.length := by
  unfold opL
  split
  · exact rset_len _ _ _ _
  · split
    · exact rstop_len _ _
    · split
      · rfl
      · exact ring_len _ _
def OGA (C : Nat) (now : Int) (L : List Int) (S : List Nat) (a : Option Addr) (w w' : World) : Prop := ∃ S', OC C now L S' w' ∧ Kept S w w' ∧ (∀ b ∈ S', b ∈ S ∨ w.heap.size ≤ b) ∧ ∀ x, a = some x → x.block ∉ S'
theorem sla_lt {W : World} {a : Option Addr} {n cap : Nat} {L : List Int} (h : SlA .i64 W a n cap L) (hn : 1 ≤ n) : ∀ x, a = some x → x.block < W.heap.size := fun x hx => by
  obtain ⟨g, o, e, hc⟩ := h.cells (by have := h.le; omega)
  have := World.block_lt_of_cell? W _ (hc 0 (by omega))
  rw [e] at hx; cases hx; exact this
def DoesPG (now2 : Int) (L1' L2' : List Int) (C : Nat) (L1 L2 : List Int) (S : List Nat) (a0 : Option Addr) (w : World) (e : Ending) (w' : World) : Prop :=
  ∃ a cap b, e = .returned (.tuple #[rc now2 a L2.length cap, .bool b]) ∧ SlA .i64 w' a L2.length cap L2' ∧ OGA C now2 L1' S a w w' ∧ (∀ x, a = some x → a0 = some x ∨ w.heap.size ≤ x.block) ∧ (L1 = L2 → b = true)
def DoesP (C : Nat) (now : Int) (L1 L2 : List Int) (S : List Nat) (a0 : Option Addr) (k z N : Int) (w : World) (e : Ending) (w' : World) : Prop :=
  DoesPG (opNow now k N) (opL now k z N L1) (opL now k z N L2) C L1 L2 S a0 w e w'
structure D3 (w : World) (now2 : Int) (a1 : Option Addr) (n cap1 : Nat) (L' : List Int) (k z N : Int) (xB : Nat) (X : World) : Prop where
  op : X.heap[w.heap.size + 1]? = some (opO k z N)
  res : X.heap[w.heap.size + 1 + 1]? = some (rcO 0 none 0 0)
  xb : X.heap[xB]? = some (rcO now2 a1 n cap1)
  ge : w.heap.size + 1 + 1 < xB
  sl : SlA .i64 X a1 n cap1 L'
section
variable {w X Y : World} {now2 : Int} {a1 : Option Addr} {n cap1 : Nat} {L' : List Int} {k z N : Int} {xB : Nat}
theorem D3.later (h : D3 w now2 a1 n cap1 L' k z N xB X) (hb : Below X.heap.size X Y) : D3 w now2 a1 n cap1 L' k z N xB Y :=
  ⟨(hb.block _ (lt_of_block h.op)).trans h.op, (hb.block _ (lt_of_block h.res)).trans h.res, (hb.block _ (lt_of_block h.xb)).trans h.xb, h.ge, h.sl.later hb⟩
theorem D3.keep {S : List Nat} (h : D3 w now2 a1 n cap1 L' k z N xB X) (hk : Kept S X Y) (hs : ∀ b ∈ S, b < w.heap.size) (ha : ∀ x, a1 = some x → x.block ∉ S) : D3 w now2 a1 n cap1 L' k z N xB Y :=
  ⟨hk.heap (fun e => by have := hs _ e; omega) h.op, hk.heap (fun e => by have := hs _ e; omega) h.res, hk.heap (fun e => by have := hs _ e; have := h.ge; omega) h.xb, h.ge, h.sl.keep hk ha⟩
theorem D3.keepG {C : Nat} {now2' : Int} {L1' : List Int} {S : List Nat} (h : D3 w now2 a1 n cap1 L' k z N xB X) (hog : OG C now2' L1' S X Y) (hs : ∀ b ∈ S, b < w.heap.size) (ha : ∀ x, a1 = some x → x.block ∉ S) : D3 w now2 a1 n cap1 L' k z N xB Y := by
  obtain ⟨_, _, kk, _⟩ := hog
  exact h.keep kk hs ha
theorem D3.x0 (h : D3 w now2 a1 n cap1 L' k z N xB X) : X.cell? ⟨xB, 0, none⟩ = some (.int .i64 now2) := cofr h.xb 0 _ rfl
theorem D3.x1 (h : D3 w now2 a1 n cap1 L' k z N xB X) : X.cell? ⟨xB, 1, none⟩ = some (.slice a1 n cap1) := cofr h.xb 1 _ rfl
theorem D3.o1 (h : D3 w now2 a1 n cap1 L' k z N xB X) : X.cell? ⟨w.heap.size + 1, 1, none⟩ = some (.int .i64 z) := cofr h.op 1 _ rfl
theorem D3.o2 (h : D3 w now2 a1 n cap1 L' k z N xB X) : X.cell? ⟨w.heap.size + 1, 2, none⟩ = some (.int .i64 N) := cofr h.op 2 _ rfl
theorem D3.r0 (h : D3 w now2 a1 n cap1 L' k z N xB X) : X.cell? ⟨w.heap.size + 1 + 1, 0, none⟩ = some (.int .i64 0) := cofr h.res 0 _ rfl
theorem D3.r1 (h : D3 w now2 a1 n cap1 L' k z N xB X) : X.cell? ⟨w.heap.size + 1 + 1, 1, none⟩ = some (.slice none 0 0) := cofr h.res 1 _ rfl
theorem D3.f0 (h : D3 w now2 a1 n cap1 L' k z N xB X) : X.frozen? ⟨w.heap.size + 1 + 1, 0, none⟩ = false := fofr h.res 0
theorem D3.f1 (h : D3 w now2 a1 n cap1 L' k z N xB X) : X.frozen? ⟨w.heap.size + 1 + 1, 1, none⟩ = false := fofr h.res 1
theorem D3.put (h : D3 w now2 a1 n cap1 L' k z N xB X) (u v : Value) :
    ((X.setCell ⟨w.heap.size + 1 + 1, 0, none⟩ u).setCell ⟨w.heap.size + 1 + 1, 1, none⟩ v).cell? ⟨xB, 0, none⟩ = some (.int .i64 now2) ∧
    ((X.setCell ⟨w.heap.size + 1 + 1, 0, none⟩ u).setCell ⟨w.heap.size + 1 + 1, 1, none⟩ v).cell? ⟨xB, 1, none⟩ = some (.slice a1 n cap1) ∧
    ((X.setCell ⟨w.heap.size + 1 + 1, 0, none⟩ u).setCell ⟨w.heap.size + 1 + 1, 1, none⟩ v).cell? ⟨w.heap.size + 1, 1, none⟩ = some (.int .i64 z) := by
  have kk : Kept [w.heap.size + 1 + 1] X ((X.setCell ⟨w.heap.size + 1 + 1, 0, none⟩ u).setCell ⟨w.heap.size + 1 + 1, 1, none⟩ v) := ((Kept.refl [w.heap.size + 1 + 1] X).setCell (.inl (by simp)) _).setCell (.inl (by simp)) _
  have hg := h.ge
  have e1 := kk.heap (by simp; omega) h.xb
  have e2 := kk.heap (by simp) h.op
  exact ⟨cofr e1 0 _ rfl, cofr e1 1 _ rfl, cofr e2 1 _ rfl⟩
/-- the box of what the reference tells -/
theorem D3.start {now : Int} {a : Option Addr} {cap : Nat} {W0 w1 : World} (hB : DB w now a n cap k z N W0) (hb : Below W0.heap.size W0 w1) (hs : SlA .i64 w1 a1 n cap1 L') : D3 w now2 a1 n cap1 L' k z N w1.heap.size (w1.alloc (rcO now2 a1 n cap1)) := by
  have h1 := hB.later hb
  have b := bal (w := w1) (rcO now2 a1 n cap1)
  have := lt_of_block h1.res
  exact ⟨(b.block _ (lt_of_block h1.op)).trans h1.op, (b.block _ (lt_of_block h1.res)).trans h1.res, heap_alloc_new _ _, by omega, hs.later b⟩
/-- the change, and what lies apart from it -/
theorem does_end {a0 : Option Addr} {m0 C : Nat} {L1' : List Int} {S : List Nat} {now2' : Int} (h : D3 w now2 a1 n cap1 L' k z N xB Y) (ha : ∀ x, a1 = some x → (a0 = some x ∨ w.heap.size ≤ x.block) ∧ x.block ∉ S ∧ x.block ≠ w.heap.size + 1 + 1 ∧ x.block < m0) (hm0 : m0 ≤ X.heap.size) (hb : Below w.heap.size w X) (hx : w.heap.size + 1 + 1 < X.heap.size) (hS : ∀ b ∈ S, b < w.heap.size) (ho : OG C now2' L1' S X Y) :
    Hid (((Y.setCell ⟨w.heap.size + 1 + 1, 0, none⟩ (.int .i64 now2)).setCell ⟨w.heap.size + 1 + 1, 1, none⟩ (.slice a1 n cap1)).heap[w.heap.size + 1 + 1]? = some (rcO now2 a1 n cap1) ∧
    SlA .i64 ((Y.setCell ⟨w.heap.size + 1 + 1, 0, none⟩ (.int .i64 now2)).setCell ⟨w.heap.size + 1 + 1, 1, none⟩ (.slice a1 n cap1)) a1 n cap1 L' ∧
    OGA C now2' L1' S a1 w ((Y.setCell ⟨w.heap.size + 1 + 1, 0, none⟩ (.int .i64 now2)).setCell ⟨w.heap.size + 1 + 1, 1, none⟩ (.slice a1 n cap1))) := by
  obtain ⟨S', o, k1, n1⟩ := ho
  have kk : Kept [w.heap.size + 1 + 1] Y ((Y.setCell ⟨w.heap.size + 1 + 1, 0, none⟩ (.int .i64 now2)).setCell ⟨w.heap.size + 1 + 1, 1, none⟩ (.slice a1 n cap1)) := ((Kept.refl [w.heap.size + 1 + 1] Y).setCell (.inl (by simp)) _).setCell (.inl (by simp)) _
  refine Lib.hid ⟨(heap_setCell_same _ _ _ _ _ _ ((heap_setCell_same Y _ 0 _ _ _ h.res).trans rfl)).trans rfl, h.sl.keep kk (fun x hx => by have := (ha x hx).2.2.1; simpa using this), S', o.keep kk (fun b hb' => ?_), ?_, fun b hb' => ?_, fun x hx m => ?_⟩
  · rcases n1 b hb' with q | q
    · have := hS b q; simp; omega
    · simp; omega
  · have k0 : Kept S w X := Kept.of_below hb (Nat.le_refl _) S
    exact (k0.trans k1 (fun _ q => .inl q)).trans kk (fun b hb' => .inr (by simp at hb'; omega))
  · rcases n1 b hb' with q | q
    · exact .inl q
    · exact .inr (by have := hb.size; omega)
  · obtain ⟨_, g1, _, g2⟩ := ha x hx
    rcases n1 _ m with q | q
    · exact g1 q
    · omega
end
def advE (now N : Int) : Int := if N < 0 ∨ 4611686018427387904 - now < N then 3 else 0
def advR (now N : Int) (L : List Int) : List Int := if N < 0 ∨ 4611686018427387904 - now < N then [] else (ring (now + N) L.length L).1
theorem sla_nil (W : World) : SlA .i64 W none ([] : List Int).length 0 [] := ⟨rfl, Nat.le_refl _, by simp [maxLen], fun _ => rfl, fun h => by omega⟩
theorem op2 {k : Int} (h3 : k % 3 = 2) (now z N : Int) (L : List Int) : (opNow now k N = if N < 0 ∨ 4611686018427387904 - now < N then now else now + N) ∧ (opL now k z N L = if N < 0 ∨ 4611686018427387904 - now < N then L else (ring (now + N) L.length L).2) := by
  have e0 : ¬ (k % 3 = 0 ∨ k % 3 = 1) := by omega
  have e1 : ¬ k % 3 = 0 := by omega
  have e2 : ¬ k % 3 = 1 := by omega
  exact ⟨by unfold opNow; rw [if_neg e0], by unfold opL; rw [if_neg e1, if_neg e2]⟩
theorem radv_u {k z : Int} {w : World} {a : Option Addr} {n cap : Nat} {L0 : List Int} (h : SlA .i64 w a n cap L0) (h3 : k % 3 = 2) (now : Int) (hn1 : 1 ≤ n) (hn : n ≤ 1000) (hnow : 0 ≤ now ∧ now ≤ 4611686018427387904) (N : Int) (hdt : -9223372036854775808 ≤ N ∧ N ≤ 9223372036854775807) :
    Calls Try.prog 25 #[rc now a n cap, .int .i64 N] w fun e w' => ∃ a1 cap1 p1 c1, e = .returned (.tuple #[rc (opNow now k N) a1 n cap1, .slice p1 (advR now N L0).length c1, .int .i64 (advE now N)]) ∧ SlA .i64 w' a1 n cap1 (opL now k z N L0) ∧ SlA .i64 w' p1 (advR now N L0).length c1 (advR now N L0) ∧ Below w.heap.size w w' ∧ (∀ x, a1 = some x → a = some x ∨ w.heap.size ≤ x.block) ∧ ∀ x, p1 = some x → w.heap.size ≤ x.block := by
  have hl := h.len
  refine (radv_any h now hn1 hn hnow N hdt).mono fun e w' hp => ?_
  rw [(op2 h3 now z N L0).1, (op2 h3 now z N L0).2]
  unfold advR advE
  rcases hp with ⟨hc, a1, cap1, v, he, q1, q2, q3, q4⟩ | ⟨hc, a1, cap1, v, he, q1, q2, q3, q4⟩
  · simp only [if_pos hc]
    rw [hl] at he q1
    rcases q2.2 with ⟨rfl, _⟩ | ⟨g, c, cur, rfl, e2, _⟩
    · exact ⟨a1, cap1, none, 0, he, q1, sla_nil _, q3, q4, fun x hx => by cases hx⟩
    · obtain ⟨p1, c1, e5, hs, _⟩ := sl_of_own q2
      injection e5 with e5 _ e7
      subst e5; subst e7
      exact ⟨a1, cap1, _, _, he, q1, hs, q3, q4, fun x hx => by cases hx; exact e2⟩
  · simp only [if_neg hc]
    rw [ring_len, hl] at he q1
    rw [hl]
    obtain ⟨p1, c1, rfl, hs, hb⟩ := sl_of_own q2
    exact ⟨a1, cap1, p1, c1, he, q1, hs, q3, q4, fun x hx => (own_in q2 (hb x hx)).2⟩
theorem oc_adv_u {k z : Int} {C : Nat} {now : Int} {L : List Int} {S : List Nat} {w : World} (h : OC C now L S w) (h3 : k % 3 = 2) (N : Int) (hdt : -9223372036854775808 ≤ N ∧ N ≤ 9223372036854775807) :
    Calls Try.prog 13 #[.pointer (some ⟨C, 0, none⟩), .int .i64 N] w fun e w' => ∃ p2 c2, e = .returned (.tuple #[.slice p2 (advR now N L).length c2, .int .i64 (advE now N)]) ∧ OG C (opNow now k N) (opL now k z N L) S w w' ∧ SlA .i64 w' p2 (advR now N L).length c2 (advR now N L) := by
  refine (oc_adv h N hdt).mono fun e w' hp => ?_
  rw [(op2 h3 now z N L).1, (op2 h3 now z N L).2]
  unfold advR advE
  rcases hp with ⟨hc, he, rfl⟩ | ⟨hc, S', v, he, q1, q2, q3, q4, q5⟩
  · simp only [if_pos hc]
    exact ⟨none, 0, he, ⟨S, h, Kept.refl _ _, fun _ q => .inl q⟩, sla_nil _⟩
  · simp only [if_neg hc]
    obtain ⟨p, c, rfl, hs⟩ := row_sl q4
    exact ⟨p, c, he, ⟨S', q1, q2, q3⟩, hs⟩
theorem OG.later {C : Nat} {now : Int} {L : List Int} {S : List Nat} {w X Y : World} (h : OG C now L S w X) (hb : Below X.heap.size X Y) : OG C now L S w Y := by
  obtain ⟨S', o, k, n⟩ := h
  exact ⟨S', o.later hb, k.trans (Kept.of_below hb (Nat.le_refl _) S) (fun _ q => .inl q), n⟩
theorem below_drew {X Y : World} (hb : Below X.drew.heap.size X.drew Y) : Below X.heap.size X Y := (Below.refl _ _).drew.trans hb
set_option maxRecDepth 100000 in
set_option maxHeartbeats 4000000 in
theorem does_any {w : World} {C : Nat} {now : Int} {L1 L2 : List Int} {S : List Nat} {a : Option Addr} {n cap : Nat} (h : OC C now L1 S w) (hs : SlA .i64 w a n cap L2) (hn : L1.length = n) (ha : ∀ x, a = some x → x.block ∉ S) (hal : ∀ x, a = some x → x.block < w.heap.size) (k z N : Int) (hk : 0 ≤ k ∧ k ≤ 255) (hz : -9223372036854775808 ≤ z ∧ z ≤ 9223372036854775807) (hN : -9223372036854775808 ≤ N ∧ N ≤ 9223372036854775807) :
    Calls Try.prog 11 #[.pointer (some ⟨C, 0, none⟩), rc now a n cap, opV k z N] w (DoesP C now L1 L2 S a k z N w) := by
  have hB := db_new w now a n cap k z N
  have c0 := hB.c0; have c1 := hB.c1; have o0 := hB.o0; have o1 := hB.o1; have o2 := hB.o2
  have hnw := h.vd.nw
  have hn64 : 1 ≤ n ∧ n ≤ 64 := by have := h.vd.len; omega
  have hl2 := hs.len
  obtain ⟨hw0, hw1⟩ := hnw
  have HO := Lib.hid h
  have HS := Lib.hid hs
  have HB := Lib.hid hB
  have HA := Lib.hid (And.intro ha hal)
  clear h hs hB ha hal
  have hk3 : k % 3 = 0 ∨ k % 3 = 1 ∨ k % 3 = 2 := by omega
  rcases hk3 with h3 | h3 | h3
  · have HLEN : Hid (∀ t, (rsetL now L2 z t).length = n) := Lib.hid (fun t => by rw [rset_len, hl2])
    by_cases hA : 0 ≤ N
    · by_cases hB : N ≤ 4611686018427387904 - now
      · have HAT : Hid (opAt now N = now + N) := Lib.hid (by unfold opAt; rw [if_pos ⟨hA, hB⟩])
        have hwr : IntKind.i64.wrap (now + N) = now + N := IntWalk.i64_in _ (by omega)
        have HOP : Hid (opNow now k N = now ∧ ∀ L, opL now k z N L = rsetL now L z (now + N)) := Lib.hid ⟨by unfold opNow; rw [if_pos (.inl h3)], fun L => by unfold opL; rw [if_pos h3, HAT.out]⟩
        go_enter Try.func11, Try.ntmps11
        go_wp2_with fail
        refine (rset_any (HS.out.later HB.out.below) now (by omega) z (now + N)).mono ?_
        rintro e w1 ⟨a1, cap1, rfl, q1, q2, q3⟩
        rw [HLEN.out (now + N)] at q1
        rw [HLEN.out (now + N)]
        have hD := D3.start (now2 := now) HB.out q2 q1
        have hX : Below w.heap.size w (w1.alloc (rcO now a1 n cap1)) := (HB.out.later q2).below.trans ((bal (w := w1) _).mono (HB.out.later q2).below.size)
        have hxz : w.heap.size + 1 + 1 < (w1.alloc (rcO now a1 n cap1)).heap.size := by have := lt_of_block (HB.out.later q2).res; simp; omega
        have hzb : w.heap.size + 1 + 1 < (((w.alloc (rcO now a n cap)).alloc (opO k z N)).alloc (rcO 0 none 0 0)).heap.size := lt_of_block HB.out.res
        have hlt1 := sla_lt q1 hn64.1
        have HA1 : Hid (∀ x, a1 = some x → (a = some x ∨ w.heap.size ≤ x.block) ∧ x.block ∉ S ∧ x.block ≠ w.heap.size + 1 + 1 ∧ x.block < w1.heap.size + 1) := Lib.hid (fun x hx => by
          have h5 := hlt1 x hx
          have h6 : (w1.alloc (rcO now a1 n cap1)).heap.size = w1.heap.size + 1 := by simp
          rcases q3 x hx with e | e
          · have := HA.out.2 x e; exact ⟨.inl e, HA.out.1 x e, by omega, by omega⟩
          · exact ⟨.inr (by omega), fun m => by have := HO.out.lt _ m; omega, by omega, by omega⟩)
        have HST := Lib.hid (And.intro hD (And.intro hX hxz))
        have x0 := hD.x0; have x1 := hD.x1; have o1 := hD.o1
        clear hlt1 q1 q2 q3 hD hX hxz hzb c0 c1 o0 o2
        go_wp2_with fail
        have S0 : D3 w now a1 n cap1 (rsetL now L2 z (now + N)) k z N w1.heap.size (w1.alloc (rcO now a1 n cap1)).drew ∧ OC C now L1 S (w1.alloc (rcO now a1 n cap1)).drew := ⟨HST.out.1.later (Below.refl _ _).drew, HO.out.keep (Kept.of_below HST.out.2.1.drew (Nat.le_refl _) []) (fun _ _ q => by cases q)⟩
        have hX2 : Below w.heap.size w (w1.alloc (rcO now a1 n cap1)).drew ∧ w.heap.size + 1 + 1 < (w1.alloc (rcO now a1 n cap1)).drew.heap.size := ⟨HST.out.2.1.drew, HST.out.2.2⟩
        have hm0 : w1.heap.size + 1 ≤ (w1.alloc (rcO now a1 n cap1)).drew.heap.size := (by show w1.heap.size + 1 ≤ (w1.alloc (rcO now a1 n cap1)).heap.size; simp)
        clear HST x0 x1 o1
        go_region_held3 (fun w' => w'.cell? ⟨w1.heap.size, 0, none⟩ = some (.int .i64 now) ∧ w'.cell? ⟨w1.heap.size, 1, none⟩ = some (.slice a1 n cap1) ∧ w'.cell? ⟨w.heap.size + 1, 1, none⟩ = some (.int .i64 z)) (with_reducible first | exact S3 | exact ⟨S1.x0, S1.x1, S1.o1⟩ | exact ⟨S0.1.x0, S0.1.x1, S0.1.o1⟩ | go_keep)
          ((go_at_call 17; (with_reducible refine (oc_set S0.2 z (now + N) hz).mono ?_); rintro e w2 ⟨rfl, hog⟩; have S1 := S0.1.keepG hog (fun b hb => HO.out.lt b hb) (fun x hx => (HA1.out x hx).2.1); have HE := does_end S1 HA1.out hm0 hX2.1 hX2.2 (fun b hb => HO.out.lt b hb) hog; have r0 := S1.r0; have r1 := S1.r1; have f0 := S1.f0; have f1 := S1.f1; have S3 := S1.put (.int .i64 now) (.slice a1 n cap1); have nr : w1.heap.size ≠ w.heap.size + 1 + 1 := (by have := S1.ge; omega); clear hog S0))
        have HFIN := Lib.hid (fun b hb => show DoesP C now L1 L2 S a k z N w (.returned (.tuple #[rc now a1 n cap1, .bool b])) ((w2.setCell ⟨w.heap.size + 1 + 1, 0, none⟩ (.int .i64 now)).setCell ⟨w.heap.size + 1 + 1, 1, none⟩ (.slice a1 n cap1)) from ⟨a1, cap1, b, by rw [hl2, HOP.out.1], by rw [hl2, HOP.out.2]; exact HE.out.2.1, by rw [HOP.out.1, HOP.out.2]; exact HE.out.2.2, fun x hx => (HA1.out x hx).1, hb⟩)
        have y0 := cofr HE.out.1 0 _ rfl; have y1 := cofr HE.out.1 1 _ rfl
        clear HE HA1 S1 S3 r0 r1 f0 f1 nr HOP
        go_wp2_with fail
        exact bodyPost_ret (v := .tuple #[rc now a1 n cap1, .bool true]) (by simp [results, Try.results11, go_sem, y0, y1]) rfl (HFIN.out _ (fun _ => rfl))
      · have HAT : Hid (opAt now N = N) := Lib.hid (by unfold opAt; rw [if_neg (fun q => hB q.2)])
        have HOP : Hid (opNow now k N = now ∧ ∀ L, opL now k z N L = rsetL now L z (N)) := Lib.hid ⟨by unfold opNow; rw [if_pos (.inl h3)], fun L => by unfold opL; rw [if_pos h3, HAT.out]⟩
        go_enter Try.func11, Try.ntmps11
        go_wp2_with fail
        refine (rset_any (HS.out.later HB.out.below) now (by omega) z (N)).mono ?_
        rintro e w1 ⟨a1, cap1, rfl, q1, q2, q3⟩
        rw [HLEN.out (N)] at q1
        rw [HLEN.out (N)]
        have hD := D3.start (now2 := now) HB.out q2 q1
        have hX : Below w.heap.size w (w1.alloc (rcO now a1 n cap1)) := (HB.out.later q2).below.trans ((bal (w := w1) _).mono (HB.out.later q2).below.size)
        have hxz : w.heap.size + 1 + 1 < (w1.alloc (rcO now a1 n cap1)).heap.size := by have := lt_of_block (HB.out.later q2).res; simp; omega
        have hzb : w.heap.size + 1 + 1 < (((w.alloc (rcO now a n cap)).alloc (opO k z N)).alloc (rcO 0 none 0 0)).heap.size := lt_of_block HB.out.res
        have hlt1 := sla_lt q1 hn64.1
        have HA1 : Hid (∀ x, a1 = some x → (a = some x ∨ w.heap.size ≤ x.block) ∧ x.block ∉ S ∧ x.block ≠ w.heap.size + 1 + 1 ∧ x.block < w1.heap.size + 1) := Lib.hid (fun x hx => by
          have h5 := hlt1 x hx
          have h6 : (w1.alloc (rcO now a1 n cap1)).heap.size = w1.heap.size + 1 := by simp
          rcases q3 x hx with e | e
          · have := HA.out.2 x e; exact ⟨.inl e, HA.out.1 x e, by omega, by omega⟩
          · exact ⟨.inr (by omega), fun m => by have := HO.out.lt _ m; omega, by omega, by omega⟩)
        have HST := Lib.hid (And.intro hD (And.intro hX hxz))
        have x0 := hD.x0; have x1 := hD.x1; have o1 := hD.o1
        clear hlt1 q1 q2 q3 hD hX hxz hzb c0 c1 o0 o2
        go_wp2_with fail
        have S0 : D3 w now a1 n cap1 (rsetL now L2 z (N)) k z N w1.heap.size (w1.alloc (rcO now a1 n cap1)).drew ∧ OC C now L1 S (w1.alloc (rcO now a1 n cap1)).drew := ⟨HST.out.1.later (Below.refl _ _).drew, HO.out.keep (Kept.of_below HST.out.2.1.drew (Nat.le_refl _) []) (fun _ _ q => by cases q)⟩
        have hX2 : Below w.heap.size w (w1.alloc (rcO now a1 n cap1)).drew ∧ w.heap.size + 1 + 1 < (w1.alloc (rcO now a1 n cap1)).drew.heap.size := ⟨HST.out.2.1.drew, HST.out.2.2⟩
        have hm0 : w1.heap.size + 1 ≤ (w1.alloc (rcO now a1 n cap1)).drew.heap.size := (by show w1.heap.size + 1 ≤ (w1.alloc (rcO now a1 n cap1)).heap.size; simp)
        clear HST x0 x1 o1
        go_region_held3 (fun w' => w'.cell? ⟨w1.heap.size, 0, none⟩ = some (.int .i64 now) ∧ w'.cell? ⟨w1.heap.size, 1, none⟩ = some (.slice a1 n cap1) ∧ w'.cell? ⟨w.heap.size + 1, 1, none⟩ = some (.int .i64 z)) (with_reducible first | exact S3 | exact ⟨S1.x0, S1.x1, S1.o1⟩ | exact ⟨S0.1.x0, S0.1.x1, S0.1.o1⟩ | go_keep)
          ((go_at_call 17; (with_reducible refine (oc_set S0.2 z (N) hz).mono ?_); rintro e w2 ⟨rfl, hog⟩; have S1 := S0.1.keepG hog (fun b hb => HO.out.lt b hb) (fun x hx => (HA1.out x hx).2.1); have HE := does_end S1 HA1.out hm0 hX2.1 hX2.2 (fun b hb => HO.out.lt b hb) hog; have r0 := S1.r0; have r1 := S1.r1; have f0 := S1.f0; have f1 := S1.f1; have S3 := S1.put (.int .i64 now) (.slice a1 n cap1); have nr : w1.heap.size ≠ w.heap.size + 1 + 1 := (by have := S1.ge; omega); clear hog S0))
        have HFIN := Lib.hid (fun b hb => show DoesP C now L1 L2 S a k z N w (.returned (.tuple #[rc now a1 n cap1, .bool b])) ((w2.setCell ⟨w.heap.size + 1 + 1, 0, none⟩ (.int .i64 now)).setCell ⟨w.heap.size + 1 + 1, 1, none⟩ (.slice a1 n cap1)) from ⟨a1, cap1, b, by rw [hl2, HOP.out.1], by rw [hl2, HOP.out.2]; exact HE.out.2.1, by rw [HOP.out.1, HOP.out.2]; exact HE.out.2.2, fun x hx => (HA1.out x hx).1, hb⟩)
        have y0 := cofr HE.out.1 0 _ rfl; have y1 := cofr HE.out.1 1 _ rfl
        clear HE HA1 S1 S3 r0 r1 f0 f1 nr HOP
        go_wp2_with fail
        exact bodyPost_ret (v := .tuple #[rc now a1 n cap1, .bool true]) (by simp [results, Try.results11, go_sem, y0, y1]) rfl (HFIN.out _ (fun _ => rfl))
    · have HAT : Hid (opAt now N = N) := Lib.hid (by unfold opAt; rw [if_neg (fun q => hA q.1)])
      have HOP : Hid (opNow now k N = now ∧ ∀ L, opL now k z N L = rsetL now L z (N)) := Lib.hid ⟨by unfold opNow; rw [if_pos (.inl h3)], fun L => by unfold opL; rw [if_pos h3, HAT.out]⟩
      go_enter Try.func11, Try.ntmps11
      go_wp2_with fail
      refine (rset_any (HS.out.later HB.out.below) now (by omega) z (N)).mono ?_
      rintro e w1 ⟨a1, cap1, rfl, q1, q2, q3⟩
      rw [HLEN.out (N)] at q1
      rw [HLEN.out (N)]
      have hD := D3.start (now2 := now) HB.out q2 q1
      have hX : Below w.heap.size w (w1.alloc (rcO now a1 n cap1)) := (HB.out.later q2).below.trans ((bal (w := w1) _).mono (HB.out.later q2).below.size)
      have hxz : w.heap.size + 1 + 1 < (w1.alloc (rcO now a1 n cap1)).heap.size := by have := lt_of_block (HB.out.later q2).res; simp; omega
      have hzb : w.heap.size + 1 + 1 < (((w.alloc (rcO now a n cap)).alloc (opO k z N)).alloc (rcO 0 none 0 0)).heap.size := lt_of_block HB.out.res
      have hlt1 := sla_lt q1 hn64.1
      have HA1 : Hid (∀ x, a1 = some x → (a = some x ∨ w.heap.size ≤ x.block) ∧ x.block ∉ S ∧ x.block ≠ w.heap.size + 1 + 1 ∧ x.block < w1.heap.size + 1) := Lib.hid (fun x hx => by
        have h5 := hlt1 x hx
        have h6 : (w1.alloc (rcO now a1 n cap1)).heap.size = w1.heap.size + 1 := by simp
        rcases q3 x hx with e | e
        · have := HA.out.2 x e; exact ⟨.inl e, HA.out.1 x e, by omega, by omega⟩
        · exact ⟨.inr (by omega), fun m => by have := HO.out.lt _ m; omega, by omega, by omega⟩)
      have HST := Lib.hid (And.intro hD (And.intro hX hxz))
      have x0 := hD.x0; have x1 := hD.x1; have o1 := hD.o1
      clear hlt1 q1 q2 q3 hD hX hxz hzb c0 c1 o0 o2
      go_wp2_with fail
      have S0 : D3 w now a1 n cap1 (rsetL now L2 z (N)) k z N w1.heap.size (w1.alloc (rcO now a1 n cap1)).drew ∧ OC C now L1 S (w1.alloc (rcO now a1 n cap1)).drew := ⟨HST.out.1.later (Below.refl _ _).drew, HO.out.keep (Kept.of_below HST.out.2.1.drew (Nat.le_refl _) []) (fun _ _ q => by cases q)⟩
      have hX2 : Below w.heap.size w (w1.alloc (rcO now a1 n cap1)).drew ∧ w.heap.size + 1 + 1 < (w1.alloc (rcO now a1 n cap1)).drew.heap.size := ⟨HST.out.2.1.drew, HST.out.2.2⟩
      have hm0 : w1.heap.size + 1 ≤ (w1.alloc (rcO now a1 n cap1)).drew.heap.size := (by show w1.heap.size + 1 ≤ (w1.alloc (rcO now a1 n cap1)).heap.size; simp)
      clear HST x0 x1 o1
      go_region_held3 (fun w' => w'.cell? ⟨w1.heap.size, 0, none⟩ = some (.int .i64 now) ∧ w'.cell? ⟨w1.heap.size, 1, none⟩ = some (.slice a1 n cap1) ∧ w'.cell? ⟨w.heap.size + 1, 1, none⟩ = some (.int .i64 z)) (with_reducible first | exact S3 | exact ⟨S1.x0, S1.x1, S1.o1⟩ | exact ⟨S0.1.x0, S0.1.x1, S0.1.o1⟩ | go_keep)
        ((go_at_call 17; (with_reducible refine (oc_set S0.2 z (N) hz).mono ?_); rintro e w2 ⟨rfl, hog⟩; have S1 := S0.1.keepG hog (fun b hb => HO.out.lt b hb) (fun x hx => (HA1.out x hx).2.1); have HE := does_end S1 HA1.out hm0 hX2.1 hX2.2 (fun b hb => HO.out.lt b hb) hog; have r0 := S1.r0; have r1 := S1.r1; have f0 := S1.f0; have f1 := S1.f1; have S3 := S1.put (.int .i64 now) (.slice a1 n cap1); have nr : w1.heap.size ≠ w.heap.size + 1 + 1 := (by have := S1.ge; omega); clear hog S0))
      have HFIN := Lib.hid (fun b hb => show DoesP C now L1 L2 S a k z N w (.returned (.tuple #[rc now a1 n cap1, .bool b])) ((w2.setCell ⟨w.heap.size + 1 + 1, 0, none⟩ (.int .i64 now)).setCell ⟨w.heap.size + 1 + 1, 1, none⟩ (.slice a1 n cap1)) from ⟨a1, cap1, b, by rw [hl2, HOP.out.1], by rw [hl2, HOP.out.2]; exact HE.out.2.1, by rw [HOP.out.1, HOP.out.2]; exact HE.out.2.2, fun x hx => (HA1.out x hx).1, hb⟩)
      have y0 := cofr HE.out.1 0 _ rfl; have y1 := cofr HE.out.1 1 _ rfl
      clear HE HA1 S1 S3 r0 r1 f0 f1 nr HOP
      go_wp2_with fail
      exact bodyPost_ret (v := .tuple #[rc now a1 n cap1, .bool true]) (by simp [results, Try.results11, go_sem, y0, y1]) rfl (HFIN.out _ (fun _ => rfl))
  · have HLEN : Hid ((rstopL L2 z).length = n) := Lib.hid (by rw [rstop_len, hl2])
    have h30 : ¬ k % 3 = 0 := by omega
    have HOP : Hid (opNow now k N = now ∧ ∀ L, opL now k z N L = rstopL L z) := Lib.hid ⟨by unfold opNow; rw [if_pos (.inr h3)], fun L => by unfold opL; rw [if_neg h30, if_pos h3]⟩
    go_enter Try.func11, Try.ntmps11
    go_wp2_with fail
    refine (rstop_any (HS.out.later HB.out.below) now (by omega) z).mono ?_
    rintro e w1 ⟨a1, cap1, rfl, q1, q2, q3⟩
    rw [HLEN.out] at q1
    rw [HLEN.out]
    have hD := D3.start (now2 := now) HB.out q2 q1
    have hX : Below w.heap.size w (w1.alloc (rcO now a1 n cap1)) := (HB.out.later q2).below.trans ((bal (w := w1) _).mono (HB.out.later q2).below.size)
    have hxz : w.heap.size + 1 + 1 < (w1.alloc (rcO now a1 n cap1)).heap.size := by have := lt_of_block (HB.out.later q2).res; simp; omega
    have hzb : w.heap.size + 1 + 1 < (((w.alloc (rcO now a n cap)).alloc (opO k z N)).alloc (rcO 0 none 0 0)).heap.size := lt_of_block HB.out.res
    have hlt1 := sla_lt q1 hn64.1
    have HA1 : Hid (∀ x, a1 = some x → (a = some x ∨ w.heap.size ≤ x.block) ∧ x.block ∉ S ∧ x.block ≠ w.heap.size + 1 + 1 ∧ x.block < w1.heap.size + 1) := Lib.hid (fun x hx => by
      have h5 := hlt1 x hx
      have h6 : (w1.alloc (rcO now a1 n cap1)).heap.size = w1.heap.size + 1 := by simp
      rcases q3 x hx with e | e
      · have := HA.out.2 x e; exact ⟨.inl e, HA.out.1 x e, by omega, by omega⟩
      · exact ⟨.inr (by omega), fun m => by have := HO.out.lt _ m; omega, by omega, by omega⟩)
    have HST := Lib.hid (And.intro hD (And.intro hX hxz))
    have x0 := hD.x0; have x1 := hD.x1; have o1 := hD.o1
    clear hlt1 q1 q2 q3 hD hX hxz hzb c0 c1 o0 o2
    go_wp2_with fail
    have S0 : D3 w now a1 n cap1 (rstopL L2 z) k z N w1.heap.size (w1.alloc (rcO now a1 n cap1)).drew ∧ OC C now L1 S (w1.alloc (rcO now a1 n cap1)).drew := ⟨HST.out.1.later (Below.refl _ _).drew, HO.out.keep (Kept.of_below HST.out.2.1.drew (Nat.le_refl _) []) (fun _ _ q => by cases q)⟩
    have hX2 : Below w.heap.size w (w1.alloc (rcO now a1 n cap1)).drew ∧ w.heap.size + 1 + 1 < (w1.alloc (rcO now a1 n cap1)).drew.heap.size := ⟨HST.out.2.1.drew, HST.out.2.2⟩
    have hm0 : w1.heap.size + 1 ≤ (w1.alloc (rcO now a1 n cap1)).drew.heap.size := (by show w1.heap.size + 1 ≤ (w1.alloc (rcO now a1 n cap1)).heap.size; simp)
    clear HST x0 x1 o1
    go_region_held3 (fun w' => w'.cell? ⟨w1.heap.size, 0, none⟩ = some (.int .i64 now) ∧ w'.cell? ⟨w1.heap.size, 1, none⟩ = some (.slice a1 n cap1) ∧ w'.cell? ⟨w.heap.size + 1, 1, none⟩ = some (.int .i64 z)) (with_reducible first | exact S3 | exact ⟨S1.x0, S1.x1, S1.o1⟩ | exact ⟨S0.1.x0, S0.1.x1, S0.1.o1⟩ | go_keep)
      ((go_at_call 18; (with_reducible refine (oc_stop S0.2 z hz).mono ?_); rintro e w2 ⟨rfl, hog⟩; have S1 := S0.1.keepG hog (fun b hb => HO.out.lt b hb) (fun x hx => (HA1.out x hx).2.1); have HE := does_end S1 HA1.out hm0 hX2.1 hX2.2 (fun b hb => HO.out.lt b hb) hog; have r0 := S1.r0; have r1 := S1.r1; have f0 := S1.f0; have f1 := S1.f1; have S3 := S1.put (.int .i64 now) (.slice a1 n cap1); have nr : w1.heap.size ≠ w.heap.size + 1 + 1 := (by have := S1.ge; omega); clear hog S0))
    have HFIN := Lib.hid (fun b hb => show DoesP C now L1 L2 S a k z N w (.returned (.tuple #[rc now a1 n cap1, .bool b])) ((w2.setCell ⟨w.heap.size + 1 + 1, 0, none⟩ (.int .i64 now)).setCell ⟨w.heap.size + 1 + 1, 1, none⟩ (.slice a1 n cap1)) from ⟨a1, cap1, b, by rw [hl2, HOP.out.1], by rw [hl2, HOP.out.2]; exact HE.out.2.1, by rw [HOP.out.1, HOP.out.2]; exact HE.out.2.2, fun x hx => (HA1.out x hx).1, hb⟩)
    have y0 := cofr HE.out.1 0 _ rfl; have y1 := cofr HE.out.1 1 _ rfl
    clear HE HA1 S1 S3 r0 r1 f0 f1 nr HOP
    go_wp2_with fail
    exact bodyPost_ret (v := .tuple #[rc now a1 n cap1, .bool (isL L1 z == isL L2 z)]) (by simp [results, Try.results11, go_sem, y0, y1]) rfl (HFIN.out _ (fun e => by rw [e]; simp))
  · have h30 : ¬ k % 3 = 0 := by omega
    have h31 : ¬ k % 3 = 1 := by omega
    have HREF := Lib.hid (radv_u (k := k) (z := z) (HS.out.later HB.out.below) h3 now hn64.1 (by omega) ⟨hw0, hw1⟩ N hN)
    have HCLK := Lib.hid (fun W (ho : OC C now L1 S W) => oc_adv_u (k := k) (z := z) ho h3 N hN)
    go_enter Try.func11, Try.ntmps11
    go_wp2_with fail
    refine HREF.out.mono ?_
    rintro e w1 ⟨a1, cap1, p1, cp1, rfl, q1, qr, q2, q3, qp⟩
    generalize hq : opNow now k N = now2 at *
    have HQ := Lib.hid hq
    clear hq
    have hD := D3.start (now2 := now2) HB.out q2 q1
    have hX : Below w.heap.size w (w1.alloc (rcO now2 a1 n cap1)) := (HB.out.later q2).below.trans ((bal (w := w1) _).mono (HB.out.later q2).below.size)
    have hxz : w.heap.size + 1 + 1 < (w1.alloc (rcO now2 a1 n cap1)).heap.size := by have := lt_of_block (HB.out.later q2).res; simp; omega
    have hzb : w.heap.size + 1 + 1 < (((w.alloc (rcO now a n cap)).alloc (opO k z N)).alloc (rcO 0 none 0 0)).heap.size := lt_of_block HB.out.res
    have hlt1 := sla_lt q1 hn64.1
    have HA1 : Hid (∀ x, a1 = some x → (a = some x ∨ w.heap.size ≤ x.block) ∧ x.block ∉ S ∧ x.block ≠ w.heap.size + 1 + 1 ∧ x.block < w1.heap.size + 1) := Lib.hid (fun x hx => by
      have h5 := hlt1 x hx
      have h6 : (w1.alloc (rcO now2 a1 n cap1)).heap.size = w1.heap.size + 1 := by simp
      rcases q3 x hx with e | e
      · have := HA.out.2 x e; exact ⟨.inl e, HA.out.1 x e, by omega, by omega⟩
      · exact ⟨.inr (by omega), fun m => by have := HO.out.lt _ m; omega, by omega, by omega⟩)
    have HSR : Hid (SlA .i64 (w1.alloc (rcO now2 a1 n cap1)) p1 (advR now N L2).length cp1 (advR now N L2) ∧ ∀ x, p1 = some x → x.block ∉ S) := Lib.hid ⟨qr.later (bal _), fun x hx m => by have := qp x hx; have := HO.out.lt _ m; omega⟩
    have HST := Lib.hid (And.intro hD (And.intro hX hxz))
    have HCK := Lib.hid (HCLK.out _ (HO.out.keep (Kept.of_below hX (Nat.le_refl _) []) (fun _ _ q => by cases q)))
    have x0 := hD.x0; have x1 := hD.x1; have o1 := hD.o1; have o2 := hD.o2
    clear hlt1 q1 q2 q3 qr qp hD hX hxz hzb c0 c1 o0 HREF HCLK
    go_wp2_with fail
    refine HCK.out.mono ?_
    rintro e w2 ⟨p2, c2, rfl, hog, hs2⟩
    have S1 := HST.out.1.keepG hog (fun b hb => HO.out.lt b hb) (fun x hx => (HA1.out x hx).2.1)
    have HSA := Lib.hid (And.intro (by obtain ⟨_, _, kk, _⟩ := hog; exact HSR.out.1.keep kk (HSR.out.2) : SlA .i64 w2 p1 (advR now N L2).length cp1 (advR now N L2)) hs2)
    have HOG := Lib.hid (And.intro hog HST.out.2)
    have HM0 : Hid (w1.heap.size + 1 ≤ (w1.alloc (rcO now2 a1 n cap1)).heap.size) := Lib.hid (by simp)
    replace S1 := S1.later (Below.refl _ _).drew
    clear hog hs2 HST HCK HSR x0 x1 o1 o2
    go_wp2_with fail
    have HSM := Lib.hid (same_any (HSA.out.1.drew) (HSA.out.2.drew))
    clear HSA
    go_region_held3 (fun w' => w'.cell? ⟨w1.heap.size, 0, none⟩ = some (.int .i64 now2) ∧ w'.cell? ⟨w1.heap.size, 1, none⟩ = some (.slice a1 n cap1) ∧ w'.cell? ⟨w.heap.size + 1, 1, none⟩ = some (.int .i64 z)) (with_reducible first | exact S3 | exact ⟨S1.x0, S1.x1, S1.o1⟩ | go_keep)
      ((go_at_call 14; (with_reducible refine HSM.out.mono ?_); rintro e w3 ⟨rfl, hb3⟩; replace S1 := S1.later hb3; have hog2 := HOG.out.1.later (below_drew hb3); have HE := does_end S1 HA1.out HM0.out HOG.out.2.1 HOG.out.2.2 (fun b hb => HO.out.lt b hb) hog2; have r0 := S1.r0; have r1 := S1.r1; have f0 := S1.f0; have f1 := S1.f1; have S3 := S1.put (.int .i64 now2) (.slice a1 n cap1); have nr : w1.heap.size ≠ w.heap.size + 1 + 1 := (by have := S1.ge; omega); clear hb3 hog2))
    have HFIN := Lib.hid (fun b hb => show DoesPG now2 (opL now k z N L1) (opL now k z N L2) C L1 L2 S a w (.returned (.tuple #[rc now2 a1 n cap1, .bool b])) ((w3.setCell ⟨w.heap.size + 1 + 1, 0, none⟩ (.int .i64 now2)).setCell ⟨w.heap.size + 1 + 1, 1, none⟩ (.slice a1 n cap1)) from ⟨a1, cap1, b, by rw [hl2], by rw [hl2]; exact HE.out.2.1, HE.out.2.2, fun x hx => (HA1.out x hx).1, hb⟩)
    have y0 := cofr HE.out.1 0 _ rfl; have y1 := cofr HE.out.1 1 _ rfl
    clear HE HA1 S1 S3 r0 r1 f0 f1 nr
    go_wp2_with fail
    exact bodyPost_ret (v := .tuple #[rc now2 a1 n cap1, .bool (decide (advR now N L2 = advR now N L1))]) (by simp [results, Try.results11, go_sem, y0, y1]) rfl (by unfold DoesP; rw [HQ.out]; exact HFIN.out _ (fun e => by rw [e]; simp))
end Go.Proofs.Ytnioaaahkhephaa.al
