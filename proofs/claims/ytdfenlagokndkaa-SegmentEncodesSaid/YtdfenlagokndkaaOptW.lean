/-
  Package option: options in memory, a writer beside them, and what each part writes.
-/
import Derived.Test.YtdfenlagokndkaaOctX
import Derived.Test.YtdfenlagokndkaaOptX
import Derived.WalkLawsBesides
namespace Go.Proofs.Ytdfenlagokndkaa.op
open Go.RowKit aid mem oc
set_option linter.unusedVariables false

/-- a slice of blocks -/
structure BlA (w : World) (a : Option Addr) (n cap : Nat) (l : List (Int × Int)) : Prop where
  len : l.length = n
  le : n ≤ cap
  most : cap ≤ maxLen
  nil : a = none → cap = 0
  cells : 0 < n → ∃ b off, a = some ⟨b, off, none⟩ ∧ ∀ i, i < n → w.cell? ⟨b, off + i * 2, none⟩ = some (.int .u32 (l.getD i (0, 0)).1) ∧ w.cell? ⟨b, off + i * 2 + 1, none⟩ = some (.int .u32 (l.getD i (0, 0)).2)
theorem BlA.lt {w : World} {a : Option Addr} {n cap : Nat} {l : List (Int × Int)} (h : BlA w a n cap l) : ∀ x, a = some x → 0 < n → x.block < w.heap.size := by
  intro x hx h0
  obtain ⟨b, off, ha, hc⟩ := h.cells h0
  rw [ha] at hx
  injection hx with hx
  subst hx
  exact World.block_lt_of_cell? w _ (hc 0 h0).1
theorem BlA.keep {w w' : World} {a : Option Addr} {n cap : Nat} {l : List (Int × Int)} (h : BlA w a n cap l) {S : List Nat} (hk : Kept S w w') (hd : ∀ x, a = some x → 0 < n → x.block ∉ S) : BlA w' a n cap l :=
  ⟨h.len, h.le, h.most, h.nil, fun h0 => by
    obtain ⟨b, off, rfl, hc⟩ := h.cells h0
    exact ⟨b, off, rfl, fun i hi => ⟨hk.cell (p := ⟨b, off + i * 2, none⟩) (hd ⟨b, off, none⟩ rfl h0) (hc i hi).1, hk.cell (p := ⟨b, off + i * 2 + 1, none⟩) (hd ⟨b, off, none⟩ rfl h0) (hc i hi).2⟩⟩⟩
theorem BlA.later {w w' : World} {a : Option Addr} {n cap : Nat} {l : List (Int × Int)} (h : BlA w a n cap l) (hk : Below w.heap.size w w') : BlA w' a n cap l :=
  h.keep (Kept.of_below hk (Nat.le_refl _) []) (fun _ _ _ => by simp)

/-- options as a value; their cells -/
def optCells (o : Opt) (a : Option Addr) (n cap : Nat) : Array Value := #[.int .i64 o.mss, .bool o.permit, .bool o.ts, .int .u32 o.val, .int .u32 o.ecr, .bool o.hs, .int .i64 o.scale, .slice a n cap]
structure OptAt (w : World) (B : Nat) (o : Opt) (a : Option Addr) (n cap : Nat) : Prop where
  c0 : w.cell? ⟨B, 0, none⟩ = some (.int .i64 o.mss)
  c1 : w.cell? ⟨B, 1, none⟩ = some (.bool o.permit)
  c2 : w.cell? ⟨B, 2, none⟩ = some (.bool o.ts)
  c3 : w.cell? ⟨B, 3, none⟩ = some (.int .u32 o.val)
  c4 : w.cell? ⟨B, 4, none⟩ = some (.int .u32 o.ecr)
  c5 : w.cell? ⟨B, 5, none⟩ = some (.bool o.hs)
  c6 : w.cell? ⟨B, 6, none⟩ = some (.int .i64 o.scale)
  c7 : w.cell? ⟨B, 7, none⟩ = some (.slice a n cap)
theorem OptAt.keep {w w' : World} {B : Nat} {o : Opt} {a : Option Addr} {n cap : Nat} (h : OptAt w B o a n cap) {S : List Nat} (hk : Kept S w w') (hd : B ∉ S) : OptAt w' B o a n cap :=
  ⟨hk.cell hd h.c0, hk.cell hd h.c1, hk.cell hd h.c2, hk.cell hd h.c3, hk.cell hd h.c4, hk.cell hd h.c5, hk.cell hd h.c6, hk.cell hd h.c7⟩
theorem OptAt.lt {w : World} {B : Nat} {o : Opt} {a : Option Addr} {n cap : Nat} (h : OptAt w B o a n cap) : B < w.heap.size := World.block_lt_of_cell? w _ h.c0
theorem opt_new (w : World) (o : Opt) (a : Option Addr) (n cap : Nat) (t : TypeId) : OptAt (w.alloc (.cells (optCells o a n cap) t)) w.heap.size o a n cap := by
  constructor <;> exact World.cell?_alloc_at _ _ _ _ rfl

/-- a writer at p, options in a box at B, their blocks below n0; since w0 nothing below n0 has changed -/
structure Ws (w0 : World) (n0 B p : Nat) (o : Opt) (a : Option Addr) (n cap : Nat) (l : List Int) (w : World) : Prop where
  ex : ∃ S, Wr w p S l ∧ ∀ k ∈ S, n0 ≤ k ∧ k ≠ B
  p : n0 ≤ p ∧ p ≠ B
  box : OptAt w B o a n cap
  bl : BlA w a n cap o.bl
  old : ∀ x, a = some x → 0 < n → x.block < n0
  le : n0 ≤ w.heap.size
  below : Below n0 w0 w

section
variable {w0 : World} {n0 B p : Nat} {o : Opt} {a : Option Addr} {n cap : Nat} {l : List Int} {w : World}

theorem Ws.plt (h : Ws w0 n0 B p o a n cap l w) : p < w.heap.size := by
  obtain ⟨S, hw, _⟩ := h.ex
  exact World.block_lt_of_cell? w _ hw.c1
theorem Ws.alloc (h : Ws w0 n0 B p o a n cap l w) (x : Obj) : Ws w0 n0 B p o a n cap l (w.alloc x) := by
  have hk := (Kept.refl [] w).alloc x
  obtain ⟨S, hw, hS⟩ := h.ex
  exact ⟨⟨S, hw.keep hk (by simp) (by simp), hS⟩, h.p, h.box.keep hk (by simp), h.bl.keep hk (by simp), h.old, (by have := h.le; simp; omega), h.below.alloc h.le _⟩
theorem Ws.drew (h : Ws w0 n0 B p o a n cap l w) : Ws w0 n0 B p o a n cap l w.drew := by
  have hk := (Kept.refl [] w).drew
  obtain ⟨S, hw, hS⟩ := h.ex
  exact ⟨⟨S, hw.keep hk (by simp) (by simp), hS⟩, h.p, h.box.keep hk (by simp), h.bl.keep hk (by simp), h.old, h.le, h.below.drew⟩

theorem Ws.wrote (h : Ws w0 n0 B p o a n cap l w) {S : List Nat} (hS : ∀ k ∈ S, n0 ≤ k ∧ k ≠ B) {l' : List Int} {w' : World} {e : Ending} (hp : WrPost p S l' w e w') : e = .returned (.tuple #[]) ∧ Ws w0 n0 B p o a n cap l' w' := by
  obtain ⟨he, S', h1, h2, h3⟩ := hp
  have hB := h.box.lt
  have hle := h.le
  have hn : B ∉ p :: S := by
    intro hb
    rcases List.mem_cons.1 hb with e | e
    · exact h.p.2 e.symm
    · exact (hS B e).2 rfl
  refine ⟨he, ⟨S', h1, fun k hk => ?_⟩, h.p, h.box.keep h2 hn, h.bl.keep h2 ?_, h.old, Nat.le_trans h.le h2.size, h.below.trans (h2.below ?_ h.le)⟩
  · rcases h3 k hk with h | h
    · exact hS k h
    · omega
  · intro x hx h0 hb
    have := h.old x hx h0
    rcases List.mem_cons.1 hb with e | e
    · have := h.p.1; omega
    · have := (hS _ e).1; omega
  · intro k hk
    rcases List.mem_cons.1 hk with e | e
    · have := h.p.1; omega
    · exact (hS k e).1

theorem ws_new (h : Ws w0 n0 B p o a n cap l w) (lb : List Int) (m : Nat) (hm : lb.length = m) (Bn : Nat) (hB : Bn = w.heap.size) (t : TypeId) (hr : l.length + lb.length ≤ 1000) (arr : Array Value) (ha : arr = (ints .u8 lb).toArray) :
    Calls Try.prog 75 #[.pointer (some ⟨p, 0, none⟩), .slice (some ⟨Bn, 0, none⟩) m m] (w.alloc (.cells arr t)) fun e w' => e = .returned (.tuple #[]) ∧ Ws w0 n0 B p o a n cap (l ++ lb) w' := by
  subst hB ha hm
  have h' := h.alloc (.cells (ints .u8 lb).toArray t)
  obtain ⟨S, hw, hS⟩ := h'.ex
  have hp := h.plt
  exact (all_any p S l _ lb.length lb.length lb _ hw (sl_new .u8 t w lb (by unfold maxLen; omega)) (by intro x hx _; injection hx with hx; subst hx; simp; omega) (by omega)).mono fun e w' he => h'.wrote hS he
theorem ws_one (h : Ws w0 n0 B p o a n cap l w) (b : Int) (hr : l.length ≤ 1000) :
    Calls Try.prog 98 #[.pointer (some ⟨p, 0, none⟩), .int .u8 b] w fun e w' => e = .returned (.tuple #[]) ∧ Ws w0 n0 B p o a n cap (l ++ [b]) w' := by
  obtain ⟨S, hw, hS⟩ := h.ex
  exact (one_any p S l b _ hw (by omega)).mono fun e w' he => h.wrote hS he
theorem ws_two (h : Ws w0 n0 B p o a n cap l w) (b : Int) (hb : 0 ≤ b ∧ b ≤ 65535) (hr : l.length ≤ 1000) :
    Calls Try.prog 76 #[.pointer (some ⟨p, 0, none⟩), .int .u16 b] w fun e w' => e = .returned (.tuple #[]) ∧ Ws w0 n0 B p o a n cap (l ++ two b) w' := by
  obtain ⟨S, hw, hS⟩ := h.ex
  exact (two_any p S l b _ hw hb (by omega)).mono fun e w' he => h.wrote hS he
theorem ws_four (h : Ws w0 n0 B p o a n cap l w) (b : Int) (hb : 0 ≤ b ∧ b ≤ 4294967295) (hr : l.length ≤ 1000) :
    Calls Try.prog 77 #[.pointer (some ⟨p, 0, none⟩), .int .u32 b] w fun e w' => e = .returned (.tuple #[]) ∧ Ws w0 n0 B p o a n cap (l ++ four b) w' := by
  obtain ⟨S, hw, hS⟩ := h.ex
  exact (four_any p S l b _ hw hb (by omega)).mono fun e w' he => h.wrote hS he
theorem ws_len (h : Ws w0 n0 B p o a n cap l w) :
    Calls Try.prog 82 #[.pointer (some ⟨p, 0, none⟩)] w fun e w' => e = .returned (.int .i64 l.length) ∧ w = w' := by
  obtain ⟨S, hw, hS⟩ := h.ex
  exact len_any p S l w hw

set_option maxHeartbeats 800000 in
theorem parts1 (h : Ws w0 n0 B p o a n cap l w) (hr : l.length ≤ 200) :
    Calls Try.prog 109 #[.pointer (some ⟨p, 0, none⟩), .pointer (some ⟨B, 0, none⟩)] w fun e w' => e = .returned (.tuple #[]) ∧ Ws w0 n0 B p o a n cap (l ++ p1 o) w' := by
  have c0 := h.box.c0
  by_cases hm : o.mss = 0
  · have hm' : (o.mss != 0) = false := by simp [hm]
    have e : p1 o = [] := by simp [p1, hm]
    rw [e, List.append_nil]
    have H := Lib.hid hm
    clear hm e
    go_enter Try.func109, Try.ntmps109
    go_wp2
    go_end0
    exact ⟨rfl, h⟩
  · have hm' : (o.mss != 0) = true := by simp [hm]
    have e : Hid (p1 o = [2, 4] ++ two (o.mss % 65536)) := Lib.hid (by simp [p1, hm])
    have hw := IntKind.wrap_u16 o.mss
    have H := Lib.hid hm
    clear hm
    go_enter Try.func109, Try.ntmps109
    go_wp2_with fail
    refine (ws_new h [2, 4] 2 rfl _ rfl 5 (by simp; omega) _ rfl).mono ?_
    rintro e w1 ⟨rfl, h1⟩
    have c1 := h1.box.c0
    go_wp2_with fail
    refine (ws_two h1 (o.mss % 65536) (by omega) (by simp; omega)).mono ?_
    rintro e w2 ⟨rfl, h2⟩
    go_wp2_with fail
    go_end0
    exact ⟨rfl, by rw [e.out, ← List.append_assoc]; exact h2⟩
end
end Go.Proofs.Ytdfenlagokndkaa.op
