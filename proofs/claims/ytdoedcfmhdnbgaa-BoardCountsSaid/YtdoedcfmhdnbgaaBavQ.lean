/-
  Package avl: From, All, Back; the law's list of all keys.
-/
import Derived.Test.YtdoedcfmhdnbgaaBavR
namespace Go.Proofs.Ytdoedcfmhdnbgaa.bv
open Go.RowKit Go.Shelf aid mem rng
attribute [local go_sem] Oper.semAt_some
set_option linter.unusedVariables false

theorem Far.later {w w' : World} {A : Nat → Prop} (h : Far w A) (hb : Below w.heap.size w w') : Far w' A := fun k hk => by
  obtain ⟨h1, h2⟩ := h k hk
  exact ⟨Nat.lt_of_lt_of_le h1 hb.size, fun cs e => h2 cs (by rw [← hb.block k h1]; exact e)⟩
theorem far_node {w : World} {A : Nat → Prop} (h : Far w A) {k : Nat} {cs : Array Value} (hk : w.heap[k]? = some (.cells cs 100 (0, 0))) : ¬ A k := fun e => (h k e).2 cs hk

/-- an iterator of pairs -/
def SeqKV (L : List (Int × Vt)) (A : Nat → Prop) (w : World) (e : Ending) (w' : World) : Prop :=
  ∃ lb, e = .returned (.func (.func 95) #[] lb) ∧ SeqOf Try.prog 95 lb kvE L A w' ∧ Below w.heap.size w w'

theorem pairs_any {gf : Nat} {lb : Array Value} {w : World} : Calls Try.prog 88 #[.func (.func gf) #[] lb] w fun e w' =>
    e = .returned (.func (.func 95) #[] #[.pointer (some ⟨w.heap.size, 0, none⟩)]) ∧ w' = w.alloc (.cells #[.func (.func gf) #[] lb] 110) := by
  go_enter Try.func88, Try.ntmps88
  go_wp2_with fail
  go_ret
  exact ⟨rfl, rfl⟩

theorem eg41 : ∀ args w, (callFunc 89 args).run Try.prog w = .ok (.enter 89 args) w := enters_of Try.func89 (by kernel_rfl) rfl
theorem eg49 : ∀ args w, (callFunc 95 args).run Try.prog w = .ok (.enter 95 args) w := enters_of Try.func95 (by kernel_rfl) rfl

set_option maxRecDepth 100000 in
set_option maxHeartbeats 2000000 in
theorem from_any {w : World} {p : Option Addr} {t : T} (h : TrO w p t) (key : Int) (hu : T.Up t.toL) (A : Nat → Prop) (hA : Far w A) :
    Calls Try.prog 84 #[.pointer p, .int .i64 key] w (SeqKV (t.toL.filter (fun x => decide (key ≤ x.1))) A w) := by
  obtain ⟨q, hr, hq⟩ := trO_root h
  obtain ⟨LN, hg⟩ := goes_of key hq
  have hk := goes_keys key hg hu
  obtain ⟨w1, hw1⟩ : ∃ w1, w1 = (w.alloc (.cells #[.pointer p] 54)).alloc (.cells #[.int .i64 key] 3) := ⟨_, rfl⟩
  have b1 : Below w.heap.size w w1 := by rw [hw1]; exact ((Below.refl _ _).alloc (Nat.le_refl _) _).alloc (by simp) _
  have c1 : w1.cell? ⟨w.heap.size, 0, none⟩ = some (.pointer p) := by
    rw [hw1]; exact ck (bal' _) ((cell_of_row _ w.heap.size 0 _ _ (0, 0) (heap_alloc_new w (.cells #[.pointer p] 54))).trans rfl)
  have c2 : w1.cell? ⟨w.heap.size + 1, 0, none⟩ = some (.int .i64 key) := by
    have := (cell_of_row _ (w.alloc (.cells #[.pointer p] 54)).heap.size 0 _ _ (0, 0) (heap_alloc_new (w.alloc (.cells #[.pointer p] 54)) (.cells #[.int .i64 key] 3))).trans rfl
    rw [World.size_alloc] at this
    rw [hw1]; exact this
  have s1 := from1_seq (hr.later b1) (hg.later b1) c1 c2 (hA.later b1) (fun e => by have := (hA _ e).1; omega) (fun e => by have := (hA _ e).1; omega)
  obtain ⟨w2, hw2⟩ : ∃ w2, w2 = w1.alloc (.cells #[.func (.func 89) #[] #[.pointer (some ⟨w.heap.size, 0, none⟩), .pointer (some ⟨w.heap.size + 1, 0, none⟩)]] 110) := ⟨_, rfl⟩
  have b2 : Below w1.heap.size w1 w2 := by rw [hw2]; exact bal' _
  have hz1 : w1.heap.size = w.heap.size + 1 + 1 := by rw [hw1]; simp
  have hb : w2.cell? ⟨w1.heap.size, 0, none⟩ = some (.func (.func 89) #[] #[.pointer (some ⟨w.heap.size, 0, none⟩), .pointer (some ⟨w.heap.size + 1, 0, none⟩)]) := by
    rw [hw2]; exact (cell_of_row _ w1.heap.size 0 _ _ (0, 0) (heap_alloc_new w1 _)).trans rfl
  have hcells := goes_cells key hg
  have s2 := pairs1_seq (s1.later b2 (fun k hk => .inl hk)) eg41 (fun x hx => by
    obtain ⟨cs, n0, n1, n2⟩ := hcells x hx
    have b12 := b1.trans (b2.mono b1.size)
    exact ⟨ck b12 n1, ck2 b12 n2, far_node hA n0⟩) hb
  rw [hk] at s2
  have HF : Hid (SeqKV (t.toL.filter (fun x => decide (key ≤ x.1))) A w (.returned (.func (.func 95) #[] #[.pointer (some ⟨w1.heap.size, 0, none⟩)])) w2) := Lib.hid ⟨_, rfl, s2, b1.trans (b2.mono b1.size)⟩
  rw [hw2, hz1] at HF
  clear hw2 s2 hb b2 s1 c2 c1 hcells hk hg hq hr h hu hA b1 hz1
  subst hw1
  go_enter Try.func84, Try.ntmps84
  go_wp2_with (go_at_call 88; (with_reducible refine pairs_any.mono ?_); rintro e w3 ⟨rfl, rfl⟩)
  go_ret
  exact HF.out

def Bound (t : T) : Prop := ∀ x ∈ t.toL, -9223372036854775808 ≤ x.1
end Go.Proofs.Ytdoedcfmhdnbgaa.bv
