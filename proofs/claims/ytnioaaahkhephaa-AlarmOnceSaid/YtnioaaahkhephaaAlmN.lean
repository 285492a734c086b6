/-
  Alarms: the reference: New, Advance.
-/
import Derived.Test.YtnioaaahkhephaaAlmK
namespace Go.Proofs.Ytnioaaahkhephaa.al
open Go.RowKit Go.Maps aid mem
attribute [local go_sem ↓] Go.wp_at_zero Go.wp_at_succ
set_option linter.unusedVariables false
set_option linter.unusedSimpArgs false

def RetCN (now : Int) (L : List Int) (w : World) (e : Ending) (w' : World) : Prop := ∃ a cap, e = .returned (rc now a L.length cap) ∧ SlA .i64 w' a L.length cap L ∧ Below w.heap.size w w' ∧ ∀ x, a = some x → w.heap.size ≤ x.block
abbrev rep (k : Nat) : List Int := List.replicate k (-1)
theorem rep_snoc (k : Nat) : rep k ++ [-1] = rep (k + 1) := by simp [rep, List.replicate_succ']
/-- the box of the result, the clock's box, its row -/
structure NB (w : World) (k : Nat) (a : Option Addr) (cap : Nat) (X : World) : Prop where
  res : X.heap[w.heap.size]? = some (rcO 0 none 0 0)
  box : X.heap[w.heap.size + 1]? = some (rcO 0 a k cap)
  row : X.ownsRow (w.heap.size + 2) 3 1 (.slice a k cap) k (ints .i64 (rep k))
  below : Below w.heap.size w X
section
variable {w X Y : World} {k cap : Nat} {a : Option Addr}
theorem NB.later (h : NB w k a cap X) (hb : Below X.heap.size X Y) : NB w k a cap Y :=
  ⟨(hb.block _ (lt_of_block h.res)).trans h.res, (hb.block _ (lt_of_block h.box)).trans h.box, own_later h.row hb, h.below.trans (hb.mono h.below.size)⟩
theorem NB.grow (h : NB w k a cap X) {a' : Option Addr} {cap' : Nat} {W : World} (ho : W.ownsRow (w.heap.size + 2) 3 1 (.slice a' (k + 1) cap') (k + 1) (ints .i64 (rep k) ++ [.int .i64 (-1)])) (hg : (X.alloc (.cells #[.int .i64 (-1)] 3)).grownBy W (Value.ownBlock (.slice a k cap))) :
    NB w (k + 1) a' cap' (W.setCell ⟨w.heap.size + 1, 1, none⟩ (.slice a' (k + 1) cap')) ∧ W.frozen? ⟨w.heap.size + 1, 1, none⟩ = false ∧ W.cell? ⟨w.heap.size + 1, 1, none⟩ = some (.slice a k cap) := by
  have h1 := h.later (bal (w := X) (.cells #[.int .i64 (-1)] 3))
  have hr := (hg.block w.heap.size (lt_of_block h1.res) (fun e => by have := (own_in h1.row e.symm).2; omega)).trans h1.res
  have hx := (hg.block (w.heap.size + 1) (lt_of_block h1.box) (fun e => by have := (own_in h1.row e.symm).2; omega)).trans h1.box
  have k1 : Kept [w.heap.size + 1] W (W.setCell ⟨w.heap.size + 1, 1, none⟩ (.slice a' (k + 1) cap')) := (Kept.refl [w.heap.size + 1] W).setCell (.inl (by simp)) _
  have hb : Below w.heap.size w W := h1.below.trans (below_grown hg h1.below.size (fun j hj => by have := (own_in h1.row hj).2; omega))
  refine ⟨⟨k1.heap (by simp) hr, (heap_setCell_same W _ 1 _ _ _ hx).trans rfl, ?_, hb.trans (k1.below (fun j hj => by simp at hj; omega) hb.size)⟩, fofr hx 1, cofr hx 1 _ rfl⟩
  refine own_step (W := W) ?_ (fun j o hj ho' => k1.heap (fun e => by simp at e; have := (own_in ho hj).2; omega) ho')
  rw [← rep_snoc, ints_append]
  exact ho
theorem NB.end_ (h : NB w k a cap X) : Hid (((X.setCell ⟨w.heap.size, 0, none⟩ (.int .i64 0)).setCell ⟨w.heap.size, 1, none⟩ (.slice a k cap)).heap[w.heap.size]? = some (rcO 0 a k cap) ∧
    RetCN 0 (rep k) w (.returned (rc 0 a k cap)) ((X.setCell ⟨w.heap.size, 0, none⟩ (.int .i64 0)).setCell ⟨w.heap.size, 1, none⟩ (.slice a k cap))) := by
  obtain ⟨r1, r2, k1⟩ := res_put (w := w) h.res (Nat.le_refl _) h.below 0 a k cap
  have hl : (rep k).length = k := by simp [rep]
  obtain ⟨a2, c2, e, hs, hb⟩ := sl_of_own h.row
  injection e with e1 _ e2
  subst e1; subst e2
  refine Lib.hid ⟨r1, a, cap, by rw [hl], ?_, r2, fun x hx => by have := (own_in h.row (hb x hx)).2; omega⟩
  rw [hl]
  exact hs.keep k1 (fun x hx => by
    have := (own_in h.row (hb x hx)).2
    simp; omega)
end
theorem neg_src (X : World) : Src Try.prog 1 28 (.slice (some ⟨X.heap.size, 0, none⟩) 1 1) 1 [.int .i64 (-1)] (X.alloc (.cells #[.int .i64 (-1)] 3)) := int_src X (-1)
set_option maxHeartbeats 4000000 in
theorem rnew_any (w : World) (n : Nat) (hn : n ≤ 1000) : Calls Try.prog 9 #[.int .i64 n] w (RetCN 0 (rep n) w) := by
  obtain ⟨i0, hi0, hz0, hz1, hz2⟩ := info_split info_int8
  have N0 : NB w 0 none 0 ((w.alloc (rcO 0 none 0 0)).alloc (rcO 0 none 0 0)) := by
    have h1 := bal (w := w) (rcO 0 none 0 0)
    have h2 := bal (w := w.alloc (rcO 0 none 0 0)) (rcO 0 none 0 0)
    have x2 := heap_alloc_new (w.alloc (rcO 0 none 0 0)) (rcO 0 none 0 0)
    have hz : (w.alloc (rcO 0 none 0 0)).heap.size = w.heap.size + 1 := by simp
    rw [hz] at x2
    exact ⟨(h2.block _ (by omega)).trans (heap_alloc_new w _), x2, World.ownsRow_nil _ _ _ _, h1.trans (h2.mono h1.size)⟩
  have HN := Lib.hid N0
  clear N0
  go_enter Try.func9, Try.ntmps9
  go_wp2_with fail
  go_loopw [4] (fun s4 wr => ∃ k : Nat, k ≤ n ∧ s4 = .int .i64 k ∧ Hid (∃ a cap, NB w k a cap wr)) (fun s4 _ => n - (intOf s4).toNat)
  case atStart => exact ⟨0, Nat.zero_le _, rfl, Lib.hid ⟨_, _, HN.out⟩⟩
  case round =>
    clear HN
    obtain ⟨k, hk, rfl, HK⟩ := hrel
    obtain ⟨a, cap, K⟩ := HK.out
    have c0 := cofr K.box 0 _ rfl
    have c1 := cofr K.box 1 _ rfl
    have r0 := fofr K.res 0
    have r1 := fofr K.res 1
    have d0 := cofr K.res 0 _ rfl
    have d1 := cofr K.res 1 _ rfl
    by_cases hlt : k < n
    · have HO := Lib.hid (own_later K.row (bal (w := wr) (.cells #[.int .i64 (-1)] 3)))
      have HSRC := Lib.hid (neg_src wr)
      have HG := Lib.hid (fun (a' : Option Addr) (cap' : Nat) (W : World) ho hg => K.grow (a' := a') (cap' := cap') (W := W) ho hg)
      have hge : w.heap.size + 2 ≤ wr.heap.size := by have := lt_of_block K.box; omega
      clear K HK r0 r1 d0 d1
      go_wp2_with (at_builtin; go_must (refine wpList_append_any _ rfl (.tmp 12) (.tmp 13) 28 28 rfl (w.heap.size + 2) 3 i0 (.int .i64 0) 8 Try.underlying28 hi0 hz0 hz1 hz2 rfl (.slice a k cap) k (ints .i64 (rep k)) rfl HO.out _ rfl 1 [.int .i64 (-1)] HSRC.out (by unfold maxLen; omega) (by omega) (by simp; omega) ?_); intro a7 c7 w4 ho hg hw; obtain ⟨hN, hf, hc⟩ := HG.out a7 c7 w4 ho hg; have HN2 := Lib.hid (And.intro hN hf); clear ho hg hw hN HO HSRC HG)
      go_roundw
      case rel => exact ⟨k + 1, by omega, by go_num, Lib.hid ⟨_, _, HN2.out.1⟩⟩
      case measure => simp [intOf]; omega
    · obtain rfl : k = n := by omega
      have HE := K.end_
      have y0 := cofr HE.out.1 0 _ rfl
      have y1 := cofr HE.out.1 1 _ rfl
      clear K HK
      go_wp2_with fail
      exact bodyPost_ret (v := rc 0 a k cap) (by simp [results, Try.results9, go_sem, y0, y1]) rfl HE.out.2
end Go.Proofs.Ytnioaaahkhephaa.al
