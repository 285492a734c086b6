/-
  Alarms: the queue's Pop; the library's Fix, Push, Remove.
-/
import Derived.Test.YtnioaaahkhephaaAlmQ
namespace Go.Proofs.Ytnioaaahkhephaa.al
open Go.RowKit Go.Maps aid mem
attribute [local go_sem ↓] Go.wp_at_zero Go.wp_at_succ
set_option linter.unusedVariables false
set_option linter.unusedSimpArgs false

set_option maxRecDepth 100000 in
set_option maxHeartbeats 4000000 in
theorem pop_any {w : World} {C : Nat} {nm now : Int} {v : Value} {bm : Nat} {l : List Al} {D : DataW Unit} (h : QAt w C nm now v bm l D) (hP : Pl l D) (hl : l.length ≤ 100000) {n : Nat} (hn : l.length = n + 1) (hW : Wd l) :
    Calls Try.prog 56 #[.pointer (some ⟨C, 2, none⟩)] w (fun e w' => (∃ u, e = .returned u) ∧ QChg C nm now v bm (l.take n) w w') := by
  obtain ⟨b, cap, rfl, hlc, hcm, hce, hfr, n1, n2, n3⟩ := h.read (i := n) (by omega)
  have hc2 := cofr h.hdr 2 _ rfl
  obtain ⟨c0, c1⟩ := hce n (by omega)
  unfold maxLen at hcm
  have hfC := fofr h.hdr 2
  have hCl := lt_of_block h.hdr
  have b1 := bal (w := w) (.cells #[.int .i64 (g l n).1, .int .i64 (g l n).2] 71)
  have h1 := h.later b1
  have hc3 := cofr h1.hdr 2 _ rfl
  have hfC3 := fofr h1.hdr 2
  have HQ := Lib.hid (And.intro h (And.intro h1 b1))
  clear h1 b1
  have hxw := hW _ (g_mem (l := l) (i := n) (by omega))
  have hPP := Lib.hid (pl_pop hP hn)
  clear h hP hce hfr
  generalize g l n = x at *
  go_enter Try.func56, Try.ntmps56
  go_wp2_with (go_at_call 29; refine (len_list _ _ _ _).mono ?_; rintro e w2 ⟨rfl, rfl⟩)
  obtain ⟨h, h1, b1⟩ := HQ.out
  have hrow := h.row.cut (m := n) (by omega)
  obtain ⟨q2, k2, _, _⟩ := h.turn (Kept.refl _ w) hrow (fun k hk => .inl hk)
  have hz2 : (w.setCell ⟨C, 2, none⟩ (.slice (some ⟨b, 0, none⟩) n cap)).heap.size = w.heap.size := by simp
  generalize w.setCell ⟨C, 2, none⟩ (.slice (some ⟨b, 0, none⟩) n cap) = W1 at *
  have b3 := bal (w := W1) (.cells #[.int .i64 x.1, .int .i64 x.2] 71)
  have x3 := heap_alloc_new W1 (.cells #[.int .i64 x.1, .int .i64 x.2] 71)
  rw [hz2] at x3
  have q3 := q2.later b3
  have k3 := k2.trans (Kept.of_below b3 (Nat.le_refl _) (C :: bm :: blkV (.slice (some ⟨b, 0, none⟩) l.length cap))) (fun _ h => .inl h)
  generalize W1.alloc (.cells #[.int .i64 x.1, .int .i64 x.2] 71) = X2 at *
  have hbmn : w.heap.size ≠ bm := by have := h.bm_lt; omega
  have d3 := cofr q3.hdr 3 _ rfl
  have e0 := cofr x3 0 _ rfl
  have HM := Lib.hid (q3.later (Below.refl _ _).drew).map
  have HS := Lib.hid (fun (w' : World) (hm : MapAt w' bm (Maps.size D) (D.del (kl x.1))) (hg : X2.drew.grownBy w' (some bm)) => show QChg C nm now (.slice (some ⟨b, 0, none⟩) l.length cap) bm (l.take n) w w' ∧ w'.heap[w.heap.size]? = some (.cells #[.int .i64 x.1, .int .i64 x.2] 71 (0, 0)) from by
    obtain ⟨q4, k4⟩ := (q3.later (Below.refl _ _).drew).strike hm hg
    have k5 := k3.trans (Kept.of_below (Below.refl _ X2).drew (Nat.le_refl _) (C :: bm :: blkV (.slice (some ⟨b, 0, none⟩) l.length cap))) (fun _ h => .inl h)
    exact ⟨⟨_, _, q4, hPP.out, k5.trans k4 (fun k hk => .inl (by simp at hk; simp [hk])), fun k hk => .inl hk⟩, k4.heap (by simpa using hbmn) x3⟩)
  clear h h1 b1 hrow q2 k2 hz2 b3 x3 q3 k3 HQ hc2 c0 c1 hfC hc3 hfC3 hPP
  go_region_law ((refine step_delete rfl (.tmp 30) (.tmp 32) rfl bm _ D rfl HM.out x.1 rfl hxw ?_; intro w' hm hg; obtain ⟨hch, hbx⟩ := HS.out w' hm hg; have u0 := cofr hbx 0 _ rfl; have u1 := cofr hbx 1 _ rfl; have HF := Lib.hid hch; clear hm hg hch hbx))
  all_goals
    clear HM HS d3 e0
    go_wp2_with fail
    go_ret
    exact ⟨⟨_, rfl⟩, HF.out⟩
end Go.Proofs.Ytnioaaahkhephaa.al
