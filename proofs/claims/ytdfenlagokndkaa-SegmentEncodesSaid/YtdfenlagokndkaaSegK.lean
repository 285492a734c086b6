/-
  Layer 5: what must come of fixed calls; the walks of the laws SegmentBack and SegmentTold.
-/
import Derived.Test.YtdfenlagokndkaaSegJ
import Derived.OpenShut
namespace Go.Proofs.Ytdfenlagokndkaa.sg
open Go.RowKit aid mem oc op sm
set_option linter.unusedVariables false

theorem old_none (w : World) : Old w none 0 := fun x hx => by cases hx

set_option maxRecDepth 100000 in
set_option maxHeartbeats 3200000 in
theorem known_any (w : World) : Calls Try.prog 11 #[] w fun e w' => e = .returned (.bool true) ∧ Below w.heap.size w w' := by
  have hfit : (⟨2, 5, Opt.zero, []⟩ : Seg).Fit := ⟨by decide, by decide, ⟨by decide, by decide, by decide, by decide, by simp [Opt.zero]⟩, by simp [Bd]⟩
  have hk0 : schk ⟨2, 5, Opt.zero, []⟩ = 0 := by decide
  have hL : sencL ⟨2, 5, Opt.zero, []⟩ = [2, 0, 253, 250, 0, 0, 0, 5] := by decide
  have hE := sencode_ok ⟨2, 5, Opt.zero, []⟩ none 0 0 none 0 0 w hfit (bl_none w) (sl_none w) (old_none w) hk0
  have HD := Lib.hid (fun x k c W h => sdecode_ok ⟨2, 5, Opt.zero, []⟩ x k c W hfit hk0 h)
  unfold DecPost at HD
  unfold RetEnc at hE
  rw [hL] at hE HD
  simp only [Opt.zero] at hE HD
  have HE := Lib.hid hE
  clear hfit hk0 hL hE
  go_enter Try.func11, Try.ntmps11
  go_wp2_with fail
  refine HE.out.mono ?_
  rintro e w1 ⟨v, rfl, hown, h1⟩
  obtain ⟨a1, c1, hv, hs1, _⟩ := sl_of_own hown
  subst hv
  have hs1' : SlA .u8 w1 a1 8 c1 [2, 0, 253, 250, 0, 0, 0, 5] := hs1
  have z1 := h1.size
  clear hown hs1
  simp only [List.length_cons, List.length_nil, Nat.zero_add, Nat.reduceAdd]
  go_wp2_with fail
  refine (HD.out a1 8 c1 w1 hs1').mono ?_
  rintro e w2 ⟨a2, n2, cap2, b2, k2, bc2, rfl, _, _, _, h2⟩
  have hs2 := hs1'.later h2
  have hB2 := h1.trans (h2.mono z1)
  have z2 := hB2.size
  clear h2 hs1' h1
  go_wp2_with fail
  generalize hw3 : w2.alloc (.cells #[.int .i64 2, .int .u32 5, .int .i64 0, .bool false, .bool false, .int .u32 0, .int .u32 0, .bool false, .int .i64 0, .slice a2 n2 cap2, .slice b2 k2 bc2] 28) = w3
  have hc : w3.cell? ⟨w2.heap.size, 1, none⟩ = some (.int .u32 5) := by rw [← hw3]; exact World.cell?_alloc_at _ _ _ _ rfl
  have hsz3 : w3.heap.size = w2.heap.size + 1 := by rw [← hw3]; simp
  have hB3 : Below w.heap.size w w3 := by rw [← hw3]; exact hB2.alloc z2 _
  have hs3 : SlA .u8 w3 a1 8 c1 [2, 0, 253, 250, 0, 0, 0, 5] := by rw [← hw3]; exact hs2.later (bal _)
  rw [← hsz3]
  have n3 : w2.heap.size ≠ w3.heap.size := by omega
  have hc3 := (bal (w := w3) (.cells (ints .u8 [2, 0, 253, 250, 0, 0, 0, 5]).toArray 5)).cell (p := ⟨w2.heap.size, 1, none⟩) (by show w2.heap.size < w3.heap.size; omega)
  rw [hc] at hc3
  clear hw3 hsz3 hs2 hB2
  have z3 := hB3.size
  refine (same_true a1 _ 8 c1 8 [2, 0, 253, 250, 0, 0, 0, 5] _ (hs3.later (bal (.cells (ints .u8 [2, 0, 253, 250, 0, 0, 0, 5]).toArray 5))) (sl_new .u8 5 w3 [2, 0, 253, 250, 0, 0, 0, 5] (by simp [maxLen]))).mono ?_
  rintro e w4 ⟨rfl, nq, hw4⟩
  have hB4 : Below w.heap.size w w4 := by rw [hw4]; exact below_drewN (hB3.alloc z3 _) _
  have hc4 : w4.cell? ⟨w2.heap.size, 1, none⟩ = some (.int .u32 5) := by rw [hw4]; exact hc3
  clear hw4 hc3 hc hs3
  go_wp2
  go_ret
  exact ⟨rfl, hB4⟩
end Go.Proofs.Ytdfenlagokndkaa.sg
