/-
  For every input the call of undertowlaw25.DuctNone returns true, and each argument reads behind the call as it read before. No condition.
-/
import Derived.Sort.QuietIn
import Derived.Sort.CutIn
import Derived.Test.YtahegkbdefhlpaaRows
import Derived.WalkKit
import Derived.ProofKit
import Derived.OpenShut
import Derived.ShutString
import Derived.ChangeOld
import Derived.Below
import Derived.Test.YtahegkbdefhlpaaM3
/-!   DuctNone.
-/
namespace Go.Proofs.Ytahegkbdefhlpaa.dc
open Go.RowKit Go.Shelf Go.Maps aid mem rng
attribute [local go_sem] Oper.semAt_some
set_option linter.unusedVariables false
set_option linter.unusedSimpArgs false

/-- the box of the law's answer, in a later world -/
structure NB (w X : World) : Prop where
  hx : X.heap[w.heap.size]? = some (.cells #[.bool false] 4 (0, 0))
  below : Below w.heap.size w X
theorem NB.later {w X Y : World} (h : NB w X) (hb : Below X.heap.size X Y) : NB w Y := ⟨(hb.block _ (lt_of_block h.hx)).trans h.hx, h.below.trans (hb.mono h.below.size)⟩
structure ND (w : World) (D : Nat) (X : World) : Prop where
  nb : NB w X
  dd : X.heap[D]? = some (.deferred (some []))
  ne : w.heap.size < D
theorem ND.later {w X Y : World} {D : Nat} (h : ND w D X) (hb : Below X.heap.size X Y) : ND w D Y := ⟨h.nb.later hb, (hb.block _ (lt_of_block h.dd)).trans h.dd, h.ne⟩
theorem below_put {n : Nat} {w : World} {D : Nat} (o : Obj) (h : n ≤ D) (hn : n ≤ w.heap.size) : Below n w (w.putObj D o) :=
  (rng.Steps.putObj (fun k => k < n) w D o (by omega)).below hn (fun k hk => hk)
set_option maxRecDepth 1000000 in
set_option maxHeartbeats 8000000 in
theorem walk_DuctNone (w : World) (a : Option Addr) (len cap : Nat) (zs : List Int) (hrow : IsRow .u8 w a len cap zs) (n : Int) (hn : -9223372036854775808 ≤ n ∧ n ≤ 9223372036854775807) :
    Calls Try.prog 6 #[.slice a len cap, .int .i64 n] w fun x w' => x = .returned (.bool true) ∧ Below w.heap.size w w' := by
  have hMO : Try.prog.follows .mixedOrders = true := by kernel_rfl
  clear hrow
  refine (callsIn_wide (n := 6)).1 ?_
  refine callsIn_of_wp_marks Try.func6 rfl trivial ?_ rfl
  simp only [Try.ntmps6, List.size_toArray, List.length_cons, List.length_nil, Nat.reduceAdd, Nat.reduceSub, Array.replicate_succ, Array.replicate_zero, List.push_toArray, List.append_toArray, List.nil_append, List.cons_append]
  have N0 : NB w (w.alloc (.cells #[.bool false] 4)) := ⟨heap_alloc_new w _, bal _⟩
  have HFL := Lib.hid (fun X => flying_any none X)
  unfold RetFl at HFL
  have hfn : ∀ f, Fence.wide.fn f := fun _ => trivial
  gi_wp2_with (first
    | (gi_at_call 7; refine (callsIn_wide.2 (known_any _)).mono ?_; rintro e w1 ⟨rfl, h1⟩; replace N0 := N0.later h1; clear h1)
    | (gi_at_call 12; refine (callsIn_wide.2 (put_nil _ n _).below).mono ?_; rintro e w2 ⟨rfl, h1⟩; replace N0 := N0.later h1; clear h1)
    | (gi_at_call 19; refine (callsIn_wide.2 (double_nil n n _).below).mono ?_; rintro e w3 ⟨rfl, h1⟩; replace N0 := N0.later h1; clear h1)
    | (gi_at_call 15; refine (callsIn_wide.2 (take_nil n n _).below).mono ?_; rintro e w4 ⟨rfl, h1⟩; replace N0 := N0.later h1; clear h1)
    | (gi_at_call 20; refine (callsIn_wide.2 (nth_nil n _)).mono ?_; rintro e w5 ⟨rfl, h1⟩; replace N0 := N0.later (h1.trans ((bal (w := w5) (.cells #[.int .i64 0, .int .i64 0, .int .i64 0, .slice none 0 0] 53)).mono h1.size)); clear h1)
    | (gi_at_call 13; refine (callsIn_wide.2 (fate_nil n _)).mono ?_; rintro e w6 ⟨rfl, h1⟩; replace N0 := N0.later (h1.trans ((bal (w := w6) (.cells #[.int .i64 0, .int .i64 0, .int .i64 0, .int .i64 0] 41)).mono h1.size)); clear h1)
    | (gi_at_call 21; refine (callsIn_wide.2 (HFL.out _)).mono ?_; rintro e w7 ⟨bx, rfl, hcx, h1, hbx⟩; replace N0 := N0.later h1; clear h1))
  obtain ⟨N1, hsq⟩ : NB w w7 ∧ SeqOfM (fun (_ : Nat) _ _ => False) Try.prog 36 #[.pointer (some ⟨bx, 0, none⟩)] [] (fun _ => False) w7 := ⟨N0, fly_none hcx _ (fun h => h)⟩
  have HSEQ := Lib.hid hsq
  clear hsq N0 hcx hbx
  have hw7 : w.heap.size < w7.heap.size := lt_of_block N1.hx
  refine wpIn_rangeM (gf := 36) (lb := #[.pointer (some ⟨bx, 0, none⟩)]) (L := []) (A := fun _ => False) (w0 := w7) (R := fun (_ : Nat) _ _ => False) rfl eg_fly HSEQ.out (Below.refl _ _) (fun _ _ _ h => h.elim)
    (fun _ _ X => NB w X) (fun _ _ _ _ => False) (fun _ => False) (fun _ h => h.elim) ?hI (fun _ _ _ _ _ h => h.elim) N1 (fun _ _ _ _ => False) (fun _ _ _ _ _ h => h.elim) (fun _ _ _ _ _ _ _ h => h.elim) (fun _ _ _ _ _ _ _ h => h.elim) ?done (fun _ _ _ _ _ _ _ h => h.elim)
  case hI =>
    rintro pre C X Y h hz hs
    exact ⟨hs.heap (.inl hw7) h.hx, h.below.trans (hs.below (Nat.le_of_lt (Nat.lt_of_lt_of_le hw7 hz)) (fun k hk => .inl (by omega)))⟩
  case done =>
    rintro D C X hD _ N2 hK
    have hDX := lt_of_block hK
    clear HSEQ N1
    have N3 : ND w D X := ⟨N2, hK, by omega⟩
    clear N2 hK hD hDX
    gi_wp2_with (first
      | (gi_at_call 14; refine (callsIn_wide.2 (drop_nil n n _).below).mono ?_; rintro e w8 ⟨rfl, h1⟩; replace N3 := N3.later h1; clear h1)
      | (gi_at_call 17; refine (callsIn_wide.2 (len_nil _).below).mono ?_; rintro e w9 ⟨rfl, h1⟩; replace N3 := N3.later h1; clear h1)
      | (gi_at_call 18; refine (callsIn_wide.2 (total_nil _).below).mono ?_; rintro e w10 ⟨rfl, h1⟩; replace N3 := N3.later h1; clear h1)
      | (gi_at_call 11; refine (callsIn_wide.2 (clone_nil _).below).mono ?_; rintro e w11 ⟨rfl, h1⟩; replace N3 := N3.later h1; clear h1)
      | (gi_at_call 7; refine (callsIn_wide.2 (known_any _)).mono ?_; rintro e w12 ⟨rfl, h1⟩; replace N3 := N3.later h1; clear h1; have cR := cofr N3.nb.hx 0 _ rfl; have fR := fofr N3.nb.hx 0))
    obtain ⟨nb, dd, hne⟩ := N3
    have ks : Kept [w.heap.size] w12 (w12.setCell ⟨w.heap.size, 0, none⟩ (.bool true)) := (Kept.refl [w.heap.size] w12).setCell (.inl (by simp)) _
    have dd2 := ks.heap (by simp; omega) dd
    have hx2 := heap_setCell_same w12 w.heap.size 0 _ _ (.bool true) nb.hx
    have hx3 := (World.putObj_heap_other (w := w12.setCell ⟨w.heap.size, 0, none⟩ (.bool true)) (r := D) (o := .deferred none) (k := w.heap.size) (by omega)).trans hx2
    have cF := cofr hx3 0 _ rfl
    refine ⟨by simp, .inl ⟨_, _, rfl, run_takeDeferred dd2, ?_⟩⟩
    refine ⟨.bool true, by simp [results, Try.results6, go_sem, cF], rfl, ?_⟩
    exact (nb.below.trans (ks.below (B := w.heap.size) (by simp) nb.below.size)).trans (below_put _ (by omega) (by have := nb.below.size; simpa using this))
end Go.Proofs.Ytahegkbdefhlpaa.dc
namespace Go.Proofs.Ytahegkbdefhlpaa.ductNone
open Go.ChangeShapes Go.WideShapes Go.ChangeAt Go.RowKit
open Go.ChangeMaps (open_string shut_string)
set_option linter.unusedVariables false

theorem own : ownKnob Try.prog.godebug = none := by kernel_rfl
theorem laidOut : laidOutB Try.prog = true := by kernel_rfl

set_option maxRecDepth 100000 in
theorem contract (H : Type) (enc : TypeId × Value → H) (W : World) (base : Nat) (args : Array Value) (ds gs : List (DataW H)) (before : List MemPlace)
    (hval0 : ∀ (j : Nat) t v, Try.f6.params[j]? = some t → args[j]? = some v → Value.okWide Try.prog W .any base t v)
    (hW : DataW.Whole enc Try.prog Try.f6.params.toList Rows.ductNoneSpec.vars false W args.toList ds gs before) :
    Calls Try.prog 6 args W fun e W' => ∃ v, e = .returned v ∧ Rows.ductNoneSpec.post enc Try.prog Try.f6 false true false false W args v W' := by
  have hval : ∀ (j : Nat) t v, Try.f6.params[j]? = some t → args[j]? = some v → Value.okWide Try.prog W .any base t v := hval0
  have hW' := hW
  obtain ⟨p, q, hA0, hV, rfl, hfz, hnd⟩ := hW
  have hA : DataW.TrodAll enc Try.prog W 0 (fun _ => true) true Try.f6.params.toList args.toList ds p := hA0
  rw [Try.params6] at hA hval
  obtain ⟨v0, vs0, d0, ds0, p0, q0, hargs, rfl, rfl, h0, r0⟩ := trodAll_cons hA
  obtain ⟨v1, vs1, d1, ds1, p1, q1, rfl, rfl, rfl, h1, r1⟩ := trodAll_cons r0
  obtain ⟨rfl, rfl, rfl⟩ := trodAll_nil r1
  obtain rfl : args = #[v0, v1] := by cases args; simp_all
  obtain ⟨rfl, rfl⟩ := trodVars_none hV
  obtain ⟨a0, len0, cap0, rfl⟩ := okWide_slice Try.underlying23 (hval 0 23 v0 rfl rfl)
  have k0 := h0
  have lt0 : ∀ x ∈ p0, x.block < W.heap.size := by obtain ⟨m, hm⟩ := k0; exact DataW.trod_lt m _ _ _ hm
  obtain ⟨z0, w0⟩ : ∃ zs, aid.IsRow .u8 W a0 len0 cap0 zs := by
    obtain ⟨fuel, hf⟩ := h0
    rcases open_ints Try.underlying23 Try.underlying5 (by kernel_rfl) hf with ⟨hcs, _⟩ | ⟨x, l, c, zs, hcs, _, hl, hm, hz, hx, hcell, hwz⟩
    · simp [Value.cells] at hcs
      obtain ⟨rfl, rfl, rfl⟩ := hcs
      exact ⟨[], .inl ⟨rfl, rfl, rfl, rfl⟩⟩
    · simp [Value.cells] at hcs
      obtain ⟨rfl, rfl, rfl⟩ := hcs
      exact ⟨zs, .inr ⟨_, rfl, hl, hm, by simpa using hz, hcell, hwz⟩⟩
  obtain ⟨a1, rfl, rfl, rfl, w1⟩ := open_int Try.underlying3 (hval 1 3 v1 rfl rfl) h1
  clear hA0 hval0
  refine (dc.walk_DuctNone (w := W) a0 len0 cap0 z0 w0 a1 (bounds_i64 w1)).mono fun e W' ⟨he, bel⟩ => ?_
  subst he
  exact ⟨_, rfl, _, _, _, [], _, [], hW', trodAll_mk1 (shut_bool Try.underlying4 _), (trodAll_cons_mk (Below.trod laidOut (by kernel_rfl) (of_decide_eq_true (by kernel_rfl)) k0 bel lt0) (trodAll_cons_mk (shut_int Try.underlying3 w1) trodAll_mk0)), rfl, bel.frame _, fun h => by cases h⟩

set_option maxRecDepth 100000 in
theorem lifted (os : Os) (started : os.Started) (H : Type) (enc : TypeId × Value → H) :
    ReturnsInHanded {} Try.checked os 6 .any (Rows.ductNoneSpec.pre6 enc Try.prog Try.f6 Rows.ductNoneRow.domain false) (Rows.ductNoneSpec.post enc Try.prog Try.f6 false true false false) := by
  refine returnsInHanded_of_change (C := Try.checked) own started (by kernel_rfl) Try.func6
    (ChangeSpec.witness6 (enc := enc) (C := Try.checked) false ⟨#[], #[.slice none 0 0, .int .i64 0], []⟩ 8 (by kernel_rfl) (by kernel_rfl) (by kernel_rfl) (by kernel_rfl)) ?_
  intro W base args ds gs before hval0 hW hcnd _
  exact contract H enc W base args ds gs before hval0 hW

theorem over : Rows.ductNoneRow.holds Try.pinned (OpenSpec.ofChange Rows.ductNoneSpec) :=
  OpenClaim.holds_of_wide 6 Try.f6 rfl rfl rfl rfl rfl rfl rfl ⟨rfl, rfl, rfl, rfl, rfl⟩ rfl rfl rfl rfl rfl (by kernel_rfl) Try.func6 (by kernel_rfl)
    (of_decide_eq_true (by kernel_rfl)) (by unfold Func.isWrapper; first | (rw [if_pos (by decide +kernel)]; kernel_rfl) | (rw [if_neg (by decide +kernel)]; exact ⟨rfl, rfl⟩))
    (fun os started H enc _ => lifted os started H enc)

theorem proved : Rows.DuctNoneSaid := over
#print axioms proved
end Go.Proofs.Ytahegkbdefhlpaa.ductNone
