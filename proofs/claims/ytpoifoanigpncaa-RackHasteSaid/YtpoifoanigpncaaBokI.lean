/-
  Package book: the nodes of a line, gone through.
-/
import Derived.RangeFuncWrites
import Derived.Shelf.Abstract
import Derived.Shelf.RegionOpen
import Derived.WalkKit
import Derived.OwnWalkIn
import Derived.TacticsInMore
import Derived.LoopNIn
import Derived.LoopIn
import Derived.Test.YtpoifoanigpncaaRng
import Derived.Test.YtpoifoanigpncaaBokG
namespace Go.Proofs.Ytpoifoanigpncaa.bk
open Go.RowKit Go.Shelf aid mem rng
attribute [local go_sem] Oper.semAt_some
set_option linter.unusedVariables false
set_option linter.unusedSimpArgs false

abbrev nE (x : Nd) : Array Value := #[.pointer (some ⟨x.1, 0, none⟩)]
/-- how many nodes there are from a pointer on -/
def remL (L : List Nd) : Value → Nat
  | .pointer (some a) => (L.dropWhile (fun x => decide (x.1 ≠ a.block))).length
  | _ => 0
theorem rem_at {L pre post : List Nd} {x : Nd} (hL : pre ++ x :: post = L) (hn : (L.map (·.1)).Nodup) : remL L (.pointer (some ⟨x.1, 0, none⟩)) = post.length + 1 := by
  subst hL
  obtain ⟨_, d2, _⟩ := nodup_mid (n := x.1) (r := x.2) hn
  show (List.dropWhile (fun y => decide (y.1 ≠ x.1)) (pre ++ x :: post)).length = _
  rw [List.dropWhile_append_of_pos (fun y hy => by simpa using d2 y hy)]
  simp
theorem rem_hd {L pre post : List Nd} {x : Nd} (hL : pre ++ x :: post = L) (hn : (L.map (·.1)).Nodup) : remL L (pA (hd none post)) = post.length := by
  cases post with
  | nil => rfl
  | cons y post => exact rem_at (pre := pre ++ [x]) (by simpa using hL) hn
/-- what stands while the nodes are gone through; E: the order of the last one -/
structure Cl (W : World) (C0 : Nat → Prop) (l : Nat) (J Jx : List Nd → (Nat → Prop) → World → Prop) (L : List Nd) (E : Int) : Prop where
  yd : ∀ pre x C W1, J pre C W1 → W.heap.size ≤ W1.heap.size → pre ++ [x] <+: L → Yd Try.prog l (nE x) W1 fun e W' =>
      ∃ C', Round C W1 C' W' ∧ ((e = .returned (.bool true) ∧ J (pre ++ [x]) C' W') ∨ (e = .returned (.bool false) ∧ Jx (pre ++ [x]) C' W'))
  rd : ∀ pre x post C W1, pre ++ x :: post = L → J pre C W1 → It C0 W C W1 → W1.cell? ⟨x.1, 3, none⟩ = some (.int .i64 x.2.order) ∧ W1.cell? ⟨x.1, 8, none⟩ = some (pA (hd none post)) ∧ x.2.order ≤ E
  nd : (L.map (·.1)).Nodup
set_option maxRecDepth 100000 in
set_option maxHeartbeats 4000000 in
theorem nodes_any {W : World} {C0 : Nat → Prop} {l B : Nat} {J Jx : List Nd → (Nat → Prop) → World → Prop} {L : List Nd} {E : Int} (hx : Cl W C0 l J Jx L E) (h4 : W.cell? ⟨B, 4, none⟩ = some (pA (hd none L))) (h5 : W.cell? ⟨B, 5, none⟩ = some (pA (la none L)))
    (hE : ∀ L' x, L = L' ++ [x] → W.cell? ⟨x.1, 3, none⟩ = some (.int .i64 E)) (hJ : J [] C0 W) (hI : It C0 W C0 W) :
    Calls Try.prog 72 #[.pointer (some ⟨B, 4, none⟩), .func (.yield l) #[] #[]] W fun e W' => (∃ v, e = .returned v) ∧ ∃ C', It C0 W C' W' ∧ (J L C' W' ∨ ∃ pre, Jx pre C' W') := by
  refine (callsIn_wide (n := 6)).1 ?_
  refine callsIn_of_wp Try.func72 rfl trivial ?_ rfl
  simp only [Try.ntmps72, List.size_toArray, List.length_cons, List.length_nil, Nat.reduceAdd, Nat.reduceSub, Array.replicate_succ, Array.replicate_zero, List.push_toArray, List.append_toArray, List.nil_append, List.cons_append]
  rcases List.eq_nil_or_concat L with rfl | ⟨L', y, rfl⟩
  · simp only [hd, la, pA, Option.map] at h4 h5
    have H0 := Lib.hid hJ
    have HI := Lib.hid hI
    clear hx hE hJ hI
    gi_wp2
    exact bodyPost_ret (v := .tuple #[]) (results_none rfl _ _ _) rfl ⟨⟨_, rfl⟩, C0, HI.out, .inl H0.out⟩
  · rw [List.concat_eq_append] at *
    have h3 := hE L' y rfl
    have hla : la none (L' ++ [y]) = some y.1 := by rw [la_append]; rfl
    rw [hla] at h5
    replace h5 : W.cell? ⟨B, 5, none⟩ = some (.pointer (some ⟨y.1, 0, none⟩)) := h5
    have H0 := Lib.hid hJ
    have HI0 := Lib.hid hI
    have HX := Lib.hid hx
    generalize L' ++ [y] = L at *
    clear hx hE hJ hI hla
    obtain ⟨F0, hF⟩ : ∃ F0, F0 = pA (hd none L) := ⟨_, rfl⟩
    rw [← hF] at h4
    have HF := Lib.hid hF
    clear hF
    gi_wp2
    gi_loopw [5] (fun u wr => ∃ (pre post : List Nd) (C : Nat → Prop), u = pA (hd none post) ∧ pre ++ post = L ∧ J pre C wr ∧ It C0 W C wr) (fun u _ => remL L u)
    case atStart => exact ⟨[], L, C0, HF.out, rfl, H0.out, HI0.out⟩
    case round =>
      obtain ⟨pre, post, C, rfl, hp, hj, hI⟩ := hrel
      clear h3 h4 h5
      cases post with
      | nil =>
        rw [List.append_nil] at hp
        subst hp
        have HJ := Lib.hid hj
        have HI := Lib.hid hI
        clear hj hI
        simp only [hd, pA, Option.map]
        gi_wp2
        all_goals exact bodyPost_end (v := .tuple #[]) (results_none rfl _ _ _) rfl ⟨⟨_, rfl⟩, C, HI.out, .inl HJ.out⟩
      | cons x post =>
        obtain ⟨r3, r8, rE⟩ := HX.out.rd pre x post C wr hp hj hI
        obtain ⟨V, hV⟩ : ∃ V, V = pA (hd none post) := ⟨_, rfl⟩
        rw [← hV] at r8
        have HV := Lib.hid hV
        clear hV
        have hp' : (pre ++ [x]) ++ post = L := by rw [← hp]; simp
        have hy := HX.out.yd pre x C wr hj hI.kept.size ⟨post, hp'⟩
        obtain ⟨fn, tmps, assign, body, hyy, hYY⟩ := hy.at 5
        have HM := Lib.hid (And.intro (rem_at hp HX.out.nd) (rem_hd hp HX.out.nd))
        have HP := Lib.hid hp'
        have HI := Lib.hid hI
        clear hy hj hI hp hp' H0 HI0
        simp only [hd, pA, Option.map]
        gi_wp2
        refine hYY.mono ?_
        clear hyy hYY r3 r8
        rintro e w3 ⟨C2, hr2, ⟨rfl, hJ2⟩ | ⟨rfl, hJ2⟩⟩
        · have hI2 := HI.out.round hr2
          clear hr2
          gi_wp2
          go_roundw
          case rel => exact ⟨pre ++ [x], post, C2, HV.out, HP.out, hJ2, hI2⟩
          case measure => have := HM.out; rw [← HV.out] at this; simp at this ⊢; omega
        · have hI2 := HI.out.round hr2
          gi_wp2
          exact bodyPost_ret (v := .tuple #[]) (results_none rfl _ _ _) rfl ⟨⟨_, rfl⟩, C2, hI2, .inr ⟨_, hJ2⟩⟩
end Go.Proofs.Ytpoifoanigpncaa.bk
