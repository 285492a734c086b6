/-
  Package buffer: one in memory; what is asked; New, Free, pieces.
-/
import Derived.Test.YtjkjbhapkmamkaaSpnR
import Derived.Test.YtjkjbhapkmamkaaBufC
import Derived.Test.YtjkjbhapkmamkaaBufX
import Derived.Laws.StructEq
import Derived.Deep.DrawnRows
import Derived.StillTailTactics
import Derived.IntWalk
namespace Go.Proofs.Ytjkjbhapkmamkaa.bf
open Go.RowKit aid mem sp
attribute [local go_sem ↓] Go.wp_at_zero Go.wp_at_succ
set_option linter.unusedVariables false
set_option linter.unusedSimpArgs false

theorem cofr {w : World} {B : Nat} {cs : Array Value} {T : TypeId} (h : w.heap[B]? = some (.cells cs T (0, 0))) (i : Nat) (v : Value) (hv : cs[i]? = some v) : w.cell? ⟨B, i, none⟩ = some v := (cell_of_row w B i cs T (0, 0) h).trans hv
theorem fofr {w : World} {B : Nat} {cs : Array Value} {T : TypeId} (h : w.heap[B]? = some (.cells cs T (0, 0))) (i : Nat) : w.frozen? ⟨B, i, none⟩ = false := by simp [World.frozen?, h]
theorem info_u8 : (Try.prog.info? 5).map (fun i => (i.zero, i.size, i.bytes)) = some (some (.int .u8 0), 1, 1) := by kernel_rfl
/-- a ring: its block, how much it holds at most, what stands behind it -/
structure Rg where
  b : Nat
  cap : Nat
  T : List Value
abbrev cellsB (x : Bf) (g : Rg) : Array Value := #[.int .i64 (x.una : Int), .int .i64 ((x.una : Int) + (x.l.length : Int)), .slice (some ⟨g.b, 0, none⟩) x.most g.cap]
/-- block B holds one, g its ring -/
structure BfAt (w : World) (B : Nat) (g : Rg) (x : Bf) : Prop where
  hdr : w.heap[B]? = some (.cells (cellsB x g) 50 (0, 0))
  row : ∃ R, w.heap[g.b]? = some (.cells (ints .u8 R ++ g.T).toArray 5 (0, 0)) ∧ Ring R x
  ok : Ok x
  cap : x.most ≤ g.cap ∧ g.cap ≤ maxLen
section
variable {w w' : World} {B : Nat} {g : Rg} {x : Bf} (h : BfAt w B g x)
include h
theorem BfAt.later (hb : Below w.heap.size w w') : BfAt w' B g x := by
  obtain ⟨h1, ⟨R, h2, h3⟩, h4, h5⟩ := h
  exact ⟨(hb.block B (lt_of_block h1)).trans h1, ⟨R, (hb.block g.b (lt_of_block h2)).trans h2, h3⟩, h4, h5⟩
theorem BfAt.keep {T : List Nat} (hk : Kept T w w') (hd : ∀ b ∈ [B, g.b], b ∉ T) : BfAt w' B g x := by
  obtain ⟨h1, ⟨R, h2, h3⟩, h4, h5⟩ := h
  exact ⟨hk.heap (hd B (by simp)) h1, ⟨R, hk.heap (hd g.b (by simp)) h2, h3⟩, h4, h5⟩
theorem BfAt.lt : ∀ b ∈ [B, g.b], b < w.heap.size := by
  obtain ⟨h1, ⟨R, h2, h3⟩, h4, h5⟩ := h
  intro b hb
  simp at hb
  rcases hb with rfl | rfl
  · exact lt_of_block h1
  · exact lt_of_block h2
theorem BfAt.cs : w.cell? ⟨B, 0, none⟩ = some (.int .i64 (x.una : Int)) ∧ w.cell? ⟨B, 1, none⟩ = some (.int .i64 ((x.una : Int) + (x.l.length : Int))) ∧ w.cell? ⟨B, 2, none⟩ = some (.slice (some ⟨g.b, 0, none⟩) x.most g.cap) :=
  ⟨cofr h.hdr 0 _ rfl, cofr h.hdr 1 _ rfl, cofr h.hdr 2 _ rfl⟩
theorem BfAt.f (i : Nat) : w.frozen? ⟨B, i, none⟩ = false := fofr h.hdr i
theorem BfAt.ne : B ≠ g.b := by
  rintro rfl
  obtain ⟨h1, ⟨R, h2, h3⟩, h4, h5⟩ := h
  rw [h1] at h2
  simp at h2
theorem BfAt.drewN (n : Nat) : BfAt (w.drewN n) B g x := h.later ⟨rfl, rfl, rfl, Nat.le_refl _, fun _ _ => rfl⟩
theorem BfAt.drew : BfAt w.drew B g x := h.later (Below.refl _ _).drew
/-- blocks of other types -/
theorem BfAt.typ {b : Nat} {cs : Array Value} {T : TypeId} (hb : w.heap[b]? = some (.cells cs T (0, 0))) (n1 : T ≠ 50) (n2 : T ≠ 5) : b ∉ [B, g.b] := by
  obtain ⟨h1, ⟨R, h2, h3⟩, h4, h5⟩ := h
  intro he
  simp at he
  rcases he with rfl | rfl
  · rw [h1] at hb; simp at hb; exact n1 hb.2.symm
  · rw [h2] at hb; simp at hb; exact n2 hb.2.symm
end
/-- behind a call that changes it -/
def RetW (v : Value) (B : Nat) (g : Rg) (x' : Bf) (w : World) (e : Ending) (w' : World) : Prop := e = .returned v ∧ BfAt w' B g x' ∧ Kept [B, g.b] w w'
/-- a call that changes nothing but draws -/
def Q (f : FuncId) (args : Array Value) (v : Value) (w : World) : Prop := ∀ n, Calls Try.prog f args (w.drewN n) fun e w'' => e = .returned v ∧ ∃ m, w'' = w.drewN m
theorem Q.mk {f : FuncId} {args : Array Value} {v : Value} {w : World} (h : ∀ n, Calls Try.prog f args (w.drewN n) fun e w'' => e = .returned v ∧ ∃ m, w'' = (w.drewN n).drewN m) : Q f args v w := fun n =>
  (h n).mono fun _ _ ⟨he, m, hm⟩ => ⟨he, n + m, by rw [hm, World.drewN_drewN]⟩
theorem Q.at {f : FuncId} {args : Array Value} {v : Value} {w : World} (h : Q f args v w) : Calls Try.prog f args w fun e w'' => e = .returned v ∧ ∃ m, w'' = w.drewN m := h 0
theorem Q.nth {f : FuncId} {args : Array Value} {v : Value} {w : World} (h : Q f args v w) (n : Nat) : Calls Try.prog f args (w.drewN n) fun e w'' => e = .returned v ∧ ∃ m, w'' = w.drewN m := h n
theorem Q.below {f : FuncId} {args : Array Value} {v : Value} {w : World} (h : Q f args v w) : Calls Try.prog f args w fun e w' => e = .returned v ∧ Below w.heap.size w w' :=
  (h.at).mono fun e w' ⟨h1, n, h2⟩ => ⟨h1, h2 ▸ ⟨rfl, rfl, rfl, Nat.le_refl _, fun _ _ => rfl⟩⟩
theorem una_q {w : World} {B : Nat} {g : Rg} {x : Bf} (h : BfAt w B g x) : Q 16 #[.pointer (some ⟨B, 0, none⟩)] (.int .i64 (x.una : Int)) w := by
  refine Q.mk fun m => ?_
  have c0 : (w.drewN m).cell? ⟨B, 0, none⟩ = some (.int .i64 (x.una : Int)) := h.cs.1
  generalize w.drewN m = w at *
  go_enter Try.func16, Try.ntmps16
  go_wp2
  go_ret
  exact ⟨rfl, 0, rfl⟩
theorem end_q {w : World} {B : Nat} {g : Rg} {x : Bf} (h : BfAt w B g x) : Q 15 #[.pointer (some ⟨B, 0, none⟩)] (.int .i64 ((x.una : Int) + (x.l.length : Int))) w := by
  refine Q.mk fun m => ?_
  have c1 : (w.drewN m).cell? ⟨B, 1, none⟩ = some (.int .i64 ((x.una : Int) + (x.l.length : Int))) := h.cs.2.1
  generalize w.drewN m = w at *
  go_enter Try.func15, Try.ntmps15
  go_wp2
  go_ret
  exact ⟨rfl, 0, rfl⟩
theorem lenI_to (a n : Nat) (h : a + n ≤ 4611686018427387904) : lenI ((a : Int), (a : Int) + (n : Int)) = (n : Int) := by
  have : mayB (a : Int) ((a : Int) + (n : Int)) = true := mayB_iff.2 (by omega)
  unfold lenI fitP
  rw [if_pos this]
  show (a : Int) + (n : Int) - (a : Int) = n
  omega
set_option maxHeartbeats 1000000 in
theorem room_any {w : World} {B : Nat} {g : Rg} {x : Bf} (h : BfAt w B g x) : Calls Try.prog 17 #[.pointer (some ⟨B, 0, none⟩)] w (RetI ((x.most : Int) - (x.l.length : Int)) w) := by
  have HC := Lib.hid (fun W (hb : Below w.heap.size w W) => (h.later hb).cs)
  have hw : IntKind.i64.wrap ((x.most : Int) - (x.l.length : Int)) = (x.most : Int) - (x.l.length : Int) := IntWalk.i64_in _ (by have := h.ok.m1; have := h.ok.n; omega)
  obtain ⟨c0, c1, c2⟩ := h.cs
  have HL := Lib.hid (lenI_to x.una x.l.length h.ok.e)
  have HW := Lib.hid hw
  clear h hw
  go_enter Try.func17, Try.ntmps17
  go_upto_region 3 with fail
  have P0 := HC.out w.drew (Below.refl _ _).drew
  go_region_held3 (fun W => W.cell? ⟨B, 0, none⟩ = some (.int .i64 (x.una : Int)) ∧ W.cell? ⟨B, 1, none⟩ = some (.int .i64 ((x.una : Int) + (x.l.length : Int))) ∧ W.cell? ⟨B, 2, none⟩ = some (.slice (some ⟨g.b, 0, none⟩) x.most g.cap)) (first | with_reducible exact P1 | with_reducible exact P0 | go_keep)
    ((go_at_call 24; (with_reducible refine (len_any ((x.una : Int), (x.una : Int) + (x.l.length : Int)) _).mono ?_); rintro e w1 ⟨rfl, hb1⟩; rw [HL.out]; have HB := Lib.hid ((Below.refl w.heap.size w).drew.trans hb1); have P1 := HC.out w1 HB.out; clear hb1))
  rw [HW.out]
  go_wp2_with fail
  go_ret
  exact ⟨rfl, HB.out⟩
theorem none_q (w : World) : Q 16 #[.pointer none] (.int .i64 0) w ∧ Q 15 #[.pointer none] (.int .i64 0) w ∧ Q 17 #[.pointer none] (.int .i64 0) w ∧ Q 10 #[.pointer none] (.pointer none) w ∧ (∀ t, Q 12 #[.pointer none, .int .i64 t] (.int .i64 1) w) ∧ (∀ v, Q 11 #[.pointer none, v] (.int .i64 1) w) := by
  refine ⟨?_, ?_, ?_, ?_, fun t => ?_, fun v => ?_⟩ <;> refine Q.mk fun n => ?_ <;> generalize w.drewN n = w
  · go_enter Try.func16, Try.ntmps16
    go_wp2
    go_ret
    exact ⟨rfl, 0, rfl⟩
  · go_enter Try.func15, Try.ntmps15
    go_wp2
    go_ret
    exact ⟨rfl, 0, rfl⟩
  · go_enter Try.func17, Try.ntmps17
    go_wp2
    go_ret
    exact ⟨rfl, 0, rfl⟩
  · go_enter Try.func10, Try.ntmps10
    go_wp2
    go_ret
    exact ⟨rfl, 0, rfl⟩
  · go_enter Try.func12, Try.ntmps12
    go_wp2
    go_ret
    exact ⟨rfl, 0, rfl⟩
  · go_enter Try.func11, Try.ntmps11
    go_wp2
    go_ret
    exact ⟨rfl, 0, rfl⟩
theorem made_ints (n : Nat) : (madeCells (Value.cells (.int .u8 0)) (n * 1)).toList = ints .u8 (List.replicate n 0) := by
  apply List.ext_getElem?
  intro i
  by_cases hi : i < n
  · simp [madeCells, ints, hi, Value.cells, Nat.mod_one]
  · simp [madeCells, ints, hi]
set_option maxHeartbeats 1000000 in
theorem new_ok (u m : Nat) (hu : u ≤ 4611686018427387904) (h1 : 1 ≤ m) (h2 : m ≤ 65536) (w : World) : Calls Try.prog 7 #[.int .i64 u, .int .i64 m] w
    fun e w' => ∃ (B : Nat) (g : Rg), e = .returned (.tuple #[.pointer (some ⟨B, 0, none⟩), .int .i64 0]) ∧ BfAt w' B g ⟨u, m, []⟩ ∧ Below w.heap.size w w' ∧ ∀ b ∈ [B, g.b], w.heap.size ≤ b := by
  obtain ⟨i0, hi, hz0, hz1, hz2⟩ := info_split info_u8
  go_enter Try.func7, Try.ntmps7
  go_upto_region 3 with fail
  go_wp2_with (at_make; go_must (refine wpList_make_full _ rfl _ _ 23 rfl w.heap.size 5 i0 (.int .u8 0) 1 Try.underlying23 hi hz0 hz1 .i64 .i64 (m : Int) (m : Int) m rfl rfl rfl rfl (by rw [hz2]; omega) (by unfold maxLen; omega) (Nat.le_refl _) ?_); intro w1 ho hg)
  go_ret2
  rw [made_ints] at ho
  obtain ⟨hl, hr⟩ := ho
  rcases hr with ⟨hv, _⟩ | ⟨g, cap, cur, hv, hb, hh, hn, hm, hc, ht⟩
  · cases hv
  injection hv with hv1 _ hv3
  injection hv1 with hv1
  injection hv1 with hv1
  subst hv1 hv3
  have hcur : cur = (ints .u8 (List.replicate m 0)).toArray := by
    apply Array.toList_inj.1
    rw [← ht, List.take_of_length_le (by rw [Array.length_toList, hc]; exact Nat.le_refl _)]
  rw [hcur] at hh
  have hb1 := bal (w := w1) (.cells (cellsB ⟨u, m, []⟩ ⟨w.heap.size, m, []⟩) 50)
  have hbw : Below w.heap.size w w1 := ⟨hg.os, hg.tape, hg.output, hg.size, fun k hk => hg.block k hk (by simp)⟩
  have hx := heap_alloc_new w1 (.cells (cellsB ⟨u, m, []⟩ ⟨w.heap.size, m, []⟩) 50)
  have hz : ((u : Int) + (([] : List Int).length : Int)) = (u : Int) := by simp
  unfold cellsB at hb1 hx
  simp only [hz] at hb1 hx
  refine ⟨w1.heap.size, ⟨w.heap.size, m, []⟩, rfl, ⟨by unfold cellsB; simp only [hz]; exact hx, ⟨_, by rw [List.append_nil]; exact (hb1.block _ (lt_of_block hh)).trans hh, ring_new u m _ (by simp)⟩, ⟨h1, h2, by simp, by simpa using hu⟩, ⟨Nat.le_refl _, by unfold maxLen; dsimp only; omega⟩⟩, hbw.trans (hb1.mono hbw.size), fun b hb => ?_⟩
  simp at hb
  rcases hb with rfl | rfl
  · exact hbw.size
  · exact Nat.le_refl _
theorem new_bad (u m : Int) (hc : u < 0 ∨ 4611686018427387904 < u ∨ m < 1 ∨ 65536 < m) (w : World) : Calls Try.prog 7 #[.int .i64 u, .int .i64 m] w
    fun e w' => e = .returned (.tuple #[.pointer none, .int .i64 2]) ∧ Below w.heap.size w w' := by
  by_cases h1 : u < 0
  · clear hc
    go_enter Try.func7, Try.ntmps7
    go_wp2_with fail
    go_ret2
    exact ⟨rfl, Below.refl _ _⟩
  have h1' : ¬ u < 0 := h1
  by_cases h2 : 4611686018427387904 < u
  · clear hc
    go_enter Try.func7, Try.ntmps7
    go_wp2_with fail
    go_ret2
    exact ⟨rfl, Below.refl _ _⟩
  by_cases h3 : m < 1
  · clear hc
    go_enter Try.func7, Try.ntmps7
    go_wp2_with fail
    go_ret2
    exact ⟨rfl, Below.refl _ _⟩
  have h4 : 65536 < m := by omega
  clear hc
  go_enter Try.func7, Try.ntmps7
  go_wp2_with fail
  go_ret2
  exact ⟨rfl, Below.refl _ _⟩
/-- Free -/
theorem BfAt.put {w W : World} {B : Nat} {g : Rg} {x x' : Bf} (h : BfAt w B g x) (ok : Ok x') (hm : x.most = x'.most) (hr : ∀ R, Ring R x → Ring R x') (hk : Kept [B] w W) (hh : W.heap[B]? = some (.cells (cellsB x' g) 50 (0, 0))) : BfAt W B g x' := by
  have hne := h.ne
  obtain ⟨h1, ⟨R, h2, h3⟩, h4, h5⟩ := h
  exact ⟨hh, ⟨R, hk.heap (by simpa using Ne.symm hne) h2, hr R h3⟩, ok, hm ▸ h5⟩
theorem kset (w : World) (B i : Nat) (u : Value) : Kept [B] w (w.setCell ⟨B, i, none⟩ u) := (Kept.refl [B] w).setCell (.inl (by simp)) u
set_option maxHeartbeats 1000000 in
theorem free_any {w : World} {B : Nat} {g : Rg} {x : Bf} (h : BfAt w B g x) (t : Int) : Calls Try.prog 12 #[.pointer (some ⟨B, 0, none⟩), .int .i64 t] w (RetW (.int .i64 (frE x t)) B g (frX x t) w) := by
  have HU := Lib.hid (una_q h)
  have HE := Lib.hid (end_q h)
  have HA := Lib.hid h
  have HR := Lib.hid (fun n : Nat => (Kept.refl [B, g.b] w).drewN n)
  rcases frE_cases x t with ⟨he, h1⟩ | ⟨he, h1, h2⟩ | ⟨he, h1, h2⟩
  · have HX : Hid (frX x t = x) := Lib.hid (by unfold frX; rw [if_neg (by omega)])
    rw [he, HX.out]
    clear h HX he
    go_enter Try.func12, Try.ntmps12
    go_wp2_with (go_at_call 16; (with_reducible refine (HU.out.at).mono ?_); rintro e w1 ⟨rfl, n, rfl⟩)
    go_ret
    exact ⟨rfl, HA.out.drewN n, HR.out n⟩
  · have HX : Hid (frX x t = x) := Lib.hid (by unfold frX; rw [if_neg (by omega)])
    rw [he, HX.out]
    clear h HX he
    have h3 : ¬ t < (x.una : Int) := by omega
    go_enter Try.func12, Try.ntmps12
    go_wp2_with (first | (go_at_call 16; (with_reducible refine (HU.out.at).mono ?_); rintro e w1 ⟨rfl, n, rfl⟩) | (go_at_call 15; (with_reducible refine (HE.out.nth n).mono ?_); rintro e w1 ⟨rfl, n2, rfl⟩))
    go_ret
    exact ⟨rfl, HA.out.drewN _, HR.out _⟩
  · have hok := h.ok.fr t
    have HX : Hid (frX x t = ⟨t.toNat, x.most, x.l.drop (t - x.una).toNat⟩) := Lib.hid (by unfold frX; rw [if_pos he])
    have HK := Lib.hid hok
    rw [he]
    clear he hok
    have h3 : ¬ t < (x.una : Int) := by omega
    have h4 : ¬ (x.una : Int) + (x.l.length : Int) < t := by omega
    have HF := Lib.hid (fun W (hk : BfAt W B g x) => show BfAt (W.setCell ⟨B, 0, none⟩ (.int .i64 t)) B g (frX x t) from by
      have e0 := heap_setCell_same W B 0 _ _ (.int .i64 t) hk.hdr
      refine hk.put HK.out (by rw [HX.out]) ?_ (kset W B 0 _) ?_
      · intro R hR
        rw [HX.out]
        have := hR.fr t.toNat (by omega) (by omega)
        rw [show (t - (x.una : Int)).toNat = t.toNat - x.una by omega]
        exact this
      · rw [HX.out, e0]
        have e2 : ((t.toNat : Nat) : Int) = t := by omega
        have e3 : ((x.l.drop (t - x.una).toNat).length : Int) = (x.una : Int) + x.l.length - t := by rw [List.length_drop]; omega
        unfold cellsB
        simp only [e2, e3]
        rw [show t + ((x.una : Int) + x.l.length - t) = (x.una : Int) + x.l.length by omega]
        rfl)
    have hf := h.f 0
    have hc := h.cs.1
    clear h
    go_enter Try.func12, Try.ntmps12
    go_wp2_with (first | (go_at_call 16; (with_reducible refine (HU.out.at).mono ?_); rintro e w1 ⟨rfl, n, rfl⟩) | (go_at_call 15; (with_reducible refine (HE.out.nth n).mono ?_); rintro e w1 ⟨rfl, n2, rfl⟩; have hf2 : (w.drewN n2).frozen? ⟨B, 0, none⟩ = false := hf; have hc2 : (w.drewN n2).cell? ⟨B, 0, none⟩ = some (.int .i64 (x.una : Int)) := hc))
    go_ret
    exact ⟨rfl, HF.out _ (HA.out.drewN n2), (HR.out n2).setCell (.inl (by simp)) _⟩
end Go.Proofs.Ytjkjbhapkmamkaa.bf
