/-
  Package low: what is kept, in memory; its calls.
-/
import Derived.Test.YtgonfdedapnlnaaProg
import Derived.Test.YtgonfdedapnlnaaKp
import Derived.Test.YtgonfdedapnlnaaLowX
import Derived.Laws.StructEq
import Derived.Deep.DrawnRows
namespace Go.Proofs.Ytgonfdedapnlnaa.lo
open Go.RowKit aid mem
attribute [local go_sem ↓] Go.wp_at_zero Go.wp_at_succ
set_option linter.unusedVariables false

def mkCells (l : List Mk) : List Value := l.flatMap (fun x => [.int .i64 x.1, .int .i64 x.2])
theorem mk_append (l r : List Mk) : mkCells (l ++ r) = mkCells l ++ mkCells r := by simp [mkCells]
theorem mk_len (l : List Mk) : (mkCells l).length = l.length * 2 := by
  induction l with
  | nil => rfl
  | cons x l ih => rw [show mkCells (x :: l) = [.int .i64 x.1, .int .i64 x.2] ++ mkCells l from rfl, List.length_append, ih]; simp; omega
theorem mk_get (l : List Mk) : ∀ i, i < l.length → (mkCells l)[i * 2]? = some (.int .i64 (l.getD i (0, 0)).1) ∧ (mkCells l)[i * 2 + 1]? = some (.int .i64 (l.getD i (0, 0)).2) := by
  induction l with
  | nil => intro i hi; simp at hi
  | cons x l ih =>
    intro i hi
    rw [show mkCells (x :: l) = .int .i64 x.1 :: .int .i64 x.2 :: mkCells l from rfl]
    cases i with
    | zero => exact ⟨rfl, rfl⟩
    | succ i =>
      have := ih i (by simpa using hi)
      rw [show (i + 1) * 2 = i * 2 + 1 + 1 from by omega]
      simpa [List.getD] using this
theorem mk_take (l : List Mk) : ∀ k, (mkCells l).take (k * 2) = mkCells (l.take k) := by
  induction l with
  | nil => intro k; simp [mkCells]
  | cons x l ih =>
    intro k
    cases k with
    | zero => simp [mkCells]
    | succ k =>
      rw [show (k + 1) * 2 = k * 2 + 1 + 1 from by omega, List.take_succ_cons]
      show .int .i64 x.1 :: List.take (k * 2 + 1) (.int .i64 x.2 :: mkCells l) = _
      rw [List.take_succ_cons, ih k]
      rfl
theorem mk_drop (l : List Mk) : ∀ k, (mkCells l).drop (k * 2) = mkCells (l.drop k) := by
  induction l with
  | nil => intro k; simp [mkCells]
  | cons x l ih =>
    intro k
    cases k with
    | zero => simp
    | succ k =>
      rw [show (k + 1) * 2 = k * 2 + 1 + 1 from by omega]
      show List.drop (k * 2 + 1 + 1) (.int .i64 x.1 :: .int .i64 x.2 :: mkCells l) = _
      rw [List.drop_succ_cons, List.drop_succ_cons, ih k]
      rfl
/-- block B holds one -/
def LwAt (w : World) (B : Nat) (win last : Int) (a : Option Addr) (n cap : Nat) : Prop := w.heap[B]? = some (.cells #[.int .i64 win, .int .i64 last, .slice a n cap] 41 (0, 0))
theorem LwAt.later {w w' : World} {B : Nat} {win last : Int} {a : Option Addr} {n cap : Nat} (h : LwAt w B win last a n cap) (hb : Below w.heap.size w w') : LwAt w' B win last a n cap := (hb.block B (lt_of_block h)).trans h
theorem below_drewN {B : Nat} {w w' : World} (h : Below B w w') (n : Nat) : Below B w (w'.drewN n) := ⟨h.os, h.tape, h.output, h.size, h.block⟩
theorem cofr {w : World} {B : Nat} {cs : Array Value} {t : TypeId} (h : w.heap[B]? = some (.cells cs t (0, 0))) (i : Nat) (v : Value) (hv : cs[i]? = some v) : w.cell? ⟨B, i, none⟩ = some v := (cell_of_row w B i _ _ (0, 0) h).trans hv
theorem fofr {w : World} {B : Nat} {cs : Array Value} {t : TypeId} (h : w.heap[B]? = some (.cells cs t (0, 0))) (i : Nat) : w.frozen? ⟨B, i, none⟩ = false := by simp [World.frozen?, h]
theorem sc {w : World} {B : Nat} {cs : Array Value} {t : TypeId} (h : w.heap[B]? = some (.cells cs t (0, 0))) (i : Nat) (u : Value) : (w.setCell ⟨B, i, none⟩ u).heap[B]? = some (.cells (cs.setIfInBounds i u) t (0, 0)) := heap_setCell_same _ B i _ _ _ h
/-- the values lie where the slice leads -/
structure Ks (w : World) (a : Option Addr) (n cap : Nat) (l : List Mk) : Prop where
  row : SlR w 44 2 a n cap (mkCells l)
theorem Ks.len {w : World} {a : Option Addr} {n cap : Nat} {l : List Mk} (h : Ks w a n cap l) : l.length = n := by have := h.row.len; rw [mk_len] at this; omega
theorem Ks.cells {w : World} {a : Option Addr} {n cap : Nat} {l : List Mk} (h : Ks w a n cap l) (h0 : 0 < n) : ∃ g off, a = some ⟨g, off, none⟩ ∧ ∀ i, i < n → w.cell? ⟨g, off + i * 2, none⟩ = some (.int .i64 (l.getD i (0, 0)).1) ∧ w.cell? ⟨g, off + i * 2 + 1, none⟩ = some (.int .i64 (l.getD i (0, 0)).2) := by
  obtain ⟨g, off, rfl, hc⟩ := h.row.cell (by have := h.row.le; omega)
  refine ⟨g, off, rfl, fun i hi => ?_⟩
  obtain ⟨e0, e1⟩ := mk_get l i (by rw [h.len]; exact hi)
  exact ⟨(hc (i * 2) (by omega)).trans e0, by rw [Nat.add_assoc]; exact (hc (i * 2 + 1) (by omega)).trans e1⟩
theorem Ks.later {w w' : World} {a : Option Addr} {n cap : Nat} {l : List Mk} (h : Ks w a n cap l) (hb : Below w.heap.size w w') : Ks w' a n cap l := ⟨h.row.later hb⟩

theorem ret_bb {a b : Bool} (h : a = b) : Ending.returned (.bool a) = .returned (.bool b) := by rw [h]
theorem bdN {B : Nat} {w w' : World} (h : Below B w w') (n : Nat) : Below B w (w'.drewN n) := ⟨h.os, h.tape, h.output, h.size, h.block⟩
set_option maxHeartbeats 1000000 in
theorem within_any {w : World} {B : Nat} {win last : Int} {a : Option Addr} {n cap : Nat} (h : LwAt w B win last a n cap) (m : Mk) (T : Int) (hm : 0 ≤ m.1 ∧ m.1 ≤ 4611686018427387904) (hT : 0 ≤ T ∧ T ≤ 4611686018427387904) :
    Calls Try.prog 19 #[.pointer (some ⟨B, 0, none⟩), .agg #[.int .i64 m.1, .int .i64 m.2], .int .i64 T] w fun e w' => e = .returned (.bool (inW win T m)) ∧ Below w.heap.size w w' := by
  have c0 := cofr h 0 _ rfl
  have HI := Lib.hid (show inW win T m = decide (T - m.1 < win) from rfl)
  obtain ⟨m1, m2⟩ := m
  dsimp only at *
  go_enter Try.func19, Try.ntmps19
  have b0 := cofr (heap_alloc_new w (.cells #[.int .i64 m1, .int .i64 m2] 44)) 0 _ rfl
  have c0a := (World.cell?_of_block (Below.heap_alloc w (.cells #[.int .i64 m1, .int .i64 m2] 44) B (lt_of_block h))).trans c0
  go_wp2_with fail
  go_quiet (fail)
  go_wp2
  go_ret
  exact ⟨ret_bb (by rw [HI.out]), bdN ((Below.refl _ _).alloc (Nat.le_refl _) _) _⟩
/-- where those that are kept begin and end -/
structure Lf (win now v : Int) (l : List Mk) (n b f : Nat) : Prop where
  bf : b ≤ f
  fn : f ≤ n
  lo : ∀ i, i < b → inW win now (l.getD i (0, 0)) = false
  hi : ∀ i, f ≤ i → i < n → v ≤ (l.getD i (0, 0)).2
set_option maxHeartbeats 1000000 in
theorem left_any {w : World} {B : Nat} {win last : Int} {a : Option Addr} {n cap : Nat} {l : List Mk} (h : LwAt w B win last a n cap) (hk : Ks w a n cap l) (now v : Int) (hT : 0 ≤ now ∧ now ≤ 4611686018427387904) (hok : ∀ x ∈ l, MOk last x) :
    Calls Try.prog 16 #[.pointer (some ⟨B, 0, none⟩), .int .i64 now, .int .i64 v] w fun e w' => ∃ b f : Nat, e = .returned (.tuple #[.int .i64 b, .int .i64 f]) ∧ Lf win now v l n b f ∧ (b = f ∨ (inW win now (l.getD b (0, 0)) = true ∧ (l.getD (f - 1) (0, 0)).2 < v)) ∧ Below w.heap.size w w' := by
  have c2 := cofr h 2 _ rfl
  have hlen := hk.len
  have HOK := Lib.hid (fun i (hi : i < n) => show MOk last (l.getD i (0, 0)) from hok _ (by rw [show l.getD i (0, 0) = l[i] from by simp [List.getD, show i < l.length by omega]]; exact List.getElem_mem _))
  have hle := hk.row.le
  have hmost := hk.row.most
  unfold maxLen at hmost
  have HC := Lib.hid (fun h0 => hk.cells h0)
  have HA := Lib.hid h
  clear hk h hok
  go_enter Try.func16, Try.ntmps16
  go_wp2_with fail
  go_step3
  go_wp2_with fail
  go_quiet (fail)
  go_wp2_with fail
  go_step3
  go_wp2
  go_loopw [8, 9] (fun s8 s9 wr => ∃ b f : Nat, s8 = .int .i64 b ∧ s9 = .int .i64 f ∧ Hid (Lf win now v l n b f) ∧ Below w.heap.size w wr) (fun s8 s9 _ => (intOf s9).toNat - (intOf s8).toNat)
  case atStart => exact ⟨0, n, rfl, rfl, Lib.hid ⟨Nat.zero_le _, Nat.le_refl _, fun i hi => by omega, fun i h1 h2 => by omega⟩, below_drewN (Below.refl _ _) nq⟩
  case round =>
    obtain ⟨b, f, rfl, rfl, HL, hbel⟩ := hrel
    have hbf := HL.out.bf
    have hfn := HL.out.fn
    by_cases hlt : b < f
    · obtain ⟨g, off, rfl, hc⟩ := HC.out (by omega)
      have hA := LwAt.later HA.out hbel
      have c2 := cofr hA 2 _ rfl
      obtain ⟨m0, m1⟩ := hc b (by omega)
      obtain ⟨z0, z1⟩ := hc (f - 1) (by omega)
      have HZ := Lib.hid z1
      replace m0 := (hbel.cell (World.block_lt_of_cell? w _ m0)).trans m0
      replace m1 := (hbel.cell (World.block_lt_of_cell? w _ m1)).trans m1
      clear z0 z1 hc
      have hob := HOK.out b (by omega)
      have HW := Lib.hid (fun W (hW : Below wr.heap.size wr W) => within_any (LwAt.later hA hW) (l.getD b (0, 0)) now ⟨hob.1, hob.2.2.1⟩ hT)
      have HB := Lib.hid (show ∀ bb, inW win now (l.getD b (0, 0)) = bb → Hid (inW win now (l.getD b (0, 0)) = bb) from fun bb hb => Lib.hid hb)
      clear hob HB
      obtain ⟨ib, hib⟩ : ∃ ib, inW win now (l.getD b (0, 0)) = ib := ⟨_, rfl⟩
      rw [hib] at HW
      have HIB := Lib.hid hib
      clear hib
      generalize hm : l.getD b (0, 0) = m at *
      have HM := Lib.hid hm
      clear hm
      generalize hz : l.getD (f - 1) (0, 0) = z at *
      have HZ' := Lib.hid hz
      clear hz
      cases ib with
      | false =>
        go_wp2_with fail
        refine (HW.out _ (Below.refl _ _)).mono ?_
        rintro e w3 ⟨rfl, h3⟩
        go_wp2_with fail
        go_roundw
        case rel => exact ⟨b + 1, f, by go_num, rfl, Lib.hid ⟨by omega, by omega, fun i hi => (by
            by_cases he : i = b
            · subst he; rw [HM.out]; exact HIB.out
            · exact HL.out.lo i (by omega)), HL.out.hi⟩, hbel.trans (h3.mono hbel.size)⟩
        case measure => simp [intOf]; omega
      | true =>
        go_wp2_with fail
        refine (HW.out _ (Below.refl _ _)).mono ?_
        rintro e w3 ⟨rfl, h3⟩
        have hb3 := hbel.trans (h3.mono hbel.size)
        have c2' := cofr (LwAt.later HA.out hb3) 2 _ rfl
        have z1 := (hb3.cell (World.block_lt_of_cell? w _ HZ.out)).trans HZ.out
        by_cases hv : v ≤ z.2
        · go_wp2_with fail
          go_roundw
          case rel => exact ⟨b, f - 1, rfl, by go_num, Lib.hid ⟨by omega, by omega, HL.out.lo, fun i h1 h2 => (by
              by_cases he : i = f - 1
              · subst he; rw [HZ'.out]; exact hv
              · exact HL.out.hi i (by omega) h2)⟩, hb3⟩
          case measure => simp [intOf]; omega
        · go_wp2_with fail
          rw [Exit.noGoto_ret]
          go_ret2
          exact ⟨b, f, rfl, HL.out, .inr ⟨by rw [HM.out]; exact HIB.out, by rw [HZ'.out]; omega⟩, hb3⟩
    · obtain rfl : f = b := by omega
      go_wp2_with fail
      rw [Exit.noGoto_ret]
      go_ret2
      exact ⟨f, f, rfl, HL.out, .inl rfl, hbel⟩
end Go.Proofs.Ytgonfdedapnlnaa.lo
