/-
  Package dup: the reader of blocks, the number, the first block.
-/
import Derived.Test.YtegfmjkngbnnfaaDupW
import Derived.Test.YtegfmjkngbnnfaaOpen
namespace Go.Proofs.Ytegfmjkngbnnfaa.dp
open Go.RowKit aid mem sq sp
attribute [local go_sem ↓] Go.wp_at_zero Go.wp_at_succ
set_option linter.unusedVariables false

/-- a slice of blocks -/
structure SlB (w : World) (a : Option Addr) (n cap : Nat) (l : List Bk) : Prop where
  len : l.length = n
  le : n ≤ cap
  most : cap ≤ maxLen
  nil : a = none → cap = 0
  cells : 0 < n → ∃ b off, a = some ⟨b, off, none⟩ ∧ ∀ i, i < n → w.cell? ⟨b, off + i * 2, none⟩ = some (.int .u32 (l.getD i (0, 0)).1) ∧ w.cell? ⟨b, off + i * 2 + 1, none⟩ = some (.int .u32 (l.getD i (0, 0)).2)
  ok : ∀ b ∈ l, BkOk b
theorem SlB.later {w w' : World} {a : Option Addr} {n cap : Nat} {l : List Bk} (h : SlB w a n cap l) (hk : Below w.heap.size w w') : SlB w' a n cap l :=
  ⟨h.len, h.le, h.most, h.nil, fun h0 => by
    obtain ⟨b, off, rfl, hc⟩ := h.cells h0
    have hl : b < w.heap.size := World.block_lt_of_cell? w _ (hc 0 h0).1
    exact ⟨b, off, rfl, fun i hi => ⟨(hk.cell (p := ⟨b, off + i * 2, none⟩) hl).trans (hc i hi).1, (hk.cell (p := ⟨b, off + i * 2 + 1, none⟩) hl).trans (hc i hi).2⟩⟩, h.ok⟩
theorem SlB.getOk {w : World} {a : Option Addr} {n cap : Nat} {l : List Bk} (h : SlB w a n cap l) (i : Nat) : BkOk (l.getD i (0, 0)) := by
  by_cases hi : i < l.length
  · rw [show l.getD i (0, 0) = l[i] from by simp [List.getD, hi]]
    exact h.ok _ (List.getElem_mem _)
  · rw [show l.getD i (0, 0) = (0, 0) from by simp [List.getD, hi]]
    unfold BkOk; decide

/-- what a reader reads -/
def rd (near : Int) (l : List Bk) (i : Nat) : Int × Int := if i < l.length then frm near (l.getD i (0, 0)) else (0, 0)
def rdB (near : Int) (l : List Bk) (i : Nat) : Bool := if i < l.length then frmB near (l.getD i (0, 0)) else false
/-- a reader's boxes -/
structure Rd (w : World) (Bl Bn : Nat) (near : Int) (a : Option Addr) (n cap : Nat) (l : List Bk) : Prop where
  bl : w.heap[Bl]? = some (.cells #[.slice a n cap] 23 (0, 0))
  bn : w.heap[Bn]? = some (.cells #[.int .i64 near] 3 (0, 0))
  sl : SlB w a n cap l
  ok : -9223372036854775808 ≤ near ∧ near ≤ 9223372036854775807
theorem Rd.later {w w' : World} {Bl Bn : Nat} {near : Int} {a : Option Addr} {n cap : Nat} {l : List Bk} (h : Rd w Bl Bn near a n cap l) (hk : Below w.heap.size w w') : Rd w' Bl Bn near a n cap l :=
  ⟨(hk.block _ (lt_of_block h.bl)).trans h.bl, (hk.block _ (lt_of_block h.bn)).trans h.bn, h.sl.later hk, h.ok⟩
abbrev rdF (Bl Bn : Nat) : Value := .func (.func 31) #[] #[.pointer (some ⟨Bl, 0, none⟩), .pointer (some ⟨Bn, 0, none⟩)]

set_option maxHeartbeats 1600000 in
theorem read_any {w : World} {Bl Bn : Nat} {near : Int} {a : Option Addr} {n cap : Nat} {l : List Bk} (h : Rd w Bl Bn near a n cap l) (i : Nat) (hi63 : i ≤ 9223372036854775807) :
    Calls Try.prog 31 #[.int .i64 i, .pointer (some ⟨Bl, 0, none⟩), .pointer (some ⟨Bn, 0, none⟩)] w (RetT (rd near l i) (rdB near l i) w) := by
  have hA := h.later (bal (.cells #[.int .i64 0, .int .i64 0] 26))
  have s0 := sp_new w (0, 0)
  have b0 := bal (w := w) (.cells #[.int .i64 0, .int .i64 0] 26)
  have hlen := h.sl.len
  have hle := h.sl.le
  have hmost := h.sl.most
  unfold maxLen at hmost
  by_cases hin : i < n
  · have hw := fun W => well_any near (l.getD i (0, 0)) W h.ok (h.sl.getOk i)
    have H1 : Hid (rd near l i = frm near (l.getD i (0, 0)) ∧ rdB near l i = frmB near (l.getD i (0, 0))) := Lib.hid (by unfold rd rdB; rw [if_pos (by omega), if_pos (by omega)]; exact ⟨rfl, rfl⟩)
    obtain ⟨b, off, rfl, hc⟩ := hA.sl.cells (by omega)
    obtain ⟨x0, x1⟩ := hc i hin
    generalize l.getD i (0, 0) = x at *
    generalize frm near x = s at *
    generalize frmB near x = sb at *
    have HW := Lib.hid hw
    have d0 := (cell_of_row _ Bl 0 _ _ (0, 0) hA.bl).trans rfl
    have d1 := (cell_of_row _ Bn 0 _ _ (0, 0) hA.bn).trans rfl
    clear hc hlen h hA hw
    go_enter Try.func31, Try.ntmps31
    go_wp2_with fail
    generalize w.alloc (.cells #[.int .i64 0, .int .i64 0] 26) = W at *
    generalize hB : w.heap.size = B at *
    have hBW : B ≤ W.heap.size := hB ▸ b0.size
    have HB := Lib.hid hB
    clear hB
    have s0d : SpAt W.drew B (0, 0) := s0
    have b0d : Below B w W.drew := b0.trans ((Below.refl _ W).drew.mono hBW)
    go_region_with (first
      | (go_at_call 32; refine (HW.out _).mono ?_; rintro e w2 ⟨rfl, h2⟩; have s2 := s0d.later h2; have c0 := s2.c0; have c1 := s2.c1; have f0 := s2.f0; have f1 := s2.f1))
    all_goals
      have s3 := s2.put s.1 s.2
      go_wp2_with fail
      have e0 := s3.c0; have e1 := s3.c1
      refine bodyPost_ret (v := .tuple #[spV s, .bool sb]) (by simp [results, Try.results31, go_sem, e0, e1]) rfl ?_
      rw [H1.out.1, H1.out.2]
      have hB := HB.out
      have b2 := b0d.trans (h2.mono hBW)
      exact ⟨rfl, hB ▸ b2.trans ((kput w2 B _ _).below (by simp) (Nat.le_trans hBW h2.size))⟩
  · have H1 : Hid (rd near l i = (0, 0) ∧ rdB near l i = false) := Lib.hid (by unfold rd rdB; rw [if_neg (by omega), if_neg (by omega)]; exact ⟨rfl, rfl⟩)
    have d0 := (cell_of_row _ Bl 0 _ _ (0, 0) hA.bl).trans rfl
    have c0 := s0.c0; have c1 := s0.c1
    clear h hA hlen
    go_enter Try.func31, Try.ntmps31
    go_wp2_with fail
    have e0 := s0.c0; have e1 := s0.c1
    refine bodyPost_ret (v := .tuple #[spV (0, 0), .bool false]) (by simp [results, Try.results31, go_sem, e0, e1]) rfl ?_
    rw [H1.out.1, H1.out.2]
    exact ⟨rfl, b0⟩
end Go.Proofs.Ytegfmjkngbnnfaa.dp
