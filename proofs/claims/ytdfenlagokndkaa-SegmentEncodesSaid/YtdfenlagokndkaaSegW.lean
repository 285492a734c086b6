/-
  Package segment: segments in memory; Check.
-/
import Derived.Test.YtdfenlagokndkaaOptI
import Derived.Test.YtdfenlagokndkaaSegX
import Derived.Laws.EntriesVeiled
namespace Go.Proofs.Ytdfenlagokndkaa.sg
open Go.RowKit aid mem oc op
set_option linter.unusedVariables false

theorem bal {w : World} (o : Obj) : Below w.heap.size w (w.alloc o) := (Below.refl _ _).alloc (Nat.le_refl _) _
/-- a segment as a value -/
abbrev segV (s : Seg) (a : Option Addr) (n cap : Nat) (b : Option Addr) (m bc : Nat) : Value :=
  .agg #[.int .i64 s.kind, .int .u32 s.num, .int .i64 s.o.mss, .bool s.o.permit, .bool s.o.ts, .int .u32 s.o.val, .int .u32 s.o.ecr, .bool s.o.hs, .int .i64 s.o.scale, .slice a n cap, .slice b m bc]
def SegAt (w : World) (B : Nat) (s : Seg) (a : Option Addr) (n cap : Nat) (b : Option Addr) (m bc : Nat) : Prop :=
  w.heap[B]? = some (.cells #[.int .i64 s.kind, .int .u32 s.num, .int .i64 s.o.mss, .bool s.o.permit, .bool s.o.ts, .int .u32 s.o.val, .int .u32 s.o.ecr, .bool s.o.hs, .int .i64 s.o.scale, .slice a n cap, .slice b m bc] 28 (0, 0))
section
variable {w w' : World} {B : Nat} {s : Seg} {a : Option Addr} {n cap : Nat} {b : Option Addr} {m bc : Nat}
/-- the cells of a segment in memory -/
structure SegCs (w : World) (B : Nat) (s : Seg) (a : Option Addr) (n cap : Nat) (b : Option Addr) (m bc : Nat) : Prop where
  c0 : w.cell? ⟨B, 0, none⟩ = some (.int .i64 s.kind)
  c1 : w.cell? ⟨B, 1, none⟩ = some (.int .u32 s.num)
  c2 : w.cell? ⟨B, 2, none⟩ = some (.int .i64 s.o.mss)
  c3 : w.cell? ⟨B, 3, none⟩ = some (.bool s.o.permit)
  c4 : w.cell? ⟨B, 4, none⟩ = some (.bool s.o.ts)
  c5 : w.cell? ⟨B, 5, none⟩ = some (.int .u32 s.o.val)
  c6 : w.cell? ⟨B, 6, none⟩ = some (.int .u32 s.o.ecr)
  c7 : w.cell? ⟨B, 7, none⟩ = some (.bool s.o.hs)
  c8 : w.cell? ⟨B, 8, none⟩ = some (.int .i64 s.o.scale)
  c9 : w.cell? ⟨B, 9, none⟩ = some (.slice a n cap)
  c10 : w.cell? ⟨B, 10, none⟩ = some (.slice b m bc)
theorem SegAt.cs (h : SegAt w B s a n cap b m bc) : SegCs w B s a n cap b m bc :=
  ⟨(cell_of_row w B 0 _ _ (0, 0) h).trans rfl, (cell_of_row w B 1 _ _ (0, 0) h).trans rfl, (cell_of_row w B 2 _ _ (0, 0) h).trans rfl, (cell_of_row w B 3 _ _ (0, 0) h).trans rfl, (cell_of_row w B 4 _ _ (0, 0) h).trans rfl, (cell_of_row w B 5 _ _ (0, 0) h).trans rfl, (cell_of_row w B 6 _ _ (0, 0) h).trans rfl, (cell_of_row w B 7 _ _ (0, 0) h).trans rfl, (cell_of_row w B 8 _ _ (0, 0) h).trans rfl, (cell_of_row w B 9 _ _ (0, 0) h).trans rfl, (cell_of_row w B 10 _ _ (0, 0) h).trans rfl⟩
theorem SegCs.all (h : SegCs w B s a n cap b m bc) : w.cell? ⟨B, 0, none⟩ = some (.int .i64 s.kind) ∧ w.cell? ⟨B, 1, none⟩ = some (.int .u32 s.num) ∧ w.cell? ⟨B, 2, none⟩ = some (.int .i64 s.o.mss) ∧ w.cell? ⟨B, 3, none⟩ = some (.bool s.o.permit) ∧ w.cell? ⟨B, 4, none⟩ = some (.bool s.o.ts) ∧ w.cell? ⟨B, 5, none⟩ = some (.int .u32 s.o.val) ∧ w.cell? ⟨B, 6, none⟩ = some (.int .u32 s.o.ecr) ∧ w.cell? ⟨B, 7, none⟩ = some (.bool s.o.hs) ∧ w.cell? ⟨B, 8, none⟩ = some (.int .i64 s.o.scale) ∧ w.cell? ⟨B, 9, none⟩ = some (.slice a n cap) ∧ w.cell? ⟨B, 10, none⟩ = some (.slice b m bc) :=
  ⟨h.c0, h.c1, h.c2, h.c3, h.c4, h.c5, h.c6, h.c7, h.c8, h.c9, h.c10⟩
theorem SegAt.fz (h : SegAt w B s a n cap b m bc) (i : Nat) : w.frozen? ⟨B, i, none⟩ = false := by simp [World.frozen?, show w.heap[B]? = _ from h]
theorem SegAt.lt (h : SegAt w B s a n cap b m bc) : B < w.heap.size := lt_of_block h
theorem SegAt.keep (h : SegAt w B s a n cap b m bc) {S : List Nat} (hk : Kept S w w') (hB : B ∉ S) : SegAt w' B s a n cap b m bc := hk.heap hB h
theorem SegAt.later (h : SegAt w B s a n cap b m bc) (hk : Below w.heap.size w w') : SegAt w' B s a n cap b m bc := h.keep (Kept.of_below hk (Nat.le_refl _) []) (by simp)
end
theorem seg_new (w : World) (s : Seg) (a : Option Addr) (n cap : Nat) (b : Option Addr) (m bc : Nat) : SegAt (w.alloc (.cells #[.int .i64 s.kind, .int .u32 s.num, .int .i64 s.o.mss, .bool s.o.permit, .bool s.o.ts, .int .u32 s.o.val, .int .u32 s.o.ecr, .bool s.o.hs, .int .i64 s.o.scale, .slice a n cap, .slice b m bc] 28)) w.heap.size s a n cap b m bc := heap_alloc_new w _

/-- a segment in a box, with its lists, since w0 -/
structure SM (w0 : World) (B : Nat) (s : Seg) (a : Option Addr) (n cap : Nat) (b : Option Addr) (m bc : Nat) (w : World) : Prop where
  at_ : SegAt w B s a n cap b m bc
  bl : BlA w a n cap s.o.bl
  body : SlA .u8 w b m bc s.body
  below : Below w0.heap.size w0 w
theorem SM.later {w0 : World} {B : Nat} {s : Seg} {a : Option Addr} {n cap : Nat} {b : Option Addr} {m bc : Nat} {w w' : World} (h : SM w0 B s a n cap b m bc w) (hb : Below w.heap.size w w') : SM w0 B s a n cap b m bc w' :=
  ⟨h.at_.later hb, h.bl.later hb, h.body.later hb, h.below.trans (hb.mono h.below.size)⟩
theorem sm_new (w : World) (s : Seg) (a : Option Addr) (n cap : Nat) (b : Option Addr) (m bc : Nat) (hl : BlA w a n cap s.o.bl) (hb : SlA .u8 w b m bc s.body) :
    SM w w.heap.size s a n cap b m bc (w.alloc (.cells #[.int .i64 s.kind, .int .u32 s.num, .int .i64 s.o.mss, .bool s.o.permit, .bool s.o.ts, .int .u32 s.o.val, .int .u32 s.o.ecr, .bool s.o.hs, .int .i64 s.o.scale, .slice a n cap, .slice b m bc] 28)) :=
  ⟨seg_new w s a n cap b m bc, hl.later (bal _), hb.later (bal _), bal _⟩

def RetE (c : Int) (w : World) (e : Ending) (w' : World) : Prop := e = .returned (.int .i64 c) ∧ Below w.heap.size w w'

theorem when_any (x : Bool) (c : Int) (w : World) : Calls Try.prog 53 #[.bool x, .int .i64 c] w fun e w' => e = .returned (.int .i64 (if x = true then c else 0)) ∧ w = w' := by
  cases x with
  | true =>
    go_enter Try.func53, Try.ntmps53
    go_wp2
    go_ret
    exact ⟨rfl, rfl⟩
  | false =>
    go_enter Try.func53, Try.ntmps53
    go_wp2
    go_ret
    exact ⟨rfl, rfl⟩
theorem known_k (k : Int) (w : World) : Calls Try.prog 54 #[.int .i64 k] w fun e w' => e = .returned (.bool (knownB k)) ∧ w = w' := by
  unfold knownB
  cases h : (k == 1) with
  | true =>
    go_enter Try.func54, Try.ntmps54
    go_wp2
    go_ret
    exact ⟨rfl, rfl⟩
  | false =>
    go_enter Try.func54, Try.ntmps54
    go_wp2
    go_ret
    exact ⟨rfl, rfl⟩

section
variable {w0 : World} {B : Nat} {s : Seg} {a : Option Addr} {n cap : Nat} {b : Option Addr} {m bc : Nat} {w : World}

set_option maxHeartbeats 800000 in
theorem look1 (h : SM w0 B s a n cap b m bc w) : Calls Try.prog 52 #[.pointer (some ⟨B, 0, none⟩)] w (RetE (if knownB s.kind = false then 8 else 0) w) := by
  have c0 := h.at_.cs.c0
  obtain ⟨c, hc⟩ : ∃ c : Int, (if knownB s.kind = false then 8 else 0) = c := ⟨_, rfl⟩
  rw [hc]
  have HC := Lib.hid hc
  have HK := Lib.hid (known_k s.kind)
  have HN : Hid ((if (!knownB s.kind) = true then (8 : Int) else 0) = c) := Lib.hid (by rw [← hc]; cases knownB s.kind <;> rfl)
  clear hc
  generalize knownB s.kind = kb at *
  have HW := Lib.hid (when_any (!kb) 8)
  rw [HN.out] at HW
  go_enter Try.func52, Try.ntmps52
  go_wp2_with fail
  refine (HK.out _).mono ?_
  rintro e w1 ⟨rfl, rfl⟩
  go_wp2_with fail
  refine (HW.out _).mono ?_
  rintro e w1 ⟨rfl, rfl⟩
  go_wp2
  go_ret
  exact ⟨rfl, Below.refl _ _⟩

set_option maxHeartbeats 800000 in
theorem look2 (h : SM w0 B s a n cap b m bc w) (hf : s.Fit) : Calls Try.prog 55 #[.pointer (some ⟨B, 0, none⟩)] w (RetE (chk s.o) w) := by
  have HC := Lib.hid (check_any s.o a n cap w hf.o h.bl)
  unfold optCells at HC
  obtain ⟨c0, c1, c2, c3, c4, c5, c6, c7, c8, c9, c10⟩ := h.at_.cs
  go_enter Try.func55, Try.ntmps55
  go_wp2_with fail
  refine HC.out.mono ?_
  rintro e w1 ⟨rfl, h1⟩
  go_wp2
  go_ret
  exact ⟨rfl, h1⟩

set_option maxHeartbeats 800000 in
theorem suits_any (h : SM w0 B s a n cap b m bc w) : Calls Try.prog 58 #[segV s a n cap b m bc] w fun e w' => e = .returned (.bool (suitB s)) ∧ Below w.heap.size w w' := by
  have hm := h.body.len
  have hn := h.bl.len
  have hle := h.body.le
  have hmo := h.body.most
  have hle2 := h.bl.le
  have hmo2 := h.bl.most
  unfold maxLen at hmo hmo2
  have hS : Hid (suitB s = if s.kind = 1 then decide (0 < m) && decide (n = 0) else decide (m = 0)) := Lib.hid (by unfold suitB; rw [hm, hn])
  clear hm hn
  by_cases hk : s.kind = 1
  · have hk1 : (s.kind == 1) = true := by simpa using hk
    have HK := Lib.hid hk
    clear hk
    go_enter Try.func58, Try.ntmps58
    go_wp2
    all_goals
      go_ret
      exact ⟨ret_b (by rw [hS.out, if_pos HK.out, Bool.eq_iff_iff]; (try simp) <;> omega), bal _⟩
  · have hk1 : (s.kind == 1) = false := by simpa using hk
    have HK := Lib.hid hk
    clear hk
    go_enter Try.func58, Try.ntmps58
    go_wp2
    all_goals
      go_ret
      exact ⟨ret_b (by rw [hS.out, if_neg HK.out, Bool.eq_iff_iff]; (try simp) <;> omega), bal _⟩

set_option maxHeartbeats 800000 in
theorem look3 (h : SM w0 B s a n cap b m bc w) : Calls Try.prog 57 #[.pointer (some ⟨B, 0, none⟩)] w (RetE (if suitB s = false then 6 else 0) w) := by
  obtain ⟨c, hc⟩ : ∃ c : Int, (if suitB s = false then 6 else 0) = c := ⟨_, rfl⟩
  rw [hc]
  have HC := Lib.hid (suits_any h)
  have HN : Hid ((if (!suitB s) = true then (6 : Int) else 0) = c) := Lib.hid (by rw [← hc]; cases suitB s <;> rfl)
  clear hc
  generalize suitB s = kb at *
  have HW := Lib.hid (when_any (!kb) 6)
  rw [HN.out] at HW
  obtain ⟨c0, c1, c2, c3, c4, c5, c6, c7, c8, c9, c10⟩ := h.at_.cs
  go_enter Try.func57, Try.ntmps57
  go_wp2_with fail
  refine HC.out.mono ?_
  rintro e w1 ⟨rfl, h1⟩
  go_wp2_with fail
  refine (HW.out _).mono ?_
  rintro e w2 ⟨rfl, rfl⟩
  go_wp2
  go_ret
  exact ⟨rfl, h1⟩

set_option maxHeartbeats 800000 in
theorem look4 (h : SM w0 B s a n cap b m bc w) : Calls Try.prog 59 #[.pointer (some ⟨B, 0, none⟩)] w (RetE (if 2048 < s.body.length then 9 else 0) w) := by
  have hm := h.body.len
  have hle := h.body.le
  have hmo := h.body.most
  unfold maxLen at hmo
  have c10 := h.at_.cs.c10
  rw [hm]
  clear hm
  obtain ⟨c, hc⟩ : ∃ c : Int, (if 2048 < m then 9 else 0) = c := ⟨_, rfl⟩
  rw [hc]
  have HN : Hid ((if decide ((2048 : Int) < m) = true then (9 : Int) else 0) = c) := Lib.hid (by rw [← hc]; by_cases h : 2048 < m <;> simp [h] <;> omega)
  clear hc
  have HW := Lib.hid (when_any (decide ((2048 : Int) < m)) 9)
  rw [HN.out] at HW
  go_enter Try.func59, Try.ntmps59
  go_wp2_with fail
  refine (HW.out _).mono ?_
  rintro e w2 ⟨rfl, rfl⟩
  go_wp2
  go_ret
  exact ⟨rfl, Below.refl _ _⟩
end

/-! ### first, of four looks: each goes from one state to the next, or says what is wrong -/
def FPost (P : Nat → World → Prop) (Q : Int → World → Prop) (e : Ending) (w' : World) : Prop := ∃ c : Int, e = .returned (.int .i64 c) ∧ ((c = 0 ∧ P 4 w') ∨ (c ≠ 0 ∧ Q c w'))
def LPost (P : Nat → World → Prop) (Q : Int → World → Prop) (k : Nat) (e : Ending) (w' : World) : Prop := ∃ c : Int, e = .returned (.int .i64 c) ∧ ((c = 0 ∧ P (k + 1) w') ∨ (c ≠ 0 ∧ Q c w'))
end Go.Proofs.Ytdfenlagokndkaa.sg
