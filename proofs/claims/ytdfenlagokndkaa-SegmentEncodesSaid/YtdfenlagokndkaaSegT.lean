/-
  Package segment: Clone.
-/
import Derived.Test.YtdfenlagokndkaaSegW
import Derived.Test.YtdfenlagokndkaaOptH
import Derived.Test.YtdfenlagokndkaaSegD
namespace Go.Proofs.Ytdfenlagokndkaa.sg
open Go.RowKit aid mem oc op
set_option linter.unusedVariables false

def ClonePost (s : Seg) (n m : Nat) (w : World) (e : Ending) (w' : World) : Prop :=
  ∃ a' cap' b' bc', e = .returned (segV s a' n cap' b' m bc') ∧ BlA w' a' n cap' s.o.bl ∧ SlA .u8 w' b' m bc' s.body ∧ Below w.heap.size w w'

set_option maxRecDepth 100000 in
set_option maxHeartbeats 6400000 in
theorem sclone_any (s : Seg) (a : Option Addr) (n cap : Nat) (b : Option Addr) (m bc : Nat) (w : World) (hl : BlA w a n cap s.o.bl) (hb : SlA .u8 w b m bc s.body) (h1 : n * 8 ≤ 140737488355328) (h2 : m ≤ 140737488355328) :
    Calls Try.prog 14 #[segV s a n cap b m bc] w (ClonePost s n m w) := by
  obtain ⟨i0, hi, hz0, hz1, hz2⟩ := info_parts info_u8
  have M0 := (sm_new w s a n cap b m bc hl hb).later (bal (.cells #[.int .i64 0, .int .u32 0, .int .i64 0, .bool false, .bool false, .int .u32 0, .int .u32 0, .bool false, .int .i64 0, .slice none 0 0, .slice none 0 0] 28))
  have zc : SegAt ((w.alloc (.cells #[.int .i64 s.kind, .int .u32 s.num, .int .i64 s.o.mss, .bool s.o.permit, .bool s.o.ts, .int .u32 s.o.val, .int .u32 s.o.ecr, .bool s.o.hs, .int .i64 s.o.scale, .slice a n cap, .slice b m bc] 28)).alloc (.cells #[.int .i64 0, .int .u32 0, .int .i64 0, .bool false, .bool false, .int .u32 0, .int .u32 0, .bool false, .int .i64 0, .slice none 0 0, .slice none 0 0] 28)) (w.heap.size + 1) Seg.zero none 0 0 none 0 0 := by simpa [Seg.zero, Opt.zero] using seg_new (w.alloc (.cells #[.int .i64 s.kind, .int .u32 s.num, .int .i64 s.o.mss, .bool s.o.permit, .bool s.o.ts, .int .u32 s.o.val, .int .u32 s.o.ecr, .bool s.o.hs, .int .i64 s.o.scale, .slice a n cap, .slice b m bc] 28)) Seg.zero none 0 0 none 0 0
  have hlt : ∀ x, b = some x → 0 < m → x.block < w.heap.size := fun x hx h0 => by
    obtain ⟨bb, off, hbb, hc⟩ := hb.cells (by have := hb.le; omega)
    rw [hbb] at hx
    injection hx with hx
    subst hx
    exact World.block_lt_of_cell? w _ (hc 0 h0)
  have HC := Lib.hid (fun W h => clone_fresh s.o a n cap W h h1)
  unfold optCells at HC
  have HLT := Lib.hid hlt
  have hmo := hb.most
  have hle := hb.le
  unfold maxLen at hmo
  clear hl hb hlt
  go_enter Try.func14, Try.ntmps14
  go_wp2_with fail
  generalize ((w.alloc (.cells #[.int .i64 s.kind, .int .u32 s.num, .int .i64 s.o.mss, .bool s.o.permit, .bool s.o.ts, .int .u32 s.o.val, .int .u32 s.o.ecr, .bool s.o.hs, .int .i64 s.o.scale, .slice a n cap, .slice b m bc] 28)).alloc (.cells #[.int .i64 0, .int .u32 0, .int .i64 0, .bool false, .bool false, .int .u32 0, .int .u32 0, .bool false, .int .i64 0, .slice none 0 0, .slice none 0 0] 28)) = W at *
  generalize hB : w.heap.size = B at *
  have HB := Lib.hid hB
  clear hB
  obtain ⟨C, hC⟩ : ∃ C, B + 1 = C := ⟨_, rfl⟩
  rw [hC] at zc ⊢
  have hBC : B ≠ C := by omega
  have hCB : C ≠ B := by omega
  have HCC := Lib.hid hC
  clear hC
  refine (HC.out _ M0.bl).mono ?_
  rintro e w3 ⟨a', cap', rfl, hbl3, h3, hfr⟩
  have M3 := M0.later h3
  have zc3 := zc.later h3
  have nC := zc.lt
  have s3 : w3.heap[B]? = some _ := M3.at_
  have z3 : w3.heap[C]? = some _ := zc3
  simp only [Seg.zero, Opt.zero] at z3
  have q3 := M3.at_.cs
  have ff := M3.at_.fz
  have g2 : (w3.setCell ⟨B, 2, none⟩ (.int .i64 s.o.mss)).heap[B]? = some (.cells #[.int .i64 s.kind, .int .u32 s.num, .int .i64 s.o.mss, .bool s.o.permit, .bool s.o.ts, .int .u32 s.o.val, .int .u32 s.o.ecr, .bool s.o.hs, .int .i64 s.o.scale, .slice a n cap, .slice b m bc] 28 (0, 0)) := (heap_setCell_same _ B 2 _ _ _ s3).trans rfl
  have g3 : ((w3.setCell ⟨B, 2, none⟩ (.int .i64 s.o.mss)).setCell ⟨B, 3, none⟩ (.bool s.o.permit)).heap[B]? = some (.cells #[.int .i64 s.kind, .int .u32 s.num, .int .i64 s.o.mss, .bool s.o.permit, .bool s.o.ts, .int .u32 s.o.val, .int .u32 s.o.ecr, .bool s.o.hs, .int .i64 s.o.scale, .slice a n cap, .slice b m bc] 28 (0, 0)) := (heap_setCell_same _ B 3 _ _ _ g2).trans rfl
  have g4 : (((w3.setCell ⟨B, 2, none⟩ (.int .i64 s.o.mss)).setCell ⟨B, 3, none⟩ (.bool s.o.permit)).setCell ⟨B, 4, none⟩ (.bool s.o.ts)).heap[B]? = some (.cells #[.int .i64 s.kind, .int .u32 s.num, .int .i64 s.o.mss, .bool s.o.permit, .bool s.o.ts, .int .u32 s.o.val, .int .u32 s.o.ecr, .bool s.o.hs, .int .i64 s.o.scale, .slice a n cap, .slice b m bc] 28 (0, 0)) := (heap_setCell_same _ B 4 _ _ _ g3).trans rfl
  have g5 : ((((w3.setCell ⟨B, 2, none⟩ (.int .i64 s.o.mss)).setCell ⟨B, 3, none⟩ (.bool s.o.permit)).setCell ⟨B, 4, none⟩ (.bool s.o.ts)).setCell ⟨B, 5, none⟩ (.int .u32 s.o.val)).heap[B]? = some (.cells #[.int .i64 s.kind, .int .u32 s.num, .int .i64 s.o.mss, .bool s.o.permit, .bool s.o.ts, .int .u32 s.o.val, .int .u32 s.o.ecr, .bool s.o.hs, .int .i64 s.o.scale, .slice a n cap, .slice b m bc] 28 (0, 0)) := (heap_setCell_same _ B 5 _ _ _ g4).trans rfl
  have g6 : (((((w3.setCell ⟨B, 2, none⟩ (.int .i64 s.o.mss)).setCell ⟨B, 3, none⟩ (.bool s.o.permit)).setCell ⟨B, 4, none⟩ (.bool s.o.ts)).setCell ⟨B, 5, none⟩ (.int .u32 s.o.val)).setCell ⟨B, 6, none⟩ (.int .u32 s.o.ecr)).heap[B]? = some (.cells #[.int .i64 s.kind, .int .u32 s.num, .int .i64 s.o.mss, .bool s.o.permit, .bool s.o.ts, .int .u32 s.o.val, .int .u32 s.o.ecr, .bool s.o.hs, .int .i64 s.o.scale, .slice a n cap, .slice b m bc] 28 (0, 0)) := (heap_setCell_same _ B 6 _ _ _ g5).trans rfl
  have g7 : ((((((w3.setCell ⟨B, 2, none⟩ (.int .i64 s.o.mss)).setCell ⟨B, 3, none⟩ (.bool s.o.permit)).setCell ⟨B, 4, none⟩ (.bool s.o.ts)).setCell ⟨B, 5, none⟩ (.int .u32 s.o.val)).setCell ⟨B, 6, none⟩ (.int .u32 s.o.ecr)).setCell ⟨B, 7, none⟩ (.bool s.o.hs)).heap[B]? = some (.cells #[.int .i64 s.kind, .int .u32 s.num, .int .i64 s.o.mss, .bool s.o.permit, .bool s.o.ts, .int .u32 s.o.val, .int .u32 s.o.ecr, .bool s.o.hs, .int .i64 s.o.scale, .slice a n cap, .slice b m bc] 28 (0, 0)) := (heap_setCell_same _ B 7 _ _ _ g6).trans rfl
  have g8 : (((((((w3.setCell ⟨B, 2, none⟩ (.int .i64 s.o.mss)).setCell ⟨B, 3, none⟩ (.bool s.o.permit)).setCell ⟨B, 4, none⟩ (.bool s.o.ts)).setCell ⟨B, 5, none⟩ (.int .u32 s.o.val)).setCell ⟨B, 6, none⟩ (.int .u32 s.o.ecr)).setCell ⟨B, 7, none⟩ (.bool s.o.hs)).setCell ⟨B, 8, none⟩ (.int .i64 s.o.scale)).heap[B]? = some (.cells #[.int .i64 s.kind, .int .u32 s.num, .int .i64 s.o.mss, .bool s.o.permit, .bool s.o.ts, .int .u32 s.o.val, .int .u32 s.o.ecr, .bool s.o.hs, .int .i64 s.o.scale, .slice a n cap, .slice b m bc] 28 (0, 0)) := (heap_setCell_same _ B 8 _ _ _ g7).trans rfl
  have g9 : ((((((((w3.setCell ⟨B, 2, none⟩ (.int .i64 s.o.mss)).setCell ⟨B, 3, none⟩ (.bool s.o.permit)).setCell ⟨B, 4, none⟩ (.bool s.o.ts)).setCell ⟨B, 5, none⟩ (.int .u32 s.o.val)).setCell ⟨B, 6, none⟩ (.int .u32 s.o.ecr)).setCell ⟨B, 7, none⟩ (.bool s.o.hs)).setCell ⟨B, 8, none⟩ (.int .i64 s.o.scale)).setCell ⟨B, 9, none⟩ (.slice a' n cap')).heap[B]? = some (.cells #[.int .i64 s.kind, .int .u32 s.num, .int .i64 s.o.mss, .bool s.o.permit, .bool s.o.ts, .int .u32 s.o.val, .int .u32 s.o.ecr, .bool s.o.hs, .int .i64 s.o.scale, .slice a' n cap', .slice b m bc] 28 (0, 0)) := (heap_setCell_same _ B 9 _ _ _ g8).trans rfl
  have hk8 : Kept [B] w3 _ := (((((((((Kept.refl [B] w3).setCell (p := ⟨B, 2, none⟩) (.inl (by simp)) (.int .i64 s.o.mss)).setCell (p := ⟨B, 3, none⟩) (.inl (by simp)) (.bool s.o.permit)).setCell (p := ⟨B, 4, none⟩) (.inl (by simp)) (.bool s.o.ts)).setCell (p := ⟨B, 5, none⟩) (.inl (by simp)) (.int .u32 s.o.val)).setCell (p := ⟨B, 6, none⟩) (.inl (by simp)) (.int .u32 s.o.ecr)).setCell (p := ⟨B, 7, none⟩) (.inl (by simp)) (.bool s.o.hs)).setCell (p := ⟨B, 8, none⟩) (.inl (by simp)) (.int .i64 s.o.scale)).setCell (p := ⟨B, 9, none⟩) (.inl (by simp)) (.slice a' n cap'))
  have hs8 := slKeepN M3.body hk8 (fun x hx h0 => by have := HLT.out x hx h0; have := HB.out; simp; omega)
  have zc8 := hk8.heap (by simpa using hCB) z3
  have hbl8 := hbl3.keep hk8 (fun x hx h0 => by have := hfr x hx; simp; have := M0.at_.lt; omega)
  have hsz8 := hk8.size
  obtain ⟨c0, c1, c2, c3, c4, c5, c6, c7, c8, c9, c10⟩ := q3
  have f2 := ff 2
  have f4 := ff 4
  have f5 := ff 5
  have f6 := ff 6
  have f7 := ff 7
  have f8 := ff 8
  have f9 := ff 9
  have f3 := ff 3
  have HB3 := Lib.hid M3.below
  have HG9 := Lib.hid g9
  have HZ8 := Lib.hid zc8
  have HK8 := Lib.hid hk8
  have HBL8 := Lib.hid hbl8
  have HFR := Lib.hid hfr
  have nW := h3.size
  clear M0 M3 zc zc3 s3 z3 h3 hbl3 g2 g3 g4 g5 g6 g7 g8 g9 zc8 hk8 hbl8 hfr ff
  go_wp2_with (at_builtin; go_must ((with_reducible refine wpList_append_any _ rfl (.const (.slice none 0 0)) (.tmp 8) 26 26 rfl w3.heap.size 5 i0 (.int .u8 0) 1 Try.underlying26 hi hz0 hz1 hz2 rfl (.slice none 0 0) 0 [] rfl (World.ownsRow_nil _ _ _ _) (.slice b m bc) rfl m (ints .u8 s.body) (hs8.src Try.underlying26) (by unfold maxLen; omega) (by omega) hsz8 ?_); intro b9 k9 w4 own4 hg4 hat4; rw [Nat.zero_add, List.nil_append] at own4; rw [Nat.zero_add]; have hk4 := (Kept.refl [] _).grown hg4 (fun k hk => by simp [Value.ownBlock] at hk); have sb4 := hk4.heap (by simp) HG9.out; have zc4 := hk4.heap (by simp) HZ8.out; clear c0 c1 c2 c3 c4 c5 c6 c7 c8 c9 c10 f2 f3 f4 f5 f6 f7 f8 f9; have c0 := (cell_of_row _ B 0 _ _ (0, 0) sb4).trans (show _ = some _ from rfl); have c1 := (cell_of_row _ B 1 _ _ (0, 0) sb4).trans (show _ = some _ from rfl); have c2 := (cell_of_row _ B 2 _ _ (0, 0) sb4).trans (show _ = some _ from rfl); have c3 := (cell_of_row _ B 3 _ _ (0, 0) sb4).trans (show _ = some _ from rfl); have c4 := (cell_of_row _ B 4 _ _ (0, 0) sb4).trans (show _ = some _ from rfl); have c5 := (cell_of_row _ B 5 _ _ (0, 0) sb4).trans (show _ = some _ from rfl); have c6 := (cell_of_row _ B 6 _ _ (0, 0) sb4).trans (show _ = some _ from rfl); have c7 := (cell_of_row _ B 7 _ _ (0, 0) sb4).trans (show _ = some _ from rfl); have c8 := (cell_of_row _ B 8 _ _ (0, 0) sb4).trans (show _ = some _ from rfl); have c9 := (cell_of_row _ B 9 _ _ (0, 0) sb4).trans (show _ = some _ from rfl); have c10 := (cell_of_row _ B 10 _ _ (0, 0) sb4).trans (show _ = some _ from rfl); have d0 := (cell_of_row _ C 0 _ _ (0, 0) zc4).trans (show _ = some _ from rfl); have d1 := (cell_of_row _ C 1 _ _ (0, 0) zc4).trans (show _ = some _ from rfl); have d2 := (cell_of_row _ C 2 _ _ (0, 0) zc4).trans (show _ = some _ from rfl); have d3 := (cell_of_row _ C 3 _ _ (0, 0) zc4).trans (show _ = some _ from rfl); have d4 := (cell_of_row _ C 4 _ _ (0, 0) zc4).trans (show _ = some _ from rfl); have d5 := (cell_of_row _ C 5 _ _ (0, 0) zc4).trans (show _ = some _ from rfl); have d6 := (cell_of_row _ C 6 _ _ (0, 0) zc4).trans (show _ = some _ from rfl); have d7 := (cell_of_row _ C 7 _ _ (0, 0) zc4).trans (show _ = some _ from rfl); have d8 := (cell_of_row _ C 8 _ _ (0, 0) zc4).trans (show _ = some _ from rfl); have d9 := (cell_of_row _ C 9 _ _ (0, 0) zc4).trans (show _ = some _ from rfl); have d10 := (cell_of_row _ C 10 _ _ (0, 0) zc4).trans (show _ = some _ from rfl); have fb10 : w4.frozen? ⟨B, 10, none⟩ = false := (by simp [World.frozen?, sb4]); have fc0 : w4.frozen? ⟨C, 0, none⟩ = false := (by simp [World.frozen?, zc4]); have fc1 : w4.frozen? ⟨C, 1, none⟩ = false := (by simp [World.frozen?, zc4]); have fc2 : w4.frozen? ⟨C, 2, none⟩ = false := (by simp [World.frozen?, zc4]); have fc3 : w4.frozen? ⟨C, 3, none⟩ = false := (by simp [World.frozen?, zc4]); have fc4 : w4.frozen? ⟨C, 4, none⟩ = false := (by simp [World.frozen?, zc4]); have fc5 : w4.frozen? ⟨C, 5, none⟩ = false := (by simp [World.frozen?, zc4]); have fc6 : w4.frozen? ⟨C, 6, none⟩ = false := (by simp [World.frozen?, zc4]); have fc7 : w4.frozen? ⟨C, 7, none⟩ = false := (by simp [World.frozen?, zc4]); have fc8 : w4.frozen? ⟨C, 8, none⟩ = false := (by simp [World.frozen?, zc4]); have fc9 : w4.frozen? ⟨C, 9, none⟩ = false := (by simp [World.frozen?, zc4]); have fc10 : w4.frozen? ⟨C, 10, none⟩ = false := (by simp [World.frozen?, zc4])))
  have zc5 := ((Kept.refl [B] w4).setCell (p := ⟨B, 10, none⟩) (.inl (by simp)) (.slice b9 m k9)).heap (by simpa using hCB) zc4
  have r0 : ((w4.setCell ⟨B, 10, none⟩ (.slice b9 m k9)).setCell ⟨C, 0, none⟩ (.int .i64 s.kind)).heap[C]? = some (.cells #[.int .i64 s.kind, .int .u32 0, .int .i64 0, .bool false, .bool false, .int .u32 0, .int .u32 0, .bool false, .int .i64 0, .slice none 0 0, .slice none 0 0] 28 (0, 0)) := (heap_setCell_same _ C 0 _ _ _ zc5).trans rfl
  have r1 : (((w4.setCell ⟨B, 10, none⟩ (.slice b9 m k9)).setCell ⟨C, 0, none⟩ (.int .i64 s.kind)).setCell ⟨C, 1, none⟩ (.int .u32 s.num)).heap[C]? = some (.cells #[.int .i64 s.kind, .int .u32 s.num, .int .i64 0, .bool false, .bool false, .int .u32 0, .int .u32 0, .bool false, .int .i64 0, .slice none 0 0, .slice none 0 0] 28 (0, 0)) := (heap_setCell_same _ C 1 _ _ _ r0).trans rfl
  have r2 : ((((w4.setCell ⟨B, 10, none⟩ (.slice b9 m k9)).setCell ⟨C, 0, none⟩ (.int .i64 s.kind)).setCell ⟨C, 1, none⟩ (.int .u32 s.num)).setCell ⟨C, 2, none⟩ (.int .i64 s.o.mss)).heap[C]? = some (.cells #[.int .i64 s.kind, .int .u32 s.num, .int .i64 s.o.mss, .bool false, .bool false, .int .u32 0, .int .u32 0, .bool false, .int .i64 0, .slice none 0 0, .slice none 0 0] 28 (0, 0)) := (heap_setCell_same _ C 2 _ _ _ r1).trans rfl
  have r3 : (((((w4.setCell ⟨B, 10, none⟩ (.slice b9 m k9)).setCell ⟨C, 0, none⟩ (.int .i64 s.kind)).setCell ⟨C, 1, none⟩ (.int .u32 s.num)).setCell ⟨C, 2, none⟩ (.int .i64 s.o.mss)).setCell ⟨C, 3, none⟩ (.bool s.o.permit)).heap[C]? = some (.cells #[.int .i64 s.kind, .int .u32 s.num, .int .i64 s.o.mss, .bool s.o.permit, .bool false, .int .u32 0, .int .u32 0, .bool false, .int .i64 0, .slice none 0 0, .slice none 0 0] 28 (0, 0)) := (heap_setCell_same _ C 3 _ _ _ r2).trans rfl
  have r4 : ((((((w4.setCell ⟨B, 10, none⟩ (.slice b9 m k9)).setCell ⟨C, 0, none⟩ (.int .i64 s.kind)).setCell ⟨C, 1, none⟩ (.int .u32 s.num)).setCell ⟨C, 2, none⟩ (.int .i64 s.o.mss)).setCell ⟨C, 3, none⟩ (.bool s.o.permit)).setCell ⟨C, 4, none⟩ (.bool s.o.ts)).heap[C]? = some (.cells #[.int .i64 s.kind, .int .u32 s.num, .int .i64 s.o.mss, .bool s.o.permit, .bool s.o.ts, .int .u32 0, .int .u32 0, .bool false, .int .i64 0, .slice none 0 0, .slice none 0 0] 28 (0, 0)) := (heap_setCell_same _ C 4 _ _ _ r3).trans rfl
  have r5 : (((((((w4.setCell ⟨B, 10, none⟩ (.slice b9 m k9)).setCell ⟨C, 0, none⟩ (.int .i64 s.kind)).setCell ⟨C, 1, none⟩ (.int .u32 s.num)).setCell ⟨C, 2, none⟩ (.int .i64 s.o.mss)).setCell ⟨C, 3, none⟩ (.bool s.o.permit)).setCell ⟨C, 4, none⟩ (.bool s.o.ts)).setCell ⟨C, 5, none⟩ (.int .u32 s.o.val)).heap[C]? = some (.cells #[.int .i64 s.kind, .int .u32 s.num, .int .i64 s.o.mss, .bool s.o.permit, .bool s.o.ts, .int .u32 s.o.val, .int .u32 0, .bool false, .int .i64 0, .slice none 0 0, .slice none 0 0] 28 (0, 0)) := (heap_setCell_same _ C 5 _ _ _ r4).trans rfl
  have r6 : ((((((((w4.setCell ⟨B, 10, none⟩ (.slice b9 m k9)).setCell ⟨C, 0, none⟩ (.int .i64 s.kind)).setCell ⟨C, 1, none⟩ (.int .u32 s.num)).setCell ⟨C, 2, none⟩ (.int .i64 s.o.mss)).setCell ⟨C, 3, none⟩ (.bool s.o.permit)).setCell ⟨C, 4, none⟩ (.bool s.o.ts)).setCell ⟨C, 5, none⟩ (.int .u32 s.o.val)).setCell ⟨C, 6, none⟩ (.int .u32 s.o.ecr)).heap[C]? = some (.cells #[.int .i64 s.kind, .int .u32 s.num, .int .i64 s.o.mss, .bool s.o.permit, .bool s.o.ts, .int .u32 s.o.val, .int .u32 s.o.ecr, .bool false, .int .i64 0, .slice none 0 0, .slice none 0 0] 28 (0, 0)) := (heap_setCell_same _ C 6 _ _ _ r5).trans rfl
  have r7 : (((((((((w4.setCell ⟨B, 10, none⟩ (.slice b9 m k9)).setCell ⟨C, 0, none⟩ (.int .i64 s.kind)).setCell ⟨C, 1, none⟩ (.int .u32 s.num)).setCell ⟨C, 2, none⟩ (.int .i64 s.o.mss)).setCell ⟨C, 3, none⟩ (.bool s.o.permit)).setCell ⟨C, 4, none⟩ (.bool s.o.ts)).setCell ⟨C, 5, none⟩ (.int .u32 s.o.val)).setCell ⟨C, 6, none⟩ (.int .u32 s.o.ecr)).setCell ⟨C, 7, none⟩ (.bool s.o.hs)).heap[C]? = some (.cells #[.int .i64 s.kind, .int .u32 s.num, .int .i64 s.o.mss, .bool s.o.permit, .bool s.o.ts, .int .u32 s.o.val, .int .u32 s.o.ecr, .bool s.o.hs, .int .i64 0, .slice none 0 0, .slice none 0 0] 28 (0, 0)) := (heap_setCell_same _ C 7 _ _ _ r6).trans rfl
  have r8 : ((((((((((w4.setCell ⟨B, 10, none⟩ (.slice b9 m k9)).setCell ⟨C, 0, none⟩ (.int .i64 s.kind)).setCell ⟨C, 1, none⟩ (.int .u32 s.num)).setCell ⟨C, 2, none⟩ (.int .i64 s.o.mss)).setCell ⟨C, 3, none⟩ (.bool s.o.permit)).setCell ⟨C, 4, none⟩ (.bool s.o.ts)).setCell ⟨C, 5, none⟩ (.int .u32 s.o.val)).setCell ⟨C, 6, none⟩ (.int .u32 s.o.ecr)).setCell ⟨C, 7, none⟩ (.bool s.o.hs)).setCell ⟨C, 8, none⟩ (.int .i64 s.o.scale)).heap[C]? = some (.cells #[.int .i64 s.kind, .int .u32 s.num, .int .i64 s.o.mss, .bool s.o.permit, .bool s.o.ts, .int .u32 s.o.val, .int .u32 s.o.ecr, .bool s.o.hs, .int .i64 s.o.scale, .slice none 0 0, .slice none 0 0] 28 (0, 0)) := (heap_setCell_same _ C 8 _ _ _ r7).trans rfl
  have r9 : (((((((((((w4.setCell ⟨B, 10, none⟩ (.slice b9 m k9)).setCell ⟨C, 0, none⟩ (.int .i64 s.kind)).setCell ⟨C, 1, none⟩ (.int .u32 s.num)).setCell ⟨C, 2, none⟩ (.int .i64 s.o.mss)).setCell ⟨C, 3, none⟩ (.bool s.o.permit)).setCell ⟨C, 4, none⟩ (.bool s.o.ts)).setCell ⟨C, 5, none⟩ (.int .u32 s.o.val)).setCell ⟨C, 6, none⟩ (.int .u32 s.o.ecr)).setCell ⟨C, 7, none⟩ (.bool s.o.hs)).setCell ⟨C, 8, none⟩ (.int .i64 s.o.scale)).setCell ⟨C, 9, none⟩ (.slice a' n cap')).heap[C]? = some (.cells #[.int .i64 s.kind, .int .u32 s.num, .int .i64 s.o.mss, .bool s.o.permit, .bool s.o.ts, .int .u32 s.o.val, .int .u32 s.o.ecr, .bool s.o.hs, .int .i64 s.o.scale, .slice a' n cap', .slice none 0 0] 28 (0, 0)) := (heap_setCell_same _ C 9 _ _ _ r8).trans rfl
  have r10 : ((((((((((((w4.setCell ⟨B, 10, none⟩ (.slice b9 m k9)).setCell ⟨C, 0, none⟩ (.int .i64 s.kind)).setCell ⟨C, 1, none⟩ (.int .u32 s.num)).setCell ⟨C, 2, none⟩ (.int .i64 s.o.mss)).setCell ⟨C, 3, none⟩ (.bool s.o.permit)).setCell ⟨C, 4, none⟩ (.bool s.o.ts)).setCell ⟨C, 5, none⟩ (.int .u32 s.o.val)).setCell ⟨C, 6, none⟩ (.int .u32 s.o.ecr)).setCell ⟨C, 7, none⟩ (.bool s.o.hs)).setCell ⟨C, 8, none⟩ (.int .i64 s.o.scale)).setCell ⟨C, 9, none⟩ (.slice a' n cap')).setCell ⟨C, 10, none⟩ (.slice b9 m k9)).heap[C]? = some (.cells #[.int .i64 s.kind, .int .u32 s.num, .int .i64 s.o.mss, .bool s.o.permit, .bool s.o.ts, .int .u32 s.o.val, .int .u32 s.o.ecr, .bool s.o.hs, .int .i64 s.o.scale, .slice a' n cap', .slice b9 m k9] 28 (0, 0)) := (heap_setCell_same _ C 10 _ _ _ r9).trans rfl
  have hk : Kept [B, C] w4 _ := (((((((((((((Kept.refl [B, C] w4).setCell (p := ⟨B, 10, none⟩) (.inl (by simp)) (.slice b9 m k9)).setCell (p := ⟨C, 0, none⟩) (.inl (by simp)) (.int .i64 s.kind)).setCell (p := ⟨C, 1, none⟩) (.inl (by simp)) (.int .u32 s.num)).setCell (p := ⟨C, 2, none⟩) (.inl (by simp)) (.int .i64 s.o.mss)).setCell (p := ⟨C, 3, none⟩) (.inl (by simp)) (.bool s.o.permit)).setCell (p := ⟨C, 4, none⟩) (.inl (by simp)) (.bool s.o.ts)).setCell (p := ⟨C, 5, none⟩) (.inl (by simp)) (.int .u32 s.o.val)).setCell (p := ⟨C, 6, none⟩) (.inl (by simp)) (.int .u32 s.o.ecr)).setCell (p := ⟨C, 7, none⟩) (.inl (by simp)) (.bool s.o.hs)).setCell (p := ⟨C, 8, none⟩) (.inl (by simp)) (.int .i64 s.o.scale)).setCell (p := ⟨C, 9, none⟩) (.inl (by simp)) (.slice a' n cap')).setCell (p := ⟨C, 10, none⟩) (.inl (by simp)) (.slice b9 m k9))
  have e0 := (cell_of_row _ C 0 _ _ (0, 0) r10).trans (show _ = some _ from rfl)
  have e1 := (cell_of_row _ C 1 _ _ (0, 0) r10).trans (show _ = some _ from rfl)
  have e2 := (cell_of_row _ C 2 _ _ (0, 0) r10).trans (show _ = some _ from rfl)
  have e3 := (cell_of_row _ C 3 _ _ (0, 0) r10).trans (show _ = some _ from rfl)
  have e4 := (cell_of_row _ C 4 _ _ (0, 0) r10).trans (show _ = some _ from rfl)
  have e5 := (cell_of_row _ C 5 _ _ (0, 0) r10).trans (show _ = some _ from rfl)
  have e6 := (cell_of_row _ C 6 _ _ (0, 0) r10).trans (show _ = some _ from rfl)
  have e7 := (cell_of_row _ C 7 _ _ (0, 0) r10).trans (show _ = some _ from rfl)
  have e8 := (cell_of_row _ C 8 _ _ (0, 0) r10).trans (show _ = some _ from rfl)
  have e9 := (cell_of_row _ C 9 _ _ (0, 0) r10).trans (show _ = some _ from rfl)
  have e10 := (cell_of_row _ C 10 _ _ (0, 0) r10).trans (show _ = some _ from rfl)
  obtain ⟨b10, k10, hv10, hs10, hob10⟩ := sl_of_own own4
  injection hv10 with i1 _ i3
  subst i1 i3
  have hB4 : Below w.heap.size w w4 := (HB3.out.trans (HK8.out.below (by have := HB.out; simp; omega) HB3.out.size)).grown hg4 (Nat.le_trans HB3.out.size hsz8) (fun k hk => by simp [Value.ownBlock] at hk)
  have hlow : ∀ y, w3.heap.size ≤ y → y ∉ [B, C] := fun y hy => by have := HCC.out; simp; omega
  refine bodyPost_ret (v := segV s a' n cap' b9 m k9) (by simp [results, Try.results14, go_sem, e0, e1, e2, e3, e4, e5, e6, e7, e8, e9, e10]) rfl ⟨a', cap', b9, k9, rfl, (HBL8.out.keep hk4 (by simp)).keep hk (fun x hx h0 => ?_), slKeepN hs10 hk (fun x hx h0 => hlow _ ?_), hB4.trans (hk.below ?_ hB4.size)⟩
  · have := HFR.out x hx
    have := HCC.out
    simp
    omega
  · exact (own4.lt _ (hob10 x hx)).1
  · intro k hk'
    have := HB.out
    have := HCC.out
    simp at hk'
    omega
end Go.Proofs.Ytdfenlagokndkaa.sg
