/-
  Package segment: Decode.
-/
import Derived.Test.YtdfenlagokndkaaSegG
namespace Go.Proofs.Ytdfenlagokndkaa.sg
open Go.RowKit aid mem oc op sm
set_option linter.unusedVariables false

def Seg.s1 (s : Seg) : Seg := { Seg.zero with kind := s.kind }
def Seg.s2 (s : Seg) : Seg := { s.s1 with num := s.num }
def Seg.s3 (s : Seg) : Seg := { s.s2 with o := s.o }

/-- the states between the looks -/
def PS (w0 : World) (N p Q : Nat) (S : List Nat) (s : Seg) (l1 l2 : List Int) : Nat → World → Prop
  | 0 => DS w0 N p Q S 0 (s.kind :: l1) Seg.zero none 0 0 none 0 0
  | 1 => DS w0 N p Q S 0 l1 s.s1 none 0 0 none 0 0
  | 2 => DS w0 N p Q S ((enc s.o).length : Int) (enc s.o ++ s.body) s.s2 none 0 0 none 0 0
  | 3 => fun W => ∃ a n cap, DS w0 N p Q S ((enc s.o).length : Int) s.body s.s3 a n cap none 0 0 W
  | _ => fun W => ∃ a n cap b m bc, DS w0 N p Q S ((enc s.o).length : Int) s.body s a n cap b m bc W
theorem PS.alloc {w0 : World} {N p Q : Nat} {S : List Nat} {s : Seg} {l1 l2 : List Int} (k : Nat) (w : World) (o : Obj) (h : PS w0 N p Q S s l1 l2 k w) : PS w0 N p Q S s l1 l2 k (w.alloc o) := by
  match k, h with
  | 0, h => exact DS.later h (bal o)
  | 1, h => exact DS.later h (bal o)
  | 2, h => exact DS.later h (bal o)
  | 3, ⟨a, n, cap, h⟩ => exact ⟨a, n, cap, DS.later h (bal o)⟩
  | k + 4, ⟨a, n, cap, b, m, bc, h⟩ => exact ⟨a, n, cap, b, m, bc, DS.later h (bal o)⟩

theorem first_dec (w0 : World) (N p Q : Nat) (S : List Nat) (s : Seg) (hf : s.Fit) (hk : schk s = 0) (l1 : List Int) (hl : sencL s = s.kind :: l1) (w : World) (h : PS w0 N p Q S s l1 [] 0 w) :
    Calls Try.prog 51 #[.agg #[.func (.func 85) #[] #[.pointer (some ⟨N, 0, none⟩), .pointer (some ⟨N + 1, 0, none⟩)], .func (.func 87) #[] #[.pointer (some ⟨N, 0, none⟩), .pointer (some ⟨N + 3, 0, none⟩), .pointer (some ⟨N + 1, 0, none⟩)], .func (.func 90) #[] #[.pointer (some ⟨N, 0, none⟩), .pointer (some ⟨N + 3, 0, none⟩), .pointer (some ⟨N + 1, 0, none⟩)], .func (.func 93) #[] #[.pointer (some ⟨N, 0, none⟩), .pointer (some ⟨N + 1, 0, none⟩)]]] w
      fun e w' => e = .returned (.int .i64 0) ∧ PS w0 N p Q S s l1 [] 4 w' := by
  obtain ⟨hk1, hk2, hk3, hk4⟩ := schk0 hk
  obtain ⟨u, c0, c1, x0, x1, x2, x3, hcons, hu, hu40, hn4⟩ := senc_cons s hk hf
  have hbd := bd_senc s hf hk2
  rw [hcons] at hbd
  have hl1 : l1 = u :: c0 :: c1 :: x0 :: x1 :: x2 :: x3 :: (enc s.o ++ s.body) := by
    rw [hl] at hcons
    injection hcons
  have hkn : knownB s.kind = true := by unfold knownB; rcases hk1 with h | h <;> simp [h]
  refine (first_any _ _ _ _ _ _ _ _ (PS w0 N p Q S s l1 []) (fun _ _ => False) PS.alloc (fun _ => by kernel_rfl) (fun _ => by kernel_rfl) (fun _ => by kernel_rfl) (fun _ => by kernel_rfl) ?_ ?_ ?_ ?_ w h).mono ?_
  · intro W hW
    refine (dlook1 s.kind hW (by rw [hl1]; exact hbd) hkn).mono ?_
    rintro e W' ⟨rfl, hD⟩
    exact ⟨0, rfl, .inl ⟨rfl, hD⟩⟩
  · intro W hW
    have hW' : DS w0 N p Q S 0 (u :: c0 :: c1 :: x0 :: x1 :: x2 :: x3 :: (enc s.o ++ s.body)) s.s1 none 0 0 none 0 0 W := by rw [← hl1]; exact hW
    refine (dlook2 u c0 c1 x0 x1 x2 x3 hW' (fun y hy => hbd y (by simp [hy])) hu40).mono ?_
    rintro e W' ⟨rfl, hD⟩
    rw [hn4, hu] at hD
    exact ⟨0, rfl, .inl ⟨rfl, hD⟩⟩
  · intro W hW
    refine (dlook3 (enc s.o).length (enc s.o) s.o hW rfl (bd_enc s.o hf.o (chk0_bl hk2).1) (parse_enc s.o hf.o hk2)).mono ?_
    rintro e W' ⟨rfl, a, n, cap, hD⟩
    exact ⟨0, rfl, .inl ⟨rfl, a, n, cap, hD⟩⟩
  · intro W ⟨a, n, cap, hW⟩
    refine (dlook4 hW hf hk).mono ?_
    rintro e W' ⟨rfl, b, m, bc, hD⟩
    exact ⟨0, rfl, .inl ⟨rfl, a, n, cap, b, m, bc, hD⟩⟩
  · rintro e W' ⟨c, rfl, ⟨rfl, h⟩ | ⟨_, h⟩⟩
    · exact ⟨rfl, h⟩
    · exact h.elim

theorem ds_start {w0 w : World} {N p Q : Nat} {S : List Nat} {l : List Int} (cr : w.cell? ⟨N, 0, none⟩ = some (.pointer (some ⟨p, 0, none⟩))) (cq : w.cell? ⟨N + 1, 0, none⟩ = some (.pointer (some ⟨Q, 0, none⟩))) (cz : w.cell? ⟨N + 3, 0, none⟩ = some (.int .i64 0)) (fz : w.frozen? ⟨N + 3, 0, none⟩ = false)
    (rd : Rd w p S l) (seg : SegAt w Q Seg.zero none 0 0 none 0 0) (hQ : Q < p ∧ p < N) (hS : ∀ x ∈ S, Q < x ∧ x < N) (h0 : w0.heap.size ≤ Q) (hb : Below w0.heap.size w0 w) : DS w0 N p Q S 0 l Seg.zero none 0 0 none 0 0 w :=
  ⟨cr, cq, cz, fz, rd, seg, bl_none w, sl_none w, (fun x hx => by cases hx), (fun x hx => by cases hx), (fun x hx => by cases hx), ⟨by omega, by omega, by omega, by omega, by omega, by omega, by omega⟩, ⟨fun h => by have := hS Q h; omega, fun h => by have := hS _ h; omega⟩, ⟨by omega, h0, by omega⟩, hb⟩

set_option maxRecDepth 100000 in
set_option maxHeartbeats 3200000 in
theorem sdecode_ok (s : Seg) (x : Option Addr) (k c : Nat) (w : World) (hf : s.Fit) (hk : schk s = 0) (hs : SlA .u8 w x k c (sencL s)) :
    Calls Try.prog 21 #[.slice x k c] w (DecPost s w) := by
  have hlen := hs.len
  have hbd := bd_senc s hf (schk0 hk).2.1
  have hfine : fineB (sencL s) = true := by unfold fineB; rw [senc_fine s hf (schk0 hk).2.1]; simp
  have hl := senc_len s
  have h8 : 8 ≤ k := by omega
  have hm : k ≤ 2096 := by have := (chk0_bl (schk0 hk).2.1).2; have := (schk0 hk).2.2.2; omega
  obtain ⟨u, c0, c1, x0, x1, x2, x3, hcons, _⟩ := senc_cons s hk hf
  generalize u :: c0 :: c1 :: x0 :: x1 :: x2 :: x3 :: (enc s.o ++ s.body) = l1 at hcons
  have HW := Lib.hid (fun W h => whole_any x k c (sencL s) W h hbd h8 hm)
  rw [hfine, if_pos rfl] at HW
  have HF := Lib.hid (fun w0 N p Q S W h => first_dec w0 N p Q S s hf hk l1 hcons W h)
  have hz := seg_new w Seg.zero none 0 0 none 0 0
  have b1 := bal (w := w) (.cells #[.int .i64 0, .int .u32 0, .int .i64 0, .bool false, .bool false, .int .u32 0, .int .u32 0, .bool false, .int .i64 0, .slice none 0 0, .slice none 0 0] 28)
  have hs1 := hs.later b1
  simp only [Seg.zero, Opt.zero] at hz b1 hs1
  have HCONS := Lib.hid hcons
  clear hlen hbd hfine hl hs hcons
  go_enter Try.func21, Try.ntmps21
  go_wp2_with fail
  have hzs := b1.size
  refine (HW.out _ hs1).mono ?_
  rintro e w2 ⟨rfl, h2⟩
  have z2 := hz.later h2
  have hs2 := hs1.later h2
  have b2 := b1.trans (h2.mono hzs)
  have s2 := h2.size
  have hz1 := hz
  have h2' := h2
  clear hz hs1 h2
  go_wp2_with fail
  have q3 := seg_new w2 Seg.zero none 0 0 none 0 0
  simp only [Seg.zero, Opt.zero] at q3
  have hs3 := hs2.later (bal (.cells #[.int .i64 0, .int .u32 0, .int .i64 0, .bool false, .bool false, .int .u32 0, .int .u32 0, .bool false, .int .i64 0, .slice none 0 0, .slice none 0 0] 28))
  have z3 := z2.later (bal (.cells #[.int .i64 0, .int .u32 0, .int .i64 0, .bool false, .bool false, .int .u32 0, .int .u32 0, .bool false, .int .i64 0, .slice none 0 0, .slice none 0 0] 28))
  have k3 : Below (w.alloc (.cells #[.int .i64 0, .int .u32 0, .int .i64 0, .bool false, .bool false, .int .u32 0, .int .u32 0, .bool false, .int .i64 0, .slice none 0 0, .slice none 0 0] 28)).heap.size (w.alloc (.cells #[.int .i64 0, .int .u32 0, .int .i64 0, .bool false, .bool false, .int .u32 0, .int .u32 0, .bool false, .int .i64 0, .slice none 0 0, .slice none 0 0] 28)) (w2.alloc (.cells #[.int .i64 0, .int .u32 0, .int .i64 0, .bool false, .bool false, .int .u32 0, .int .u32 0, .bool false, .int .i64 0, .slice none 0 0, .slice none 0 0] 28)) := h2'.alloc s2 _
  generalize hW1 : w.alloc (.cells #[.int .i64 0, .int .u32 0, .int .i64 0, .bool false, .bool false, .int .u32 0, .int .u32 0, .bool false, .int .i64 0, .slice none 0 0, .slice none 0 0] 28) = W1 at *
  generalize hW3 : w2.alloc (.cells #[.int .i64 0, .int .u32 0, .int .i64 0, .bool false, .bool false, .int .u32 0, .int .u32 0, .bool false, .int .i64 0, .slice none 0 0, .slice none 0 0] 28) = W3 at *
  have sz1 : W1.heap.size = w.heap.size + 1 := by rw [← hW1]; simp
  have sz3 : W3.heap.size = w2.heap.size + 1 := by rw [← hW3]; simp
  have SZ1 := Lib.hid sz1
  have SZ3 := Lib.hid sz3
  clear hW1 hW3 sz1 sz3
  generalize hQ : w2.heap.size = Q at *
  generalize hR : w.heap.size = R at *
  have HQ := Lib.hid hQ
  have HR := Lib.hid hR
  clear hQ hR
  refine (new_lt x k c _ _ hs3 (by omega)).mono ?_
  rintro e w4 ⟨p, S, rfl, hr, hp, hS, hpl, h4⟩
  rw [HCONS.out] at hr
  have z4 := z3.later h4
  have q4 := q3.later h4
  have k4 := k3.trans (h4.mono k3.size)
  clear hs2 hs3 z2 z3 q3 h4
  go_wp2_with fail
  refine (sparts_any p Q w4).mono ?_
  rintro e w5 ⟨rfl, p0, p1, p3, pf, psz, h5⟩
  have z5 := z4.later h5
  have q5 := q4.later h5
  have k5 := k4.trans (h5.mono k4.size)
  have D5 := ds_start (w0 := W1) (l := s.kind :: l1) p0 p1 p3 pf (hr.keep (Kept.of_below h5 (Nat.le_refl _) []) (by simp) (by simp)) q5 ⟨by have := SZ3.out; omega, hpl⟩ (fun y hy => by have := hS y hy; have := SZ3.out; omega) (by have := SZ1.out; have := HR.out; omega) k5
  generalize w4.heap.size = N at *
  clear z4 q4 k4 h5 p0 p1 p3 pf q5 hr hp hS hpl psz
  go_wp2_with fail
  refine (HF.out W1 N p Q S w5 D5).mono ?_
  rintro e w6 ⟨rfl, a, n, cap, b, m, bc, D6⟩
  have k6 := D6.below
  have z6 : SegAt w6 R Seg.zero none 0 0 none 0 0 := (Kept.of_below k6 (Nat.le_refl _) []).heap (by simp) hz1
  clear D5 z5 k5
  obtain ⟨c0, c1, c2, c3, c4, c5, c6, c7, c8, c9, c10⟩ := D6.seg.cs
  obtain ⟨d0, d1, d2, d3, d4, d5, d6, d7, d8, d9, d10⟩ := z6.cs
  have f0 := z6.fz 0
  have f1 := z6.fz 1
  have f2 := z6.fz 2
  have f3 := z6.fz 3
  have f4 := z6.fz 4
  have f5 := z6.fz 5
  have f6 := z6.fz 6
  have f7 := z6.fz 7
  have f8 := z6.fz 8
  have f9 := z6.fz 9
  have f10 := z6.fz 10
  have hRQ : R ≠ Q := by have := D6.lo.2.1; have := SZ1.out; have := HR.out; omega
  have hQR := hRQ.symm
  have HD := Lib.hid D6
  have HZ6 := Lib.hid z6
  have HK6 := Lib.hid k6
  clear D6 z6 k6 hz1
  simp only [Seg.zero, Opt.zero] at d0 d1 d2 d3 d4 d5 d6 d7 d8 d9 d10
  go_wp2_with fail
  have z6 := HZ6.out
  unfold SegAt at z6
  simp only [Seg.zero, Opt.zero] at z6
  have g0 : (w6.setCell ⟨R, 0, none⟩ (.int .i64 s.kind)).heap[R]? = some (.cells #[.int .i64 s.kind, .int .u32 0, .int .i64 0, .bool false, .bool false, .int .u32 0, .int .u32 0, .bool false, .int .i64 0, .slice none 0 0, .slice none 0 0] 28 (0, 0)) := (heap_setCell_same _ R 0 _ _ _ z6).trans rfl
  have g1 : ((w6.setCell ⟨R, 0, none⟩ (.int .i64 s.kind)).setCell ⟨R, 1, none⟩ (.int .u32 s.num)).heap[R]? = some (.cells #[.int .i64 s.kind, .int .u32 s.num, .int .i64 0, .bool false, .bool false, .int .u32 0, .int .u32 0, .bool false, .int .i64 0, .slice none 0 0, .slice none 0 0] 28 (0, 0)) := (heap_setCell_same _ R 1 _ _ _ g0).trans rfl
  have g2 : (((w6.setCell ⟨R, 0, none⟩ (.int .i64 s.kind)).setCell ⟨R, 1, none⟩ (.int .u32 s.num)).setCell ⟨R, 2, none⟩ (.int .i64 s.o.mss)).heap[R]? = some (.cells #[.int .i64 s.kind, .int .u32 s.num, .int .i64 s.o.mss, .bool false, .bool false, .int .u32 0, .int .u32 0, .bool false, .int .i64 0, .slice none 0 0, .slice none 0 0] 28 (0, 0)) := (heap_setCell_same _ R 2 _ _ _ g1).trans rfl
  have g3 : ((((w6.setCell ⟨R, 0, none⟩ (.int .i64 s.kind)).setCell ⟨R, 1, none⟩ (.int .u32 s.num)).setCell ⟨R, 2, none⟩ (.int .i64 s.o.mss)).setCell ⟨R, 3, none⟩ (.bool s.o.permit)).heap[R]? = some (.cells #[.int .i64 s.kind, .int .u32 s.num, .int .i64 s.o.mss, .bool s.o.permit, .bool false, .int .u32 0, .int .u32 0, .bool false, .int .i64 0, .slice none 0 0, .slice none 0 0] 28 (0, 0)) := (heap_setCell_same _ R 3 _ _ _ g2).trans rfl
  have g4 : (((((w6.setCell ⟨R, 0, none⟩ (.int .i64 s.kind)).setCell ⟨R, 1, none⟩ (.int .u32 s.num)).setCell ⟨R, 2, none⟩ (.int .i64 s.o.mss)).setCell ⟨R, 3, none⟩ (.bool s.o.permit)).setCell ⟨R, 4, none⟩ (.bool s.o.ts)).heap[R]? = some (.cells #[.int .i64 s.kind, .int .u32 s.num, .int .i64 s.o.mss, .bool s.o.permit, .bool s.o.ts, .int .u32 0, .int .u32 0, .bool false, .int .i64 0, .slice none 0 0, .slice none 0 0] 28 (0, 0)) := (heap_setCell_same _ R 4 _ _ _ g3).trans rfl
  have g5 : ((((((w6.setCell ⟨R, 0, none⟩ (.int .i64 s.kind)).setCell ⟨R, 1, none⟩ (.int .u32 s.num)).setCell ⟨R, 2, none⟩ (.int .i64 s.o.mss)).setCell ⟨R, 3, none⟩ (.bool s.o.permit)).setCell ⟨R, 4, none⟩ (.bool s.o.ts)).setCell ⟨R, 5, none⟩ (.int .u32 s.o.val)).heap[R]? = some (.cells #[.int .i64 s.kind, .int .u32 s.num, .int .i64 s.o.mss, .bool s.o.permit, .bool s.o.ts, .int .u32 s.o.val, .int .u32 0, .bool false, .int .i64 0, .slice none 0 0, .slice none 0 0] 28 (0, 0)) := (heap_setCell_same _ R 5 _ _ _ g4).trans rfl
  have g6 : (((((((w6.setCell ⟨R, 0, none⟩ (.int .i64 s.kind)).setCell ⟨R, 1, none⟩ (.int .u32 s.num)).setCell ⟨R, 2, none⟩ (.int .i64 s.o.mss)).setCell ⟨R, 3, none⟩ (.bool s.o.permit)).setCell ⟨R, 4, none⟩ (.bool s.o.ts)).setCell ⟨R, 5, none⟩ (.int .u32 s.o.val)).setCell ⟨R, 6, none⟩ (.int .u32 s.o.ecr)).heap[R]? = some (.cells #[.int .i64 s.kind, .int .u32 s.num, .int .i64 s.o.mss, .bool s.o.permit, .bool s.o.ts, .int .u32 s.o.val, .int .u32 s.o.ecr, .bool false, .int .i64 0, .slice none 0 0, .slice none 0 0] 28 (0, 0)) := (heap_setCell_same _ R 6 _ _ _ g5).trans rfl
  have g7 : ((((((((w6.setCell ⟨R, 0, none⟩ (.int .i64 s.kind)).setCell ⟨R, 1, none⟩ (.int .u32 s.num)).setCell ⟨R, 2, none⟩ (.int .i64 s.o.mss)).setCell ⟨R, 3, none⟩ (.bool s.o.permit)).setCell ⟨R, 4, none⟩ (.bool s.o.ts)).setCell ⟨R, 5, none⟩ (.int .u32 s.o.val)).setCell ⟨R, 6, none⟩ (.int .u32 s.o.ecr)).setCell ⟨R, 7, none⟩ (.bool s.o.hs)).heap[R]? = some (.cells #[.int .i64 s.kind, .int .u32 s.num, .int .i64 s.o.mss, .bool s.o.permit, .bool s.o.ts, .int .u32 s.o.val, .int .u32 s.o.ecr, .bool s.o.hs, .int .i64 0, .slice none 0 0, .slice none 0 0] 28 (0, 0)) := (heap_setCell_same _ R 7 _ _ _ g6).trans rfl
  have g8 : (((((((((w6.setCell ⟨R, 0, none⟩ (.int .i64 s.kind)).setCell ⟨R, 1, none⟩ (.int .u32 s.num)).setCell ⟨R, 2, none⟩ (.int .i64 s.o.mss)).setCell ⟨R, 3, none⟩ (.bool s.o.permit)).setCell ⟨R, 4, none⟩ (.bool s.o.ts)).setCell ⟨R, 5, none⟩ (.int .u32 s.o.val)).setCell ⟨R, 6, none⟩ (.int .u32 s.o.ecr)).setCell ⟨R, 7, none⟩ (.bool s.o.hs)).setCell ⟨R, 8, none⟩ (.int .i64 s.o.scale)).heap[R]? = some (.cells #[.int .i64 s.kind, .int .u32 s.num, .int .i64 s.o.mss, .bool s.o.permit, .bool s.o.ts, .int .u32 s.o.val, .int .u32 s.o.ecr, .bool s.o.hs, .int .i64 s.o.scale, .slice none 0 0, .slice none 0 0] 28 (0, 0)) := (heap_setCell_same _ R 8 _ _ _ g7).trans rfl
  have g9 : ((((((((((w6.setCell ⟨R, 0, none⟩ (.int .i64 s.kind)).setCell ⟨R, 1, none⟩ (.int .u32 s.num)).setCell ⟨R, 2, none⟩ (.int .i64 s.o.mss)).setCell ⟨R, 3, none⟩ (.bool s.o.permit)).setCell ⟨R, 4, none⟩ (.bool s.o.ts)).setCell ⟨R, 5, none⟩ (.int .u32 s.o.val)).setCell ⟨R, 6, none⟩ (.int .u32 s.o.ecr)).setCell ⟨R, 7, none⟩ (.bool s.o.hs)).setCell ⟨R, 8, none⟩ (.int .i64 s.o.scale)).setCell ⟨R, 9, none⟩ (.slice a n cap)).heap[R]? = some (.cells #[.int .i64 s.kind, .int .u32 s.num, .int .i64 s.o.mss, .bool s.o.permit, .bool s.o.ts, .int .u32 s.o.val, .int .u32 s.o.ecr, .bool s.o.hs, .int .i64 s.o.scale, .slice a n cap, .slice none 0 0] 28 (0, 0)) := (heap_setCell_same _ R 9 _ _ _ g8).trans rfl
  have g10 : (((((((((((w6.setCell ⟨R, 0, none⟩ (.int .i64 s.kind)).setCell ⟨R, 1, none⟩ (.int .u32 s.num)).setCell ⟨R, 2, none⟩ (.int .i64 s.o.mss)).setCell ⟨R, 3, none⟩ (.bool s.o.permit)).setCell ⟨R, 4, none⟩ (.bool s.o.ts)).setCell ⟨R, 5, none⟩ (.int .u32 s.o.val)).setCell ⟨R, 6, none⟩ (.int .u32 s.o.ecr)).setCell ⟨R, 7, none⟩ (.bool s.o.hs)).setCell ⟨R, 8, none⟩ (.int .i64 s.o.scale)).setCell ⟨R, 9, none⟩ (.slice a n cap)).setCell ⟨R, 10, none⟩ (.slice b m bc)).heap[R]? = some (.cells #[.int .i64 s.kind, .int .u32 s.num, .int .i64 s.o.mss, .bool s.o.permit, .bool s.o.ts, .int .u32 s.o.val, .int .u32 s.o.ecr, .bool s.o.hs, .int .i64 s.o.scale, .slice a n cap, .slice b m bc] 28 (0, 0)) := (heap_setCell_same _ R 10 _ _ _ g9).trans rfl
  have hk : Kept [R] w6 _ := ((((((((((((Kept.refl [R] w6).setCell (p := ⟨R, 0, none⟩) (.inl (by simp)) (.int .i64 s.kind)).setCell (p := ⟨R, 1, none⟩) (.inl (by simp)) (.int .u32 s.num)).setCell (p := ⟨R, 2, none⟩) (.inl (by simp)) (.int .i64 s.o.mss)).setCell (p := ⟨R, 3, none⟩) (.inl (by simp)) (.bool s.o.permit)).setCell (p := ⟨R, 4, none⟩) (.inl (by simp)) (.bool s.o.ts)).setCell (p := ⟨R, 5, none⟩) (.inl (by simp)) (.int .u32 s.o.val)).setCell (p := ⟨R, 6, none⟩) (.inl (by simp)) (.int .u32 s.o.ecr)).setCell (p := ⟨R, 7, none⟩) (.inl (by simp)) (.bool s.o.hs)).setCell (p := ⟨R, 8, none⟩) (.inl (by simp)) (.int .i64 s.o.scale)).setCell (p := ⟨R, 9, none⟩) (.inl (by simp)) (.slice a n cap)).setCell (p := ⟨R, 10, none⟩) (.inl (by simp)) (.slice b m bc))
  have e0 := (cell_of_row _ R 0 _ _ (0, 0) g10).trans (show _ = some _ from rfl)
  have e1 := (cell_of_row _ R 1 _ _ (0, 0) g10).trans (show _ = some _ from rfl)
  have e2 := (cell_of_row _ R 2 _ _ (0, 0) g10).trans (show _ = some _ from rfl)
  have e3 := (cell_of_row _ R 3 _ _ (0, 0) g10).trans (show _ = some _ from rfl)
  have e4 := (cell_of_row _ R 4 _ _ (0, 0) g10).trans (show _ = some _ from rfl)
  have e5 := (cell_of_row _ R 5 _ _ (0, 0) g10).trans (show _ = some _ from rfl)
  have e6 := (cell_of_row _ R 6 _ _ (0, 0) g10).trans (show _ = some _ from rfl)
  have e7 := (cell_of_row _ R 7 _ _ (0, 0) g10).trans (show _ = some _ from rfl)
  have e8 := (cell_of_row _ R 8 _ _ (0, 0) g10).trans (show _ = some _ from rfl)
  have e9 := (cell_of_row _ R 9 _ _ (0, 0) g10).trans (show _ = some _ from rfl)
  have e10 := (cell_of_row _ R 10 _ _ (0, 0) g10).trans (show _ = some _ from rfl)
  have D := HD.out
  have hlo : ∀ y, R < y → y ∉ [R] := fun y hy h => by simp at h; omega
  have hR1 : R < W1.heap.size := by have := SZ1.out; omega
  refine bodyPost_ret (v := .tuple #[segV s a n cap b m bc, .int .i64 0]) (by simp [results, Try.results21, go_sem, e0, e1, e2, e3, e4, e5, e6, e7, e8, e9, e10]) rfl ⟨a, n, cap, b, m, bc, rfl, D.bl.keep hk (fun y hy h0 => hlo _ (by have := (D.fa y hy h0).2.2.2; omega)), slKeepN D.body hk (fun y hy h0 => hlo _ (by have := (D.fb y hy h0).2.2.2; omega)), fun y hy h0 => Nat.lt_of_lt_of_le (D.old y hy h0) hk.size, ?_⟩
  have hb6 := b1.trans (HK6.out.mono (by have := SZ1.out; have := HR.out; omega))
  rw [HR.out]
  exact hb6.trans (hk.below (by simp) (by have := hb6.size; have := HR.out; omega))
end Go.Proofs.Ytdfenlagokndkaa.sg
