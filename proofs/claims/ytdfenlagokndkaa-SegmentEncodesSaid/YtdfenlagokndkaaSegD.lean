/-
  Package segment: the looks of Decode, of what was encoded.
-/
import Derived.Test.YtdfenlagokndkaaSegE
import Derived.Test.YtdfenlagokndkaaOctS
import Derived.Deep.RegionHeld3
namespace Go.Proofs.Ytdfenlagokndkaa.sg
open Go.RowKit aid mem oc op sm
attribute [local go_sem ↓] Go.wp_at_zero Go.wp_at_succ
set_option linter.unusedVariables false

theorem slKeepN {k : IntKind} {w w' : World} {a : Option Addr} {n cap : Nat} {l : List Int} (h : SlA k w a n cap l) {S : List Nat} (hk : Kept S w w') (hd : ∀ x, a = some x → 0 < n → x.block ∉ S) : SlA k w' a n cap l :=
  ⟨h.len, h.le, h.most, h.nil, fun h0 => by
    obtain ⟨b, off, rfl, hc⟩ := h.cells h0
    exact ⟨b, off, rfl, fun i hi => hk.cell (p := ⟨b, off + i, none⟩) (hd ⟨b, off, none⟩ rfl (by omega)) (hc i hi)⟩⟩

/-- a reader at p, a segment at Q, a size behind N: their places are told in N, N + 1, N + 3 -/
structure DS (w0 : World) (N p Q : Nat) (S : List Nat) (Z : Int) (l : List Int) (s : Seg) (a : Option Addr) (n cap : Nat) (b : Option Addr) (m bc : Nat) (w : World) : Prop where
  cr : w.cell? ⟨N, 0, none⟩ = some (.pointer (some ⟨p, 0, none⟩))
  cq : w.cell? ⟨N + 1, 0, none⟩ = some (.pointer (some ⟨Q, 0, none⟩))
  cz : w.cell? ⟨N + 3, 0, none⟩ = some (.int .i64 Z)
  fz : w.frozen? ⟨N + 3, 0, none⟩ = false
  rd : Rd w p S l
  seg : SegAt w Q s a n cap b m bc
  bl : BlA w a n cap s.o.bl
  body : SlA .u8 w b m bc s.body
  old : Old w b bc
  fa : ∀ x, a = some x → 0 < n → x.block ≠ p ∧ x.block ≠ Q ∧ x.block ≠ N + 3 ∧ w0.heap.size ≤ x.block
  fb : ∀ x, b = some x → 0 < m → x.block ≠ p ∧ x.block ≠ Q ∧ x.block ≠ N + 3 ∧ w0.heap.size ≤ x.block
  ne : p ≠ N ∧ p ≠ N + 1 ∧ p ≠ N + 3 ∧ Q ≠ N ∧ Q ≠ N + 1 ∧ Q ≠ N + 3 ∧ p ≠ Q
  neS : Q ∉ S ∧ N + 3 ∉ S
  lo : w0.heap.size ≤ p ∧ w0.heap.size ≤ Q ∧ w0.heap.size ≤ N
  below : Below w0.heap.size w0 w
section
variable {w0 : World} {N p Q : Nat} {S : List Nat} {Z : Int} {l : List Int} {s : Seg} {a : Option Addr} {n cap : Nat} {b : Option Addr} {m bc : Nat} {w : World}
theorem DS.read (h : DS w0 N p Q S Z l s a n cap b m bc w) {l' : List Int} {w' : World} (hr : Rd w' p S l') (hk : Kept [p] w w') : DS w0 N p Q S Z l' s a n cap b m bc w' := by
  obtain ⟨n1, n2, n3, n4, n5, n6, n7⟩ := h.ne
  refine ⟨hk.cell (p := ⟨N, 0, none⟩) (by simpa using n1.symm) h.cr, hk.cell (p := ⟨N + 1, 0, none⟩) (by simpa using n2.symm) h.cq, hk.cell (p := ⟨N + 3, 0, none⟩) (by simpa using n3.symm) h.cz, (hk.frozen (p := ⟨N + 3, 0, none⟩) (by simpa using n3.symm) h.cz).trans h.fz, hr,
    h.seg.keep hk (by simpa using n7.symm), h.bl.keep hk (fun x hx h0 => by simpa using (h.fa x hx h0).1), slKeepN h.body hk (fun x hx h0 => by simpa using (h.fb x hx h0).1), fun x hx h0 => Nat.lt_of_lt_of_le (h.old x hx h0) hk.size, h.fa, h.fb, h.ne, h.neS, h.lo,
    h.below.trans (hk.below (by simpa using h.lo.1) h.below.size)⟩
theorem DS.later (h : DS w0 N p Q S Z l s a n cap b m bc w) {w' : World} (hb : Below w.heap.size w w') : DS w0 N p Q S Z l s a n cap b m bc w' := by
  have hk := Kept.of_below hb (Nat.le_refl _) []
  exact ⟨hk.cell (p := ⟨N, 0, none⟩) (by simp) h.cr, hk.cell (p := ⟨N + 1, 0, none⟩) (by simp) h.cq, hk.cell (p := ⟨N + 3, 0, none⟩) (by simp) h.cz, (hk.frozen (p := ⟨N + 3, 0, none⟩) (by simp) h.cz).trans h.fz, h.rd.keep hk (by simp) (by simp), h.seg.later hb, h.bl.later hb, h.body.later hb, h.old.later hb, h.fa, h.fb, h.ne, h.neS, h.lo, h.below.trans (hb.mono h.below.size)⟩
theorem DS.setZ (h : DS w0 N p Q S Z l s a n cap b m bc w) (z : Int) : DS w0 N p Q S z l s a n cap b m bc (w.setCell ⟨N + 3, 0, none⟩ (.int .i64 z)) := by
  obtain ⟨n1, n2, n3, n4, n5, n6, n7⟩ := h.ne
  have hk := (Kept.refl [N + 3] w).setCell (p := ⟨N + 3, 0, none⟩) (.inl (by simp)) (.int .i64 z)
  exact ⟨hk.cell (p := ⟨N, 0, none⟩) (by simp) h.cr, hk.cell (p := ⟨N + 1, 0, none⟩) (by simp) h.cq, set_same h.cz, by simpa using h.fz, h.rd.keep hk (by simpa using n3) (fun x hx e => h.neS.2 (by simp at e; rwa [e] at hx)),
    h.seg.keep hk (by simpa using n6), h.bl.keep hk (fun x hx h0 => by simpa using (h.fa x hx h0).2.2.1), slKeepN h.body hk (fun x hx h0 => by simpa using (h.fb x hx h0).2.2.1), fun x hx h0 => by simpa using h.old x hx h0, h.fa, h.fb, h.ne, h.neS, h.lo,
    h.below.trans (hk.below (by have := h.lo; simp; omega) h.below.size)⟩
/-- the segment is written to -/
theorem DS.setQ (h : DS w0 N p Q S Z l s a n cap b m bc w) {w' : World} (hk : Kept [Q] w w') {s' : Seg} {a' : Option Addr} {n' cap' : Nat} {b' : Option Addr} {m' bc' : Nat} (hs : SegAt w' Q s' a' n' cap' b' m' bc') (hl : BlA w a' n' cap' s'.o.bl) (hb : SlA .u8 w b' m' bc' s'.body) (ho : Old w b' bc')
    (ha : ∀ x, a' = some x → 0 < n' → x.block ≠ p ∧ x.block ≠ Q ∧ x.block ≠ N + 3 ∧ w0.heap.size ≤ x.block) (hbb : ∀ x, b' = some x → 0 < m' → x.block ≠ p ∧ x.block ≠ Q ∧ x.block ≠ N + 3 ∧ w0.heap.size ≤ x.block) : DS w0 N p Q S Z l s' a' n' cap' b' m' bc' w' := by
  obtain ⟨n1, n2, n3, n4, n5, n6, n7⟩ := h.ne
  exact ⟨hk.cell (p := ⟨N, 0, none⟩) (by simpa using n4.symm) h.cr, hk.cell (p := ⟨N + 1, 0, none⟩) (by simpa using n5.symm) h.cq, hk.cell (p := ⟨N + 3, 0, none⟩) (by simpa using n6.symm) h.cz, (hk.frozen (p := ⟨N + 3, 0, none⟩) (by simpa using n6.symm) h.cz).trans h.fz, h.rd.keep hk (by simpa using n7) (fun x hx e => h.neS.1 (by simp at e; rwa [e] at hx)),
    hs, hl.keep hk (fun x hx h0 => by simpa using (ha x hx h0).2.1), slKeepN hb hk (fun x hx h0 => by simpa using (hbb x hx h0).2.1), fun x hx h0 => Nat.lt_of_lt_of_le (ho x hx h0) hk.size, ha, hbb, h.ne, h.neS, h.lo,
    h.below.trans (hk.below (by simpa using h.lo.2.1) h.below.size)⟩
theorem DS.setKind (h : DS w0 N p Q S Z l s a n cap b m bc w) (k : Int) : DS w0 N p Q S Z l { s with kind := k } a n cap b m bc (w.setCell ⟨Q, 0, none⟩ (.int .i64 k)) :=
  h.setQ ((Kept.refl [Q] w).setCell (.inl (by simp)) _) ((heap_setCell_same _ Q 0 _ _ _ h.seg).trans rfl) h.bl h.body h.old h.fa h.fb
theorem DS.setNum (h : DS w0 N p Q S Z l s a n cap b m bc w) (k : Int) : DS w0 N p Q S Z l { s with num := k } a n cap b m bc (w.setCell ⟨Q, 1, none⟩ (.int .u32 k)) :=
  h.setQ ((Kept.refl [Q] w).setCell (.inl (by simp)) _) ((heap_setCell_same _ Q 1 _ _ _ h.seg).trans rfl) h.bl h.body h.old h.fa h.fb
theorem DS.setBody (h : DS w0 N p Q S Z l s a n cap b m bc w) (b' : Option Addr) (m' bc' : Nat) (y : List Int) (hb : SlA .u8 w b' m' bc' y) (ho : Old w b' bc') (hbb : ∀ x, b' = some x → 0 < m' → x.block ≠ p ∧ x.block ≠ Q ∧ x.block ≠ N + 3 ∧ w0.heap.size ≤ x.block) : DS w0 N p Q S Z l { s with body := y } a n cap b' m' bc' (w.setCell ⟨Q, 10, none⟩ (.slice b' m' bc')) :=
  h.setQ ((Kept.refl [Q] w).setCell (.inl (by simp)) _) ((heap_setCell_same _ Q 10 _ _ _ h.seg).trans rfl) h.bl hb ho h.fa hbb
theorem DS.setOpt (h : DS w0 N p Q S Z l s a n cap b m bc w) (o : Opt) (a' : Option Addr) (n' cap' : Nat) (hl : BlA w a' n' cap' o.bl) (ha : ∀ x, a' = some x → 0 < n' → x.block ≠ p ∧ x.block ≠ Q ∧ x.block ≠ N + 3 ∧ w0.heap.size ≤ x.block) : DS w0 N p Q S Z l { s with o := o } a' n' cap' b m bc ((((((((w.setCell ⟨Q, 2, none⟩ (.int .i64 o.mss)).setCell ⟨Q, 3, none⟩ (.bool o.permit)).setCell ⟨Q, 4, none⟩ (.bool o.ts)).setCell ⟨Q, 5, none⟩ (.int .u32 o.val)).setCell ⟨Q, 6, none⟩ (.int .u32 o.ecr)).setCell ⟨Q, 7, none⟩ (.bool o.hs)).setCell ⟨Q, 8, none⟩ (.int .i64 o.scale)).setCell ⟨Q, 9, none⟩ (.slice a' n' cap')) :=
  by
  have h2 : SegAt (w.setCell ⟨Q, 2, none⟩ (.int .i64 o.mss)) Q { s with o := { s.o with mss := o.mss } } a n cap b m bc := (heap_setCell_same _ Q 2 _ _ _ h.seg).trans rfl
  have h3 : SegAt ((w.setCell ⟨Q, 2, none⟩ (.int .i64 o.mss)).setCell ⟨Q, 3, none⟩ (.bool o.permit)) Q { s with o := { s.o with mss := o.mss, permit := o.permit } } a n cap b m bc := (heap_setCell_same _ Q 3 _ _ _ h2).trans rfl
  have h4 : SegAt (((w.setCell ⟨Q, 2, none⟩ (.int .i64 o.mss)).setCell ⟨Q, 3, none⟩ (.bool o.permit)).setCell ⟨Q, 4, none⟩ (.bool o.ts)) Q { s with o := { s.o with mss := o.mss, permit := o.permit, ts := o.ts } } a n cap b m bc := (heap_setCell_same _ Q 4 _ _ _ h3).trans rfl
  have h5 : SegAt ((((w.setCell ⟨Q, 2, none⟩ (.int .i64 o.mss)).setCell ⟨Q, 3, none⟩ (.bool o.permit)).setCell ⟨Q, 4, none⟩ (.bool o.ts)).setCell ⟨Q, 5, none⟩ (.int .u32 o.val)) Q { s with o := { s.o with mss := o.mss, permit := o.permit, ts := o.ts, val := o.val } } a n cap b m bc := (heap_setCell_same _ Q 5 _ _ _ h4).trans rfl
  have h6 : SegAt (((((w.setCell ⟨Q, 2, none⟩ (.int .i64 o.mss)).setCell ⟨Q, 3, none⟩ (.bool o.permit)).setCell ⟨Q, 4, none⟩ (.bool o.ts)).setCell ⟨Q, 5, none⟩ (.int .u32 o.val)).setCell ⟨Q, 6, none⟩ (.int .u32 o.ecr)) Q { s with o := { s.o with mss := o.mss, permit := o.permit, ts := o.ts, val := o.val, ecr := o.ecr } } a n cap b m bc := (heap_setCell_same _ Q 6 _ _ _ h5).trans rfl
  have h7 : SegAt ((((((w.setCell ⟨Q, 2, none⟩ (.int .i64 o.mss)).setCell ⟨Q, 3, none⟩ (.bool o.permit)).setCell ⟨Q, 4, none⟩ (.bool o.ts)).setCell ⟨Q, 5, none⟩ (.int .u32 o.val)).setCell ⟨Q, 6, none⟩ (.int .u32 o.ecr)).setCell ⟨Q, 7, none⟩ (.bool o.hs)) Q { s with o := { s.o with mss := o.mss, permit := o.permit, ts := o.ts, val := o.val, ecr := o.ecr, hs := o.hs } } a n cap b m bc := (heap_setCell_same _ Q 7 _ _ _ h6).trans rfl
  have h8 : SegAt (((((((w.setCell ⟨Q, 2, none⟩ (.int .i64 o.mss)).setCell ⟨Q, 3, none⟩ (.bool o.permit)).setCell ⟨Q, 4, none⟩ (.bool o.ts)).setCell ⟨Q, 5, none⟩ (.int .u32 o.val)).setCell ⟨Q, 6, none⟩ (.int .u32 o.ecr)).setCell ⟨Q, 7, none⟩ (.bool o.hs)).setCell ⟨Q, 8, none⟩ (.int .i64 o.scale)) Q { s with o := { s.o with mss := o.mss, permit := o.permit, ts := o.ts, val := o.val, ecr := o.ecr, hs := o.hs, scale := o.scale } } a n cap b m bc := (heap_setCell_same _ Q 8 _ _ _ h7).trans rfl
  have h9 : SegAt ((((((((w.setCell ⟨Q, 2, none⟩ (.int .i64 o.mss)).setCell ⟨Q, 3, none⟩ (.bool o.permit)).setCell ⟨Q, 4, none⟩ (.bool o.ts)).setCell ⟨Q, 5, none⟩ (.int .u32 o.val)).setCell ⟨Q, 6, none⟩ (.int .u32 o.ecr)).setCell ⟨Q, 7, none⟩ (.bool o.hs)).setCell ⟨Q, 8, none⟩ (.int .i64 o.scale)).setCell ⟨Q, 9, none⟩ (.slice a' n' cap')) Q { s with o := { s.o with mss := o.mss, permit := o.permit, ts := o.ts, val := o.val, ecr := o.ecr, hs := o.hs, scale := o.scale } } a' n' cap' b m bc := (heap_setCell_same _ Q 9 _ _ _ h8).trans rfl
  exact h.setQ (((((((((Kept.refl [Q] w).setCell (p := ⟨Q, 2, none⟩) (.inl (by simp)) (.int .i64 o.mss)).setCell (p := ⟨Q, 3, none⟩) (.inl (by simp)) (.bool o.permit)).setCell (p := ⟨Q, 4, none⟩) (.inl (by simp)) (.bool o.ts)).setCell (p := ⟨Q, 5, none⟩) (.inl (by simp)) (.int .u32 o.val)).setCell (p := ⟨Q, 6, none⟩) (.inl (by simp)) (.int .u32 o.ecr)).setCell (p := ⟨Q, 7, none⟩) (.inl (by simp)) (.bool o.hs)).setCell (p := ⟨Q, 8, none⟩) (.inl (by simp)) (.int .i64 o.scale)).setCell (p := ⟨Q, 9, none⟩) (.inl (by simp)) (.slice a' n' cap')) h9 hl h.body h.old ha h.fb

set_option maxRecDepth 100000 in
set_option maxHeartbeats 1600000 in
theorem dlook1 (k : Int) (h : DS w0 N p Q S Z (k :: l) s a n cap b m bc w) (hb : Bd (k :: l)) (hk : knownB k = true) :
    Calls Try.prog 85 #[.pointer (some ⟨N, 0, none⟩), .pointer (some ⟨N + 1, 0, none⟩)] w fun e w' => e = .returned (.int .i64 0) ∧ DS w0 N p Q S Z l { s with kind := k } a n cap b m bc w' := by
  have hkk := hb k (by simp)
  have HR := Lib.hid (rone_cons p S k l w h.rd hb)
  have HK := Lib.hid hk
  have c0 := h.cr
  have n1 := h.ne.2.2.2.2.1
  have n2 := h.ne.2.2.2.2.1.symm
  clear hb hk
  go_enter Try.func85, Try.ntmps85
  go_wp2_with fail
  refine HR.out.mono ?_
  rintro e w1 ⟨rfl, hr1, hk1⟩
  have D1 := h.read hr1 hk1
  clear h hr1 hk1 c0
  have c1 := D1.cq
  have q0 := D1.seg.cs.c0
  have q1 := D1.seg.fz 0
  have D2 := D1.setKind k
  clear D1
  go_wp2_with fail
  refine (known_k _ _).mono ?_
  rintro e w2 ⟨rfl, rfl⟩
  rw [HK.out]
  go_wp2_with fail
  refine (when_any _ _ _).mono ?_
  rintro e w2 ⟨rfl, rfl⟩
  go_wp2
  go_ret
  exact ⟨rfl, D2⟩

set_option maxRecDepth 100000 in
set_option maxHeartbeats 3200000 in
theorem dlook2 (u c0 c1 x0 x1 x2 x3 : Int) (h : DS w0 N p Q S Z (u :: c0 :: c1 :: x0 :: x1 :: x2 :: x3 :: l) s a n cap b m bc w) (hb : Bd (u :: c0 :: c1 :: x0 :: x1 :: x2 :: x3 :: l)) (hu : u * 4 ≤ 40) :
    Calls Try.prog 87 #[.pointer (some ⟨N, 0, none⟩), .pointer (some ⟨N + 3, 0, none⟩), .pointer (some ⟨N + 1, 0, none⟩)] w fun e w' => e = .returned (.int .i64 0) ∧ DS w0 N p Q S (u * 4) l { s with num := n4 x0 x1 x2 x3 } a n cap b m bc w' := by
  have huu := hb u (by simp)
  have HR := Lib.hid (rone_cons p S u _ w h.rd hb)
  have HB := Lib.hid hb
  have k0 := h.cr
  obtain ⟨n1, n2, n3, n4_, n5, n6, n7⟩ := h.ne
  have m1 := n1.symm; have m2 := n2.symm; have m3 := n3.symm; have m4 := n4_.symm; have m5 := n5.symm; have m6 := n6.symm; have m7 := n7.symm
  have HT := Lib.hid (fun w1 (hr : Rd w1 p S (c0 :: c1 :: x0 :: x1 :: x2 :: x3 :: l)) => rtwo_cons p S c0 c1 _ w1 hr (fun y hy => hb y (by simp [hy])))
  have HF := Lib.hid (fun w1 (hr : Rd w1 p S (x0 :: x1 :: x2 :: x3 :: l)) => rfour_cons p S x0 x1 x2 x3 _ w1 hr (fun y hy => hb y (by simp [hy])))
  generalize n4 x0 x1 x2 x3 = v at *
  clear hb
  go_enter Try.func87, Try.ntmps87
  go_wp2_with fail
  refine HR.out.mono ?_
  rintro e w1 ⟨rfl, hr1, hk1⟩
  have D1 := h.read hr1 hk1
  have D2 := D1.setZ (u * 4)
  have z0 := D1.cz
  have z1 := D1.fz
  have k1 := D1.cr
  clear h hr1 hk1 k0 D1
  go_wp2_with fail
  generalize w1.setCell ⟨N + 3, 0, none⟩ (.int .i64 (u * 4)) = W1 at *
  refine (HT.out _ D2.rd).mono ?_
  rintro e w2 ⟨rfl, hr2, hk2⟩
  have D3 := D2.read hr2 hk2
  clear D2 hr2 hk2 z0 z1 k1
  go_wp2_with fail
  have D4 := D3.later (Below.refl _ _).drew
  go_region_held3 (fun w' => w'.cell? ⟨N, 0, none⟩ = some (.pointer (some ⟨p, 0, none⟩)) ∧ w'.cell? ⟨N + 1, 0, none⟩ = some (.pointer (some ⟨Q, 0, none⟩))) (first | with_reducible exact ⟨D5.cr, D5.cq⟩ | with_reducible exact ⟨D4.cr, D4.cq⟩ | with_reducible exact ⟨D3.cr, D3.cq⟩ | with_reducible exact ⟨D6.cr, D6.cq⟩ | go_keep) (first
    | (go_at_call 89; (with_reducible refine (HF.out _ D4.rd).mono ?_); rintro e w3 ⟨rfl, hr3, hk3⟩; have D5 := D4.read hr3 hk3; have D6 := D5.setNum v; have q1 := D5.seg.cs.c1; have q2 := D5.seg.fz 1; clear D4 D3 hr3 hk3))
  all_goals
    clear q1 q2 D5
    have z0 := D6.cz
    go_wp2_with fail
    refine (when_any _ _ _).mono ?_
    rintro e w4 ⟨rfl, rfl⟩
    go_wp2
    go_ret
    exact ⟨rfl, D6⟩
end
end Go.Proofs.Ytdfenlagokndkaa.sg
